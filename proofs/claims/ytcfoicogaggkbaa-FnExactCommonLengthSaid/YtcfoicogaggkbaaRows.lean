/-
  No cell of these rows narrows 'for every input' (looked for: loops, veiled, ifaces, maps, wideKeys, modest, calm, conditions, laid).
  DERIVED. THE GIVEN ROWS OF THIS SEAT. 11 by the template 'for every input the law returns true; each argument reads behind the call as it read before'; 0 by the template 'total and deterministic' (their statements: YtcfoicogaggkbaaTotals.lean).
  GIVEN WITH THE SEED: the statements are not yours to turn. If you find one false, say at which input.
  Laid BY PROGRAM, IN A SANDBOX (cutbox-rows.mjs): the forced cells as the released guide's own fill.sh prints them over the translation 942d2ab42f4a5870… (all of the seat's roots in one cut). By AI agents, Wed Nov 11 2026. No macro, syntax, notation, axiom, sorry.
-/
import Derived.Test.YtcfoicogaggkbaaChecked
import GoSem.Claim
import GoSem.ClaimJoined
import GoSem.ClaimMapViews
import Derived.JoinedTies
import Derived.KernelRfl
namespace Go.Proofs.Ytcfoicogaggkbaa
/- THE CELL 'sum', in the pinned program and in every row, IS THE sha256 OF THE DUMP (.gsa) THAT YtcfoicogaggkbaaProg.lean LOADS. Nothing in Lean hashes anything: it is a label: what it is worth is what the hold of that sum in a sandbox is worth. -/
noncomputable def Try.pinned : Pinned := { name := "ytcfoicogaggkbaa", sum := "942d2ab42f4a58700788d0739edfb4527e5b52acba4df27a4576cb6141b02ce5", checked := Try.checked }
namespace Rows
def none {H : Type} : Left H := { results := [], args := [] }

/-- 'laws.FnExactCanShow': WHATEVER THE INPUT: true; the input reads as it did. -/
def fnExactCanShowSpec : ChangeSpec := { name := "fnExactCanShow", fn := fun _ => fun
  | [d1, d2] => { results := [.lit (.bool true)], args := [d1, d2] }
  | _ => none }
def fnExactCanShowRow : OpenClaim := { program := "ytcfoicogaggkbaa", sum := "942d2ab42f4a58700788d0739edfb4527e5b52acba4df27a4576cb6141b02ce5", func := "loop.example/g01350/laws.FnExactCanShow", spec := "fnExactCanShow", apart := false }
def FnExactCanShowSaid : Prop := fnExactCanShowRow.holds Try.pinned (OpenSpec.ofChange fnExactCanShowSpec)

/-- ITS FALSE NEIGHBOUR: 'it returns false'. Refute it at one input. -/
def fnExactCanShowWrong : ChangeSpec := { name := "fnExactCanShow", fn := fun _ => fun
  | [d1, d2] => { results := [.lit (.bool false)], args := [d1, d2] }
  | _ => none }
def FnExactCanShowWrongFalsely : Prop := fnExactCanShowRow.holds Try.pinned (OpenSpec.ofChange fnExactCanShowWrong)

/-- 'laws.FnExactDeadFor': WHATEVER THE INPUT: true; the input reads as it did. -/
def fnExactDeadForSpec : ChangeSpec := { name := "fnExactDeadFor", fn := fun _ => fun
  | [d1, d2] => { results := [.lit (.bool true)], args := [d1, d2] }
  | _ => none }
def fnExactDeadForRow : OpenClaim := { program := "ytcfoicogaggkbaa", sum := "942d2ab42f4a58700788d0739edfb4527e5b52acba4df27a4576cb6141b02ce5", func := "loop.example/g01350/laws.FnExactDeadFor", spec := "fnExactDeadFor", apart := false }
def FnExactDeadForSaid : Prop := fnExactDeadForRow.holds Try.pinned (OpenSpec.ofChange fnExactDeadForSpec)

/-- ITS FALSE NEIGHBOUR: 'it returns false'. Refute it at one input. -/
def fnExactDeadForWrong : ChangeSpec := { name := "fnExactDeadFor", fn := fun _ => fun
  | [d1, d2] => { results := [.lit (.bool false)], args := [d1, d2] }
  | _ => none }
def FnExactDeadForWrongFalsely : Prop := fnExactDeadForRow.holds Try.pinned (OpenSpec.ofChange fnExactDeadForWrong)

/-- 'laws.FnExactStuckFor': WHATEVER THE INPUT: true; the input reads as it did. -/
def fnExactStuckForSpec : ChangeSpec := { name := "fnExactStuckFor", fn := fun _ => fun
  | [d1, d2] => { results := [.lit (.bool true)], args := [d1, d2] }
  | _ => none }
def fnExactStuckForRow : OpenClaim := { program := "ytcfoicogaggkbaa", sum := "942d2ab42f4a58700788d0739edfb4527e5b52acba4df27a4576cb6141b02ce5", func := "loop.example/g01350/laws.FnExactStuckFor", spec := "fnExactStuckFor", apart := false }
def FnExactStuckForSaid : Prop := fnExactStuckForRow.holds Try.pinned (OpenSpec.ofChange fnExactStuckForSpec)

/-- ITS FALSE NEIGHBOUR: 'it returns false'. Refute it at one input. -/
def fnExactStuckForWrong : ChangeSpec := { name := "fnExactStuckFor", fn := fun _ => fun
  | [d1, d2] => { results := [.lit (.bool false)], args := [d1, d2] }
  | _ => none }
def FnExactStuckForWrongFalsely : Prop := fnExactStuckForRow.holds Try.pinned (OpenSpec.ofChange fnExactStuckForWrong)

/-- 'laws.FnExactFirstTypos': WHATEVER THE INPUT: true; the input reads as it did. -/
def fnExactFirstTyposSpec : ChangeSpec := { name := "fnExactFirstTypos", fn := fun _ => fun
  | [d1, d2] => { results := [.lit (.bool true)], args := [d1, d2] }
  | _ => none }
def fnExactFirstTyposRow : OpenClaim := { program := "ytcfoicogaggkbaa", sum := "942d2ab42f4a58700788d0739edfb4527e5b52acba4df27a4576cb6141b02ce5", func := "loop.example/g01350/laws.FnExactFirstTypos", spec := "fnExactFirstTypos", apart := false }
def FnExactFirstTyposSaid : Prop := fnExactFirstTyposRow.holds Try.pinned (OpenSpec.ofChange fnExactFirstTyposSpec)

/-- ITS FALSE NEIGHBOUR: 'it returns false'. Refute it at one input. -/
def fnExactFirstTyposWrong : ChangeSpec := { name := "fnExactFirstTypos", fn := fun _ => fun
  | [d1, d2] => { results := [.lit (.bool false)], args := [d1, d2] }
  | _ => none }
def FnExactFirstTyposWrongFalsely : Prop := fnExactFirstTyposRow.holds Try.pinned (OpenSpec.ofChange fnExactFirstTyposWrong)

/-- 'laws.FnExactCommonLength': WHATEVER THE INPUT: true; the input reads as it did. -/
def fnExactCommonLengthSpec : ChangeSpec := { name := "fnExactCommonLength", fn := fun _ => fun
  | [d1, d2] => { results := [.lit (.bool true)], args := [d1, d2] }
  | _ => none }
def fnExactCommonLengthRow : OpenClaim := { program := "ytcfoicogaggkbaa", sum := "942d2ab42f4a58700788d0739edfb4527e5b52acba4df27a4576cb6141b02ce5", func := "loop.example/g01350/laws.FnExactCommonLength", spec := "fnExactCommonLength", apart := false }
def FnExactCommonLengthSaid : Prop := fnExactCommonLengthRow.holds Try.pinned (OpenSpec.ofChange fnExactCommonLengthSpec)

/-- ITS FALSE NEIGHBOUR: 'it returns false'. Refute it at one input. -/
def fnExactCommonLengthWrong : ChangeSpec := { name := "fnExactCommonLength", fn := fun _ => fun
  | [d1, d2] => { results := [.lit (.bool false)], args := [d1, d2] }
  | _ => none }
def FnExactCommonLengthWrongFalsely : Prop := fnExactCommonLengthRow.holds Try.pinned (OpenSpec.ofChange fnExactCommonLengthWrong)

/-- 'laws.FnExactFirstCommon': WHATEVER THE INPUT: true; the input reads as it did. -/
def fnExactFirstCommonSpec : ChangeSpec := { name := "fnExactFirstCommon", fn := fun _ => fun
  | [d1, d2] => { results := [.lit (.bool true)], args := [d1, d2] }
  | _ => none }
def fnExactFirstCommonRow : OpenClaim := { program := "ytcfoicogaggkbaa", sum := "942d2ab42f4a58700788d0739edfb4527e5b52acba4df27a4576cb6141b02ce5", func := "loop.example/g01350/laws.FnExactFirstCommon", spec := "fnExactFirstCommon", apart := false }
def FnExactFirstCommonSaid : Prop := fnExactFirstCommonRow.holds Try.pinned (OpenSpec.ofChange fnExactFirstCommonSpec)

/-- ITS FALSE NEIGHBOUR: 'it returns false'. Refute it at one input. -/
def fnExactFirstCommonWrong : ChangeSpec := { name := "fnExactFirstCommon", fn := fun _ => fun
  | [d1, d2] => { results := [.lit (.bool false)], args := [d1, d2] }
  | _ => none }
def FnExactFirstCommonWrongFalsely : Prop := fnExactFirstCommonRow.holds Try.pinned (OpenSpec.ofChange fnExactFirstCommonWrong)

/-- 'laws.FnExactLettersOf': WHATEVER THE INPUT: true; the input reads as it did. -/
def fnExactLettersOfSpec : ChangeSpec := { name := "fnExactLettersOf", fn := fun _ => fun
  | [d] => { results := [.lit (.bool true)], args := [d] }
  | _ => none }
def fnExactLettersOfRow : OpenClaim := { program := "ytcfoicogaggkbaa", sum := "942d2ab42f4a58700788d0739edfb4527e5b52acba4df27a4576cb6141b02ce5", func := "loop.example/g01350/laws.FnExactLettersOf", spec := "fnExactLettersOf", recurses := true, apart := false }
def FnExactLettersOfSaid : Prop := fnExactLettersOfRow.holds Try.pinned (OpenSpec.ofChange fnExactLettersOfSpec)

/-- ITS FALSE NEIGHBOUR: 'it returns false'. Refute it at one input. -/
def fnExactLettersOfWrong : ChangeSpec := { name := "fnExactLettersOf", fn := fun _ => fun
  | [d] => { results := [.lit (.bool false)], args := [d] }
  | _ => none }
def FnExactLettersOfWrongFalsely : Prop := fnExactLettersOfRow.holds Try.pinned (OpenSpec.ofChange fnExactLettersOfWrong)

/-- 'laws.FnExactCountShown': WHATEVER THE INPUT: true; the input reads as it did. -/
def fnExactCountShownSpec : ChangeSpec := { name := "fnExactCountShown", fn := fun _ => fun
  | [d] => { results := [.lit (.bool true)], args := [d] }
  | _ => none }
def fnExactCountShownRow : OpenClaim := { program := "ytcfoicogaggkbaa", sum := "942d2ab42f4a58700788d0739edfb4527e5b52acba4df27a4576cb6141b02ce5", func := "loop.example/g01350/laws.FnExactCountShown", spec := "fnExactCountShown", recurses := true, apart := false }
def FnExactCountShownSaid : Prop := fnExactCountShownRow.holds Try.pinned (OpenSpec.ofChange fnExactCountShownSpec)

/-- ITS FALSE NEIGHBOUR: 'it returns false'. Refute it at one input. -/
def fnExactCountShownWrong : ChangeSpec := { name := "fnExactCountShown", fn := fun _ => fun
  | [d] => { results := [.lit (.bool false)], args := [d] }
  | _ => none }
def FnExactCountShownWrongFalsely : Prop := fnExactCountShownRow.holds Try.pinned (OpenSpec.ofChange fnExactCountShownWrong)

/-- 'laws.FnExactMirrorKeys': WHATEVER THE INPUT: true; the input reads as it did. -/
def fnExactMirrorKeysSpec : ChangeSpec := { name := "fnExactMirrorKeys", fn := fun _ => fun
  | [d] => { results := [.lit (.bool true)], args := [d] }
  | _ => none }
def fnExactMirrorKeysRow : OpenClaim := { program := "ytcfoicogaggkbaa", sum := "942d2ab42f4a58700788d0739edfb4527e5b52acba4df27a4576cb6141b02ce5", func := "loop.example/g01350/laws.FnExactMirrorKeys", spec := "fnExactMirrorKeys", inPlace := ["internal/bytealg.IndexByteString", "internal/bytealg.IndexString", "internal/abi.NoEscape"], unfollowed := true, recurses := true, named := ["internal/bytealg.MaxLen"], apart := false }
def FnExactMirrorKeysSaid : Prop := fnExactMirrorKeysRow.holds Try.pinned (OpenSpec.ofChange fnExactMirrorKeysSpec)

/-- ITS FALSE NEIGHBOUR: 'it returns false'. Refute it at one input. -/
def fnExactMirrorKeysWrong : ChangeSpec := { name := "fnExactMirrorKeys", fn := fun _ => fun
  | [d] => { results := [.lit (.bool false)], args := [d] }
  | _ => none }
def FnExactMirrorKeysWrongFalsely : Prop := fnExactMirrorKeysRow.holds Try.pinned (OpenSpec.ofChange fnExactMirrorKeysWrong)

/-- 'laws.FnExactTurnKeys': WHATEVER THE INPUT: true; the input reads as it did. -/
def fnExactTurnKeysSpec : ChangeSpec := { name := "fnExactTurnKeys", fn := fun _ => fun
  | [d] => { results := [.lit (.bool true)], args := [d] }
  | _ => none }
def fnExactTurnKeysRow : OpenClaim := { program := "ytcfoicogaggkbaa", sum := "942d2ab42f4a58700788d0739edfb4527e5b52acba4df27a4576cb6141b02ce5", func := "loop.example/g01350/laws.FnExactTurnKeys", spec := "fnExactTurnKeys", inPlace := ["internal/bytealg.IndexByteString", "internal/bytealg.IndexString", "internal/abi.NoEscape"], unfollowed := true, recurses := true, named := ["internal/bytealg.MaxLen"], apart := false }
def FnExactTurnKeysSaid : Prop := fnExactTurnKeysRow.holds Try.pinned (OpenSpec.ofChange fnExactTurnKeysSpec)

/-- ITS FALSE NEIGHBOUR: 'it returns false'. Refute it at one input. -/
def fnExactTurnKeysWrong : ChangeSpec := { name := "fnExactTurnKeys", fn := fun _ => fun
  | [d] => { results := [.lit (.bool false)], args := [d] }
  | _ => none }
def FnExactTurnKeysWrongFalsely : Prop := fnExactTurnKeysRow.holds Try.pinned (OpenSpec.ofChange fnExactTurnKeysWrong)

/-- 'laws.FnExactMirrorWalk': WHATEVER THE INPUT: true; the input reads as it did. -/
def fnExactMirrorWalkSpec : ChangeSpec := { name := "fnExactMirrorWalk", fn := fun _ => fun
  | [d] => { results := [.lit (.bool true)], args := [d] }
  | _ => none }
def fnExactMirrorWalkRow : OpenClaim := { program := "ytcfoicogaggkbaa", sum := "942d2ab42f4a58700788d0739edfb4527e5b52acba4df27a4576cb6141b02ce5", func := "loop.example/g01350/laws.FnExactMirrorWalk", spec := "fnExactMirrorWalk", inPlace := ["internal/bytealg.IndexByteString", "internal/bytealg.IndexString", "internal/abi.NoEscape"], unfollowed := true, recurses := true, named := ["internal/bytealg.MaxLen"], apart := false }
def FnExactMirrorWalkSaid : Prop := fnExactMirrorWalkRow.holds Try.pinned (OpenSpec.ofChange fnExactMirrorWalkSpec)

/-- ITS FALSE NEIGHBOUR: 'it returns false'. Refute it at one input. -/
def fnExactMirrorWalkWrong : ChangeSpec := { name := "fnExactMirrorWalk", fn := fun _ => fun
  | [d] => { results := [.lit (.bool false)], args := [d] }
  | _ => none }
def FnExactMirrorWalkWrongFalsely : Prop := fnExactMirrorWalkRow.holds Try.pinned (OpenSpec.ofChange fnExactMirrorWalkWrong)

/- THE SECOND FORM. 'bulk': how many values and letters a reading holds, each counted each time it is reached (what is shared counts as often as it is met; a slice's spare places count too). A statement '..UptoSaid' is the law's where the arguments, and the package variables that the reading takes, are together of bulk at most 1048576: NARROWER than '..Said'. Prove '..Said' where nothing that the law and all that it calls make is longer than what came in: it says more and counts as full. Else prove '..UptoSaid'. A law counts once. -/
mutual
def uptoBulk {H : Type} : DataW H → Nat
  | .lit (.string bytes) => bytes.length + 1
  | .lit _ => 1
  | .nil => 1
  | .ptr d => uptoBulk d + 1
  | .slice elems spare => uptoBulkAll elems + uptoBulkAll spare + 1
  | .agg parts => uptoBulkAll parts + 1
  | .iface _ d => uptoBulk d + 1
  | .map entries => uptoBulkEntries entries + 1
  | .held _ => 1
def uptoBulkAll {H : Type} : List (DataW H) → Nat
  | [] => 0
  | d :: r => uptoBulk d + uptoBulkAll r
def uptoBulkEntries {H : Type} : List (Lit × DataW H) → Nat
  | [] => 0
  | x :: r => uptoBulkEntry x + uptoBulkEntries r
def uptoBulkEntry {H : Type} : Lit × DataW H → Nat
  | (.string bytes, d) => bytes.length + uptoBulk d + 1
  | (_, d) => uptoBulk d + 1
 end
def uptoSmall : (H : Type) → List (DataW H) → Bool := fun _ ds => decide (uptoBulkAll ds ≤ 1048576)
def OpenSpec.upto (s : _root_.Go.ChangeSpec) : _root_.Go.OpenSpec := { _root_.Go.OpenSpec.ofChange s with cond := some uptoSmall }

/-- 'laws.FnExactCanShow', WHERE WHAT IT READS IS OF BULK AT MOST 1048576: true; the input reads as it did. -/
def fnExactCanShowUptoRow : OpenClaim := { program := "ytcfoicogaggkbaa", sum := "942d2ab42f4a58700788d0739edfb4527e5b52acba4df27a4576cb6141b02ce5", func := "loop.example/g01350/laws.FnExactCanShow", spec := "fnExactCanShow", apart := false, narrowed := true }
def FnExactCanShowUptoSaid : Prop := fnExactCanShowUptoRow.holds Try.pinned (OpenSpec.upto fnExactCanShowSpec)

/-- 'laws.FnExactDeadFor', WHERE WHAT IT READS IS OF BULK AT MOST 1048576: true; the input reads as it did. -/
def fnExactDeadForUptoRow : OpenClaim := { program := "ytcfoicogaggkbaa", sum := "942d2ab42f4a58700788d0739edfb4527e5b52acba4df27a4576cb6141b02ce5", func := "loop.example/g01350/laws.FnExactDeadFor", spec := "fnExactDeadFor", apart := false, narrowed := true }
def FnExactDeadForUptoSaid : Prop := fnExactDeadForUptoRow.holds Try.pinned (OpenSpec.upto fnExactDeadForSpec)

/-- 'laws.FnExactStuckFor', WHERE WHAT IT READS IS OF BULK AT MOST 1048576: true; the input reads as it did. -/
def fnExactStuckForUptoRow : OpenClaim := { program := "ytcfoicogaggkbaa", sum := "942d2ab42f4a58700788d0739edfb4527e5b52acba4df27a4576cb6141b02ce5", func := "loop.example/g01350/laws.FnExactStuckFor", spec := "fnExactStuckFor", apart := false, narrowed := true }
def FnExactStuckForUptoSaid : Prop := fnExactStuckForUptoRow.holds Try.pinned (OpenSpec.upto fnExactStuckForSpec)

/-- 'laws.FnExactFirstTypos', WHERE WHAT IT READS IS OF BULK AT MOST 1048576: true; the input reads as it did. -/
def fnExactFirstTyposUptoRow : OpenClaim := { program := "ytcfoicogaggkbaa", sum := "942d2ab42f4a58700788d0739edfb4527e5b52acba4df27a4576cb6141b02ce5", func := "loop.example/g01350/laws.FnExactFirstTypos", spec := "fnExactFirstTypos", apart := false, narrowed := true }
def FnExactFirstTyposUptoSaid : Prop := fnExactFirstTyposUptoRow.holds Try.pinned (OpenSpec.upto fnExactFirstTyposSpec)

/-- 'laws.FnExactCommonLength', WHERE WHAT IT READS IS OF BULK AT MOST 1048576: true; the input reads as it did. -/
def fnExactCommonLengthUptoRow : OpenClaim := { program := "ytcfoicogaggkbaa", sum := "942d2ab42f4a58700788d0739edfb4527e5b52acba4df27a4576cb6141b02ce5", func := "loop.example/g01350/laws.FnExactCommonLength", spec := "fnExactCommonLength", apart := false, narrowed := true }
def FnExactCommonLengthUptoSaid : Prop := fnExactCommonLengthUptoRow.holds Try.pinned (OpenSpec.upto fnExactCommonLengthSpec)

/-- 'laws.FnExactFirstCommon', WHERE WHAT IT READS IS OF BULK AT MOST 1048576: true; the input reads as it did. -/
def fnExactFirstCommonUptoRow : OpenClaim := { program := "ytcfoicogaggkbaa", sum := "942d2ab42f4a58700788d0739edfb4527e5b52acba4df27a4576cb6141b02ce5", func := "loop.example/g01350/laws.FnExactFirstCommon", spec := "fnExactFirstCommon", apart := false, narrowed := true }
def FnExactFirstCommonUptoSaid : Prop := fnExactFirstCommonUptoRow.holds Try.pinned (OpenSpec.upto fnExactFirstCommonSpec)

/-- 'laws.FnExactLettersOf', WHERE WHAT IT READS IS OF BULK AT MOST 1048576: true; the input reads as it did. -/
def fnExactLettersOfUptoRow : OpenClaim := { program := "ytcfoicogaggkbaa", sum := "942d2ab42f4a58700788d0739edfb4527e5b52acba4df27a4576cb6141b02ce5", func := "loop.example/g01350/laws.FnExactLettersOf", spec := "fnExactLettersOf", recurses := true, apart := false, narrowed := true }
def FnExactLettersOfUptoSaid : Prop := fnExactLettersOfUptoRow.holds Try.pinned (OpenSpec.upto fnExactLettersOfSpec)

/-- 'laws.FnExactCountShown', WHERE WHAT IT READS IS OF BULK AT MOST 1048576: true; the input reads as it did. -/
def fnExactCountShownUptoRow : OpenClaim := { program := "ytcfoicogaggkbaa", sum := "942d2ab42f4a58700788d0739edfb4527e5b52acba4df27a4576cb6141b02ce5", func := "loop.example/g01350/laws.FnExactCountShown", spec := "fnExactCountShown", recurses := true, apart := false, narrowed := true }
def FnExactCountShownUptoSaid : Prop := fnExactCountShownUptoRow.holds Try.pinned (OpenSpec.upto fnExactCountShownSpec)

/-- 'laws.FnExactMirrorKeys', WHERE WHAT IT READS IS OF BULK AT MOST 1048576: true; the input reads as it did. -/
def fnExactMirrorKeysUptoRow : OpenClaim := { program := "ytcfoicogaggkbaa", sum := "942d2ab42f4a58700788d0739edfb4527e5b52acba4df27a4576cb6141b02ce5", func := "loop.example/g01350/laws.FnExactMirrorKeys", spec := "fnExactMirrorKeys", inPlace := ["internal/bytealg.IndexByteString", "internal/bytealg.IndexString", "internal/abi.NoEscape"], unfollowed := true, recurses := true, named := ["internal/bytealg.MaxLen"], apart := false, narrowed := true }
def FnExactMirrorKeysUptoSaid : Prop := fnExactMirrorKeysUptoRow.holds Try.pinned (OpenSpec.upto fnExactMirrorKeysSpec)

/-- 'laws.FnExactTurnKeys', WHERE WHAT IT READS IS OF BULK AT MOST 1048576: true; the input reads as it did. -/
def fnExactTurnKeysUptoRow : OpenClaim := { program := "ytcfoicogaggkbaa", sum := "942d2ab42f4a58700788d0739edfb4527e5b52acba4df27a4576cb6141b02ce5", func := "loop.example/g01350/laws.FnExactTurnKeys", spec := "fnExactTurnKeys", inPlace := ["internal/bytealg.IndexByteString", "internal/bytealg.IndexString", "internal/abi.NoEscape"], unfollowed := true, recurses := true, named := ["internal/bytealg.MaxLen"], apart := false, narrowed := true }
def FnExactTurnKeysUptoSaid : Prop := fnExactTurnKeysUptoRow.holds Try.pinned (OpenSpec.upto fnExactTurnKeysSpec)

/-- 'laws.FnExactMirrorWalk', WHERE WHAT IT READS IS OF BULK AT MOST 1048576: true; the input reads as it did. -/
def fnExactMirrorWalkUptoRow : OpenClaim := { program := "ytcfoicogaggkbaa", sum := "942d2ab42f4a58700788d0739edfb4527e5b52acba4df27a4576cb6141b02ce5", func := "loop.example/g01350/laws.FnExactMirrorWalk", spec := "fnExactMirrorWalk", inPlace := ["internal/bytealg.IndexByteString", "internal/bytealg.IndexString", "internal/abi.NoEscape"], unfollowed := true, recurses := true, named := ["internal/bytealg.MaxLen"], apart := false, narrowed := true }
def FnExactMirrorWalkUptoSaid : Prop := fnExactMirrorWalkUptoRow.holds Try.pinned (OpenSpec.upto fnExactMirrorWalkSpec)

end Rows
end Go.Proofs.Ytcfoicogaggkbaa
