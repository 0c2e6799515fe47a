/-
  No cell of these rows narrows 'for every input' (looked for: loops, veiled, ifaces, maps, wideKeys, modest, calm, conditions, laid).
  DERIVED. THE GIVEN ROWS OF THIS SEAT. 4 by the template 'for every input the law returns true; each argument reads behind the call as it read before'; 0 by the template 'total and deterministic' (their statements: YtnnbpcookemilabTotals.lean).
  GIVEN WITH THE SEED: the statements are not yours to turn. If you find one false, say at which input.
  Laid BY PROGRAM, IN A SANDBOX (cutbox-rows.mjs): the forced cells as the released guide's own fill.sh prints them over the translation 00a92124b5c2d1b5… (all of the seat's roots in one cut). By AI agents, Wed Nov 11 2026. No macro, syntax, notation, axiom, sorry.
-/
import Derived.Test.YtnnbpcookemilabChecked
import GoSem.Claim
import GoSem.ClaimJoined
import GoSem.ClaimMapViews
import Derived.JoinedTies
import Derived.KernelRfl
namespace Go.Proofs.Ytnnbpcookemilab
/- THE CELL 'sum', in the pinned program and in every row, IS THE sha256 OF THE DUMP (.gsa) THAT YtnnbpcookemilabProg.lean LOADS. Nothing in Lean hashes anything: it is a label: what it is worth is what the hold of that sum in a sandbox is worth. -/
noncomputable def Try.pinned : Pinned := { name := "ytnnbpcookemilab", sum := "00a92124b5c2d1b5c0e1229be4e5ac50be7ad4c746901db52bae94501a61514b", checked := Try.checked }
namespace Rows
def none {H : Type} : Left H := { results := [], args := [] }

/-- 'laws.FnExactFarthestNext': WHATEVER THE INPUT: true; the input reads as it did. -/
def fnExactFarthestNextSpec : ChangeSpec := { name := "fnExactFarthestNext", fn := fun _ => fun
  | [d1, d2] => { results := [.lit (.bool true)], args := [d1, d2] }
  | _ => none }
def fnExactFarthestNextRow : OpenClaim := { program := "ytnnbpcookemilab", sum := "00a92124b5c2d1b5c0e1229be4e5ac50be7ad4c746901db52bae94501a61514b", func := "loop.example/g01350/laws.FnExactFarthestNext", spec := "fnExactFarthestNext", inPlace := ["internal/bytealg.IndexByteString", "internal/bytealg.IndexString"], unfollowed := true, recurses := true, named := ["internal/bytealg.MaxLen"], apart := false }
def FnExactFarthestNextSaid : Prop := fnExactFarthestNextRow.holds Try.pinned (OpenSpec.ofChange fnExactFarthestNextSpec)

/-- ITS FALSE NEIGHBOUR: 'it returns false'. Refute it at one input. -/
def fnExactFarthestNextWrong : ChangeSpec := { name := "fnExactFarthestNext", fn := fun _ => fun
  | [d1, d2] => { results := [.lit (.bool false)], args := [d1, d2] }
  | _ => none }
def FnExactFarthestNextWrongFalsely : Prop := fnExactFarthestNextRow.holds Try.pinned (OpenSpec.ofChange fnExactFarthestNextWrong)

/-- 'laws.FnExactKeysWithin': WHATEVER THE INPUT: true; the input reads as it did. -/
def fnExactKeysWithinSpec : ChangeSpec := { name := "fnExactKeysWithin", fn := fun _ => fun
  | [d1, d2, d3] => { results := [.lit (.bool true)], args := [d1, d2, d3] }
  | _ => none }
def fnExactKeysWithinRow : OpenClaim := { program := "ytnnbpcookemilab", sum := "00a92124b5c2d1b5c0e1229be4e5ac50be7ad4c746901db52bae94501a61514b", func := "loop.example/g01350/laws.FnExactKeysWithin", spec := "fnExactKeysWithin", inPlace := ["internal/bytealg.IndexByteString", "internal/bytealg.IndexString", "internal/abi.NoEscape"], named := ["internal/bytealg.MaxLen"], apart := false }
def FnExactKeysWithinSaid : Prop := fnExactKeysWithinRow.holds Try.pinned (OpenSpec.ofChange fnExactKeysWithinSpec)

/-- ITS FALSE NEIGHBOUR: 'it returns false'. Refute it at one input. -/
def fnExactKeysWithinWrong : ChangeSpec := { name := "fnExactKeysWithin", fn := fun _ => fun
  | [d1, d2, d3] => { results := [.lit (.bool false)], args := [d1, d2, d3] }
  | _ => none }
def FnExactKeysWithinWrongFalsely : Prop := fnExactKeysWithinRow.holds Try.pinned (OpenSpec.ofChange fnExactKeysWithinWrong)

/-- 'laws.FnExactMirrorKeys': WHATEVER THE INPUT: true; the input reads as it did. -/
def fnExactMirrorKeysSpec : ChangeSpec := { name := "fnExactMirrorKeys", fn := fun _ => fun
  | [d] => { results := [.lit (.bool true)], args := [d] }
  | _ => none }
def fnExactMirrorKeysRow : OpenClaim := { program := "ytnnbpcookemilab", sum := "00a92124b5c2d1b5c0e1229be4e5ac50be7ad4c746901db52bae94501a61514b", func := "loop.example/g01350/laws.FnExactMirrorKeys", spec := "fnExactMirrorKeys", inPlace := ["internal/bytealg.IndexByteString", "internal/bytealg.IndexString", "internal/abi.NoEscape"], unfollowed := true, recurses := true, named := ["internal/bytealg.MaxLen"], apart := false }
def FnExactMirrorKeysSaid : Prop := fnExactMirrorKeysRow.holds Try.pinned (OpenSpec.ofChange fnExactMirrorKeysSpec)

/-- ITS FALSE NEIGHBOUR: 'it returns false'. Refute it at one input. -/
def fnExactMirrorKeysWrong : ChangeSpec := { name := "fnExactMirrorKeys", fn := fun _ => fun
  | [d] => { results := [.lit (.bool false)], args := [d] }
  | _ => none }
def FnExactMirrorKeysWrongFalsely : Prop := fnExactMirrorKeysRow.holds Try.pinned (OpenSpec.ofChange fnExactMirrorKeysWrong)

/-- 'laws.FnExactTurnKeys': WHATEVER THE INPUT: true; the input reads as it did. -/
def fnExactTurnKeysSpec : ChangeSpec := { name := "fnExactTurnKeys", fn := fun _ => fun
  | [d] => { results := [.lit (.bool true)], args := [d] }
  | _ => none }
def fnExactTurnKeysRow : OpenClaim := { program := "ytnnbpcookemilab", sum := "00a92124b5c2d1b5c0e1229be4e5ac50be7ad4c746901db52bae94501a61514b", func := "loop.example/g01350/laws.FnExactTurnKeys", spec := "fnExactTurnKeys", inPlace := ["internal/bytealg.IndexByteString", "internal/bytealg.IndexString", "internal/abi.NoEscape"], unfollowed := true, recurses := true, named := ["internal/bytealg.MaxLen"], apart := false }
def FnExactTurnKeysSaid : Prop := fnExactTurnKeysRow.holds Try.pinned (OpenSpec.ofChange fnExactTurnKeysSpec)

/-- ITS FALSE NEIGHBOUR: 'it returns false'. Refute it at one input. -/
def fnExactTurnKeysWrong : ChangeSpec := { name := "fnExactTurnKeys", fn := fun _ => fun
  | [d] => { results := [.lit (.bool false)], args := [d] }
  | _ => none }
def FnExactTurnKeysWrongFalsely : Prop := fnExactTurnKeysRow.holds Try.pinned (OpenSpec.ofChange fnExactTurnKeysWrong)

/- THE SECOND FORM. 'bulk': how many values and letters a reading holds, each counted each time it is reached (what is shared counts as often as it is met; a slice's spare places count too). A statement '..UptoSaid' is the law's where the arguments, and the package variables that the reading takes, are together of bulk at most 1048576: NARROWER than '..Said'. Prove '..Said' where nothing that the law and all that it calls make is longer than what came in: it says more and counts as full. Else prove '..UptoSaid'. A law counts once. -/
mutual
def uptoBulk {H : Type} : DataW H → Nat
  | .lit (.string bytes) => bytes.length + 1
  | .lit _ => 1
  | .nil => 1
  | .ptr d => uptoBulk d + 1
  | .slice elems spare => uptoBulkAll elems + uptoBulkAll spare + 1
  | .agg parts => uptoBulkAll parts + 1
  | .iface _ d => uptoBulk d + 1
  | .map entries => uptoBulkEntries entries + 1
  | .held _ => 1
def uptoBulkAll {H : Type} : List (DataW H) → Nat
  | [] => 0
  | d :: r => uptoBulk d + uptoBulkAll r
def uptoBulkEntries {H : Type} : List (Lit × DataW H) → Nat
  | [] => 0
  | x :: r => uptoBulkEntry x + uptoBulkEntries r
def uptoBulkEntry {H : Type} : Lit × DataW H → Nat
  | (.string bytes, d) => bytes.length + uptoBulk d + 1
  | (_, d) => uptoBulk d + 1
 end
def uptoSmall : (H : Type) → List (DataW H) → Bool := fun _ ds => decide (uptoBulkAll ds ≤ 1048576)
def OpenSpec.upto (s : _root_.Go.ChangeSpec) : _root_.Go.OpenSpec := { _root_.Go.OpenSpec.ofChange s with cond := some uptoSmall }

/-- 'laws.FnExactFarthestNext', WHERE WHAT IT READS IS OF BULK AT MOST 1048576: true; the input reads as it did. -/
def fnExactFarthestNextUptoRow : OpenClaim := { program := "ytnnbpcookemilab", sum := "00a92124b5c2d1b5c0e1229be4e5ac50be7ad4c746901db52bae94501a61514b", func := "loop.example/g01350/laws.FnExactFarthestNext", spec := "fnExactFarthestNext", inPlace := ["internal/bytealg.IndexByteString", "internal/bytealg.IndexString"], unfollowed := true, recurses := true, named := ["internal/bytealg.MaxLen"], apart := false, narrowed := true }
def FnExactFarthestNextUptoSaid : Prop := fnExactFarthestNextUptoRow.holds Try.pinned (OpenSpec.upto fnExactFarthestNextSpec)

/-- 'laws.FnExactKeysWithin', WHERE WHAT IT READS IS OF BULK AT MOST 1048576: true; the input reads as it did. -/
def fnExactKeysWithinUptoRow : OpenClaim := { program := "ytnnbpcookemilab", sum := "00a92124b5c2d1b5c0e1229be4e5ac50be7ad4c746901db52bae94501a61514b", func := "loop.example/g01350/laws.FnExactKeysWithin", spec := "fnExactKeysWithin", inPlace := ["internal/bytealg.IndexByteString", "internal/bytealg.IndexString", "internal/abi.NoEscape"], named := ["internal/bytealg.MaxLen"], apart := false, narrowed := true }
def FnExactKeysWithinUptoSaid : Prop := fnExactKeysWithinUptoRow.holds Try.pinned (OpenSpec.upto fnExactKeysWithinSpec)

/-- 'laws.FnExactMirrorKeys', WHERE WHAT IT READS IS OF BULK AT MOST 1048576: true; the input reads as it did. -/
def fnExactMirrorKeysUptoRow : OpenClaim := { program := "ytnnbpcookemilab", sum := "00a92124b5c2d1b5c0e1229be4e5ac50be7ad4c746901db52bae94501a61514b", func := "loop.example/g01350/laws.FnExactMirrorKeys", spec := "fnExactMirrorKeys", inPlace := ["internal/bytealg.IndexByteString", "internal/bytealg.IndexString", "internal/abi.NoEscape"], unfollowed := true, recurses := true, named := ["internal/bytealg.MaxLen"], apart := false, narrowed := true }
def FnExactMirrorKeysUptoSaid : Prop := fnExactMirrorKeysUptoRow.holds Try.pinned (OpenSpec.upto fnExactMirrorKeysSpec)

/-- 'laws.FnExactTurnKeys', WHERE WHAT IT READS IS OF BULK AT MOST 1048576: true; the input reads as it did. -/
def fnExactTurnKeysUptoRow : OpenClaim := { program := "ytnnbpcookemilab", sum := "00a92124b5c2d1b5c0e1229be4e5ac50be7ad4c746901db52bae94501a61514b", func := "loop.example/g01350/laws.FnExactTurnKeys", spec := "fnExactTurnKeys", inPlace := ["internal/bytealg.IndexByteString", "internal/bytealg.IndexString", "internal/abi.NoEscape"], unfollowed := true, recurses := true, named := ["internal/bytealg.MaxLen"], apart := false, narrowed := true }
def FnExactTurnKeysUptoSaid : Prop := fnExactTurnKeysUptoRow.holds Try.pinned (OpenSpec.upto fnExactTurnKeysSpec)

end Rows
end Go.Proofs.Ytnnbpcookemilab
