/-
  No cell of these rows narrows 'for every input' (looked for: loops, veiled, ifaces, maps, wideKeys, modest, calm, conditions, laid).
  DERIVED. THE GIVEN ROWS OF THIS SEAT. 11 by the template 'for every input the law returns true; each argument reads behind the call as it read before'; 0 by the template 'total and deterministic' (their statements: YtnoidabmbckfkabTotals.lean).
  GIVEN WITH THE SEED: the statements are not yours to turn. If you find one false, say at which input.
  Laid BY PROGRAM, IN A SANDBOX (cutbox-rows.mjs): the forced cells as the released guide's own fill.sh prints them over the translation 37b450fdb7531f05… (all of the seat's roots in one cut). By AI agents, Wed Nov 11 2026. No macro, syntax, notation, axiom, sorry.
-/
import Derived.Test.YtnoidabmbckfkabChecked
import GoSem.Claim
import GoSem.ClaimJoined
import GoSem.ClaimMapViews
import Derived.JoinedTies
import Derived.KernelRfl
namespace Go.Proofs.Ytnoidabmbckfkab
/- THE CELL 'sum', in the pinned program and in every row, IS THE sha256 OF THE DUMP (.gsa) THAT YtnoidabmbckfkabProg.lean LOADS. Nothing in Lean hashes anything: it is a label: what it is worth is what the hold of that sum in a sandbox is worth. -/
noncomputable def Try.pinned : Pinned := { name := "ytnoidabmbckfkab", sum := "37b450fdb7531f0544ede4fcf85a6095aed8c127035b52f66c3788a1f87f523f", checked := Try.checked }
namespace Rows
def none {H : Type} : Left H := { results := [], args := [] }

/-- 'laws.FnExactFirstCommon': WHATEVER THE INPUT: true; the input reads as it did. -/
def fnExactFirstCommonSpec : ChangeSpec := { name := "fnExactFirstCommon", fn := fun _ => fun
  | [d1, d2] => { results := [.lit (.bool true)], args := [d1, d2] }
  | _ => none }
def fnExactFirstCommonRow : OpenClaim := { program := "ytnoidabmbckfkab", sum := "37b450fdb7531f0544ede4fcf85a6095aed8c127035b52f66c3788a1f87f523f", func := "loop.example/g01350/laws.FnExactFirstCommon", spec := "fnExactFirstCommon", plainKeys := false, apart := false }
def FnExactFirstCommonSaid : Prop := fnExactFirstCommonRow.holds Try.pinned (OpenSpec.ofChange fnExactFirstCommonSpec)

/-- ITS FALSE NEIGHBOUR: 'it returns false'. Refute it at one input. -/
def fnExactFirstCommonWrong : ChangeSpec := { name := "fnExactFirstCommon", fn := fun _ => fun
  | [d1, d2] => { results := [.lit (.bool false)], args := [d1, d2] }
  | _ => none }
def FnExactFirstCommonWrongFalsely : Prop := fnExactFirstCommonRow.holds Try.pinned (OpenSpec.ofChange fnExactFirstCommonWrong)

/-- 'laws.FnExactNearestWords': WHATEVER THE INPUT: true; the input reads as it did. -/
def fnExactNearestWordsSpec : ChangeSpec := { name := "fnExactNearestWords", fn := fun _ => fun
  | [d1, d2] => { results := [.lit (.bool true)], args := [d1, d2] }
  | _ => none }
def fnExactNearestWordsRow : OpenClaim := { program := "ytnoidabmbckfkab", sum := "37b450fdb7531f0544ede4fcf85a6095aed8c127035b52f66c3788a1f87f523f", func := "loop.example/g01350/laws.FnExactNearestWords", spec := "fnExactNearestWords", plainKeys := false, apart := false }
def FnExactNearestWordsSaid : Prop := fnExactNearestWordsRow.holds Try.pinned (OpenSpec.ofChange fnExactNearestWordsSpec)

/-- ITS FALSE NEIGHBOUR: 'it returns false'. Refute it at one input. -/
def fnExactNearestWordsWrong : ChangeSpec := { name := "fnExactNearestWords", fn := fun _ => fun
  | [d1, d2] => { results := [.lit (.bool false)], args := [d1, d2] }
  | _ => none }
def FnExactNearestWordsWrongFalsely : Prop := fnExactNearestWordsRow.holds Try.pinned (OpenSpec.ofChange fnExactNearestWordsWrong)

/-- 'laws.FnExactWordsWithin': WHATEVER THE INPUT: true; the input reads as it did. -/
def fnExactWordsWithinSpec : ChangeSpec := { name := "fnExactWordsWithin", fn := fun _ => fun
  | [d1, d2, d3] => { results := [.lit (.bool true)], args := [d1, d2, d3] }
  | _ => none }
def fnExactWordsWithinRow : OpenClaim := { program := "ytnoidabmbckfkab", sum := "37b450fdb7531f0544ede4fcf85a6095aed8c127035b52f66c3788a1f87f523f", func := "loop.example/g01350/laws.FnExactWordsWithin", spec := "fnExactWordsWithin", plainKeys := false, apart := false }
def FnExactWordsWithinSaid : Prop := fnExactWordsWithinRow.holds Try.pinned (OpenSpec.ofChange fnExactWordsWithinSpec)

/-- ITS FALSE NEIGHBOUR: 'it returns false'. Refute it at one input. -/
def fnExactWordsWithinWrong : ChangeSpec := { name := "fnExactWordsWithin", fn := fun _ => fun
  | [d1, d2, d3] => { results := [.lit (.bool false)], args := [d1, d2, d3] }
  | _ => none }
def FnExactWordsWithinWrongFalsely : Prop := fnExactWordsWithinRow.holds Try.pinned (OpenSpec.ofChange fnExactWordsWithinWrong)

/-- 'laws.FnExactSwapsOf': WHATEVER THE INPUT: true; the input reads as it did. -/
def fnExactSwapsOfSpec : ChangeSpec := { name := "fnExactSwapsOf", fn := fun _ => fun
  | [d] => { results := [.lit (.bool true)], args := [d] }
  | _ => none }
def fnExactSwapsOfRow : OpenClaim := { program := "ytnoidabmbckfkab", sum := "37b450fdb7531f0544ede4fcf85a6095aed8c127035b52f66c3788a1f87f523f", func := "loop.example/g01350/laws.FnExactSwapsOf", spec := "fnExactSwapsOf", recurses := true, plainKeys := false, apart := false }
def FnExactSwapsOfSaid : Prop := fnExactSwapsOfRow.holds Try.pinned (OpenSpec.ofChange fnExactSwapsOfSpec)

/-- ITS FALSE NEIGHBOUR: 'it returns false'. Refute it at one input. -/
def fnExactSwapsOfWrong : ChangeSpec := { name := "fnExactSwapsOf", fn := fun _ => fun
  | [d] => { results := [.lit (.bool false)], args := [d] }
  | _ => none }
def FnExactSwapsOfWrongFalsely : Prop := fnExactSwapsOfRow.holds Try.pinned (OpenSpec.ofChange fnExactSwapsOfWrong)

/-- 'laws.FnExactLettersOf': WHATEVER THE INPUT: true; the input reads as it did. -/
def fnExactLettersOfSpec : ChangeSpec := { name := "fnExactLettersOf", fn := fun _ => fun
  | [d] => { results := [.lit (.bool true)], args := [d] }
  | _ => none }
def fnExactLettersOfRow : OpenClaim := { program := "ytnoidabmbckfkab", sum := "37b450fdb7531f0544ede4fcf85a6095aed8c127035b52f66c3788a1f87f523f", func := "loop.example/g01350/laws.FnExactLettersOf", spec := "fnExactLettersOf", recurses := true, plainKeys := false, apart := false }
def FnExactLettersOfSaid : Prop := fnExactLettersOfRow.holds Try.pinned (OpenSpec.ofChange fnExactLettersOfSpec)

/-- ITS FALSE NEIGHBOUR: 'it returns false'. Refute it at one input. -/
def fnExactLettersOfWrong : ChangeSpec := { name := "fnExactLettersOf", fn := fun _ => fun
  | [d] => { results := [.lit (.bool false)], args := [d] }
  | _ => none }
def FnExactLettersOfWrongFalsely : Prop := fnExactLettersOfRow.holds Try.pinned (OpenSpec.ofChange fnExactLettersOfWrong)

/-- 'laws.FnExactCountShown': WHATEVER THE INPUT: true; the input reads as it did. -/
def fnExactCountShownSpec : ChangeSpec := { name := "fnExactCountShown", fn := fun _ => fun
  | [d] => { results := [.lit (.bool true)], args := [d] }
  | _ => none }
def fnExactCountShownRow : OpenClaim := { program := "ytnoidabmbckfkab", sum := "37b450fdb7531f0544ede4fcf85a6095aed8c127035b52f66c3788a1f87f523f", func := "loop.example/g01350/laws.FnExactCountShown", spec := "fnExactCountShown", recurses := true, plainKeys := false, apart := false }
def FnExactCountShownSaid : Prop := fnExactCountShownRow.holds Try.pinned (OpenSpec.ofChange fnExactCountShownSpec)

/-- ITS FALSE NEIGHBOUR: 'it returns false'. Refute it at one input. -/
def fnExactCountShownWrong : ChangeSpec := { name := "fnExactCountShown", fn := fun _ => fun
  | [d] => { results := [.lit (.bool false)], args := [d] }
  | _ => none }
def FnExactCountShownWrongFalsely : Prop := fnExactCountShownRow.holds Try.pinned (OpenSpec.ofChange fnExactCountShownWrong)

/-- 'laws.FnExactTwoThumbs': WHATEVER THE INPUT: true; the input reads as it did. -/
def fnExactTwoThumbsSpec : ChangeSpec := { name := "fnExactTwoThumbs", fn := fun _ => fun
  | [d1, d2, d3, d4] => { results := [.lit (.bool true)], args := [d1, d2, d3, d4] }
  | _ => none }
def fnExactTwoThumbsRow : OpenClaim := { program := "ytnoidabmbckfkab", sum := "37b450fdb7531f0544ede4fcf85a6095aed8c127035b52f66c3788a1f87f523f", func := "loop.example/g01350/laws.FnExactTwoThumbs", spec := "fnExactTwoThumbs", inPlace := ["internal/bytealg.IndexByteString", "internal/bytealg.IndexString"], unfollowed := true, recurses := true, named := ["internal/bytealg.MaxLen"], plainKeys := false, apart := false }
def FnExactTwoThumbsSaid : Prop := fnExactTwoThumbsRow.holds Try.pinned (OpenSpec.ofChange fnExactTwoThumbsSpec)

/-- ITS FALSE NEIGHBOUR: 'it returns false'. Refute it at one input. -/
def fnExactTwoThumbsWrong : ChangeSpec := { name := "fnExactTwoThumbs", fn := fun _ => fun
  | [d1, d2, d3, d4] => { results := [.lit (.bool false)], args := [d1, d2, d3, d4] }
  | _ => none }
def FnExactTwoThumbsWrongFalsely : Prop := fnExactTwoThumbsRow.holds Try.pinned (OpenSpec.ofChange fnExactTwoThumbsWrong)

/-- 'laws.FnExactCountThumbs': WHATEVER THE INPUT: true; the input reads as it did. -/
def fnExactCountThumbsSpec : ChangeSpec := { name := "fnExactCountThumbs", fn := fun _ => fun
  | [d1, d2, d3, d4] => { results := [.lit (.bool true)], args := [d1, d2, d3, d4] }
  | _ => none }
def fnExactCountThumbsRow : OpenClaim := { program := "ytnoidabmbckfkab", sum := "37b450fdb7531f0544ede4fcf85a6095aed8c127035b52f66c3788a1f87f523f", func := "loop.example/g01350/laws.FnExactCountThumbs", spec := "fnExactCountThumbs", inPlace := ["internal/bytealg.IndexByteString", "internal/bytealg.IndexString"], unfollowed := true, recurses := true, named := ["internal/bytealg.MaxLen"], plainKeys := false, apart := false }
def FnExactCountThumbsSaid : Prop := fnExactCountThumbsRow.holds Try.pinned (OpenSpec.ofChange fnExactCountThumbsSpec)

/-- ITS FALSE NEIGHBOUR: 'it returns false'. Refute it at one input. -/
def fnExactCountThumbsWrong : ChangeSpec := { name := "fnExactCountThumbs", fn := fun _ => fun
  | [d1, d2, d3, d4] => { results := [.lit (.bool false)], args := [d1, d2, d3, d4] }
  | _ => none }
def FnExactCountThumbsWrongFalsely : Prop := fnExactCountThumbsRow.holds Try.pinned (OpenSpec.ofChange fnExactCountThumbsWrong)

/-- 'laws.FnExactFirstThumbs': WHATEVER THE INPUT: true; the input reads as it did. -/
def fnExactFirstThumbsSpec : ChangeSpec := { name := "fnExactFirstThumbs", fn := fun _ => fun
  | [d1, d2, d3, d4] => { results := [.lit (.bool true)], args := [d1, d2, d3, d4] }
  | _ => none }
def fnExactFirstThumbsRow : OpenClaim := { program := "ytnoidabmbckfkab", sum := "37b450fdb7531f0544ede4fcf85a6095aed8c127035b52f66c3788a1f87f523f", func := "loop.example/g01350/laws.FnExactFirstThumbs", spec := "fnExactFirstThumbs", inPlace := ["internal/bytealg.IndexByteString", "internal/bytealg.IndexString"], unfollowed := true, recurses := true, named := ["internal/bytealg.MaxLen"], plainKeys := false, apart := false }
def FnExactFirstThumbsSaid : Prop := fnExactFirstThumbsRow.holds Try.pinned (OpenSpec.ofChange fnExactFirstThumbsSpec)

/-- ITS FALSE NEIGHBOUR: 'it returns false'. Refute it at one input. -/
def fnExactFirstThumbsWrong : ChangeSpec := { name := "fnExactFirstThumbs", fn := fun _ => fun
  | [d1, d2, d3, d4] => { results := [.lit (.bool false)], args := [d1, d2, d3, d4] }
  | _ => none }
def FnExactFirstThumbsWrongFalsely : Prop := fnExactFirstThumbsRow.holds Try.pinned (OpenSpec.ofChange fnExactFirstThumbsWrong)

/-- 'laws.FnExactBestStarts': WHATEVER THE INPUT: true; the input reads as it did. -/
def fnExactBestStartsSpec : ChangeSpec := { name := "fnExactBestStarts", fn := fun _ => fun
  | [d1, d2] => { results := [.lit (.bool true)], args := [d1, d2] }
  | _ => none }
def fnExactBestStartsRow : OpenClaim := { program := "ytnoidabmbckfkab", sum := "37b450fdb7531f0544ede4fcf85a6095aed8c127035b52f66c3788a1f87f523f", func := "loop.example/g01350/laws.FnExactBestStarts", spec := "fnExactBestStarts", inPlace := ["internal/bytealg.IndexByteString", "internal/bytealg.IndexString"], unfollowed := true, recurses := true, named := ["internal/bytealg.MaxLen"], plainKeys := false, apart := false }
def FnExactBestStartsSaid : Prop := fnExactBestStartsRow.holds Try.pinned (OpenSpec.ofChange fnExactBestStartsSpec)

/-- ITS FALSE NEIGHBOUR: 'it returns false'. Refute it at one input. -/
def fnExactBestStartsWrong : ChangeSpec := { name := "fnExactBestStarts", fn := fun _ => fun
  | [d1, d2] => { results := [.lit (.bool false)], args := [d1, d2] }
  | _ => none }
def FnExactBestStartsWrongFalsely : Prop := fnExactBestStartsRow.holds Try.pinned (OpenSpec.ofChange fnExactBestStartsWrong)

/-- 'laws.FnExactLeastOrder': WHATEVER THE INPUT: true; the input reads as it did. -/
def fnExactLeastOrderSpec : ChangeSpec := { name := "fnExactLeastOrder", fn := fun _ => fun
  | [d1, d2, d3] => { results := [.lit (.bool true)], args := [d1, d2, d3] }
  | _ => none }
def fnExactLeastOrderRow : OpenClaim := { program := "ytnoidabmbckfkab", sum := "37b450fdb7531f0544ede4fcf85a6095aed8c127035b52f66c3788a1f87f523f", func := "loop.example/g01350/laws.FnExactLeastOrder", spec := "fnExactLeastOrder", inPlace := ["internal/bytealg.IndexByteString", "internal/bytealg.IndexString", "internal/abi.NoEscape"], unfollowed := true, recurses := true, named := ["internal/bytealg.MaxLen"], plainKeys := false, apart := false }
def FnExactLeastOrderSaid : Prop := fnExactLeastOrderRow.holds Try.pinned (OpenSpec.ofChange fnExactLeastOrderSpec)

/-- ITS FALSE NEIGHBOUR: 'it returns false'. Refute it at one input. -/
def fnExactLeastOrderWrong : ChangeSpec := { name := "fnExactLeastOrder", fn := fun _ => fun
  | [d1, d2, d3] => { results := [.lit (.bool false)], args := [d1, d2, d3] }
  | _ => none }
def FnExactLeastOrderWrongFalsely : Prop := fnExactLeastOrderRow.holds Try.pinned (OpenSpec.ofChange fnExactLeastOrderWrong)

/- THE SECOND FORM. 'bulk': how many values and letters a reading holds, each counted each time it is reached (what is shared counts as often as it is met; a slice's spare places count too). A statement '..UptoSaid' is the law's where the arguments, and the package variables that the reading takes, are together of bulk at most 1048576: NARROWER than '..Said'. Prove '..Said' where nothing that the law and all that it calls make is longer than what came in: it says more and counts as full. Else prove '..UptoSaid'. A law counts once. -/
mutual
def uptoBulk {H : Type} : DataW H → Nat
  | .lit (.string bytes) => bytes.length + 1
  | .lit _ => 1
  | .nil => 1
  | .ptr d => uptoBulk d + 1
  | .slice elems spare => uptoBulkAll elems + uptoBulkAll spare + 1
  | .agg parts => uptoBulkAll parts + 1
  | .iface _ d => uptoBulk d + 1
  | .map entries => uptoBulkEntries entries + 1
  | .held _ => 1
def uptoBulkAll {H : Type} : List (DataW H) → Nat
  | [] => 0
  | d :: r => uptoBulk d + uptoBulkAll r
def uptoBulkEntries {H : Type} : List (Lit × DataW H) → Nat
  | [] => 0
  | x :: r => uptoBulkEntry x + uptoBulkEntries r
def uptoBulkEntry {H : Type} : Lit × DataW H → Nat
  | (.string bytes, d) => bytes.length + uptoBulk d + 1
  | (_, d) => uptoBulk d + 1
 end
def uptoSmall : (H : Type) → List (DataW H) → Bool := fun _ ds => decide (uptoBulkAll ds ≤ 1048576)
def OpenSpec.upto (s : _root_.Go.ChangeSpec) : _root_.Go.OpenSpec := { _root_.Go.OpenSpec.ofChange s with cond := some uptoSmall }

/-- 'laws.FnExactFirstCommon', WHERE WHAT IT READS IS OF BULK AT MOST 1048576: true; the input reads as it did. -/
def fnExactFirstCommonUptoRow : OpenClaim := { program := "ytnoidabmbckfkab", sum := "37b450fdb7531f0544ede4fcf85a6095aed8c127035b52f66c3788a1f87f523f", func := "loop.example/g01350/laws.FnExactFirstCommon", spec := "fnExactFirstCommon", plainKeys := false, apart := false, narrowed := true }
def FnExactFirstCommonUptoSaid : Prop := fnExactFirstCommonUptoRow.holds Try.pinned (OpenSpec.upto fnExactFirstCommonSpec)

/-- 'laws.FnExactNearestWords', WHERE WHAT IT READS IS OF BULK AT MOST 1048576: true; the input reads as it did. -/
def fnExactNearestWordsUptoRow : OpenClaim := { program := "ytnoidabmbckfkab", sum := "37b450fdb7531f0544ede4fcf85a6095aed8c127035b52f66c3788a1f87f523f", func := "loop.example/g01350/laws.FnExactNearestWords", spec := "fnExactNearestWords", plainKeys := false, apart := false, narrowed := true }
def FnExactNearestWordsUptoSaid : Prop := fnExactNearestWordsUptoRow.holds Try.pinned (OpenSpec.upto fnExactNearestWordsSpec)

/-- 'laws.FnExactWordsWithin', WHERE WHAT IT READS IS OF BULK AT MOST 1048576: true; the input reads as it did. -/
def fnExactWordsWithinUptoRow : OpenClaim := { program := "ytnoidabmbckfkab", sum := "37b450fdb7531f0544ede4fcf85a6095aed8c127035b52f66c3788a1f87f523f", func := "loop.example/g01350/laws.FnExactWordsWithin", spec := "fnExactWordsWithin", plainKeys := false, apart := false, narrowed := true }
def FnExactWordsWithinUptoSaid : Prop := fnExactWordsWithinUptoRow.holds Try.pinned (OpenSpec.upto fnExactWordsWithinSpec)

/-- 'laws.FnExactSwapsOf', WHERE WHAT IT READS IS OF BULK AT MOST 1048576: true; the input reads as it did. -/
def fnExactSwapsOfUptoRow : OpenClaim := { program := "ytnoidabmbckfkab", sum := "37b450fdb7531f0544ede4fcf85a6095aed8c127035b52f66c3788a1f87f523f", func := "loop.example/g01350/laws.FnExactSwapsOf", spec := "fnExactSwapsOf", recurses := true, plainKeys := false, apart := false, narrowed := true }
def FnExactSwapsOfUptoSaid : Prop := fnExactSwapsOfUptoRow.holds Try.pinned (OpenSpec.upto fnExactSwapsOfSpec)

/-- 'laws.FnExactLettersOf', WHERE WHAT IT READS IS OF BULK AT MOST 1048576: true; the input reads as it did. -/
def fnExactLettersOfUptoRow : OpenClaim := { program := "ytnoidabmbckfkab", sum := "37b450fdb7531f0544ede4fcf85a6095aed8c127035b52f66c3788a1f87f523f", func := "loop.example/g01350/laws.FnExactLettersOf", spec := "fnExactLettersOf", recurses := true, plainKeys := false, apart := false, narrowed := true }
def FnExactLettersOfUptoSaid : Prop := fnExactLettersOfUptoRow.holds Try.pinned (OpenSpec.upto fnExactLettersOfSpec)

/-- 'laws.FnExactCountShown', WHERE WHAT IT READS IS OF BULK AT MOST 1048576: true; the input reads as it did. -/
def fnExactCountShownUptoRow : OpenClaim := { program := "ytnoidabmbckfkab", sum := "37b450fdb7531f0544ede4fcf85a6095aed8c127035b52f66c3788a1f87f523f", func := "loop.example/g01350/laws.FnExactCountShown", spec := "fnExactCountShown", recurses := true, plainKeys := false, apart := false, narrowed := true }
def FnExactCountShownUptoSaid : Prop := fnExactCountShownUptoRow.holds Try.pinned (OpenSpec.upto fnExactCountShownSpec)

/-- 'laws.FnExactTwoThumbs', WHERE WHAT IT READS IS OF BULK AT MOST 1048576: true; the input reads as it did. -/
def fnExactTwoThumbsUptoRow : OpenClaim := { program := "ytnoidabmbckfkab", sum := "37b450fdb7531f0544ede4fcf85a6095aed8c127035b52f66c3788a1f87f523f", func := "loop.example/g01350/laws.FnExactTwoThumbs", spec := "fnExactTwoThumbs", inPlace := ["internal/bytealg.IndexByteString", "internal/bytealg.IndexString"], unfollowed := true, recurses := true, named := ["internal/bytealg.MaxLen"], plainKeys := false, apart := false, narrowed := true }
def FnExactTwoThumbsUptoSaid : Prop := fnExactTwoThumbsUptoRow.holds Try.pinned (OpenSpec.upto fnExactTwoThumbsSpec)

/-- 'laws.FnExactCountThumbs', WHERE WHAT IT READS IS OF BULK AT MOST 1048576: true; the input reads as it did. -/
def fnExactCountThumbsUptoRow : OpenClaim := { program := "ytnoidabmbckfkab", sum := "37b450fdb7531f0544ede4fcf85a6095aed8c127035b52f66c3788a1f87f523f", func := "loop.example/g01350/laws.FnExactCountThumbs", spec := "fnExactCountThumbs", inPlace := ["internal/bytealg.IndexByteString", "internal/bytealg.IndexString"], unfollowed := true, recurses := true, named := ["internal/bytealg.MaxLen"], plainKeys := false, apart := false, narrowed := true }
def FnExactCountThumbsUptoSaid : Prop := fnExactCountThumbsUptoRow.holds Try.pinned (OpenSpec.upto fnExactCountThumbsSpec)

/-- 'laws.FnExactFirstThumbs', WHERE WHAT IT READS IS OF BULK AT MOST 1048576: true; the input reads as it did. -/
def fnExactFirstThumbsUptoRow : OpenClaim := { program := "ytnoidabmbckfkab", sum := "37b450fdb7531f0544ede4fcf85a6095aed8c127035b52f66c3788a1f87f523f", func := "loop.example/g01350/laws.FnExactFirstThumbs", spec := "fnExactFirstThumbs", inPlace := ["internal/bytealg.IndexByteString", "internal/bytealg.IndexString"], unfollowed := true, recurses := true, named := ["internal/bytealg.MaxLen"], plainKeys := false, apart := false, narrowed := true }
def FnExactFirstThumbsUptoSaid : Prop := fnExactFirstThumbsUptoRow.holds Try.pinned (OpenSpec.upto fnExactFirstThumbsSpec)

/-- 'laws.FnExactBestStarts', WHERE WHAT IT READS IS OF BULK AT MOST 1048576: true; the input reads as it did. -/
def fnExactBestStartsUptoRow : OpenClaim := { program := "ytnoidabmbckfkab", sum := "37b450fdb7531f0544ede4fcf85a6095aed8c127035b52f66c3788a1f87f523f", func := "loop.example/g01350/laws.FnExactBestStarts", spec := "fnExactBestStarts", inPlace := ["internal/bytealg.IndexByteString", "internal/bytealg.IndexString"], unfollowed := true, recurses := true, named := ["internal/bytealg.MaxLen"], plainKeys := false, apart := false, narrowed := true }
def FnExactBestStartsUptoSaid : Prop := fnExactBestStartsUptoRow.holds Try.pinned (OpenSpec.upto fnExactBestStartsSpec)

/-- 'laws.FnExactLeastOrder', WHERE WHAT IT READS IS OF BULK AT MOST 1048576: true; the input reads as it did. -/
def fnExactLeastOrderUptoRow : OpenClaim := { program := "ytnoidabmbckfkab", sum := "37b450fdb7531f0544ede4fcf85a6095aed8c127035b52f66c3788a1f87f523f", func := "loop.example/g01350/laws.FnExactLeastOrder", spec := "fnExactLeastOrder", inPlace := ["internal/bytealg.IndexByteString", "internal/bytealg.IndexString", "internal/abi.NoEscape"], unfollowed := true, recurses := true, named := ["internal/bytealg.MaxLen"], plainKeys := false, apart := false, narrowed := true }
def FnExactLeastOrderUptoSaid : Prop := fnExactLeastOrderUptoRow.holds Try.pinned (OpenSpec.upto fnExactLeastOrderSpec)

end Rows
end Go.Proofs.Ytnoidabmbckfkab
