/-
  No cell of these rows narrows 'for every input' (looked for: loops, veiled, ifaces, maps, wideKeys, modest, calm, conditions, laid).
  DERIVED. THE GIVEN ROWS OF THIS SEAT. 12 by the template 'for every input the law returns true; each argument reads behind the call as it read before'; 0 by the template 'total and deterministic' (their statements: YtnnbpcookemilaaTotals.lean).
  GIVEN WITH THE SEED: the statements are not yours to turn. If you find one false, say at which input.
  Laid BY PROGRAM, IN A SANDBOX (cutbox-rows.mjs): the forced cells as the released guide's own fill.sh prints them over the translation c255bd473b7386c0… (all of the seat's roots in one cut). By AI agents, Wed Nov 11 2026. No macro, syntax, notation, axiom, sorry.
-/
import Derived.Test.YtnnbpcookemilaaChecked
import GoSem.Claim
import GoSem.ClaimJoined
import GoSem.ClaimMapViews
import Derived.JoinedTies
import Derived.KernelRfl
namespace Go.Proofs.Ytnnbpcookemilaa
/- THE CELL 'sum', in the pinned program and in every row, IS THE sha256 OF THE DUMP (.gsa) THAT YtnnbpcookemilaaProg.lean LOADS. Nothing in Lean hashes anything: it is a label: what it is worth is what the hold of that sum in a sandbox is worth. -/
noncomputable def Try.pinned : Pinned := { name := "ytnnbpcookemilaa", sum := "c255bd473b7386c0870fd0fd2b088173935daa3ed576517b2f7e8be59d2560e8", checked := Try.checked }
namespace Rows
def none {H : Type} : Left H := { results := [], args := [] }

/-- 'laws.FnExactIsDialed': WHATEVER THE INPUT: true; the input reads as it did. -/
def fnExactIsDialedSpec : ChangeSpec := { name := "fnExactIsDialed", fn := fun _ => fun
  | [d] => { results := [.lit (.bool true)], args := [d] }
  | _ => none }
def fnExactIsDialedRow : OpenClaim := { program := "ytnnbpcookemilaa", sum := "c255bd473b7386c0870fd0fd2b088173935daa3ed576517b2f7e8be59d2560e8", func := "loop.example/g01350/laws.FnExactIsDialed", spec := "fnExactIsDialed", inPlace := ["internal/bytealg.IndexByteString"], plainKeys := false, apart := false }
def FnExactIsDialedSaid : Prop := fnExactIsDialedRow.holds Try.pinned (OpenSpec.ofChange fnExactIsDialedSpec)

/-- ITS FALSE NEIGHBOUR: 'it returns false'. Refute it at one input. -/
def fnExactIsDialedWrong : ChangeSpec := { name := "fnExactIsDialed", fn := fun _ => fun
  | [d] => { results := [.lit (.bool false)], args := [d] }
  | _ => none }
def FnExactIsDialedWrongFalsely : Prop := fnExactIsDialedRow.holds Try.pinned (OpenSpec.ofChange fnExactIsDialedWrong)

/-- 'laws.FnExactKeyDistance': WHATEVER THE INPUT: true; the input reads as it did. -/
def fnExactKeyDistanceSpec : ChangeSpec := { name := "fnExactKeyDistance", fn := fun _ => fun
  | [d1, d2, d3] => { results := [.lit (.bool true)], args := [d1, d2, d3] }
  | _ => none }
def fnExactKeyDistanceRow : OpenClaim := { program := "ytnnbpcookemilaa", sum := "c255bd473b7386c0870fd0fd2b088173935daa3ed576517b2f7e8be59d2560e8", func := "loop.example/g01350/laws.FnExactKeyDistance", spec := "fnExactKeyDistance", inPlace := ["internal/bytealg.IndexByteString", "internal/bytealg.IndexString"], named := ["internal/bytealg.MaxLen"], plainKeys := false, apart := false }
def FnExactKeyDistanceSaid : Prop := fnExactKeyDistanceRow.holds Try.pinned (OpenSpec.ofChange fnExactKeyDistanceSpec)

/-- ITS FALSE NEIGHBOUR: 'it returns false'. Refute it at one input. -/
def fnExactKeyDistanceWrong : ChangeSpec := { name := "fnExactKeyDistance", fn := fun _ => fun
  | [d1, d2, d3] => { results := [.lit (.bool false)], args := [d1, d2, d3] }
  | _ => none }
def FnExactKeyDistanceWrongFalsely : Prop := fnExactKeyDistanceRow.holds Try.pinned (OpenSpec.ofChange fnExactKeyDistanceWrong)

/-- 'laws.FnExactOneThumb': WHATEVER THE INPUT: true; the input reads as it did. -/
def fnExactOneThumbSpec : ChangeSpec := { name := "fnExactOneThumb", fn := fun _ => fun
  | [d1, d2, d3] => { results := [.lit (.bool true)], args := [d1, d2, d3] }
  | _ => none }
def fnExactOneThumbRow : OpenClaim := { program := "ytnnbpcookemilaa", sum := "c255bd473b7386c0870fd0fd2b088173935daa3ed576517b2f7e8be59d2560e8", func := "loop.example/g01350/laws.FnExactOneThumb", spec := "fnExactOneThumb", inPlace := ["internal/bytealg.IndexByteString", "internal/bytealg.IndexString"], unfollowed := true, recurses := true, named := ["internal/bytealg.MaxLen"], plainKeys := false, apart := false }
def FnExactOneThumbSaid : Prop := fnExactOneThumbRow.holds Try.pinned (OpenSpec.ofChange fnExactOneThumbSpec)

/-- ITS FALSE NEIGHBOUR: 'it returns false'. Refute it at one input. -/
def fnExactOneThumbWrong : ChangeSpec := { name := "fnExactOneThumb", fn := fun _ => fun
  | [d1, d2, d3] => { results := [.lit (.bool false)], args := [d1, d2, d3] }
  | _ => none }
def FnExactOneThumbWrongFalsely : Prop := fnExactOneThumbRow.holds Try.pinned (OpenSpec.ofChange fnExactOneThumbWrong)

/-- 'laws.FnExactTwoThumbs': WHATEVER THE INPUT: true; the input reads as it did. -/
def fnExactTwoThumbsSpec : ChangeSpec := { name := "fnExactTwoThumbs", fn := fun _ => fun
  | [d1, d2, d3, d4] => { results := [.lit (.bool true)], args := [d1, d2, d3, d4] }
  | _ => none }
def fnExactTwoThumbsRow : OpenClaim := { program := "ytnnbpcookemilaa", sum := "c255bd473b7386c0870fd0fd2b088173935daa3ed576517b2f7e8be59d2560e8", func := "loop.example/g01350/laws.FnExactTwoThumbs", spec := "fnExactTwoThumbs", inPlace := ["internal/bytealg.IndexByteString", "internal/bytealg.IndexString"], unfollowed := true, recurses := true, named := ["internal/bytealg.MaxLen"], plainKeys := false, apart := false }
def FnExactTwoThumbsSaid : Prop := fnExactTwoThumbsRow.holds Try.pinned (OpenSpec.ofChange fnExactTwoThumbsSpec)

/-- ITS FALSE NEIGHBOUR: 'it returns false'. Refute it at one input. -/
def fnExactTwoThumbsWrong : ChangeSpec := { name := "fnExactTwoThumbs", fn := fun _ => fun
  | [d1, d2, d3, d4] => { results := [.lit (.bool false)], args := [d1, d2, d3, d4] }
  | _ => none }
def FnExactTwoThumbsWrongFalsely : Prop := fnExactTwoThumbsRow.holds Try.pinned (OpenSpec.ofChange fnExactTwoThumbsWrong)

/-- 'laws.FnExactFirstThumbs': WHATEVER THE INPUT: true; the input reads as it did. -/
def fnExactFirstThumbsSpec : ChangeSpec := { name := "fnExactFirstThumbs", fn := fun _ => fun
  | [d1, d2, d3, d4] => { results := [.lit (.bool true)], args := [d1, d2, d3, d4] }
  | _ => none }
def fnExactFirstThumbsRow : OpenClaim := { program := "ytnnbpcookemilaa", sum := "c255bd473b7386c0870fd0fd2b088173935daa3ed576517b2f7e8be59d2560e8", func := "loop.example/g01350/laws.FnExactFirstThumbs", spec := "fnExactFirstThumbs", inPlace := ["internal/bytealg.IndexByteString", "internal/bytealg.IndexString"], unfollowed := true, recurses := true, named := ["internal/bytealg.MaxLen"], plainKeys := false, apart := false }
def FnExactFirstThumbsSaid : Prop := fnExactFirstThumbsRow.holds Try.pinned (OpenSpec.ofChange fnExactFirstThumbsSpec)

/-- ITS FALSE NEIGHBOUR: 'it returns false'. Refute it at one input. -/
def fnExactFirstThumbsWrong : ChangeSpec := { name := "fnExactFirstThumbs", fn := fun _ => fun
  | [d1, d2, d3, d4] => { results := [.lit (.bool false)], args := [d1, d2, d3, d4] }
  | _ => none }
def FnExactFirstThumbsWrongFalsely : Prop := fnExactFirstThumbsRow.holds Try.pinned (OpenSpec.ofChange fnExactFirstThumbsWrong)

/-- 'laws.FnExactCountThumbs': WHATEVER THE INPUT: true; the input reads as it did. -/
def fnExactCountThumbsSpec : ChangeSpec := { name := "fnExactCountThumbs", fn := fun _ => fun
  | [d1, d2, d3, d4] => { results := [.lit (.bool true)], args := [d1, d2, d3, d4] }
  | _ => none }
def fnExactCountThumbsRow : OpenClaim := { program := "ytnnbpcookemilaa", sum := "c255bd473b7386c0870fd0fd2b088173935daa3ed576517b2f7e8be59d2560e8", func := "loop.example/g01350/laws.FnExactCountThumbs", spec := "fnExactCountThumbs", inPlace := ["internal/bytealg.IndexByteString", "internal/bytealg.IndexString"], unfollowed := true, recurses := true, named := ["internal/bytealg.MaxLen"], plainKeys := false, apart := false }
def FnExactCountThumbsSaid : Prop := fnExactCountThumbsRow.holds Try.pinned (OpenSpec.ofChange fnExactCountThumbsSpec)

/-- ITS FALSE NEIGHBOUR: 'it returns false'. Refute it at one input. -/
def fnExactCountThumbsWrong : ChangeSpec := { name := "fnExactCountThumbs", fn := fun _ => fun
  | [d1, d2, d3, d4] => { results := [.lit (.bool false)], args := [d1, d2, d3, d4] }
  | _ => none }
def FnExactCountThumbsWrongFalsely : Prop := fnExactCountThumbsRow.holds Try.pinned (OpenSpec.ofChange fnExactCountThumbsWrong)

/-- 'laws.FnExactThumbPlan': WHATEVER THE INPUT: true; the input reads as it did. -/
def fnExactThumbPlanSpec : ChangeSpec := { name := "fnExactThumbPlan", fn := fun _ => fun
  | [d1, d2, d3, d4, d5] => { results := [.lit (.bool true)], args := [d1, d2, d3, d4, d5] }
  | _ => none }
def fnExactThumbPlanRow : OpenClaim := { program := "ytnnbpcookemilaa", sum := "c255bd473b7386c0870fd0fd2b088173935daa3ed576517b2f7e8be59d2560e8", func := "loop.example/g01350/laws.FnExactThumbPlan", spec := "fnExactThumbPlan", inPlace := ["internal/bytealg.IndexByteString", "internal/bytealg.IndexString"], unfollowed := true, recurses := true, named := ["internal/bytealg.MaxLen"], plainKeys := false, apart := false }
def FnExactThumbPlanSaid : Prop := fnExactThumbPlanRow.holds Try.pinned (OpenSpec.ofChange fnExactThumbPlanSpec)

/-- ITS FALSE NEIGHBOUR: 'it returns false'. Refute it at one input. -/
def fnExactThumbPlanWrong : ChangeSpec := { name := "fnExactThumbPlan", fn := fun _ => fun
  | [d1, d2, d3, d4, d5] => { results := [.lit (.bool false)], args := [d1, d2, d3, d4, d5] }
  | _ => none }
def FnExactThumbPlanWrongFalsely : Prop := fnExactThumbPlanRow.holds Try.pinned (OpenSpec.ofChange fnExactThumbPlanWrong)

/-- 'laws.FnExactBestStart': WHATEVER THE INPUT: true; the input reads as it did. -/
def fnExactBestStartSpec : ChangeSpec := { name := "fnExactBestStart", fn := fun _ => fun
  | [d1, d2] => { results := [.lit (.bool true)], args := [d1, d2] }
  | _ => none }
def fnExactBestStartRow : OpenClaim := { program := "ytnnbpcookemilaa", sum := "c255bd473b7386c0870fd0fd2b088173935daa3ed576517b2f7e8be59d2560e8", func := "loop.example/g01350/laws.FnExactBestStart", spec := "fnExactBestStart", inPlace := ["internal/bytealg.IndexByteString", "internal/bytealg.IndexString"], unfollowed := true, recurses := true, named := ["internal/bytealg.MaxLen"], plainKeys := false, apart := false }
def FnExactBestStartSaid : Prop := fnExactBestStartRow.holds Try.pinned (OpenSpec.ofChange fnExactBestStartSpec)

/-- ITS FALSE NEIGHBOUR: 'it returns false'. Refute it at one input. -/
def fnExactBestStartWrong : ChangeSpec := { name := "fnExactBestStart", fn := fun _ => fun
  | [d1, d2] => { results := [.lit (.bool false)], args := [d1, d2] }
  | _ => none }
def FnExactBestStartWrongFalsely : Prop := fnExactBestStartRow.holds Try.pinned (OpenSpec.ofChange fnExactBestStartWrong)

/-- 'laws.FnExactBestStarts': WHATEVER THE INPUT: true; the input reads as it did. -/
def fnExactBestStartsSpec : ChangeSpec := { name := "fnExactBestStarts", fn := fun _ => fun
  | [d1, d2] => { results := [.lit (.bool true)], args := [d1, d2] }
  | _ => none }
def fnExactBestStartsRow : OpenClaim := { program := "ytnnbpcookemilaa", sum := "c255bd473b7386c0870fd0fd2b088173935daa3ed576517b2f7e8be59d2560e8", func := "loop.example/g01350/laws.FnExactBestStarts", spec := "fnExactBestStarts", inPlace := ["internal/bytealg.IndexByteString", "internal/bytealg.IndexString"], unfollowed := true, recurses := true, named := ["internal/bytealg.MaxLen"], plainKeys := false, apart := false }
def FnExactBestStartsSaid : Prop := fnExactBestStartsRow.holds Try.pinned (OpenSpec.ofChange fnExactBestStartsSpec)

/-- ITS FALSE NEIGHBOUR: 'it returns false'. Refute it at one input. -/
def fnExactBestStartsWrong : ChangeSpec := { name := "fnExactBestStarts", fn := fun _ => fun
  | [d1, d2] => { results := [.lit (.bool false)], args := [d1, d2] }
  | _ => none }
def FnExactBestStartsWrongFalsely : Prop := fnExactBestStartsRow.holds Try.pinned (OpenSpec.ofChange fnExactBestStartsWrong)

/-- 'laws.FnExactMovesOf': WHATEVER THE INPUT: true; the input reads as it did. -/
def fnExactMovesOfSpec : ChangeSpec := { name := "fnExactMovesOf", fn := fun _ => fun
  | [d1, d2] => { results := [.lit (.bool true)], args := [d1, d2] }
  | _ => none }
def fnExactMovesOfRow : OpenClaim := { program := "ytnnbpcookemilaa", sum := "c255bd473b7386c0870fd0fd2b088173935daa3ed576517b2f7e8be59d2560e8", func := "loop.example/g01350/laws.FnExactMovesOf", spec := "fnExactMovesOf", inPlace := ["internal/bytealg.IndexByteString", "internal/bytealg.IndexString", "internal/abi.NoEscape", "internal/bytealg.MakeNoZero"], named := ["internal/bytealg.MaxLen"], plainKeys := false, apart := false }
def FnExactMovesOfSaid : Prop := fnExactMovesOfRow.holds Try.pinned (OpenSpec.ofChange fnExactMovesOfSpec)

/-- ITS FALSE NEIGHBOUR: 'it returns false'. Refute it at one input. -/
def fnExactMovesOfWrong : ChangeSpec := { name := "fnExactMovesOf", fn := fun _ => fun
  | [d1, d2] => { results := [.lit (.bool false)], args := [d1, d2] }
  | _ => none }
def FnExactMovesOfWrongFalsely : Prop := fnExactMovesOfRow.holds Try.pinned (OpenSpec.ofChange fnExactMovesOfWrong)

/-- 'laws.FnExactKeysOfMoves': WHATEVER THE INPUT: true; the input reads as it did. -/
def fnExactKeysOfMovesSpec : ChangeSpec := { name := "fnExactKeysOfMoves", fn := fun _ => fun
  | [d1, d2] => { results := [.lit (.bool true)], args := [d1, d2] }
  | _ => none }
def fnExactKeysOfMovesRow : OpenClaim := { program := "ytnnbpcookemilaa", sum := "c255bd473b7386c0870fd0fd2b088173935daa3ed576517b2f7e8be59d2560e8", func := "loop.example/g01350/laws.FnExactKeysOfMoves", spec := "fnExactKeysOfMoves", inPlace := ["internal/bytealg.IndexByteString", "internal/bytealg.IndexString", "internal/abi.NoEscape"], named := ["internal/bytealg.MaxLen"], plainKeys := false, apart := false }
def FnExactKeysOfMovesSaid : Prop := fnExactKeysOfMovesRow.holds Try.pinned (OpenSpec.ofChange fnExactKeysOfMovesSpec)

/-- ITS FALSE NEIGHBOUR: 'it returns false'. Refute it at one input. -/
def fnExactKeysOfMovesWrong : ChangeSpec := { name := "fnExactKeysOfMoves", fn := fun _ => fun
  | [d1, d2] => { results := [.lit (.bool false)], args := [d1, d2] }
  | _ => none }
def FnExactKeysOfMovesWrongFalsely : Prop := fnExactKeysOfMovesRow.holds Try.pinned (OpenSpec.ofChange fnExactKeysOfMovesWrong)

/-- 'laws.FnExactLeastOrder': WHATEVER THE INPUT: true; the input reads as it did. -/
def fnExactLeastOrderSpec : ChangeSpec := { name := "fnExactLeastOrder", fn := fun _ => fun
  | [d1, d2, d3] => { results := [.lit (.bool true)], args := [d1, d2, d3] }
  | _ => none }
def fnExactLeastOrderRow : OpenClaim := { program := "ytnnbpcookemilaa", sum := "c255bd473b7386c0870fd0fd2b088173935daa3ed576517b2f7e8be59d2560e8", func := "loop.example/g01350/laws.FnExactLeastOrder", spec := "fnExactLeastOrder", inPlace := ["internal/bytealg.IndexByteString", "internal/bytealg.IndexString", "internal/abi.NoEscape"], unfollowed := true, recurses := true, named := ["internal/bytealg.MaxLen"], plainKeys := false, apart := false }
def FnExactLeastOrderSaid : Prop := fnExactLeastOrderRow.holds Try.pinned (OpenSpec.ofChange fnExactLeastOrderSpec)

/-- ITS FALSE NEIGHBOUR: 'it returns false'. Refute it at one input. -/
def fnExactLeastOrderWrong : ChangeSpec := { name := "fnExactLeastOrder", fn := fun _ => fun
  | [d1, d2, d3] => { results := [.lit (.bool false)], args := [d1, d2, d3] }
  | _ => none }
def FnExactLeastOrderWrongFalsely : Prop := fnExactLeastOrderRow.holds Try.pinned (OpenSpec.ofChange fnExactLeastOrderWrong)

/- THE SECOND FORM. 'bulk': how many values and letters a reading holds, each counted each time it is reached (what is shared counts as often as it is met; a slice's spare places count too). A statement '..UptoSaid' is the law's where the arguments, and the package variables that the reading takes, are together of bulk at most 1048576: NARROWER than '..Said'. Prove '..Said' where nothing that the law and all that it calls make is longer than what came in: it says more and counts as full. Else prove '..UptoSaid'. A law counts once. -/
mutual
def uptoBulk {H : Type} : DataW H → Nat
  | .lit (.string bytes) => bytes.length + 1
  | .lit _ => 1
  | .nil => 1
  | .ptr d => uptoBulk d + 1
  | .slice elems spare => uptoBulkAll elems + uptoBulkAll spare + 1
  | .agg parts => uptoBulkAll parts + 1
  | .iface _ d => uptoBulk d + 1
  | .map entries => uptoBulkEntries entries + 1
  | .held _ => 1
def uptoBulkAll {H : Type} : List (DataW H) → Nat
  | [] => 0
  | d :: r => uptoBulk d + uptoBulkAll r
def uptoBulkEntries {H : Type} : List (Lit × DataW H) → Nat
  | [] => 0
  | x :: r => uptoBulkEntry x + uptoBulkEntries r
def uptoBulkEntry {H : Type} : Lit × DataW H → Nat
  | (.string bytes, d) => bytes.length + uptoBulk d + 1
  | (_, d) => uptoBulk d + 1
 end
def uptoSmall : (H : Type) → List (DataW H) → Bool := fun _ ds => decide (uptoBulkAll ds ≤ 1048576)
def OpenSpec.upto (s : _root_.Go.ChangeSpec) : _root_.Go.OpenSpec := { _root_.Go.OpenSpec.ofChange s with cond := some uptoSmall }

/-- 'laws.FnExactIsDialed', WHERE WHAT IT READS IS OF BULK AT MOST 1048576: true; the input reads as it did. -/
def fnExactIsDialedUptoRow : OpenClaim := { program := "ytnnbpcookemilaa", sum := "c255bd473b7386c0870fd0fd2b088173935daa3ed576517b2f7e8be59d2560e8", func := "loop.example/g01350/laws.FnExactIsDialed", spec := "fnExactIsDialed", inPlace := ["internal/bytealg.IndexByteString"], plainKeys := false, apart := false, narrowed := true }
def FnExactIsDialedUptoSaid : Prop := fnExactIsDialedUptoRow.holds Try.pinned (OpenSpec.upto fnExactIsDialedSpec)

/-- 'laws.FnExactKeyDistance', WHERE WHAT IT READS IS OF BULK AT MOST 1048576: true; the input reads as it did. -/
def fnExactKeyDistanceUptoRow : OpenClaim := { program := "ytnnbpcookemilaa", sum := "c255bd473b7386c0870fd0fd2b088173935daa3ed576517b2f7e8be59d2560e8", func := "loop.example/g01350/laws.FnExactKeyDistance", spec := "fnExactKeyDistance", inPlace := ["internal/bytealg.IndexByteString", "internal/bytealg.IndexString"], named := ["internal/bytealg.MaxLen"], plainKeys := false, apart := false, narrowed := true }
def FnExactKeyDistanceUptoSaid : Prop := fnExactKeyDistanceUptoRow.holds Try.pinned (OpenSpec.upto fnExactKeyDistanceSpec)

/-- 'laws.FnExactOneThumb', WHERE WHAT IT READS IS OF BULK AT MOST 1048576: true; the input reads as it did. -/
def fnExactOneThumbUptoRow : OpenClaim := { program := "ytnnbpcookemilaa", sum := "c255bd473b7386c0870fd0fd2b088173935daa3ed576517b2f7e8be59d2560e8", func := "loop.example/g01350/laws.FnExactOneThumb", spec := "fnExactOneThumb", inPlace := ["internal/bytealg.IndexByteString", "internal/bytealg.IndexString"], unfollowed := true, recurses := true, named := ["internal/bytealg.MaxLen"], plainKeys := false, apart := false, narrowed := true }
def FnExactOneThumbUptoSaid : Prop := fnExactOneThumbUptoRow.holds Try.pinned (OpenSpec.upto fnExactOneThumbSpec)

/-- 'laws.FnExactTwoThumbs', WHERE WHAT IT READS IS OF BULK AT MOST 1048576: true; the input reads as it did. -/
def fnExactTwoThumbsUptoRow : OpenClaim := { program := "ytnnbpcookemilaa", sum := "c255bd473b7386c0870fd0fd2b088173935daa3ed576517b2f7e8be59d2560e8", func := "loop.example/g01350/laws.FnExactTwoThumbs", spec := "fnExactTwoThumbs", inPlace := ["internal/bytealg.IndexByteString", "internal/bytealg.IndexString"], unfollowed := true, recurses := true, named := ["internal/bytealg.MaxLen"], plainKeys := false, apart := false, narrowed := true }
def FnExactTwoThumbsUptoSaid : Prop := fnExactTwoThumbsUptoRow.holds Try.pinned (OpenSpec.upto fnExactTwoThumbsSpec)

/-- 'laws.FnExactFirstThumbs', WHERE WHAT IT READS IS OF BULK AT MOST 1048576: true; the input reads as it did. -/
def fnExactFirstThumbsUptoRow : OpenClaim := { program := "ytnnbpcookemilaa", sum := "c255bd473b7386c0870fd0fd2b088173935daa3ed576517b2f7e8be59d2560e8", func := "loop.example/g01350/laws.FnExactFirstThumbs", spec := "fnExactFirstThumbs", inPlace := ["internal/bytealg.IndexByteString", "internal/bytealg.IndexString"], unfollowed := true, recurses := true, named := ["internal/bytealg.MaxLen"], plainKeys := false, apart := false, narrowed := true }
def FnExactFirstThumbsUptoSaid : Prop := fnExactFirstThumbsUptoRow.holds Try.pinned (OpenSpec.upto fnExactFirstThumbsSpec)

/-- 'laws.FnExactCountThumbs', WHERE WHAT IT READS IS OF BULK AT MOST 1048576: true; the input reads as it did. -/
def fnExactCountThumbsUptoRow : OpenClaim := { program := "ytnnbpcookemilaa", sum := "c255bd473b7386c0870fd0fd2b088173935daa3ed576517b2f7e8be59d2560e8", func := "loop.example/g01350/laws.FnExactCountThumbs", spec := "fnExactCountThumbs", inPlace := ["internal/bytealg.IndexByteString", "internal/bytealg.IndexString"], unfollowed := true, recurses := true, named := ["internal/bytealg.MaxLen"], plainKeys := false, apart := false, narrowed := true }
def FnExactCountThumbsUptoSaid : Prop := fnExactCountThumbsUptoRow.holds Try.pinned (OpenSpec.upto fnExactCountThumbsSpec)

/-- 'laws.FnExactThumbPlan', WHERE WHAT IT READS IS OF BULK AT MOST 1048576: true; the input reads as it did. -/
def fnExactThumbPlanUptoRow : OpenClaim := { program := "ytnnbpcookemilaa", sum := "c255bd473b7386c0870fd0fd2b088173935daa3ed576517b2f7e8be59d2560e8", func := "loop.example/g01350/laws.FnExactThumbPlan", spec := "fnExactThumbPlan", inPlace := ["internal/bytealg.IndexByteString", "internal/bytealg.IndexString"], unfollowed := true, recurses := true, named := ["internal/bytealg.MaxLen"], plainKeys := false, apart := false, narrowed := true }
def FnExactThumbPlanUptoSaid : Prop := fnExactThumbPlanUptoRow.holds Try.pinned (OpenSpec.upto fnExactThumbPlanSpec)

/-- 'laws.FnExactBestStart', WHERE WHAT IT READS IS OF BULK AT MOST 1048576: true; the input reads as it did. -/
def fnExactBestStartUptoRow : OpenClaim := { program := "ytnnbpcookemilaa", sum := "c255bd473b7386c0870fd0fd2b088173935daa3ed576517b2f7e8be59d2560e8", func := "loop.example/g01350/laws.FnExactBestStart", spec := "fnExactBestStart", inPlace := ["internal/bytealg.IndexByteString", "internal/bytealg.IndexString"], unfollowed := true, recurses := true, named := ["internal/bytealg.MaxLen"], plainKeys := false, apart := false, narrowed := true }
def FnExactBestStartUptoSaid : Prop := fnExactBestStartUptoRow.holds Try.pinned (OpenSpec.upto fnExactBestStartSpec)

/-- 'laws.FnExactBestStarts', WHERE WHAT IT READS IS OF BULK AT MOST 1048576: true; the input reads as it did. -/
def fnExactBestStartsUptoRow : OpenClaim := { program := "ytnnbpcookemilaa", sum := "c255bd473b7386c0870fd0fd2b088173935daa3ed576517b2f7e8be59d2560e8", func := "loop.example/g01350/laws.FnExactBestStarts", spec := "fnExactBestStarts", inPlace := ["internal/bytealg.IndexByteString", "internal/bytealg.IndexString"], unfollowed := true, recurses := true, named := ["internal/bytealg.MaxLen"], plainKeys := false, apart := false, narrowed := true }
def FnExactBestStartsUptoSaid : Prop := fnExactBestStartsUptoRow.holds Try.pinned (OpenSpec.upto fnExactBestStartsSpec)

/-- 'laws.FnExactMovesOf', WHERE WHAT IT READS IS OF BULK AT MOST 1048576: true; the input reads as it did. -/
def fnExactMovesOfUptoRow : OpenClaim := { program := "ytnnbpcookemilaa", sum := "c255bd473b7386c0870fd0fd2b088173935daa3ed576517b2f7e8be59d2560e8", func := "loop.example/g01350/laws.FnExactMovesOf", spec := "fnExactMovesOf", inPlace := ["internal/bytealg.IndexByteString", "internal/bytealg.IndexString", "internal/abi.NoEscape", "internal/bytealg.MakeNoZero"], named := ["internal/bytealg.MaxLen"], plainKeys := false, apart := false, narrowed := true }
def FnExactMovesOfUptoSaid : Prop := fnExactMovesOfUptoRow.holds Try.pinned (OpenSpec.upto fnExactMovesOfSpec)

/-- 'laws.FnExactKeysOfMoves', WHERE WHAT IT READS IS OF BULK AT MOST 1048576: true; the input reads as it did. -/
def fnExactKeysOfMovesUptoRow : OpenClaim := { program := "ytnnbpcookemilaa", sum := "c255bd473b7386c0870fd0fd2b088173935daa3ed576517b2f7e8be59d2560e8", func := "loop.example/g01350/laws.FnExactKeysOfMoves", spec := "fnExactKeysOfMoves", inPlace := ["internal/bytealg.IndexByteString", "internal/bytealg.IndexString", "internal/abi.NoEscape"], named := ["internal/bytealg.MaxLen"], plainKeys := false, apart := false, narrowed := true }
def FnExactKeysOfMovesUptoSaid : Prop := fnExactKeysOfMovesUptoRow.holds Try.pinned (OpenSpec.upto fnExactKeysOfMovesSpec)

/-- 'laws.FnExactLeastOrder', WHERE WHAT IT READS IS OF BULK AT MOST 1048576: true; the input reads as it did. -/
def fnExactLeastOrderUptoRow : OpenClaim := { program := "ytnnbpcookemilaa", sum := "c255bd473b7386c0870fd0fd2b088173935daa3ed576517b2f7e8be59d2560e8", func := "loop.example/g01350/laws.FnExactLeastOrder", spec := "fnExactLeastOrder", inPlace := ["internal/bytealg.IndexByteString", "internal/bytealg.IndexString", "internal/abi.NoEscape"], unfollowed := true, recurses := true, named := ["internal/bytealg.MaxLen"], plainKeys := false, apart := false, narrowed := true }
def FnExactLeastOrderUptoSaid : Prop := fnExactLeastOrderUptoRow.holds Try.pinned (OpenSpec.upto fnExactLeastOrderSpec)

end Rows
end Go.Proofs.Ytnnbpcookemilaa
