/-
  No cell of these rows narrows 'for every input' (looked for: loops, veiled, ifaces, maps, wideKeys, modest, calm, conditions, laid).
  DERIVED. THE GIVEN ROWS OF THIS SEAT. 12 by the template 'for every input the law returns true; each argument reads behind the call as it read before'; 0 by the template 'total and deterministic' (their statements: YtinojlbnmnlmhaaTotals.lean).
  GIVEN WITH THE SEED: the statements are not yours to turn. If you find one false, say at which input.
  Laid BY PROGRAM, IN A SANDBOX (cutbox-rows.mjs): the forced cells as the released guide's own fill.sh prints them over the translation 5bd86ccaf6d5b735… (all of the seat's roots in one cut). By AI agents, Wed Nov 11 2026. No macro, syntax, notation, axiom, sorry.
-/
import Derived.Test.YtinojlbnmnlmhaaChecked
import GoSem.Claim
import GoSem.ClaimJoined
import GoSem.ClaimMapViews
import Derived.JoinedTies
import Derived.KernelRfl
namespace Go.Proofs.Ytinojlbnmnlmhaa
/- THE CELL 'sum', in the pinned program and in every row, IS THE sha256 OF THE DUMP (.gsa) THAT YtinojlbnmnlmhaaProg.lean LOADS. Nothing in Lean hashes anything: it is a label: what it is worth is what the hold of that sum in a sandbox is worth. -/
noncomputable def Try.pinned : Pinned := { name := "ytinojlbnmnlmhaa", sum := "5bd86ccaf6d5b735754c43540210ebb5fd4a3fe9a344abad60eeb9ca07b6613c", checked := Try.checked }
namespace Rows
def none {H : Type} : Left H := { results := [], args := [] }

/-- 'laws.FnExactIsCodePlan': WHATEVER THE INPUT: true; the input reads as it did. -/
def fnExactIsCodePlanSpec : ChangeSpec := { name := "fnExactIsCodePlan", fn := fun _ => fun
  | [d] => { results := [.lit (.bool true)], args := [d] }
  | _ => none }
def fnExactIsCodePlanRow : OpenClaim := { program := "ytinojlbnmnlmhaa", sum := "5bd86ccaf6d5b735754c43540210ebb5fd4a3fe9a344abad60eeb9ca07b6613c", func := "loop.example/g01350/laws.FnExactIsCodePlan", spec := "fnExactIsCodePlan", inPlace := ["internal/bytealg.IndexByteString"], unfollowed := true, recurses := true, apart := false }
def FnExactIsCodePlanSaid : Prop := fnExactIsCodePlanRow.holds Try.pinned (OpenSpec.ofChange fnExactIsCodePlanSpec)

/-- ITS FALSE NEIGHBOUR: 'it returns false'. Refute it at one input. -/
def fnExactIsCodePlanWrong : ChangeSpec := { name := "fnExactIsCodePlan", fn := fun _ => fun
  | [d] => { results := [.lit (.bool false)], args := [d] }
  | _ => none }
def FnExactIsCodePlanWrongFalsely : Prop := fnExactIsCodePlanRow.holds Try.pinned (OpenSpec.ofChange fnExactIsCodePlanWrong)

/-- 'laws.FnExactMakePlan': WHATEVER THE INPUT: true; the input reads as it did. -/
def fnExactMakePlanSpec : ChangeSpec := { name := "fnExactMakePlan", fn := fun _ => fun
  | [d] => { results := [.lit (.bool true)], args := [d] }
  | _ => none }
def fnExactMakePlanRow : OpenClaim := { program := "ytinojlbnmnlmhaa", sum := "5bd86ccaf6d5b735754c43540210ebb5fd4a3fe9a344abad60eeb9ca07b6613c", func := "loop.example/g01350/laws.FnExactMakePlan", spec := "fnExactMakePlan", inPlace := ["internal/bytealg.IndexByteString"], unfollowed := true, recurses := true, apart := false }
def FnExactMakePlanSaid : Prop := fnExactMakePlanRow.holds Try.pinned (OpenSpec.ofChange fnExactMakePlanSpec)

/-- ITS FALSE NEIGHBOUR: 'it returns false'. Refute it at one input. -/
def fnExactMakePlanWrong : ChangeSpec := { name := "fnExactMakePlan", fn := fun _ => fun
  | [d] => { results := [.lit (.bool false)], args := [d] }
  | _ => none }
def FnExactMakePlanWrongFalsely : Prop := fnExactMakePlanRow.holds Try.pinned (OpenSpec.ofChange fnExactMakePlanWrong)

/-- 'laws.FnExactConflictsOf': WHATEVER THE INPUT: true; the input reads as it did. -/
def fnExactConflictsOfSpec : ChangeSpec := { name := "fnExactConflictsOf", fn := fun _ => fun
  | [d] => { results := [.lit (.bool true)], args := [d] }
  | _ => none }
def fnExactConflictsOfRow : OpenClaim := { program := "ytinojlbnmnlmhaa", sum := "5bd86ccaf6d5b735754c43540210ebb5fd4a3fe9a344abad60eeb9ca07b6613c", func := "loop.example/g01350/laws.FnExactConflictsOf", spec := "fnExactConflictsOf", inPlace := ["internal/bytealg.IndexByteString"], unfollowed := true, recurses := true, apart := false }
def FnExactConflictsOfSaid : Prop := fnExactConflictsOfRow.holds Try.pinned (OpenSpec.ofChange fnExactConflictsOfSpec)

/-- ITS FALSE NEIGHBOUR: 'it returns false'. Refute it at one input. -/
def fnExactConflictsOfWrong : ChangeSpec := { name := "fnExactConflictsOf", fn := fun _ => fun
  | [d] => { results := [.lit (.bool false)], args := [d] }
  | _ => none }
def FnExactConflictsOfWrongFalsely : Prop := fnExactConflictsOfRow.holds Try.pinned (OpenSpec.ofChange fnExactConflictsOfWrong)

/-- 'laws.FnExactAreaOf': WHATEVER THE INPUT: true; the input reads as it did. -/
def fnExactAreaOfSpec : ChangeSpec := { name := "fnExactAreaOf", fn := fun _ => fun
  | [d1, d2] => { results := [.lit (.bool true)], args := [d1, d2] }
  | _ => none }
def fnExactAreaOfRow : OpenClaim := { program := "ytinojlbnmnlmhaa", sum := "5bd86ccaf6d5b735754c43540210ebb5fd4a3fe9a344abad60eeb9ca07b6613c", func := "loop.example/g01350/laws.FnExactAreaOf", spec := "fnExactAreaOf", inPlace := ["internal/bytealg.IndexByteString"], unfollowed := true, recurses := true, apart := false }
def FnExactAreaOfSaid : Prop := fnExactAreaOfRow.holds Try.pinned (OpenSpec.ofChange fnExactAreaOfSpec)

/-- ITS FALSE NEIGHBOUR: 'it returns false'. Refute it at one input. -/
def fnExactAreaOfWrong : ChangeSpec := { name := "fnExactAreaOf", fn := fun _ => fun
  | [d1, d2] => { results := [.lit (.bool false)], args := [d1, d2] }
  | _ => none }
def FnExactAreaOfWrongFalsely : Prop := fnExactAreaOfRow.holds Try.pinned (OpenSpec.ofChange fnExactAreaOfWrong)

/-- 'laws.FnExactSharedStart': WHATEVER THE INPUT: true; the input reads as it did. -/
def fnExactSharedStartSpec : ChangeSpec := { name := "fnExactSharedStart", fn := fun _ => fun
  | [d1, d2] => { results := [.lit (.bool true)], args := [d1, d2] }
  | _ => none }
def fnExactSharedStartRow : OpenClaim := { program := "ytinojlbnmnlmhaa", sum := "5bd86ccaf6d5b735754c43540210ebb5fd4a3fe9a344abad60eeb9ca07b6613c", func := "loop.example/g01350/laws.FnExactSharedStart", spec := "fnExactSharedStart", inPlace := ["internal/bytealg.IndexByteString"], apart := false }
def FnExactSharedStartSaid : Prop := fnExactSharedStartRow.holds Try.pinned (OpenSpec.ofChange fnExactSharedStartSpec)

/-- ITS FALSE NEIGHBOUR: 'it returns false'. Refute it at one input. -/
def fnExactSharedStartWrong : ChangeSpec := { name := "fnExactSharedStart", fn := fun _ => fun
  | [d1, d2] => { results := [.lit (.bool false)], args := [d1, d2] }
  | _ => none }
def FnExactSharedStartWrongFalsely : Prop := fnExactSharedStartRow.holds Try.pinned (OpenSpec.ofChange fnExactSharedStartWrong)

/-- 'laws.FnExactNumbersIn': WHATEVER THE INPUT: true; the input reads as it did. -/
def fnExactNumbersInSpec : ChangeSpec := { name := "fnExactNumbersIn", fn := fun _ => fun
  | [d1, d2, d3] => { results := [.lit (.bool true)], args := [d1, d2, d3] }
  | _ => none }
def fnExactNumbersInRow : OpenClaim := { program := "ytinojlbnmnlmhaa", sum := "5bd86ccaf6d5b735754c43540210ebb5fd4a3fe9a344abad60eeb9ca07b6613c", func := "loop.example/g01350/laws.FnExactNumbersIn", spec := "fnExactNumbersIn", inPlace := ["internal/bytealg.IndexByteString"], unfollowed := true, recurses := true, apart := false }
def FnExactNumbersInSaid : Prop := fnExactNumbersInRow.holds Try.pinned (OpenSpec.ofChange fnExactNumbersInSpec)

/-- ITS FALSE NEIGHBOUR: 'it returns false'. Refute it at one input. -/
def fnExactNumbersInWrong : ChangeSpec := { name := "fnExactNumbersIn", fn := fun _ => fun
  | [d1, d2, d3] => { results := [.lit (.bool false)], args := [d1, d2, d3] }
  | _ => none }
def FnExactNumbersInWrongFalsely : Prop := fnExactNumbersInRow.holds Try.pinned (OpenSpec.ofChange fnExactNumbersInWrong)

/-- 'laws.FnExactLengthsOf': WHATEVER THE INPUT: true; the input reads as it did. -/
def fnExactLengthsOfSpec : ChangeSpec := { name := "fnExactLengthsOf", fn := fun _ => fun
  | [d] => { results := [.lit (.bool true)], args := [d] }
  | _ => none }
def fnExactLengthsOfRow : OpenClaim := { program := "ytinojlbnmnlmhaa", sum := "5bd86ccaf6d5b735754c43540210ebb5fd4a3fe9a344abad60eeb9ca07b6613c", func := "loop.example/g01350/laws.FnExactLengthsOf", spec := "fnExactLengthsOf", inPlace := ["internal/bytealg.IndexByteString"], unfollowed := true, recurses := true, apart := false }
def FnExactLengthsOfSaid : Prop := fnExactLengthsOfRow.holds Try.pinned (OpenSpec.ofChange fnExactLengthsOfSpec)

/-- ITS FALSE NEIGHBOUR: 'it returns false'. Refute it at one input. -/
def fnExactLengthsOfWrong : ChangeSpec := { name := "fnExactLengthsOf", fn := fun _ => fun
  | [d] => { results := [.lit (.bool false)], args := [d] }
  | _ => none }
def FnExactLengthsOfWrongFalsely : Prop := fnExactLengthsOfRow.holds Try.pinned (OpenSpec.ofChange fnExactLengthsOfWrong)

/-- 'laws.FnExactArePossible': WHATEVER THE INPUT: true; the input reads as it did. -/
def fnExactArePossibleSpec : ChangeSpec := { name := "fnExactArePossible", fn := fun _ => fun
  | [d] => { results := [.lit (.bool true)], args := [d] }
  | _ => none }
def fnExactArePossibleRow : OpenClaim := { program := "ytinojlbnmnlmhaa", sum := "5bd86ccaf6d5b735754c43540210ebb5fd4a3fe9a344abad60eeb9ca07b6613c", func := "loop.example/g01350/laws.FnExactArePossible", spec := "fnExactArePossible", unfollowed := true, recurses := true, apart := false }
def FnExactArePossibleSaid : Prop := fnExactArePossibleRow.holds Try.pinned (OpenSpec.ofChange fnExactArePossibleSpec)

/-- ITS FALSE NEIGHBOUR: 'it returns false'. Refute it at one input. -/
def fnExactArePossibleWrong : ChangeSpec := { name := "fnExactArePossible", fn := fun _ => fun
  | [d] => { results := [.lit (.bool false)], args := [d] }
  | _ => none }
def FnExactArePossibleWrongFalsely : Prop := fnExactArePossibleRow.holds Try.pinned (OpenSpec.ofChange fnExactArePossibleWrong)

/-- 'laws.FnExactPartOf': WHATEVER THE INPUT: true; the input reads as it did. -/
def fnExactPartOfSpec : ChangeSpec := { name := "fnExactPartOf", fn := fun _ => fun
  | [d] => { results := [.lit (.bool true)], args := [d] }
  | _ => none }
def fnExactPartOfRow : OpenClaim := { program := "ytinojlbnmnlmhaa", sum := "5bd86ccaf6d5b735754c43540210ebb5fd4a3fe9a344abad60eeb9ca07b6613c", func := "loop.example/g01350/laws.FnExactPartOf", spec := "fnExactPartOf", inPlace := ["internal/bytealg.IndexByteString"], unfollowed := true, recurses := true, apart := false }
def FnExactPartOfSaid : Prop := fnExactPartOfRow.holds Try.pinned (OpenSpec.ofChange fnExactPartOfSpec)

/-- ITS FALSE NEIGHBOUR: 'it returns false'. Refute it at one input. -/
def fnExactPartOfWrong : ChangeSpec := { name := "fnExactPartOf", fn := fun _ => fun
  | [d] => { results := [.lit (.bool false)], args := [d] }
  | _ => none }
def FnExactPartOfWrongFalsely : Prop := fnExactPartOfRow.holds Try.pinned (OpenSpec.ofChange fnExactPartOfWrong)

/-- 'laws.FnExactAddCode': WHATEVER THE INPUT: true; the input reads as it did. -/
def fnExactAddCodeSpec : ChangeSpec := { name := "fnExactAddCode", fn := fun _ => fun
  | [d1, d2] => { results := [.lit (.bool true)], args := [d1, d2] }
  | _ => none }
def fnExactAddCodeRow : OpenClaim := { program := "ytinojlbnmnlmhaa", sum := "5bd86ccaf6d5b735754c43540210ebb5fd4a3fe9a344abad60eeb9ca07b6613c", func := "loop.example/g01350/laws.FnExactAddCode", spec := "fnExactAddCode", inPlace := ["internal/bytealg.IndexByteString"], unfollowed := true, recurses := true, apart := false }
def FnExactAddCodeSaid : Prop := fnExactAddCodeRow.holds Try.pinned (OpenSpec.ofChange fnExactAddCodeSpec)

/-- ITS FALSE NEIGHBOUR: 'it returns false'. Refute it at one input. -/
def fnExactAddCodeWrong : ChangeSpec := { name := "fnExactAddCode", fn := fun _ => fun
  | [d1, d2] => { results := [.lit (.bool false)], args := [d1, d2] }
  | _ => none }
def FnExactAddCodeWrongFalsely : Prop := fnExactAddCodeRow.holds Try.pinned (OpenSpec.ofChange fnExactAddCodeWrong)

/-- 'laws.FnExactJoinCodes': WHATEVER THE INPUT: true; the input reads as it did. -/
def fnExactJoinCodesSpec : ChangeSpec := { name := "fnExactJoinCodes", fn := fun _ => fun
  | [d1, d2] => { results := [.lit (.bool true)], args := [d1, d2] }
  | _ => none }
def fnExactJoinCodesRow : OpenClaim := { program := "ytinojlbnmnlmhaa", sum := "5bd86ccaf6d5b735754c43540210ebb5fd4a3fe9a344abad60eeb9ca07b6613c", func := "loop.example/g01350/laws.FnExactJoinCodes", spec := "fnExactJoinCodes", inPlace := ["internal/bytealg.IndexByteString"], unfollowed := true, recurses := true, apart := false }
def FnExactJoinCodesSaid : Prop := fnExactJoinCodesRow.holds Try.pinned (OpenSpec.ofChange fnExactJoinCodesSpec)

/-- ITS FALSE NEIGHBOUR: 'it returns false'. Refute it at one input. -/
def fnExactJoinCodesWrong : ChangeSpec := { name := "fnExactJoinCodes", fn := fun _ => fun
  | [d1, d2] => { results := [.lit (.bool false)], args := [d1, d2] }
  | _ => none }
def FnExactJoinCodesWrongFalsely : Prop := fnExactJoinCodesRow.holds Try.pinned (OpenSpec.ofChange fnExactJoinCodesWrong)

/-- 'laws.FnExactDropCode': WHATEVER THE INPUT: true; the input reads as it did. -/
def fnExactDropCodeSpec : ChangeSpec := { name := "fnExactDropCode", fn := fun _ => fun
  | [d1, d2] => { results := [.lit (.bool true)], args := [d1, d2] }
  | _ => none }
def fnExactDropCodeRow : OpenClaim := { program := "ytinojlbnmnlmhaa", sum := "5bd86ccaf6d5b735754c43540210ebb5fd4a3fe9a344abad60eeb9ca07b6613c", func := "loop.example/g01350/laws.FnExactDropCode", spec := "fnExactDropCode", inPlace := ["internal/bytealg.IndexByteString"], unfollowed := true, recurses := true, apart := false }
def FnExactDropCodeSaid : Prop := fnExactDropCodeRow.holds Try.pinned (OpenSpec.ofChange fnExactDropCodeSpec)

/-- ITS FALSE NEIGHBOUR: 'it returns false'. Refute it at one input. -/
def fnExactDropCodeWrong : ChangeSpec := { name := "fnExactDropCode", fn := fun _ => fun
  | [d1, d2] => { results := [.lit (.bool false)], args := [d1, d2] }
  | _ => none }
def FnExactDropCodeWrongFalsely : Prop := fnExactDropCodeRow.holds Try.pinned (OpenSpec.ofChange fnExactDropCodeWrong)

/- THE SECOND FORM. 'bulk': how many values and letters a reading holds, each counted each time it is reached (what is shared counts as often as it is met; a slice's spare places count too). A statement '..UptoSaid' is the law's where the arguments, and the package variables that the reading takes, are together of bulk at most 1048576: NARROWER than '..Said'. Prove '..Said' where nothing that the law and all that it calls make is longer than what came in: it says more and counts as full. Else prove '..UptoSaid'. A law counts once. -/
mutual
def uptoBulk {H : Type} : DataW H → Nat
  | .lit (.string bytes) => bytes.length + 1
  | .lit _ => 1
  | .nil => 1
  | .ptr d => uptoBulk d + 1
  | .slice elems spare => uptoBulkAll elems + uptoBulkAll spare + 1
  | .agg parts => uptoBulkAll parts + 1
  | .iface _ d => uptoBulk d + 1
  | .map entries => uptoBulkEntries entries + 1
  | .held _ => 1
def uptoBulkAll {H : Type} : List (DataW H) → Nat
  | [] => 0
  | d :: r => uptoBulk d + uptoBulkAll r
def uptoBulkEntries {H : Type} : List (Lit × DataW H) → Nat
  | [] => 0
  | x :: r => uptoBulkEntry x + uptoBulkEntries r
def uptoBulkEntry {H : Type} : Lit × DataW H → Nat
  | (.string bytes, d) => bytes.length + uptoBulk d + 1
  | (_, d) => uptoBulk d + 1
 end
def uptoSmall : (H : Type) → List (DataW H) → Bool := fun _ ds => decide (uptoBulkAll ds ≤ 1048576)
def OpenSpec.upto (s : _root_.Go.ChangeSpec) : _root_.Go.OpenSpec := { _root_.Go.OpenSpec.ofChange s with cond := some uptoSmall }

/-- 'laws.FnExactIsCodePlan', WHERE WHAT IT READS IS OF BULK AT MOST 1048576: true; the input reads as it did. -/
def fnExactIsCodePlanUptoRow : OpenClaim := { program := "ytinojlbnmnlmhaa", sum := "5bd86ccaf6d5b735754c43540210ebb5fd4a3fe9a344abad60eeb9ca07b6613c", func := "loop.example/g01350/laws.FnExactIsCodePlan", spec := "fnExactIsCodePlan", inPlace := ["internal/bytealg.IndexByteString"], unfollowed := true, recurses := true, apart := false, narrowed := true }
def FnExactIsCodePlanUptoSaid : Prop := fnExactIsCodePlanUptoRow.holds Try.pinned (OpenSpec.upto fnExactIsCodePlanSpec)

/-- 'laws.FnExactMakePlan', WHERE WHAT IT READS IS OF BULK AT MOST 1048576: true; the input reads as it did. -/
def fnExactMakePlanUptoRow : OpenClaim := { program := "ytinojlbnmnlmhaa", sum := "5bd86ccaf6d5b735754c43540210ebb5fd4a3fe9a344abad60eeb9ca07b6613c", func := "loop.example/g01350/laws.FnExactMakePlan", spec := "fnExactMakePlan", inPlace := ["internal/bytealg.IndexByteString"], unfollowed := true, recurses := true, apart := false, narrowed := true }
def FnExactMakePlanUptoSaid : Prop := fnExactMakePlanUptoRow.holds Try.pinned (OpenSpec.upto fnExactMakePlanSpec)

/-- 'laws.FnExactConflictsOf', WHERE WHAT IT READS IS OF BULK AT MOST 1048576: true; the input reads as it did. -/
def fnExactConflictsOfUptoRow : OpenClaim := { program := "ytinojlbnmnlmhaa", sum := "5bd86ccaf6d5b735754c43540210ebb5fd4a3fe9a344abad60eeb9ca07b6613c", func := "loop.example/g01350/laws.FnExactConflictsOf", spec := "fnExactConflictsOf", inPlace := ["internal/bytealg.IndexByteString"], unfollowed := true, recurses := true, apart := false, narrowed := true }
def FnExactConflictsOfUptoSaid : Prop := fnExactConflictsOfUptoRow.holds Try.pinned (OpenSpec.upto fnExactConflictsOfSpec)

/-- 'laws.FnExactAreaOf', WHERE WHAT IT READS IS OF BULK AT MOST 1048576: true; the input reads as it did. -/
def fnExactAreaOfUptoRow : OpenClaim := { program := "ytinojlbnmnlmhaa", sum := "5bd86ccaf6d5b735754c43540210ebb5fd4a3fe9a344abad60eeb9ca07b6613c", func := "loop.example/g01350/laws.FnExactAreaOf", spec := "fnExactAreaOf", inPlace := ["internal/bytealg.IndexByteString"], unfollowed := true, recurses := true, apart := false, narrowed := true }
def FnExactAreaOfUptoSaid : Prop := fnExactAreaOfUptoRow.holds Try.pinned (OpenSpec.upto fnExactAreaOfSpec)

/-- 'laws.FnExactSharedStart', WHERE WHAT IT READS IS OF BULK AT MOST 1048576: true; the input reads as it did. -/
def fnExactSharedStartUptoRow : OpenClaim := { program := "ytinojlbnmnlmhaa", sum := "5bd86ccaf6d5b735754c43540210ebb5fd4a3fe9a344abad60eeb9ca07b6613c", func := "loop.example/g01350/laws.FnExactSharedStart", spec := "fnExactSharedStart", inPlace := ["internal/bytealg.IndexByteString"], apart := false, narrowed := true }
def FnExactSharedStartUptoSaid : Prop := fnExactSharedStartUptoRow.holds Try.pinned (OpenSpec.upto fnExactSharedStartSpec)

/-- 'laws.FnExactNumbersIn', WHERE WHAT IT READS IS OF BULK AT MOST 1048576: true; the input reads as it did. -/
def fnExactNumbersInUptoRow : OpenClaim := { program := "ytinojlbnmnlmhaa", sum := "5bd86ccaf6d5b735754c43540210ebb5fd4a3fe9a344abad60eeb9ca07b6613c", func := "loop.example/g01350/laws.FnExactNumbersIn", spec := "fnExactNumbersIn", inPlace := ["internal/bytealg.IndexByteString"], unfollowed := true, recurses := true, apart := false, narrowed := true }
def FnExactNumbersInUptoSaid : Prop := fnExactNumbersInUptoRow.holds Try.pinned (OpenSpec.upto fnExactNumbersInSpec)

/-- 'laws.FnExactLengthsOf', WHERE WHAT IT READS IS OF BULK AT MOST 1048576: true; the input reads as it did. -/
def fnExactLengthsOfUptoRow : OpenClaim := { program := "ytinojlbnmnlmhaa", sum := "5bd86ccaf6d5b735754c43540210ebb5fd4a3fe9a344abad60eeb9ca07b6613c", func := "loop.example/g01350/laws.FnExactLengthsOf", spec := "fnExactLengthsOf", inPlace := ["internal/bytealg.IndexByteString"], unfollowed := true, recurses := true, apart := false, narrowed := true }
def FnExactLengthsOfUptoSaid : Prop := fnExactLengthsOfUptoRow.holds Try.pinned (OpenSpec.upto fnExactLengthsOfSpec)

/-- 'laws.FnExactArePossible', WHERE WHAT IT READS IS OF BULK AT MOST 1048576: true; the input reads as it did. -/
def fnExactArePossibleUptoRow : OpenClaim := { program := "ytinojlbnmnlmhaa", sum := "5bd86ccaf6d5b735754c43540210ebb5fd4a3fe9a344abad60eeb9ca07b6613c", func := "loop.example/g01350/laws.FnExactArePossible", spec := "fnExactArePossible", unfollowed := true, recurses := true, apart := false, narrowed := true }
def FnExactArePossibleUptoSaid : Prop := fnExactArePossibleUptoRow.holds Try.pinned (OpenSpec.upto fnExactArePossibleSpec)

/-- 'laws.FnExactPartOf', WHERE WHAT IT READS IS OF BULK AT MOST 1048576: true; the input reads as it did. -/
def fnExactPartOfUptoRow : OpenClaim := { program := "ytinojlbnmnlmhaa", sum := "5bd86ccaf6d5b735754c43540210ebb5fd4a3fe9a344abad60eeb9ca07b6613c", func := "loop.example/g01350/laws.FnExactPartOf", spec := "fnExactPartOf", inPlace := ["internal/bytealg.IndexByteString"], unfollowed := true, recurses := true, apart := false, narrowed := true }
def FnExactPartOfUptoSaid : Prop := fnExactPartOfUptoRow.holds Try.pinned (OpenSpec.upto fnExactPartOfSpec)

/-- 'laws.FnExactAddCode', WHERE WHAT IT READS IS OF BULK AT MOST 1048576: true; the input reads as it did. -/
def fnExactAddCodeUptoRow : OpenClaim := { program := "ytinojlbnmnlmhaa", sum := "5bd86ccaf6d5b735754c43540210ebb5fd4a3fe9a344abad60eeb9ca07b6613c", func := "loop.example/g01350/laws.FnExactAddCode", spec := "fnExactAddCode", inPlace := ["internal/bytealg.IndexByteString"], unfollowed := true, recurses := true, apart := false, narrowed := true }
def FnExactAddCodeUptoSaid : Prop := fnExactAddCodeUptoRow.holds Try.pinned (OpenSpec.upto fnExactAddCodeSpec)

/-- 'laws.FnExactJoinCodes', WHERE WHAT IT READS IS OF BULK AT MOST 1048576: true; the input reads as it did. -/
def fnExactJoinCodesUptoRow : OpenClaim := { program := "ytinojlbnmnlmhaa", sum := "5bd86ccaf6d5b735754c43540210ebb5fd4a3fe9a344abad60eeb9ca07b6613c", func := "loop.example/g01350/laws.FnExactJoinCodes", spec := "fnExactJoinCodes", inPlace := ["internal/bytealg.IndexByteString"], unfollowed := true, recurses := true, apart := false, narrowed := true }
def FnExactJoinCodesUptoSaid : Prop := fnExactJoinCodesUptoRow.holds Try.pinned (OpenSpec.upto fnExactJoinCodesSpec)

/-- 'laws.FnExactDropCode', WHERE WHAT IT READS IS OF BULK AT MOST 1048576: true; the input reads as it did. -/
def fnExactDropCodeUptoRow : OpenClaim := { program := "ytinojlbnmnlmhaa", sum := "5bd86ccaf6d5b735754c43540210ebb5fd4a3fe9a344abad60eeb9ca07b6613c", func := "loop.example/g01350/laws.FnExactDropCode", spec := "fnExactDropCode", inPlace := ["internal/bytealg.IndexByteString"], unfollowed := true, recurses := true, apart := false, narrowed := true }
def FnExactDropCodeUptoSaid : Prop := fnExactDropCodeUptoRow.holds Try.pinned (OpenSpec.upto fnExactDropCodeSpec)

end Rows
end Go.Proofs.Ytinojlbnmnlmhaa
