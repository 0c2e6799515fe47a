/-
  No cell of these rows narrows 'for every input' (looked for: loops, veiled, ifaces, maps, wideKeys, modest, calm, conditions, laid).
  DERIVED. THE GIVEN ROWS OF THIS SEAT. 12 by the template 'for every input the law returns true; each argument reads behind the call as it read before'; 0 by the template 'total and deterministic' (their statements: YtnoidabmbckfkaaTotals.lean).
  GIVEN WITH THE SEED: the statements are not yours to turn. If you find one false, say at which input.
  Laid BY PROGRAM, IN A SANDBOX (cutbox-rows.mjs): the forced cells as the released guide's own fill.sh prints them over the translation ae32a04bcf6babc5… (all of the seat's roots in one cut). By AI agents, Wed Nov 11 2026. No macro, syntax, notation, axiom, sorry.
-/
import Derived.Test.YtnoidabmbckfkaaChecked
import GoSem.Claim
import GoSem.ClaimJoined
import GoSem.ClaimMapViews
import Derived.JoinedTies
import Derived.KernelRfl
namespace Go.Proofs.Ytnoidabmbckfkaa
/- THE CELL 'sum', in the pinned program and in every row, IS THE sha256 OF THE DUMP (.gsa) THAT YtnoidabmbckfkaaProg.lean LOADS. Nothing in Lean hashes anything: it is a label: what it is worth is what the hold of that sum in a sandbox is worth. -/
noncomputable def Try.pinned : Pinned := { name := "ytnoidabmbckfkaa", sum := "ae32a04bcf6babc52c259af69fe055cf2eb0c17ff1f3885290a2e474e0a792fb", checked := Try.checked }
namespace Rows
def none {H : Type} : Left H := { results := [], args := [] }

/-- 'laws.FnExactApplyTypos': WHATEVER THE INPUT: true; the input reads as it did. -/
def fnExactApplyTyposSpec : ChangeSpec := { name := "fnExactApplyTypos", fn := fun _ => fun
  | [d1, d2, d3] => { results := [.lit (.bool true)], args := [d1, d2, d3] }
  | _ => none }
def fnExactApplyTyposRow : OpenClaim := { program := "ytnoidabmbckfkaa", sum := "ae32a04bcf6babc52c259af69fe055cf2eb0c17ff1f3885290a2e474e0a792fb", func := "loop.example/g01350/laws.FnExactApplyTypos", spec := "fnExactApplyTypos", apart := false }
def FnExactApplyTyposSaid : Prop := fnExactApplyTyposRow.holds Try.pinned (OpenSpec.ofChange fnExactApplyTyposSpec)

/-- ITS FALSE NEIGHBOUR: 'it returns false'. Refute it at one input. -/
def fnExactApplyTyposWrong : ChangeSpec := { name := "fnExactApplyTypos", fn := fun _ => fun
  | [d1, d2, d3] => { results := [.lit (.bool false)], args := [d1, d2, d3] }
  | _ => none }
def FnExactApplyTyposWrongFalsely : Prop := fnExactApplyTyposRow.holds Try.pinned (OpenSpec.ofChange fnExactApplyTyposWrong)

/-- 'laws.FnExactCollapseText': WHATEVER THE INPUT: true; the input reads as it did. -/
def fnExactCollapseTextSpec : ChangeSpec := { name := "fnExactCollapseText", fn := fun _ => fun
  | [d] => { results := [.lit (.bool true)], args := [d] }
  | _ => none }
def fnExactCollapseTextRow : OpenClaim := { program := "ytnoidabmbckfkaa", sum := "ae32a04bcf6babc52c259af69fe055cf2eb0c17ff1f3885290a2e474e0a792fb", func := "loop.example/g01350/laws.FnExactCollapseText", spec := "fnExactCollapseText", apart := false }
def FnExactCollapseTextSaid : Prop := fnExactCollapseTextRow.holds Try.pinned (OpenSpec.ofChange fnExactCollapseTextSpec)

/-- ITS FALSE NEIGHBOUR: 'it returns false'. Refute it at one input. -/
def fnExactCollapseTextWrong : ChangeSpec := { name := "fnExactCollapseText", fn := fun _ => fun
  | [d] => { results := [.lit (.bool false)], args := [d] }
  | _ => none }
def FnExactCollapseTextWrongFalsely : Prop := fnExactCollapseTextRow.holds Try.pinned (OpenSpec.ofChange fnExactCollapseTextWrong)

/-- 'laws.FnExactCountRuns': WHATEVER THE INPUT: true; the input reads as it did. -/
def fnExactCountRunsSpec : ChangeSpec := { name := "fnExactCountRuns", fn := fun _ => fun
  | [d] => { results := [.lit (.bool true)], args := [d] }
  | _ => none }
def fnExactCountRunsRow : OpenClaim := { program := "ytnoidabmbckfkaa", sum := "ae32a04bcf6babc52c259af69fe055cf2eb0c17ff1f3885290a2e474e0a792fb", func := "loop.example/g01350/laws.FnExactCountRuns", spec := "fnExactCountRuns", apart := false }
def FnExactCountRunsSaid : Prop := fnExactCountRunsRow.holds Try.pinned (OpenSpec.ofChange fnExactCountRunsSpec)

/-- ITS FALSE NEIGHBOUR: 'it returns false'. Refute it at one input. -/
def fnExactCountRunsWrong : ChangeSpec := { name := "fnExactCountRuns", fn := fun _ => fun
  | [d] => { results := [.lit (.bool false)], args := [d] }
  | _ => none }
def FnExactCountRunsWrongFalsely : Prop := fnExactCountRunsRow.holds Try.pinned (OpenSpec.ofChange fnExactCountRunsWrong)

/-- 'laws.FnExactShownText': WHATEVER THE INPUT: true; the input reads as it did. -/
def fnExactShownTextSpec : ChangeSpec := { name := "fnExactShownText", fn := fun _ => fun
  | [d1, d2, d3] => { results := [.lit (.bool true)], args := [d1, d2, d3] }
  | _ => none }
def fnExactShownTextRow : OpenClaim := { program := "ytnoidabmbckfkaa", sum := "ae32a04bcf6babc52c259af69fe055cf2eb0c17ff1f3885290a2e474e0a792fb", func := "loop.example/g01350/laws.FnExactShownText", spec := "fnExactShownText", apart := false }
def FnExactShownTextSaid : Prop := fnExactShownTextRow.holds Try.pinned (OpenSpec.ofChange fnExactShownTextSpec)

/-- ITS FALSE NEIGHBOUR: 'it returns false'. Refute it at one input. -/
def fnExactShownTextWrong : ChangeSpec := { name := "fnExactShownText", fn := fun _ => fun
  | [d1, d2, d3] => { results := [.lit (.bool false)], args := [d1, d2, d3] }
  | _ => none }
def FnExactShownTextWrongFalsely : Prop := fnExactShownTextRow.holds Try.pinned (OpenSpec.ofChange fnExactShownTextWrong)

/-- 'laws.FnExactCanShow': WHATEVER THE INPUT: true; the input reads as it did. -/
def fnExactCanShowSpec : ChangeSpec := { name := "fnExactCanShow", fn := fun _ => fun
  | [d1, d2] => { results := [.lit (.bool true)], args := [d1, d2] }
  | _ => none }
def fnExactCanShowRow : OpenClaim := { program := "ytnoidabmbckfkaa", sum := "ae32a04bcf6babc52c259af69fe055cf2eb0c17ff1f3885290a2e474e0a792fb", func := "loop.example/g01350/laws.FnExactCanShow", spec := "fnExactCanShow", apart := false }
def FnExactCanShowSaid : Prop := fnExactCanShowRow.holds Try.pinned (OpenSpec.ofChange fnExactCanShowSpec)

/-- ITS FALSE NEIGHBOUR: 'it returns false'. Refute it at one input. -/
def fnExactCanShowWrong : ChangeSpec := { name := "fnExactCanShow", fn := fun _ => fun
  | [d1, d2] => { results := [.lit (.bool false)], args := [d1, d2] }
  | _ => none }
def FnExactCanShowWrongFalsely : Prop := fnExactCanShowRow.holds Try.pinned (OpenSpec.ofChange fnExactCanShowWrong)

/-- 'laws.FnExactDeadFor': WHATEVER THE INPUT: true; the input reads as it did. -/
def fnExactDeadForSpec : ChangeSpec := { name := "fnExactDeadFor", fn := fun _ => fun
  | [d1, d2] => { results := [.lit (.bool true)], args := [d1, d2] }
  | _ => none }
def fnExactDeadForRow : OpenClaim := { program := "ytnoidabmbckfkaa", sum := "ae32a04bcf6babc52c259af69fe055cf2eb0c17ff1f3885290a2e474e0a792fb", func := "loop.example/g01350/laws.FnExactDeadFor", spec := "fnExactDeadFor", apart := false }
def FnExactDeadForSaid : Prop := fnExactDeadForRow.holds Try.pinned (OpenSpec.ofChange fnExactDeadForSpec)

/-- ITS FALSE NEIGHBOUR: 'it returns false'. Refute it at one input. -/
def fnExactDeadForWrong : ChangeSpec := { name := "fnExactDeadFor", fn := fun _ => fun
  | [d1, d2] => { results := [.lit (.bool false)], args := [d1, d2] }
  | _ => none }
def FnExactDeadForWrongFalsely : Prop := fnExactDeadForRow.holds Try.pinned (OpenSpec.ofChange fnExactDeadForWrong)

/-- 'laws.FnExactStuckFor': WHATEVER THE INPUT: true; the input reads as it did. -/
def fnExactStuckForSpec : ChangeSpec := { name := "fnExactStuckFor", fn := fun _ => fun
  | [d1, d2] => { results := [.lit (.bool true)], args := [d1, d2] }
  | _ => none }
def fnExactStuckForRow : OpenClaim := { program := "ytnoidabmbckfkaa", sum := "ae32a04bcf6babc52c259af69fe055cf2eb0c17ff1f3885290a2e474e0a792fb", func := "loop.example/g01350/laws.FnExactStuckFor", spec := "fnExactStuckFor", apart := false }
def FnExactStuckForSaid : Prop := fnExactStuckForRow.holds Try.pinned (OpenSpec.ofChange fnExactStuckForSpec)

/-- ITS FALSE NEIGHBOUR: 'it returns false'. Refute it at one input. -/
def fnExactStuckForWrong : ChangeSpec := { name := "fnExactStuckFor", fn := fun _ => fun
  | [d1, d2] => { results := [.lit (.bool false)], args := [d1, d2] }
  | _ => none }
def FnExactStuckForWrongFalsely : Prop := fnExactStuckForRow.holds Try.pinned (OpenSpec.ofChange fnExactStuckForWrong)

/-- 'laws.FnExactUnstuckText': WHATEVER THE INPUT: true; the input reads as it did. -/
def fnExactUnstuckTextSpec : ChangeSpec := { name := "fnExactUnstuckText", fn := fun _ => fun
  | [d1, d2] => { results := [.lit (.bool true)], args := [d1, d2] }
  | _ => none }
def fnExactUnstuckTextRow : OpenClaim := { program := "ytnoidabmbckfkaa", sum := "ae32a04bcf6babc52c259af69fe055cf2eb0c17ff1f3885290a2e474e0a792fb", func := "loop.example/g01350/laws.FnExactUnstuckText", spec := "fnExactUnstuckText", apart := false }
def FnExactUnstuckTextSaid : Prop := fnExactUnstuckTextRow.holds Try.pinned (OpenSpec.ofChange fnExactUnstuckTextSpec)

/-- ITS FALSE NEIGHBOUR: 'it returns false'. Refute it at one input. -/
def fnExactUnstuckTextWrong : ChangeSpec := { name := "fnExactUnstuckText", fn := fun _ => fun
  | [d1, d2] => { results := [.lit (.bool false)], args := [d1, d2] }
  | _ => none }
def FnExactUnstuckTextWrongFalsely : Prop := fnExactUnstuckTextRow.holds Try.pinned (OpenSpec.ofChange fnExactUnstuckTextWrong)

/-- 'laws.FnExactTypoDistance': WHATEVER THE INPUT: true; the input reads as it did. -/
def fnExactTypoDistanceSpec : ChangeSpec := { name := "fnExactTypoDistance", fn := fun _ => fun
  | [d1, d2] => { results := [.lit (.bool true)], args := [d1, d2] }
  | _ => none }
def fnExactTypoDistanceRow : OpenClaim := { program := "ytnoidabmbckfkaa", sum := "ae32a04bcf6babc52c259af69fe055cf2eb0c17ff1f3885290a2e474e0a792fb", func := "loop.example/g01350/laws.FnExactTypoDistance", spec := "fnExactTypoDistance", apart := false }
def FnExactTypoDistanceSaid : Prop := fnExactTypoDistanceRow.holds Try.pinned (OpenSpec.ofChange fnExactTypoDistanceSpec)

/-- ITS FALSE NEIGHBOUR: 'it returns false'. Refute it at one input. -/
def fnExactTypoDistanceWrong : ChangeSpec := { name := "fnExactTypoDistance", fn := fun _ => fun
  | [d1, d2] => { results := [.lit (.bool false)], args := [d1, d2] }
  | _ => none }
def FnExactTypoDistanceWrongFalsely : Prop := fnExactTypoDistanceRow.holds Try.pinned (OpenSpec.ofChange fnExactTypoDistanceWrong)

/-- 'laws.FnExactIsOneTypo': WHATEVER THE INPUT: true; the input reads as it did. -/
def fnExactIsOneTypoSpec : ChangeSpec := { name := "fnExactIsOneTypo", fn := fun _ => fun
  | [d1, d2] => { results := [.lit (.bool true)], args := [d1, d2] }
  | _ => none }
def fnExactIsOneTypoRow : OpenClaim := { program := "ytnoidabmbckfkaa", sum := "ae32a04bcf6babc52c259af69fe055cf2eb0c17ff1f3885290a2e474e0a792fb", func := "loop.example/g01350/laws.FnExactIsOneTypo", spec := "fnExactIsOneTypo", apart := false }
def FnExactIsOneTypoSaid : Prop := fnExactIsOneTypoRow.holds Try.pinned (OpenSpec.ofChange fnExactIsOneTypoSpec)

/-- ITS FALSE NEIGHBOUR: 'it returns false'. Refute it at one input. -/
def fnExactIsOneTypoWrong : ChangeSpec := { name := "fnExactIsOneTypo", fn := fun _ => fun
  | [d1, d2] => { results := [.lit (.bool false)], args := [d1, d2] }
  | _ => none }
def FnExactIsOneTypoWrongFalsely : Prop := fnExactIsOneTypoRow.holds Try.pinned (OpenSpec.ofChange fnExactIsOneTypoWrong)

/-- 'laws.FnExactFirstTypos': WHATEVER THE INPUT: true; the input reads as it did. -/
def fnExactFirstTyposSpec : ChangeSpec := { name := "fnExactFirstTypos", fn := fun _ => fun
  | [d1, d2] => { results := [.lit (.bool true)], args := [d1, d2] }
  | _ => none }
def fnExactFirstTyposRow : OpenClaim := { program := "ytnoidabmbckfkaa", sum := "ae32a04bcf6babc52c259af69fe055cf2eb0c17ff1f3885290a2e474e0a792fb", func := "loop.example/g01350/laws.FnExactFirstTypos", spec := "fnExactFirstTypos", apart := false }
def FnExactFirstTyposSaid : Prop := fnExactFirstTyposRow.holds Try.pinned (OpenSpec.ofChange fnExactFirstTyposSpec)

/-- ITS FALSE NEIGHBOUR: 'it returns false'. Refute it at one input. -/
def fnExactFirstTyposWrong : ChangeSpec := { name := "fnExactFirstTypos", fn := fun _ => fun
  | [d1, d2] => { results := [.lit (.bool false)], args := [d1, d2] }
  | _ => none }
def FnExactFirstTyposWrongFalsely : Prop := fnExactFirstTyposRow.holds Try.pinned (OpenSpec.ofChange fnExactFirstTyposWrong)

/-- 'laws.FnExactCommonLength': WHATEVER THE INPUT: true; the input reads as it did. -/
def fnExactCommonLengthSpec : ChangeSpec := { name := "fnExactCommonLength", fn := fun _ => fun
  | [d1, d2] => { results := [.lit (.bool true)], args := [d1, d2] }
  | _ => none }
def fnExactCommonLengthRow : OpenClaim := { program := "ytnoidabmbckfkaa", sum := "ae32a04bcf6babc52c259af69fe055cf2eb0c17ff1f3885290a2e474e0a792fb", func := "loop.example/g01350/laws.FnExactCommonLength", spec := "fnExactCommonLength", apart := false }
def FnExactCommonLengthSaid : Prop := fnExactCommonLengthRow.holds Try.pinned (OpenSpec.ofChange fnExactCommonLengthSpec)

/-- ITS FALSE NEIGHBOUR: 'it returns false'. Refute it at one input. -/
def fnExactCommonLengthWrong : ChangeSpec := { name := "fnExactCommonLength", fn := fun _ => fun
  | [d1, d2] => { results := [.lit (.bool false)], args := [d1, d2] }
  | _ => none }
def FnExactCommonLengthWrongFalsely : Prop := fnExactCommonLengthRow.holds Try.pinned (OpenSpec.ofChange fnExactCommonLengthWrong)

/- THE SECOND FORM. 'bulk': how many values and letters a reading holds, each counted each time it is reached (what is shared counts as often as it is met; a slice's spare places count too). A statement '..UptoSaid' is the law's where the arguments, and the package variables that the reading takes, are together of bulk at most 1048576: NARROWER than '..Said'. Prove '..Said' where nothing that the law and all that it calls make is longer than what came in: it says more and counts as full. Else prove '..UptoSaid'. A law counts once. -/
mutual
def uptoBulk {H : Type} : DataW H → Nat
  | .lit (.string bytes) => bytes.length + 1
  | .lit _ => 1
  | .nil => 1
  | .ptr d => uptoBulk d + 1
  | .slice elems spare => uptoBulkAll elems + uptoBulkAll spare + 1
  | .agg parts => uptoBulkAll parts + 1
  | .iface _ d => uptoBulk d + 1
  | .map entries => uptoBulkEntries entries + 1
  | .held _ => 1
def uptoBulkAll {H : Type} : List (DataW H) → Nat
  | [] => 0
  | d :: r => uptoBulk d + uptoBulkAll r
def uptoBulkEntries {H : Type} : List (Lit × DataW H) → Nat
  | [] => 0
  | x :: r => uptoBulkEntry x + uptoBulkEntries r
def uptoBulkEntry {H : Type} : Lit × DataW H → Nat
  | (.string bytes, d) => bytes.length + uptoBulk d + 1
  | (_, d) => uptoBulk d + 1
 end
def uptoSmall : (H : Type) → List (DataW H) → Bool := fun _ ds => decide (uptoBulkAll ds ≤ 1048576)
def OpenSpec.upto (s : _root_.Go.ChangeSpec) : _root_.Go.OpenSpec := { _root_.Go.OpenSpec.ofChange s with cond := some uptoSmall }

/-- 'laws.FnExactApplyTypos', WHERE WHAT IT READS IS OF BULK AT MOST 1048576: true; the input reads as it did. -/
def fnExactApplyTyposUptoRow : OpenClaim := { program := "ytnoidabmbckfkaa", sum := "ae32a04bcf6babc52c259af69fe055cf2eb0c17ff1f3885290a2e474e0a792fb", func := "loop.example/g01350/laws.FnExactApplyTypos", spec := "fnExactApplyTypos", apart := false, narrowed := true }
def FnExactApplyTyposUptoSaid : Prop := fnExactApplyTyposUptoRow.holds Try.pinned (OpenSpec.upto fnExactApplyTyposSpec)

/-- 'laws.FnExactCollapseText', WHERE WHAT IT READS IS OF BULK AT MOST 1048576: true; the input reads as it did. -/
def fnExactCollapseTextUptoRow : OpenClaim := { program := "ytnoidabmbckfkaa", sum := "ae32a04bcf6babc52c259af69fe055cf2eb0c17ff1f3885290a2e474e0a792fb", func := "loop.example/g01350/laws.FnExactCollapseText", spec := "fnExactCollapseText", apart := false, narrowed := true }
def FnExactCollapseTextUptoSaid : Prop := fnExactCollapseTextUptoRow.holds Try.pinned (OpenSpec.upto fnExactCollapseTextSpec)

/-- 'laws.FnExactCountRuns', WHERE WHAT IT READS IS OF BULK AT MOST 1048576: true; the input reads as it did. -/
def fnExactCountRunsUptoRow : OpenClaim := { program := "ytnoidabmbckfkaa", sum := "ae32a04bcf6babc52c259af69fe055cf2eb0c17ff1f3885290a2e474e0a792fb", func := "loop.example/g01350/laws.FnExactCountRuns", spec := "fnExactCountRuns", apart := false, narrowed := true }
def FnExactCountRunsUptoSaid : Prop := fnExactCountRunsUptoRow.holds Try.pinned (OpenSpec.upto fnExactCountRunsSpec)

/-- 'laws.FnExactShownText', WHERE WHAT IT READS IS OF BULK AT MOST 1048576: true; the input reads as it did. -/
def fnExactShownTextUptoRow : OpenClaim := { program := "ytnoidabmbckfkaa", sum := "ae32a04bcf6babc52c259af69fe055cf2eb0c17ff1f3885290a2e474e0a792fb", func := "loop.example/g01350/laws.FnExactShownText", spec := "fnExactShownText", apart := false, narrowed := true }
def FnExactShownTextUptoSaid : Prop := fnExactShownTextUptoRow.holds Try.pinned (OpenSpec.upto fnExactShownTextSpec)

/-- 'laws.FnExactCanShow', WHERE WHAT IT READS IS OF BULK AT MOST 1048576: true; the input reads as it did. -/
def fnExactCanShowUptoRow : OpenClaim := { program := "ytnoidabmbckfkaa", sum := "ae32a04bcf6babc52c259af69fe055cf2eb0c17ff1f3885290a2e474e0a792fb", func := "loop.example/g01350/laws.FnExactCanShow", spec := "fnExactCanShow", apart := false, narrowed := true }
def FnExactCanShowUptoSaid : Prop := fnExactCanShowUptoRow.holds Try.pinned (OpenSpec.upto fnExactCanShowSpec)

/-- 'laws.FnExactDeadFor', WHERE WHAT IT READS IS OF BULK AT MOST 1048576: true; the input reads as it did. -/
def fnExactDeadForUptoRow : OpenClaim := { program := "ytnoidabmbckfkaa", sum := "ae32a04bcf6babc52c259af69fe055cf2eb0c17ff1f3885290a2e474e0a792fb", func := "loop.example/g01350/laws.FnExactDeadFor", spec := "fnExactDeadFor", apart := false, narrowed := true }
def FnExactDeadForUptoSaid : Prop := fnExactDeadForUptoRow.holds Try.pinned (OpenSpec.upto fnExactDeadForSpec)

/-- 'laws.FnExactStuckFor', WHERE WHAT IT READS IS OF BULK AT MOST 1048576: true; the input reads as it did. -/
def fnExactStuckForUptoRow : OpenClaim := { program := "ytnoidabmbckfkaa", sum := "ae32a04bcf6babc52c259af69fe055cf2eb0c17ff1f3885290a2e474e0a792fb", func := "loop.example/g01350/laws.FnExactStuckFor", spec := "fnExactStuckFor", apart := false, narrowed := true }
def FnExactStuckForUptoSaid : Prop := fnExactStuckForUptoRow.holds Try.pinned (OpenSpec.upto fnExactStuckForSpec)

/-- 'laws.FnExactUnstuckText', WHERE WHAT IT READS IS OF BULK AT MOST 1048576: true; the input reads as it did. -/
def fnExactUnstuckTextUptoRow : OpenClaim := { program := "ytnoidabmbckfkaa", sum := "ae32a04bcf6babc52c259af69fe055cf2eb0c17ff1f3885290a2e474e0a792fb", func := "loop.example/g01350/laws.FnExactUnstuckText", spec := "fnExactUnstuckText", apart := false, narrowed := true }
def FnExactUnstuckTextUptoSaid : Prop := fnExactUnstuckTextUptoRow.holds Try.pinned (OpenSpec.upto fnExactUnstuckTextSpec)

/-- 'laws.FnExactTypoDistance', WHERE WHAT IT READS IS OF BULK AT MOST 1048576: true; the input reads as it did. -/
def fnExactTypoDistanceUptoRow : OpenClaim := { program := "ytnoidabmbckfkaa", sum := "ae32a04bcf6babc52c259af69fe055cf2eb0c17ff1f3885290a2e474e0a792fb", func := "loop.example/g01350/laws.FnExactTypoDistance", spec := "fnExactTypoDistance", apart := false, narrowed := true }
def FnExactTypoDistanceUptoSaid : Prop := fnExactTypoDistanceUptoRow.holds Try.pinned (OpenSpec.upto fnExactTypoDistanceSpec)

/-- 'laws.FnExactIsOneTypo', WHERE WHAT IT READS IS OF BULK AT MOST 1048576: true; the input reads as it did. -/
def fnExactIsOneTypoUptoRow : OpenClaim := { program := "ytnoidabmbckfkaa", sum := "ae32a04bcf6babc52c259af69fe055cf2eb0c17ff1f3885290a2e474e0a792fb", func := "loop.example/g01350/laws.FnExactIsOneTypo", spec := "fnExactIsOneTypo", apart := false, narrowed := true }
def FnExactIsOneTypoUptoSaid : Prop := fnExactIsOneTypoUptoRow.holds Try.pinned (OpenSpec.upto fnExactIsOneTypoSpec)

/-- 'laws.FnExactFirstTypos', WHERE WHAT IT READS IS OF BULK AT MOST 1048576: true; the input reads as it did. -/
def fnExactFirstTyposUptoRow : OpenClaim := { program := "ytnoidabmbckfkaa", sum := "ae32a04bcf6babc52c259af69fe055cf2eb0c17ff1f3885290a2e474e0a792fb", func := "loop.example/g01350/laws.FnExactFirstTypos", spec := "fnExactFirstTypos", apart := false, narrowed := true }
def FnExactFirstTyposUptoSaid : Prop := fnExactFirstTyposUptoRow.holds Try.pinned (OpenSpec.upto fnExactFirstTyposSpec)

/-- 'laws.FnExactCommonLength', WHERE WHAT IT READS IS OF BULK AT MOST 1048576: true; the input reads as it did. -/
def fnExactCommonLengthUptoRow : OpenClaim := { program := "ytnoidabmbckfkaa", sum := "ae32a04bcf6babc52c259af69fe055cf2eb0c17ff1f3885290a2e474e0a792fb", func := "loop.example/g01350/laws.FnExactCommonLength", spec := "fnExactCommonLength", apart := false, narrowed := true }
def FnExactCommonLengthUptoSaid : Prop := fnExactCommonLengthUptoRow.holds Try.pinned (OpenSpec.upto fnExactCommonLengthSpec)

end Rows
end Go.Proofs.Ytnoidabmbckfkaa
