/-
  No cell of these rows narrows 'for every input' (looked for: loops, veiled, ifaces, maps, wideKeys, modest, calm, conditions, laid).
  DERIVED. THE GIVEN ROWS OF THIS SEAT. 9 by the template 'for every input the law returns true; each argument reads behind the call as it read before'; 0 by the template 'total and deterministic' (their statements: YtinojlbnmnlmhabTotals.lean).
  GIVEN WITH THE SEED: the statements are not yours to turn. If you find one false, say at which input.
  Laid BY PROGRAM, IN A SANDBOX (cutbox-rows.mjs): the forced cells as the released guide's own fill.sh prints them over the translation 33e5651e0ff104e2… (all of the seat's roots in one cut). By AI agents, Wed Nov 11 2026. No macro, syntax, notation, axiom, sorry.
-/
import Derived.Test.YtinojlbnmnlmhabChecked
import GoSem.Claim
import GoSem.ClaimJoined
import GoSem.ClaimMapViews
import Derived.JoinedTies
import Derived.KernelRfl
namespace Go.Proofs.Ytinojlbnmnlmhab
/- THE CELL 'sum', in the pinned program and in every row, IS THE sha256 OF THE DUMP (.gsa) THAT YtinojlbnmnlmhabProg.lean LOADS. Nothing in Lean hashes anything: it is a label: what it is worth is what the hold of that sum in a sandbox is worth. -/
noncomputable def Try.pinned : Pinned := { name := "ytinojlbnmnlmhab", sum := "33e5651e0ff104e2a109fdcd7ef3f86eb0ddbfc23e5ff59f97d9f7db0da654a9", checked := Try.checked }
namespace Rows
def none {H : Type} : Left H := { results := [], args := [] }

/-- 'laws.FnExactSplitCode': WHATEVER THE INPUT: true; the input reads as it did. -/
def fnExactSplitCodeSpec : ChangeSpec := { name := "fnExactSplitCode", fn := fun _ => fun
  | [d1, d2] => { results := [.lit (.bool true)], args := [d1, d2] }
  | _ => none }
def fnExactSplitCodeRow : OpenClaim := { program := "ytinojlbnmnlmhab", sum := "33e5651e0ff104e2a109fdcd7ef3f86eb0ddbfc23e5ff59f97d9f7db0da654a9", func := "loop.example/g01350/laws.FnExactSplitCode", spec := "fnExactSplitCode", inPlace := ["internal/bytealg.IndexByteString"], unfollowed := true, recurses := true, leaving := true, apart := false }
def FnExactSplitCodeSaid : Prop := fnExactSplitCodeRow.holds Try.pinned (OpenSpec.ofChange fnExactSplitCodeSpec)

/-- ITS FALSE NEIGHBOUR: 'it returns false'. Refute it at one input. -/
def fnExactSplitCodeWrong : ChangeSpec := { name := "fnExactSplitCode", fn := fun _ => fun
  | [d1, d2] => { results := [.lit (.bool false)], args := [d1, d2] }
  | _ => none }
def FnExactSplitCodeWrongFalsely : Prop := fnExactSplitCodeRow.holds Try.pinned (OpenSpec.ofChange fnExactSplitCodeWrong)

/-- 'laws.FnExactFreeNumbers': WHATEVER THE INPUT: true; the input reads as it did. -/
def fnExactFreeNumbersSpec : ChangeSpec := { name := "fnExactFreeNumbers", fn := fun _ => fun
  | [d1, d2] => { results := [.lit (.bool true)], args := [d1, d2] }
  | _ => none }
def fnExactFreeNumbersRow : OpenClaim := { program := "ytinojlbnmnlmhab", sum := "33e5651e0ff104e2a109fdcd7ef3f86eb0ddbfc23e5ff59f97d9f7db0da654a9", func := "loop.example/g01350/laws.FnExactFreeNumbers", spec := "fnExactFreeNumbers", inPlace := ["internal/bytealg.IndexByteString"], unfollowed := true, recurses := true, leaving := true, apart := false }
def FnExactFreeNumbersSaid : Prop := fnExactFreeNumbersRow.holds Try.pinned (OpenSpec.ofChange fnExactFreeNumbersSpec)

/-- ITS FALSE NEIGHBOUR: 'it returns false'. Refute it at one input. -/
def fnExactFreeNumbersWrong : ChangeSpec := { name := "fnExactFreeNumbers", fn := fun _ => fun
  | [d1, d2] => { results := [.lit (.bool false)], args := [d1, d2] }
  | _ => none }
def FnExactFreeNumbersWrongFalsely : Prop := fnExactFreeNumbersRow.holds Try.pinned (OpenSpec.ofChange fnExactFreeNumbersWrong)

/-- 'laws.FnExactCountFreeCodes': WHATEVER THE INPUT: true; the input reads as it did. -/
def fnExactCountFreeCodesSpec : ChangeSpec := { name := "fnExactCountFreeCodes", fn := fun _ => fun
  | [d1, d2] => { results := [.lit (.bool true)], args := [d1, d2] }
  | _ => none }
def fnExactCountFreeCodesRow : OpenClaim := { program := "ytinojlbnmnlmhab", sum := "33e5651e0ff104e2a109fdcd7ef3f86eb0ddbfc23e5ff59f97d9f7db0da654a9", func := "loop.example/g01350/laws.FnExactCountFreeCodes", spec := "fnExactCountFreeCodes", inPlace := ["internal/bytealg.IndexByteString"], unfollowed := true, recurses := true, leaving := true, apart := false }
def FnExactCountFreeCodesSaid : Prop := fnExactCountFreeCodesRow.holds Try.pinned (OpenSpec.ofChange fnExactCountFreeCodesSpec)

/-- ITS FALSE NEIGHBOUR: 'it returns false'. Refute it at one input. -/
def fnExactCountFreeCodesWrong : ChangeSpec := { name := "fnExactCountFreeCodes", fn := fun _ => fun
  | [d1, d2] => { results := [.lit (.bool false)], args := [d1, d2] }
  | _ => none }
def FnExactCountFreeCodesWrongFalsely : Prop := fnExactCountFreeCodesRow.holds Try.pinned (OpenSpec.ofChange fnExactCountFreeCodesWrong)

/-- 'laws.FnExactFirstFreeCode': WHATEVER THE INPUT: true; the input reads as it did. -/
def fnExactFirstFreeCodeSpec : ChangeSpec := { name := "fnExactFirstFreeCode", fn := fun _ => fun
  | [d1, d2] => { results := [.lit (.bool true)], args := [d1, d2] }
  | _ => none }
def fnExactFirstFreeCodeRow : OpenClaim := { program := "ytinojlbnmnlmhab", sum := "33e5651e0ff104e2a109fdcd7ef3f86eb0ddbfc23e5ff59f97d9f7db0da654a9", func := "loop.example/g01350/laws.FnExactFirstFreeCode", spec := "fnExactFirstFreeCode", inPlace := ["internal/bytealg.IndexByteString"], unfollowed := true, recurses := true, leaving := true, apart := false }
def FnExactFirstFreeCodeSaid : Prop := fnExactFirstFreeCodeRow.holds Try.pinned (OpenSpec.ofChange fnExactFirstFreeCodeSpec)

/-- ITS FALSE NEIGHBOUR: 'it returns false'. Refute it at one input. -/
def fnExactFirstFreeCodeWrong : ChangeSpec := { name := "fnExactFirstFreeCode", fn := fun _ => fun
  | [d1, d2] => { results := [.lit (.bool false)], args := [d1, d2] }
  | _ => none }
def FnExactFirstFreeCodeWrongFalsely : Prop := fnExactFirstFreeCodeRow.holds Try.pinned (OpenSpec.ofChange fnExactFirstFreeCodeWrong)

/-- 'laws.FnExactPlanOfLengths': WHATEVER THE INPUT: true; the input reads as it did. -/
def fnExactPlanOfLengthsSpec : ChangeSpec := { name := "fnExactPlanOfLengths", fn := fun _ => fun
  | [d] => { results := [.lit (.bool true)], args := [d] }
  | _ => none }
def fnExactPlanOfLengthsRow : OpenClaim := { program := "ytinojlbnmnlmhab", sum := "33e5651e0ff104e2a109fdcd7ef3f86eb0ddbfc23e5ff59f97d9f7db0da654a9", func := "loop.example/g01350/laws.FnExactPlanOfLengths", spec := "fnExactPlanOfLengths", inPlace := ["internal/bytealg.IndexByteString"], unfollowed := true, recurses := true, leaving := true, apart := false }
def FnExactPlanOfLengthsSaid : Prop := fnExactPlanOfLengthsRow.holds Try.pinned (OpenSpec.ofChange fnExactPlanOfLengthsSpec)

/-- ITS FALSE NEIGHBOUR: 'it returns false'. Refute it at one input. -/
def fnExactPlanOfLengthsWrong : ChangeSpec := { name := "fnExactPlanOfLengths", fn := fun _ => fun
  | [d] => { results := [.lit (.bool false)], args := [d] }
  | _ => none }
def FnExactPlanOfLengthsWrongFalsely : Prop := fnExactPlanOfLengthsRow.holds Try.pinned (OpenSpec.ofChange fnExactPlanOfLengthsWrong)

/-- 'laws.FnExactIsFullPlan': WHATEVER THE INPUT: true; the input reads as it did. -/
def fnExactIsFullPlanSpec : ChangeSpec := { name := "fnExactIsFullPlan", fn := fun _ => fun
  | [d] => { results := [.lit (.bool true)], args := [d] }
  | _ => none }
def fnExactIsFullPlanRow : OpenClaim := { program := "ytinojlbnmnlmhab", sum := "33e5651e0ff104e2a109fdcd7ef3f86eb0ddbfc23e5ff59f97d9f7db0da654a9", func := "loop.example/g01350/laws.FnExactIsFullPlan", spec := "fnExactIsFullPlan", inPlace := ["internal/bytealg.IndexByteString", "(*sync.WaitGroup).Go", "(*sync.WaitGroup).Add", "internal/race.ReleaseMerge", "internal/race.Disable", "internal/race.Enable", "internal/synctest.IsInBubble", "internal/synctest.Associate[sync.WaitGroup]", "sync.fatal", "sync/atomic.OrUint64", "sync/atomic.AddUint64", "internal/race.Read", "sync/atomic.LoadUint64", "sync/atomic.StoreUint64", "internal/synctest.Disassociate[sync.WaitGroup]", "sync.runtime_Semrelease", "(*sync.WaitGroup).Go$1", "(*sync.WaitGroup).Go$1$1", "(*sync.WaitGroup).Done", "(*sync.WaitGroup).Wait", "internal/race.Acquire", "internal/synctest.IsAssociated[sync.WaitGroup]", "sync/atomic.CompareAndSwapUint64", "internal/race.Write", "sync.runtime_SemacquireWaitGroup"], unfollowed := true, recurses := true, leaving := true, apart := false }
def FnExactIsFullPlanSaid : Prop := fnExactIsFullPlanRow.holds Try.pinned (OpenSpec.ofChange fnExactIsFullPlanSpec)

/-- ITS FALSE NEIGHBOUR: 'it returns false'. Refute it at one input. -/
def fnExactIsFullPlanWrong : ChangeSpec := { name := "fnExactIsFullPlan", fn := fun _ => fun
  | [d] => { results := [.lit (.bool false)], args := [d] }
  | _ => none }
def FnExactIsFullPlanWrongFalsely : Prop := fnExactIsFullPlanRow.holds Try.pinned (OpenSpec.ofChange fnExactIsFullPlanWrong)

/-- 'laws.FnExactCodePlanText': WHATEVER THE INPUT: true; the input reads as it did. -/
def fnExactCodePlanTextSpec : ChangeSpec := { name := "fnExactCodePlanText", fn := fun _ => fun
  | [d] => { results := [.lit (.bool true)], args := [d] }
  | _ => none }
def fnExactCodePlanTextRow : OpenClaim := { program := "ytinojlbnmnlmhab", sum := "33e5651e0ff104e2a109fdcd7ef3f86eb0ddbfc23e5ff59f97d9f7db0da654a9", func := "loop.example/g01350/laws.FnExactCodePlanText", spec := "fnExactCodePlanText", inPlace := ["internal/bytealg.IndexByteString", "internal/abi.NoEscape", "internal/bytealg.MakeNoZero"], unfollowed := true, recurses := true, leaving := true, apart := false }
def FnExactCodePlanTextSaid : Prop := fnExactCodePlanTextRow.holds Try.pinned (OpenSpec.ofChange fnExactCodePlanTextSpec)

/-- ITS FALSE NEIGHBOUR: 'it returns false'. Refute it at one input. -/
def fnExactCodePlanTextWrong : ChangeSpec := { name := "fnExactCodePlanText", fn := fun _ => fun
  | [d] => { results := [.lit (.bool false)], args := [d] }
  | _ => none }
def FnExactCodePlanTextWrongFalsely : Prop := fnExactCodePlanTextRow.holds Try.pinned (OpenSpec.ofChange fnExactCodePlanTextWrong)

/-- 'laws.FnExactCountOnce': WHATEVER THE INPUT: true; the input reads as it did. -/
def fnExactCountOnceSpec : ChangeSpec := { name := "fnExactCountOnce", fn := fun _ => fun
  | [d1, d2, d3] => { results := [.lit (.bool true)], args := [d1, d2, d3] }
  | _ => none }
def fnExactCountOnceRow : OpenClaim := { program := "ytinojlbnmnlmhab", sum := "33e5651e0ff104e2a109fdcd7ef3f86eb0ddbfc23e5ff59f97d9f7db0da654a9", func := "loop.example/g01350/laws.FnExactCountOnce", spec := "fnExactCountOnce", inPlace := ["internal/bytealg.IndexByteString", "internal/bytealg.IndexString"], recurses := true, named := ["internal/bytealg.MaxLen"], apart := false }
def FnExactCountOnceSaid : Prop := fnExactCountOnceRow.holds Try.pinned (OpenSpec.ofChange fnExactCountOnceSpec)

/-- ITS FALSE NEIGHBOUR: 'it returns false'. Refute it at one input. -/
def fnExactCountOnceWrong : ChangeSpec := { name := "fnExactCountOnce", fn := fun _ => fun
  | [d1, d2, d3] => { results := [.lit (.bool false)], args := [d1, d2, d3] }
  | _ => none }
def FnExactCountOnceWrongFalsely : Prop := fnExactCountOnceRow.holds Try.pinned (OpenSpec.ofChange fnExactCountOnceWrong)

/-- 'laws.FnExactLongestOnce': WHATEVER THE INPUT: true; the input reads as it did. -/
def fnExactLongestOnceSpec : ChangeSpec := { name := "fnExactLongestOnce", fn := fun _ => fun
  | [d1, d2] => { results := [.lit (.bool true)], args := [d1, d2] }
  | _ => none }
def fnExactLongestOnceRow : OpenClaim := { program := "ytinojlbnmnlmhab", sum := "33e5651e0ff104e2a109fdcd7ef3f86eb0ddbfc23e5ff59f97d9f7db0da654a9", func := "loop.example/g01350/laws.FnExactLongestOnce", spec := "fnExactLongestOnce", inPlace := ["internal/bytealg.IndexByteString", "internal/bytealg.IndexString", "internal/abi.NoEscape"], recurses := true, named := ["internal/bytealg.MaxLen"], apart := false }
def FnExactLongestOnceSaid : Prop := fnExactLongestOnceRow.holds Try.pinned (OpenSpec.ofChange fnExactLongestOnceSpec)

/-- ITS FALSE NEIGHBOUR: 'it returns false'. Refute it at one input. -/
def fnExactLongestOnceWrong : ChangeSpec := { name := "fnExactLongestOnce", fn := fun _ => fun
  | [d1, d2] => { results := [.lit (.bool false)], args := [d1, d2] }
  | _ => none }
def FnExactLongestOnceWrongFalsely : Prop := fnExactLongestOnceRow.holds Try.pinned (OpenSpec.ofChange fnExactLongestOnceWrong)

/- THE SECOND FORM. 'bulk': how many values and letters a reading holds, each counted each time it is reached (what is shared counts as often as it is met; a slice's spare places count too). A statement '..UptoSaid' is the law's where the arguments, and the package variables that the reading takes, are together of bulk at most 1048576: NARROWER than '..Said'. Prove '..Said' where nothing that the law and all that it calls make is longer than what came in: it says more and counts as full. Else prove '..UptoSaid'. A law counts once. -/
mutual
def uptoBulk {H : Type} : DataW H → Nat
  | .lit (.string bytes) => bytes.length + 1
  | .lit _ => 1
  | .nil => 1
  | .ptr d => uptoBulk d + 1
  | .slice elems spare => uptoBulkAll elems + uptoBulkAll spare + 1
  | .agg parts => uptoBulkAll parts + 1
  | .iface _ d => uptoBulk d + 1
  | .map entries => uptoBulkEntries entries + 1
  | .held _ => 1
def uptoBulkAll {H : Type} : List (DataW H) → Nat
  | [] => 0
  | d :: r => uptoBulk d + uptoBulkAll r
def uptoBulkEntries {H : Type} : List (Lit × DataW H) → Nat
  | [] => 0
  | x :: r => uptoBulkEntry x + uptoBulkEntries r
def uptoBulkEntry {H : Type} : Lit × DataW H → Nat
  | (.string bytes, d) => bytes.length + uptoBulk d + 1
  | (_, d) => uptoBulk d + 1
 end
def uptoSmall : (H : Type) → List (DataW H) → Bool := fun _ ds => decide (uptoBulkAll ds ≤ 1048576)
def OpenSpec.upto (s : _root_.Go.ChangeSpec) : _root_.Go.OpenSpec := { _root_.Go.OpenSpec.ofChange s with cond := some uptoSmall }

/-- 'laws.FnExactSplitCode', WHERE WHAT IT READS IS OF BULK AT MOST 1048576: true; the input reads as it did. -/
def fnExactSplitCodeUptoRow : OpenClaim := { program := "ytinojlbnmnlmhab", sum := "33e5651e0ff104e2a109fdcd7ef3f86eb0ddbfc23e5ff59f97d9f7db0da654a9", func := "loop.example/g01350/laws.FnExactSplitCode", spec := "fnExactSplitCode", inPlace := ["internal/bytealg.IndexByteString"], unfollowed := true, recurses := true, leaving := true, apart := false, narrowed := true }
def FnExactSplitCodeUptoSaid : Prop := fnExactSplitCodeUptoRow.holds Try.pinned (OpenSpec.upto fnExactSplitCodeSpec)

/-- 'laws.FnExactFreeNumbers', WHERE WHAT IT READS IS OF BULK AT MOST 1048576: true; the input reads as it did. -/
def fnExactFreeNumbersUptoRow : OpenClaim := { program := "ytinojlbnmnlmhab", sum := "33e5651e0ff104e2a109fdcd7ef3f86eb0ddbfc23e5ff59f97d9f7db0da654a9", func := "loop.example/g01350/laws.FnExactFreeNumbers", spec := "fnExactFreeNumbers", inPlace := ["internal/bytealg.IndexByteString"], unfollowed := true, recurses := true, leaving := true, apart := false, narrowed := true }
def FnExactFreeNumbersUptoSaid : Prop := fnExactFreeNumbersUptoRow.holds Try.pinned (OpenSpec.upto fnExactFreeNumbersSpec)

/-- 'laws.FnExactCountFreeCodes', WHERE WHAT IT READS IS OF BULK AT MOST 1048576: true; the input reads as it did. -/
def fnExactCountFreeCodesUptoRow : OpenClaim := { program := "ytinojlbnmnlmhab", sum := "33e5651e0ff104e2a109fdcd7ef3f86eb0ddbfc23e5ff59f97d9f7db0da654a9", func := "loop.example/g01350/laws.FnExactCountFreeCodes", spec := "fnExactCountFreeCodes", inPlace := ["internal/bytealg.IndexByteString"], unfollowed := true, recurses := true, leaving := true, apart := false, narrowed := true }
def FnExactCountFreeCodesUptoSaid : Prop := fnExactCountFreeCodesUptoRow.holds Try.pinned (OpenSpec.upto fnExactCountFreeCodesSpec)

/-- 'laws.FnExactFirstFreeCode', WHERE WHAT IT READS IS OF BULK AT MOST 1048576: true; the input reads as it did. -/
def fnExactFirstFreeCodeUptoRow : OpenClaim := { program := "ytinojlbnmnlmhab", sum := "33e5651e0ff104e2a109fdcd7ef3f86eb0ddbfc23e5ff59f97d9f7db0da654a9", func := "loop.example/g01350/laws.FnExactFirstFreeCode", spec := "fnExactFirstFreeCode", inPlace := ["internal/bytealg.IndexByteString"], unfollowed := true, recurses := true, leaving := true, apart := false, narrowed := true }
def FnExactFirstFreeCodeUptoSaid : Prop := fnExactFirstFreeCodeUptoRow.holds Try.pinned (OpenSpec.upto fnExactFirstFreeCodeSpec)

/-- 'laws.FnExactPlanOfLengths', WHERE WHAT IT READS IS OF BULK AT MOST 1048576: true; the input reads as it did. -/
def fnExactPlanOfLengthsUptoRow : OpenClaim := { program := "ytinojlbnmnlmhab", sum := "33e5651e0ff104e2a109fdcd7ef3f86eb0ddbfc23e5ff59f97d9f7db0da654a9", func := "loop.example/g01350/laws.FnExactPlanOfLengths", spec := "fnExactPlanOfLengths", inPlace := ["internal/bytealg.IndexByteString"], unfollowed := true, recurses := true, leaving := true, apart := false, narrowed := true }
def FnExactPlanOfLengthsUptoSaid : Prop := fnExactPlanOfLengthsUptoRow.holds Try.pinned (OpenSpec.upto fnExactPlanOfLengthsSpec)

/-- 'laws.FnExactIsFullPlan', WHERE WHAT IT READS IS OF BULK AT MOST 1048576: true; the input reads as it did. -/
def fnExactIsFullPlanUptoRow : OpenClaim := { program := "ytinojlbnmnlmhab", sum := "33e5651e0ff104e2a109fdcd7ef3f86eb0ddbfc23e5ff59f97d9f7db0da654a9", func := "loop.example/g01350/laws.FnExactIsFullPlan", spec := "fnExactIsFullPlan", inPlace := ["internal/bytealg.IndexByteString", "(*sync.WaitGroup).Go", "(*sync.WaitGroup).Add", "internal/race.ReleaseMerge", "internal/race.Disable", "internal/race.Enable", "internal/synctest.IsInBubble", "internal/synctest.Associate[sync.WaitGroup]", "sync.fatal", "sync/atomic.OrUint64", "sync/atomic.AddUint64", "internal/race.Read", "sync/atomic.LoadUint64", "sync/atomic.StoreUint64", "internal/synctest.Disassociate[sync.WaitGroup]", "sync.runtime_Semrelease", "(*sync.WaitGroup).Go$1", "(*sync.WaitGroup).Go$1$1", "(*sync.WaitGroup).Done", "(*sync.WaitGroup).Wait", "internal/race.Acquire", "internal/synctest.IsAssociated[sync.WaitGroup]", "sync/atomic.CompareAndSwapUint64", "internal/race.Write", "sync.runtime_SemacquireWaitGroup"], unfollowed := true, recurses := true, leaving := true, apart := false, narrowed := true }
def FnExactIsFullPlanUptoSaid : Prop := fnExactIsFullPlanUptoRow.holds Try.pinned (OpenSpec.upto fnExactIsFullPlanSpec)

/-- 'laws.FnExactCodePlanText', WHERE WHAT IT READS IS OF BULK AT MOST 1048576: true; the input reads as it did. -/
def fnExactCodePlanTextUptoRow : OpenClaim := { program := "ytinojlbnmnlmhab", sum := "33e5651e0ff104e2a109fdcd7ef3f86eb0ddbfc23e5ff59f97d9f7db0da654a9", func := "loop.example/g01350/laws.FnExactCodePlanText", spec := "fnExactCodePlanText", inPlace := ["internal/bytealg.IndexByteString", "internal/abi.NoEscape", "internal/bytealg.MakeNoZero"], unfollowed := true, recurses := true, leaving := true, apart := false, narrowed := true }
def FnExactCodePlanTextUptoSaid : Prop := fnExactCodePlanTextUptoRow.holds Try.pinned (OpenSpec.upto fnExactCodePlanTextSpec)

/-- 'laws.FnExactCountOnce', WHERE WHAT IT READS IS OF BULK AT MOST 1048576: true; the input reads as it did. -/
def fnExactCountOnceUptoRow : OpenClaim := { program := "ytinojlbnmnlmhab", sum := "33e5651e0ff104e2a109fdcd7ef3f86eb0ddbfc23e5ff59f97d9f7db0da654a9", func := "loop.example/g01350/laws.FnExactCountOnce", spec := "fnExactCountOnce", inPlace := ["internal/bytealg.IndexByteString", "internal/bytealg.IndexString"], recurses := true, named := ["internal/bytealg.MaxLen"], apart := false, narrowed := true }
def FnExactCountOnceUptoSaid : Prop := fnExactCountOnceUptoRow.holds Try.pinned (OpenSpec.upto fnExactCountOnceSpec)

/-- 'laws.FnExactLongestOnce', WHERE WHAT IT READS IS OF BULK AT MOST 1048576: true; the input reads as it did. -/
def fnExactLongestOnceUptoRow : OpenClaim := { program := "ytinojlbnmnlmhab", sum := "33e5651e0ff104e2a109fdcd7ef3f86eb0ddbfc23e5ff59f97d9f7db0da654a9", func := "loop.example/g01350/laws.FnExactLongestOnce", spec := "fnExactLongestOnce", inPlace := ["internal/bytealg.IndexByteString", "internal/bytealg.IndexString", "internal/abi.NoEscape"], recurses := true, named := ["internal/bytealg.MaxLen"], apart := false, narrowed := true }
def FnExactLongestOnceUptoSaid : Prop := fnExactLongestOnceUptoRow.holds Try.pinned (OpenSpec.upto fnExactLongestOnceSpec)

end Rows
end Go.Proofs.Ytinojlbnmnlmhab
