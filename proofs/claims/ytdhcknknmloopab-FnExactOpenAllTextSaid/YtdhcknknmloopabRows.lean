/-
  No cell of these rows narrows 'for every input' (looked for: loops, veiled, ifaces, maps, wideKeys, modest, calm, conditions, laid).
  DERIVED. THE GIVEN ROWS OF THIS SEAT. 10 by the template 'for every input the law returns true; each argument reads behind the call as it read before'; 0 by the template 'total and deterministic' (their statements: YtdhcknknmloopabTotals.lean).
  GIVEN WITH THE SEED: the statements are not yours to turn. If you find one false, say at which input.
  Laid BY PROGRAM, IN A SANDBOX (cutbox-rows.mjs): the forced cells as the released guide's own fill.sh prints them over the translation 64dca7fba2f8392f… (all of the seat's roots in one cut). By AI agents, Wed Nov 11 2026. No macro, syntax, notation, axiom, sorry.
-/
import Derived.Test.YtdhcknknmloopabChecked
import GoSem.Claim
import GoSem.ClaimJoined
import GoSem.ClaimMapViews
import Derived.JoinedTies
import Derived.KernelRfl
namespace Go.Proofs.Ytdhcknknmloopab
/- THE CELL 'sum', in the pinned program and in every row, IS THE sha256 OF THE DUMP (.gsa) THAT YtdhcknknmloopabProg.lean LOADS. Nothing in Lean hashes anything: it is a label: what it is worth is what the hold of that sum in a sandbox is worth. -/
noncomputable def Try.pinned : Pinned := { name := "ytdhcknknmloopab", sum := "64dca7fba2f8392f4c4a85b301172cdda6f7b19b9713b24af0403f58cb1ca396", checked := Try.checked }
namespace Rows
def none {H : Type} : Left H := { results := [], args := [] }

/-- 'laws.FnExactCheckOf': WHATEVER THE INPUT: true; the input reads as it did. -/
def fnExactCheckOfSpec : ChangeSpec := { name := "fnExactCheckOf", fn := fun _ => fun
  | [d1, d2] => { results := [.lit (.bool true)], args := [d1, d2] }
  | _ => none }
def fnExactCheckOfRow : OpenClaim := { program := "ytdhcknknmloopab", sum := "64dca7fba2f8392f4c4a85b301172cdda6f7b19b9713b24af0403f58cb1ca396", func := "loop.example/g01350/laws.FnExactCheckOf", spec := "fnExactCheckOf", inPlace := ["internal/bytealg.IndexByteString", "(*sync.WaitGroup).Go", "(*sync.WaitGroup).Add", "internal/race.ReleaseMerge", "internal/race.Disable", "internal/race.Enable", "internal/synctest.IsInBubble", "internal/synctest.Associate[sync.WaitGroup]", "sync.fatal", "sync/atomic.OrUint64", "sync/atomic.AddUint64", "internal/race.Read", "sync/atomic.LoadUint64", "sync/atomic.StoreUint64", "internal/synctest.Disassociate[sync.WaitGroup]", "sync.runtime_Semrelease", "(*sync.WaitGroup).Go$1", "(*sync.WaitGroup).Go$1$1", "(*sync.WaitGroup).Done", "(*sync.WaitGroup).Wait", "internal/race.Acquire", "internal/synctest.IsAssociated[sync.WaitGroup]", "sync/atomic.CompareAndSwapUint64", "internal/race.Write", "sync.runtime_SemacquireWaitGroup"], unfollowed := true, recurses := true, plainKeys := false, leaving := true, apart := false }
def FnExactCheckOfSaid : Prop := fnExactCheckOfRow.holds Try.pinned (OpenSpec.ofChange fnExactCheckOfSpec)

/-- ITS FALSE NEIGHBOUR: 'it returns false'. Refute it at one input. -/
def fnExactCheckOfWrong : ChangeSpec := { name := "fnExactCheckOf", fn := fun _ => fun
  | [d1, d2] => { results := [.lit (.bool false)], args := [d1, d2] }
  | _ => none }
def FnExactCheckOfWrongFalsely : Prop := fnExactCheckOfRow.holds Try.pinned (OpenSpec.ofChange fnExactCheckOfWrong)

/-- 'laws.FnExactNextRight': WHATEVER THE INPUT: true; the input reads as it did. -/
def fnExactNextRightSpec : ChangeSpec := { name := "fnExactNextRight", fn := fun _ => fun
  | [d1, d2] => { results := [.lit (.bool true)], args := [d1, d2] }
  | _ => none }
def fnExactNextRightRow : OpenClaim := { program := "ytdhcknknmloopab", sum := "64dca7fba2f8392f4c4a85b301172cdda6f7b19b9713b24af0403f58cb1ca396", func := "loop.example/g01350/laws.FnExactNextRight", spec := "fnExactNextRight", inPlace := ["internal/bytealg.IndexByteString", "internal/bytealg.IndexString", "(*sync.WaitGroup).Go", "(*sync.WaitGroup).Add", "internal/race.ReleaseMerge", "internal/race.Disable", "internal/race.Enable", "internal/synctest.IsInBubble", "internal/synctest.Associate[sync.WaitGroup]", "sync.fatal", "sync/atomic.OrUint64", "sync/atomic.AddUint64", "internal/race.Read", "sync/atomic.LoadUint64", "sync/atomic.StoreUint64", "internal/synctest.Disassociate[sync.WaitGroup]", "sync.runtime_Semrelease", "(*sync.WaitGroup).Go$1", "(*sync.WaitGroup).Go$1$1", "(*sync.WaitGroup).Done", "(*sync.WaitGroup).Wait", "internal/race.Acquire", "internal/synctest.IsAssociated[sync.WaitGroup]", "sync/atomic.CompareAndSwapUint64", "internal/race.Write", "sync.runtime_SemacquireWaitGroup"], unfollowed := true, recurses := true, named := ["internal/bytealg.MaxLen"], plainKeys := false, leaving := true, apart := false }
def FnExactNextRightSaid : Prop := fnExactNextRightRow.holds Try.pinned (OpenSpec.ofChange fnExactNextRightSpec)

/-- ITS FALSE NEIGHBOUR: 'it returns false'. Refute it at one input. -/
def fnExactNextRightWrong : ChangeSpec := { name := "fnExactNextRight", fn := fun _ => fun
  | [d1, d2] => { results := [.lit (.bool false)], args := [d1, d2] }
  | _ => none }
def FnExactNextRightWrongFalsely : Prop := fnExactNextRightRow.holds Try.pinned (OpenSpec.ofChange fnExactNextRightWrong)

/-- 'laws.FnExactDoubledSum': WHATEVER THE INPUT: true; the input reads as it did. -/
def fnExactDoubledSumSpec : ChangeSpec := { name := "fnExactDoubledSum", fn := fun _ => fun
  | [d] => { results := [.lit (.bool true)], args := [d] }
  | _ => none }
def fnExactDoubledSumRow : OpenClaim := { program := "ytdhcknknmloopab", sum := "64dca7fba2f8392f4c4a85b301172cdda6f7b19b9713b24af0403f58cb1ca396", func := "loop.example/g01350/laws.FnExactDoubledSum", spec := "fnExactDoubledSum", inPlace := ["internal/bytealg.IndexByteString"], plainKeys := false, apart := false }
def FnExactDoubledSumSaid : Prop := fnExactDoubledSumRow.holds Try.pinned (OpenSpec.ofChange fnExactDoubledSumSpec)

/-- ITS FALSE NEIGHBOUR: 'it returns false'. Refute it at one input. -/
def fnExactDoubledSumWrong : ChangeSpec := { name := "fnExactDoubledSum", fn := fun _ => fun
  | [d] => { results := [.lit (.bool false)], args := [d] }
  | _ => none }
def FnExactDoubledSumWrongFalsely : Prop := fnExactDoubledSumRow.holds Try.pinned (OpenSpec.ofChange fnExactDoubledSumWrong)

/-- 'laws.FnExactDoubledCheck': WHATEVER THE INPUT: true; the input reads as it did. -/
def fnExactDoubledCheckSpec : ChangeSpec := { name := "fnExactDoubledCheck", fn := fun _ => fun
  | [d] => { results := [.lit (.bool true)], args := [d] }
  | _ => none }
def fnExactDoubledCheckRow : OpenClaim := { program := "ytdhcknknmloopab", sum := "64dca7fba2f8392f4c4a85b301172cdda6f7b19b9713b24af0403f58cb1ca396", func := "loop.example/g01350/laws.FnExactDoubledCheck", spec := "fnExactDoubledCheck", inPlace := ["internal/bytealg.IndexByteString"], plainKeys := false, apart := false }
def FnExactDoubledCheckSaid : Prop := fnExactDoubledCheckRow.holds Try.pinned (OpenSpec.ofChange fnExactDoubledCheckSpec)

/-- ITS FALSE NEIGHBOUR: 'it returns false'. Refute it at one input. -/
def fnExactDoubledCheckWrong : ChangeSpec := { name := "fnExactDoubledCheck", fn := fun _ => fun
  | [d] => { results := [.lit (.bool false)], args := [d] }
  | _ => none }
def FnExactDoubledCheckWrongFalsely : Prop := fnExactDoubledCheckRow.holds Try.pinned (OpenSpec.ofChange fnExactDoubledCheckWrong)

/-- 'laws.FnExactIsDoubledRight': WHATEVER THE INPUT: true; the input reads as it did. -/
def fnExactIsDoubledRightSpec : ChangeSpec := { name := "fnExactIsDoubledRight", fn := fun _ => fun
  | [d] => { results := [.lit (.bool true)], args := [d] }
  | _ => none }
def fnExactIsDoubledRightRow : OpenClaim := { program := "ytdhcknknmloopab", sum := "64dca7fba2f8392f4c4a85b301172cdda6f7b19b9713b24af0403f58cb1ca396", func := "loop.example/g01350/laws.FnExactIsDoubledRight", spec := "fnExactIsDoubledRight", inPlace := ["internal/bytealg.IndexByteString"], plainKeys := false, apart := false }
def FnExactIsDoubledRightSaid : Prop := fnExactIsDoubledRightRow.holds Try.pinned (OpenSpec.ofChange fnExactIsDoubledRightSpec)

/-- ITS FALSE NEIGHBOUR: 'it returns false'. Refute it at one input. -/
def fnExactIsDoubledRightWrong : ChangeSpec := { name := "fnExactIsDoubledRight", fn := fun _ => fun
  | [d] => { results := [.lit (.bool false)], args := [d] }
  | _ => none }
def FnExactIsDoubledRightWrongFalsely : Prop := fnExactIsDoubledRightRow.holds Try.pinned (OpenSpec.ofChange fnExactIsDoubledRightWrong)

/-- 'laws.FnExactPinsLeft': WHATEVER THE INPUT: true; the input reads as it did. -/
def fnExactPinsLeftSpec : ChangeSpec := { name := "fnExactPinsLeft", fn := fun _ => fun
  | [d] => { results := [.lit (.bool true)], args := [d] }
  | _ => none }
def fnExactPinsLeftRow : OpenClaim := { program := "ytdhcknknmloopab", sum := "64dca7fba2f8392f4c4a85b301172cdda6f7b19b9713b24af0403f58cb1ca396", func := "loop.example/g01350/laws.FnExactPinsLeft", spec := "fnExactPinsLeft", inPlace := ["internal/bytealg.IndexByteString", "internal/abi.NoEscape", "(*sync.WaitGroup).Go", "(*sync.WaitGroup).Add", "internal/race.ReleaseMerge", "internal/race.Disable", "internal/race.Enable", "internal/synctest.IsInBubble", "internal/synctest.Associate[sync.WaitGroup]", "sync.fatal", "sync/atomic.OrUint64", "sync/atomic.AddUint64", "internal/race.Read", "sync/atomic.LoadUint64", "sync/atomic.StoreUint64", "internal/synctest.Disassociate[sync.WaitGroup]", "sync.runtime_Semrelease", "(*sync.WaitGroup).Go$1", "(*sync.WaitGroup).Go$1$1", "(*sync.WaitGroup).Done", "(*sync.WaitGroup).Wait", "internal/race.Acquire", "internal/synctest.IsAssociated[sync.WaitGroup]", "sync/atomic.CompareAndSwapUint64", "internal/race.Write", "sync.runtime_SemacquireWaitGroup"], unfollowed := true, recurses := true, plainKeys := false, leaving := true, apart := false }
def FnExactPinsLeftSaid : Prop := fnExactPinsLeftRow.holds Try.pinned (OpenSpec.ofChange fnExactPinsLeftSpec)

/-- ITS FALSE NEIGHBOUR: 'it returns false'. Refute it at one input. -/
def fnExactPinsLeftWrong : ChangeSpec := { name := "fnExactPinsLeft", fn := fun _ => fun
  | [d] => { results := [.lit (.bool false)], args := [d] }
  | _ => none }
def FnExactPinsLeftWrongFalsely : Prop := fnExactPinsLeftRow.holds Try.pinned (OpenSpec.ofChange fnExactPinsLeftWrong)

/-- 'laws.FnExactCountPinsLeft': WHATEVER THE INPUT: true; the input reads as it did. -/
def fnExactCountPinsLeftSpec : ChangeSpec := { name := "fnExactCountPinsLeft", fn := fun _ => fun
  | [d] => { results := [.lit (.bool true)], args := [d] }
  | _ => none }
def fnExactCountPinsLeftRow : OpenClaim := { program := "ytdhcknknmloopab", sum := "64dca7fba2f8392f4c4a85b301172cdda6f7b19b9713b24af0403f58cb1ca396", func := "loop.example/g01350/laws.FnExactCountPinsLeft", spec := "fnExactCountPinsLeft", inPlace := ["internal/bytealg.IndexByteString", "internal/abi.NoEscape", "(*sync.WaitGroup).Go", "(*sync.WaitGroup).Add", "internal/race.ReleaseMerge", "internal/race.Disable", "internal/race.Enable", "internal/synctest.IsInBubble", "internal/synctest.Associate[sync.WaitGroup]", "sync.fatal", "sync/atomic.OrUint64", "sync/atomic.AddUint64", "internal/race.Read", "sync/atomic.LoadUint64", "sync/atomic.StoreUint64", "internal/synctest.Disassociate[sync.WaitGroup]", "sync.runtime_Semrelease", "(*sync.WaitGroup).Go$1", "(*sync.WaitGroup).Go$1$1", "(*sync.WaitGroup).Done", "(*sync.WaitGroup).Wait", "internal/race.Acquire", "internal/synctest.IsAssociated[sync.WaitGroup]", "sync/atomic.CompareAndSwapUint64", "internal/race.Write", "sync.runtime_SemacquireWaitGroup"], unfollowed := true, recurses := true, plainKeys := false, leaving := true, apart := false }
def FnExactCountPinsLeftSaid : Prop := fnExactCountPinsLeftRow.holds Try.pinned (OpenSpec.ofChange fnExactCountPinsLeftSpec)

/-- ITS FALSE NEIGHBOUR: 'it returns false'. Refute it at one input. -/
def fnExactCountPinsLeftWrong : ChangeSpec := { name := "fnExactCountPinsLeft", fn := fun _ => fun
  | [d] => { results := [.lit (.bool false)], args := [d] }
  | _ => none }
def FnExactCountPinsLeftWrongFalsely : Prop := fnExactCountPinsLeftRow.holds Try.pinned (OpenSpec.ofChange fnExactCountPinsLeftWrong)

/-- 'laws.FnExactWorstLeft': WHATEVER THE INPUT: true; the input reads as it did. -/
def fnExactWorstLeftSpec : ChangeSpec := { name := "fnExactWorstLeft", fn := fun _ => fun
  | [d1, d2] => { results := [.lit (.bool true)], args := [d1, d2] }
  | _ => none }
def fnExactWorstLeftRow : OpenClaim := { program := "ytdhcknknmloopab", sum := "64dca7fba2f8392f4c4a85b301172cdda6f7b19b9713b24af0403f58cb1ca396", func := "loop.example/g01350/laws.FnExactWorstLeft", spec := "fnExactWorstLeft", inPlace := ["internal/bytealg.IndexByteString", "internal/abi.NoEscape", "(*sync.WaitGroup).Go", "(*sync.WaitGroup).Add", "internal/race.ReleaseMerge", "internal/race.Disable", "internal/race.Enable", "internal/synctest.IsInBubble", "internal/synctest.Associate[sync.WaitGroup]", "sync.fatal", "sync/atomic.OrUint64", "sync/atomic.AddUint64", "internal/race.Read", "sync/atomic.LoadUint64", "sync/atomic.StoreUint64", "internal/synctest.Disassociate[sync.WaitGroup]", "sync.runtime_Semrelease", "(*sync.WaitGroup).Go$1", "(*sync.WaitGroup).Go$1$1", "(*sync.WaitGroup).Done", "(*sync.WaitGroup).Wait", "internal/race.Acquire", "internal/synctest.IsAssociated[sync.WaitGroup]", "sync/atomic.CompareAndSwapUint64", "internal/race.Write", "sync.runtime_SemacquireWaitGroup"], unfollowed := true, recurses := true, plainKeys := false, leaving := true, apart := false }
def FnExactWorstLeftSaid : Prop := fnExactWorstLeftRow.holds Try.pinned (OpenSpec.ofChange fnExactWorstLeftSpec)

/-- ITS FALSE NEIGHBOUR: 'it returns false'. Refute it at one input. -/
def fnExactWorstLeftWrong : ChangeSpec := { name := "fnExactWorstLeft", fn := fun _ => fun
  | [d1, d2] => { results := [.lit (.bool false)], args := [d1, d2] }
  | _ => none }
def FnExactWorstLeftWrongFalsely : Prop := fnExactWorstLeftRow.holds Try.pinned (OpenSpec.ofChange fnExactWorstLeftWrong)

/-- 'laws.FnExactBestGuess': WHATEVER THE INPUT: true; the input reads as it did. -/
def fnExactBestGuessSpec : ChangeSpec := { name := "fnExactBestGuess", fn := fun _ => fun
  | [d] => { results := [.lit (.bool true)], args := [d] }
  | _ => none }
def fnExactBestGuessRow : OpenClaim := { program := "ytdhcknknmloopab", sum := "64dca7fba2f8392f4c4a85b301172cdda6f7b19b9713b24af0403f58cb1ca396", func := "loop.example/g01350/laws.FnExactBestGuess", spec := "fnExactBestGuess", inPlace := ["internal/bytealg.IndexByteString", "internal/abi.NoEscape", "(*sync.WaitGroup).Go", "(*sync.WaitGroup).Add", "internal/race.ReleaseMerge", "internal/race.Disable", "internal/race.Enable", "internal/synctest.IsInBubble", "internal/synctest.Associate[sync.WaitGroup]", "sync.fatal", "sync/atomic.OrUint64", "sync/atomic.AddUint64", "internal/race.Read", "sync/atomic.LoadUint64", "sync/atomic.StoreUint64", "internal/synctest.Disassociate[sync.WaitGroup]", "sync.runtime_Semrelease", "(*sync.WaitGroup).Go$1", "(*sync.WaitGroup).Go$1$1", "(*sync.WaitGroup).Done", "(*sync.WaitGroup).Wait", "internal/race.Acquire", "internal/synctest.IsAssociated[sync.WaitGroup]", "sync/atomic.CompareAndSwapUint64", "internal/race.Write", "sync.runtime_SemacquireWaitGroup"], unfollowed := true, recurses := true, plainKeys := false, leaving := true, apart := false }
def FnExactBestGuessSaid : Prop := fnExactBestGuessRow.holds Try.pinned (OpenSpec.ofChange fnExactBestGuessSpec)

/-- ITS FALSE NEIGHBOUR: 'it returns false'. Refute it at one input. -/
def fnExactBestGuessWrong : ChangeSpec := { name := "fnExactBestGuess", fn := fun _ => fun
  | [d] => { results := [.lit (.bool false)], args := [d] }
  | _ => none }
def FnExactBestGuessWrongFalsely : Prop := fnExactBestGuessRow.holds Try.pinned (OpenSpec.ofChange fnExactBestGuessWrong)

/-- 'laws.FnExactOpenAllText': WHATEVER THE INPUT: true; the input reads as it did. -/
def fnExactOpenAllTextSpec : ChangeSpec := { name := "fnExactOpenAllText", fn := fun _ => fun
  | [d1, d2] => { results := [.lit (.bool true)], args := [d1, d2] }
  | _ => none }
def fnExactOpenAllTextRow : OpenClaim := { program := "ytdhcknknmloopab", sum := "64dca7fba2f8392f4c4a85b301172cdda6f7b19b9713b24af0403f58cb1ca396", func := "loop.example/g01350/laws.FnExactOpenAllText", spec := "fnExactOpenAllText", inPlace := ["internal/abi.NoEscape", "internal/bytealg.MakeNoZero"], recurses := true, plainKeys := false, apart := false }
def FnExactOpenAllTextSaid : Prop := fnExactOpenAllTextRow.holds Try.pinned (OpenSpec.ofChange fnExactOpenAllTextSpec)

/-- ITS FALSE NEIGHBOUR: 'it returns false'. Refute it at one input. -/
def fnExactOpenAllTextWrong : ChangeSpec := { name := "fnExactOpenAllText", fn := fun _ => fun
  | [d1, d2] => { results := [.lit (.bool false)], args := [d1, d2] }
  | _ => none }
def FnExactOpenAllTextWrongFalsely : Prop := fnExactOpenAllTextRow.holds Try.pinned (OpenSpec.ofChange fnExactOpenAllTextWrong)

/- THE SECOND FORM. 'bulk': how many values and letters a reading holds, each counted each time it is reached (what is shared counts as often as it is met; a slice's spare places count too). A statement '..UptoSaid' is the law's where the arguments, and the package variables that the reading takes, are together of bulk at most 1048576: NARROWER than '..Said'. Prove '..Said' where nothing that the law and all that it calls make is longer than what came in: it says more and counts as full. Else prove '..UptoSaid'. A law counts once. -/
mutual
def uptoBulk {H : Type} : DataW H → Nat
  | .lit (.string bytes) => bytes.length + 1
  | .lit _ => 1
  | .nil => 1
  | .ptr d => uptoBulk d + 1
  | .slice elems spare => uptoBulkAll elems + uptoBulkAll spare + 1
  | .agg parts => uptoBulkAll parts + 1
  | .iface _ d => uptoBulk d + 1
  | .map entries => uptoBulkEntries entries + 1
  | .held _ => 1
def uptoBulkAll {H : Type} : List (DataW H) → Nat
  | [] => 0
  | d :: r => uptoBulk d + uptoBulkAll r
def uptoBulkEntries {H : Type} : List (Lit × DataW H) → Nat
  | [] => 0
  | x :: r => uptoBulkEntry x + uptoBulkEntries r
def uptoBulkEntry {H : Type} : Lit × DataW H → Nat
  | (.string bytes, d) => bytes.length + uptoBulk d + 1
  | (_, d) => uptoBulk d + 1
 end
def uptoSmall : (H : Type) → List (DataW H) → Bool := fun _ ds => decide (uptoBulkAll ds ≤ 1048576)
def OpenSpec.upto (s : _root_.Go.ChangeSpec) : _root_.Go.OpenSpec := { _root_.Go.OpenSpec.ofChange s with cond := some uptoSmall }

/-- 'laws.FnExactCheckOf', WHERE WHAT IT READS IS OF BULK AT MOST 1048576: true; the input reads as it did. -/
def fnExactCheckOfUptoRow : OpenClaim := { program := "ytdhcknknmloopab", sum := "64dca7fba2f8392f4c4a85b301172cdda6f7b19b9713b24af0403f58cb1ca396", func := "loop.example/g01350/laws.FnExactCheckOf", spec := "fnExactCheckOf", inPlace := ["internal/bytealg.IndexByteString", "(*sync.WaitGroup).Go", "(*sync.WaitGroup).Add", "internal/race.ReleaseMerge", "internal/race.Disable", "internal/race.Enable", "internal/synctest.IsInBubble", "internal/synctest.Associate[sync.WaitGroup]", "sync.fatal", "sync/atomic.OrUint64", "sync/atomic.AddUint64", "internal/race.Read", "sync/atomic.LoadUint64", "sync/atomic.StoreUint64", "internal/synctest.Disassociate[sync.WaitGroup]", "sync.runtime_Semrelease", "(*sync.WaitGroup).Go$1", "(*sync.WaitGroup).Go$1$1", "(*sync.WaitGroup).Done", "(*sync.WaitGroup).Wait", "internal/race.Acquire", "internal/synctest.IsAssociated[sync.WaitGroup]", "sync/atomic.CompareAndSwapUint64", "internal/race.Write", "sync.runtime_SemacquireWaitGroup"], unfollowed := true, recurses := true, plainKeys := false, leaving := true, apart := false, narrowed := true }
def FnExactCheckOfUptoSaid : Prop := fnExactCheckOfUptoRow.holds Try.pinned (OpenSpec.upto fnExactCheckOfSpec)

/-- 'laws.FnExactNextRight', WHERE WHAT IT READS IS OF BULK AT MOST 1048576: true; the input reads as it did. -/
def fnExactNextRightUptoRow : OpenClaim := { program := "ytdhcknknmloopab", sum := "64dca7fba2f8392f4c4a85b301172cdda6f7b19b9713b24af0403f58cb1ca396", func := "loop.example/g01350/laws.FnExactNextRight", spec := "fnExactNextRight", inPlace := ["internal/bytealg.IndexByteString", "internal/bytealg.IndexString", "(*sync.WaitGroup).Go", "(*sync.WaitGroup).Add", "internal/race.ReleaseMerge", "internal/race.Disable", "internal/race.Enable", "internal/synctest.IsInBubble", "internal/synctest.Associate[sync.WaitGroup]", "sync.fatal", "sync/atomic.OrUint64", "sync/atomic.AddUint64", "internal/race.Read", "sync/atomic.LoadUint64", "sync/atomic.StoreUint64", "internal/synctest.Disassociate[sync.WaitGroup]", "sync.runtime_Semrelease", "(*sync.WaitGroup).Go$1", "(*sync.WaitGroup).Go$1$1", "(*sync.WaitGroup).Done", "(*sync.WaitGroup).Wait", "internal/race.Acquire", "internal/synctest.IsAssociated[sync.WaitGroup]", "sync/atomic.CompareAndSwapUint64", "internal/race.Write", "sync.runtime_SemacquireWaitGroup"], unfollowed := true, recurses := true, named := ["internal/bytealg.MaxLen"], plainKeys := false, leaving := true, apart := false, narrowed := true }
def FnExactNextRightUptoSaid : Prop := fnExactNextRightUptoRow.holds Try.pinned (OpenSpec.upto fnExactNextRightSpec)

/-- 'laws.FnExactDoubledSum', WHERE WHAT IT READS IS OF BULK AT MOST 1048576: true; the input reads as it did. -/
def fnExactDoubledSumUptoRow : OpenClaim := { program := "ytdhcknknmloopab", sum := "64dca7fba2f8392f4c4a85b301172cdda6f7b19b9713b24af0403f58cb1ca396", func := "loop.example/g01350/laws.FnExactDoubledSum", spec := "fnExactDoubledSum", inPlace := ["internal/bytealg.IndexByteString"], plainKeys := false, apart := false, narrowed := true }
def FnExactDoubledSumUptoSaid : Prop := fnExactDoubledSumUptoRow.holds Try.pinned (OpenSpec.upto fnExactDoubledSumSpec)

/-- 'laws.FnExactDoubledCheck', WHERE WHAT IT READS IS OF BULK AT MOST 1048576: true; the input reads as it did. -/
def fnExactDoubledCheckUptoRow : OpenClaim := { program := "ytdhcknknmloopab", sum := "64dca7fba2f8392f4c4a85b301172cdda6f7b19b9713b24af0403f58cb1ca396", func := "loop.example/g01350/laws.FnExactDoubledCheck", spec := "fnExactDoubledCheck", inPlace := ["internal/bytealg.IndexByteString"], plainKeys := false, apart := false, narrowed := true }
def FnExactDoubledCheckUptoSaid : Prop := fnExactDoubledCheckUptoRow.holds Try.pinned (OpenSpec.upto fnExactDoubledCheckSpec)

/-- 'laws.FnExactIsDoubledRight', WHERE WHAT IT READS IS OF BULK AT MOST 1048576: true; the input reads as it did. -/
def fnExactIsDoubledRightUptoRow : OpenClaim := { program := "ytdhcknknmloopab", sum := "64dca7fba2f8392f4c4a85b301172cdda6f7b19b9713b24af0403f58cb1ca396", func := "loop.example/g01350/laws.FnExactIsDoubledRight", spec := "fnExactIsDoubledRight", inPlace := ["internal/bytealg.IndexByteString"], plainKeys := false, apart := false, narrowed := true }
def FnExactIsDoubledRightUptoSaid : Prop := fnExactIsDoubledRightUptoRow.holds Try.pinned (OpenSpec.upto fnExactIsDoubledRightSpec)

/-- 'laws.FnExactPinsLeft', WHERE WHAT IT READS IS OF BULK AT MOST 1048576: true; the input reads as it did. -/
def fnExactPinsLeftUptoRow : OpenClaim := { program := "ytdhcknknmloopab", sum := "64dca7fba2f8392f4c4a85b301172cdda6f7b19b9713b24af0403f58cb1ca396", func := "loop.example/g01350/laws.FnExactPinsLeft", spec := "fnExactPinsLeft", inPlace := ["internal/bytealg.IndexByteString", "internal/abi.NoEscape", "(*sync.WaitGroup).Go", "(*sync.WaitGroup).Add", "internal/race.ReleaseMerge", "internal/race.Disable", "internal/race.Enable", "internal/synctest.IsInBubble", "internal/synctest.Associate[sync.WaitGroup]", "sync.fatal", "sync/atomic.OrUint64", "sync/atomic.AddUint64", "internal/race.Read", "sync/atomic.LoadUint64", "sync/atomic.StoreUint64", "internal/synctest.Disassociate[sync.WaitGroup]", "sync.runtime_Semrelease", "(*sync.WaitGroup).Go$1", "(*sync.WaitGroup).Go$1$1", "(*sync.WaitGroup).Done", "(*sync.WaitGroup).Wait", "internal/race.Acquire", "internal/synctest.IsAssociated[sync.WaitGroup]", "sync/atomic.CompareAndSwapUint64", "internal/race.Write", "sync.runtime_SemacquireWaitGroup"], unfollowed := true, recurses := true, plainKeys := false, leaving := true, apart := false, narrowed := true }
def FnExactPinsLeftUptoSaid : Prop := fnExactPinsLeftUptoRow.holds Try.pinned (OpenSpec.upto fnExactPinsLeftSpec)

/-- 'laws.FnExactCountPinsLeft', WHERE WHAT IT READS IS OF BULK AT MOST 1048576: true; the input reads as it did. -/
def fnExactCountPinsLeftUptoRow : OpenClaim := { program := "ytdhcknknmloopab", sum := "64dca7fba2f8392f4c4a85b301172cdda6f7b19b9713b24af0403f58cb1ca396", func := "loop.example/g01350/laws.FnExactCountPinsLeft", spec := "fnExactCountPinsLeft", inPlace := ["internal/bytealg.IndexByteString", "internal/abi.NoEscape", "(*sync.WaitGroup).Go", "(*sync.WaitGroup).Add", "internal/race.ReleaseMerge", "internal/race.Disable", "internal/race.Enable", "internal/synctest.IsInBubble", "internal/synctest.Associate[sync.WaitGroup]", "sync.fatal", "sync/atomic.OrUint64", "sync/atomic.AddUint64", "internal/race.Read", "sync/atomic.LoadUint64", "sync/atomic.StoreUint64", "internal/synctest.Disassociate[sync.WaitGroup]", "sync.runtime_Semrelease", "(*sync.WaitGroup).Go$1", "(*sync.WaitGroup).Go$1$1", "(*sync.WaitGroup).Done", "(*sync.WaitGroup).Wait", "internal/race.Acquire", "internal/synctest.IsAssociated[sync.WaitGroup]", "sync/atomic.CompareAndSwapUint64", "internal/race.Write", "sync.runtime_SemacquireWaitGroup"], unfollowed := true, recurses := true, plainKeys := false, leaving := true, apart := false, narrowed := true }
def FnExactCountPinsLeftUptoSaid : Prop := fnExactCountPinsLeftUptoRow.holds Try.pinned (OpenSpec.upto fnExactCountPinsLeftSpec)

/-- 'laws.FnExactWorstLeft', WHERE WHAT IT READS IS OF BULK AT MOST 1048576: true; the input reads as it did. -/
def fnExactWorstLeftUptoRow : OpenClaim := { program := "ytdhcknknmloopab", sum := "64dca7fba2f8392f4c4a85b301172cdda6f7b19b9713b24af0403f58cb1ca396", func := "loop.example/g01350/laws.FnExactWorstLeft", spec := "fnExactWorstLeft", inPlace := ["internal/bytealg.IndexByteString", "internal/abi.NoEscape", "(*sync.WaitGroup).Go", "(*sync.WaitGroup).Add", "internal/race.ReleaseMerge", "internal/race.Disable", "internal/race.Enable", "internal/synctest.IsInBubble", "internal/synctest.Associate[sync.WaitGroup]", "sync.fatal", "sync/atomic.OrUint64", "sync/atomic.AddUint64", "internal/race.Read", "sync/atomic.LoadUint64", "sync/atomic.StoreUint64", "internal/synctest.Disassociate[sync.WaitGroup]", "sync.runtime_Semrelease", "(*sync.WaitGroup).Go$1", "(*sync.WaitGroup).Go$1$1", "(*sync.WaitGroup).Done", "(*sync.WaitGroup).Wait", "internal/race.Acquire", "internal/synctest.IsAssociated[sync.WaitGroup]", "sync/atomic.CompareAndSwapUint64", "internal/race.Write", "sync.runtime_SemacquireWaitGroup"], unfollowed := true, recurses := true, plainKeys := false, leaving := true, apart := false, narrowed := true }
def FnExactWorstLeftUptoSaid : Prop := fnExactWorstLeftUptoRow.holds Try.pinned (OpenSpec.upto fnExactWorstLeftSpec)

/-- 'laws.FnExactBestGuess', WHERE WHAT IT READS IS OF BULK AT MOST 1048576: true; the input reads as it did. -/
def fnExactBestGuessUptoRow : OpenClaim := { program := "ytdhcknknmloopab", sum := "64dca7fba2f8392f4c4a85b301172cdda6f7b19b9713b24af0403f58cb1ca396", func := "loop.example/g01350/laws.FnExactBestGuess", spec := "fnExactBestGuess", inPlace := ["internal/bytealg.IndexByteString", "internal/abi.NoEscape", "(*sync.WaitGroup).Go", "(*sync.WaitGroup).Add", "internal/race.ReleaseMerge", "internal/race.Disable", "internal/race.Enable", "internal/synctest.IsInBubble", "internal/synctest.Associate[sync.WaitGroup]", "sync.fatal", "sync/atomic.OrUint64", "sync/atomic.AddUint64", "internal/race.Read", "sync/atomic.LoadUint64", "sync/atomic.StoreUint64", "internal/synctest.Disassociate[sync.WaitGroup]", "sync.runtime_Semrelease", "(*sync.WaitGroup).Go$1", "(*sync.WaitGroup).Go$1$1", "(*sync.WaitGroup).Done", "(*sync.WaitGroup).Wait", "internal/race.Acquire", "internal/synctest.IsAssociated[sync.WaitGroup]", "sync/atomic.CompareAndSwapUint64", "internal/race.Write", "sync.runtime_SemacquireWaitGroup"], unfollowed := true, recurses := true, plainKeys := false, leaving := true, apart := false, narrowed := true }
def FnExactBestGuessUptoSaid : Prop := fnExactBestGuessUptoRow.holds Try.pinned (OpenSpec.upto fnExactBestGuessSpec)

/-- 'laws.FnExactOpenAllText', WHERE WHAT IT READS IS OF BULK AT MOST 1048576: true; the input reads as it did. -/
def fnExactOpenAllTextUptoRow : OpenClaim := { program := "ytdhcknknmloopab", sum := "64dca7fba2f8392f4c4a85b301172cdda6f7b19b9713b24af0403f58cb1ca396", func := "loop.example/g01350/laws.FnExactOpenAllText", spec := "fnExactOpenAllText", inPlace := ["internal/abi.NoEscape", "internal/bytealg.MakeNoZero"], recurses := true, plainKeys := false, apart := false, narrowed := true }
def FnExactOpenAllTextUptoSaid : Prop := fnExactOpenAllTextUptoRow.holds Try.pinned (OpenSpec.upto fnExactOpenAllTextSpec)

end Rows
end Go.Proofs.Ytdhcknknmloopab
