/-
  No cell of these rows narrows 'for every input' (looked for: loops, veiled, ifaces, maps, wideKeys, modest, calm, conditions, laid).
  DERIVED. THE GIVEN ROWS OF THIS SEAT. 11 by the template 'for every input the law returns true; each argument reads behind the call as it read before'; 0 by the template 'total and deterministic' (their statements: YtmpajijnpoekgabTotals.lean).
  GIVEN WITH THE SEED: the statements are not yours to turn. If you find one false, say at which input.
  Laid BY PROGRAM, IN A SANDBOX (cutbox-rows.mjs): the forced cells as the released guide's own fill.sh prints them over the translation db0e597285dcee21… (all of the seat's roots in one cut). By AI agents, Wed Nov 11 2026. No macro, syntax, notation, axiom, sorry.
-/
import Derived.Test.YtmpajijnpoekgabChecked
import GoSem.Claim
import GoSem.ClaimJoined
import GoSem.ClaimMapViews
import Derived.JoinedTies
import Derived.KernelRfl
namespace Go.Proofs.Ytmpajijnpoekgab
/- THE CELL 'sum', in the pinned program and in every row, IS THE sha256 OF THE DUMP (.gsa) THAT YtmpajijnpoekgabProg.lean LOADS. Nothing in Lean hashes anything: it is a label: what it is worth is what the hold of that sum in a sandbox is worth. -/
noncomputable def Try.pinned : Pinned := { name := "ytmpajijnpoekgab", sum := "db0e597285dcee2144b7304c597d34740c4c309c62ca121d2a9569638ffba4b8", checked := Try.checked }
namespace Rows
def none {H : Type} : Left H := { results := [], args := [] }

/-- 'laws.FnExactOpensAt': WHATEVER THE INPUT: true; the input reads as it did. -/
def fnExactOpensAtSpec : ChangeSpec := { name := "fnExactOpensAt", fn := fun _ => fun
  | [d1, d2] => { results := [.lit (.bool true)], args := [d1, d2] }
  | _ => none }
def fnExactOpensAtRow : OpenClaim := { program := "ytmpajijnpoekgab", sum := "db0e597285dcee2144b7304c597d34740c4c309c62ca121d2a9569638ffba4b8", func := "loop.example/g01350/laws.FnExactOpensAt", spec := "fnExactOpensAt", inPlace := ["internal/bytealg.IndexByteString", "internal/bytealg.IndexString"], named := ["internal/bytealg.MaxLen"], plainKeys := false, apart := false }
def FnExactOpensAtSaid : Prop := fnExactOpensAtRow.holds Try.pinned (OpenSpec.ofChange fnExactOpensAtSpec)

/-- ITS FALSE NEIGHBOUR: 'it returns false'. Refute it at one input. -/
def fnExactOpensAtWrong : ChangeSpec := { name := "fnExactOpensAt", fn := fun _ => fun
  | [d1, d2] => { results := [.lit (.bool false)], args := [d1, d2] }
  | _ => none }
def FnExactOpensAtWrongFalsely : Prop := fnExactOpensAtRow.holds Try.pinned (OpenSpec.ofChange fnExactOpensAtWrong)

/-- 'laws.FnExactOpenAllText': WHATEVER THE INPUT: true; the input reads as it did. -/
def fnExactOpenAllTextSpec : ChangeSpec := { name := "fnExactOpenAllText", fn := fun _ => fun
  | [d1, d2] => { results := [.lit (.bool true)], args := [d1, d2] }
  | _ => none }
def fnExactOpenAllTextRow : OpenClaim := { program := "ytmpajijnpoekgab", sum := "db0e597285dcee2144b7304c597d34740c4c309c62ca121d2a9569638ffba4b8", func := "loop.example/g01350/laws.FnExactOpenAllText", spec := "fnExactOpenAllText", inPlace := ["internal/abi.NoEscape", "internal/bytealg.MakeNoZero"], recurses := true, plainKeys := false, apart := false }
def FnExactOpenAllTextSaid : Prop := fnExactOpenAllTextRow.holds Try.pinned (OpenSpec.ofChange fnExactOpenAllTextSpec)

/-- ITS FALSE NEIGHBOUR: 'it returns false'. Refute it at one input. -/
def fnExactOpenAllTextWrong : ChangeSpec := { name := "fnExactOpenAllText", fn := fun _ => fun
  | [d1, d2] => { results := [.lit (.bool false)], args := [d1, d2] }
  | _ => none }
def FnExactOpenAllTextWrongFalsely : Prop := fnExactOpenAllTextRow.holds Try.pinned (OpenSpec.ofChange fnExactOpenAllTextWrong)

/-- 'laws.FnExactDoesOpenAll': WHATEVER THE INPUT: true; the input reads as it did. -/
def fnExactDoesOpenAllSpec : ChangeSpec := { name := "fnExactDoesOpenAll", fn := fun _ => fun
  | [d1, d2, d3] => { results := [.lit (.bool true)], args := [d1, d2, d3] }
  | _ => none }
def fnExactDoesOpenAllRow : OpenClaim := { program := "ytmpajijnpoekgab", sum := "db0e597285dcee2144b7304c597d34740c4c309c62ca121d2a9569638ffba4b8", func := "loop.example/g01350/laws.FnExactDoesOpenAll", spec := "fnExactDoesOpenAll", inPlace := ["internal/bytealg.IndexByteString", "internal/abi.NoEscape", "internal/bytealg.IndexString"], recurses := true, named := ["internal/bytealg.MaxLen"], plainKeys := false, apart := false }
def FnExactDoesOpenAllSaid : Prop := fnExactDoesOpenAllRow.holds Try.pinned (OpenSpec.ofChange fnExactDoesOpenAllSpec)

/-- ITS FALSE NEIGHBOUR: 'it returns false'. Refute it at one input. -/
def fnExactDoesOpenAllWrong : ChangeSpec := { name := "fnExactDoesOpenAll", fn := fun _ => fun
  | [d1, d2, d3] => { results := [.lit (.bool false)], args := [d1, d2, d3] }
  | _ => none }
def FnExactDoesOpenAllWrongFalsely : Prop := fnExactDoesOpenAllRow.holds Try.pinned (OpenSpec.ofChange fnExactDoesOpenAllWrong)

/-- 'laws.FnExactPinsLeft': WHATEVER THE INPUT: true; the input reads as it did. -/
def fnExactPinsLeftSpec : ChangeSpec := { name := "fnExactPinsLeft", fn := fun _ => fun
  | [d] => { results := [.lit (.bool true)], args := [d] }
  | _ => none }
def fnExactPinsLeftRow : OpenClaim := { program := "ytmpajijnpoekgab", sum := "db0e597285dcee2144b7304c597d34740c4c309c62ca121d2a9569638ffba4b8", func := "loop.example/g01350/laws.FnExactPinsLeft", spec := "fnExactPinsLeft", inPlace := ["internal/bytealg.IndexByteString", "internal/abi.NoEscape", "(*sync.WaitGroup).Go", "(*sync.WaitGroup).Add", "internal/race.ReleaseMerge", "internal/race.Disable", "internal/race.Enable", "internal/synctest.IsInBubble", "internal/synctest.Associate[sync.WaitGroup]", "sync.fatal", "sync/atomic.OrUint64", "sync/atomic.AddUint64", "internal/race.Read", "sync/atomic.LoadUint64", "sync/atomic.StoreUint64", "internal/synctest.Disassociate[sync.WaitGroup]", "sync.runtime_Semrelease", "(*sync.WaitGroup).Go$1", "(*sync.WaitGroup).Go$1$1", "(*sync.WaitGroup).Done", "(*sync.WaitGroup).Wait", "internal/race.Acquire", "internal/synctest.IsAssociated[sync.WaitGroup]", "sync/atomic.CompareAndSwapUint64", "internal/race.Write", "sync.runtime_SemacquireWaitGroup"], unfollowed := true, recurses := true, plainKeys := false, leaving := true, apart := false }
def FnExactPinsLeftSaid : Prop := fnExactPinsLeftRow.holds Try.pinned (OpenSpec.ofChange fnExactPinsLeftSpec)

/-- ITS FALSE NEIGHBOUR: 'it returns false'. Refute it at one input. -/
def fnExactPinsLeftWrong : ChangeSpec := { name := "fnExactPinsLeft", fn := fun _ => fun
  | [d] => { results := [.lit (.bool false)], args := [d] }
  | _ => none }
def FnExactPinsLeftWrongFalsely : Prop := fnExactPinsLeftRow.holds Try.pinned (OpenSpec.ofChange fnExactPinsLeftWrong)

/-- 'laws.FnExactCountPinsLeft': WHATEVER THE INPUT: true; the input reads as it did. -/
def fnExactCountPinsLeftSpec : ChangeSpec := { name := "fnExactCountPinsLeft", fn := fun _ => fun
  | [d] => { results := [.lit (.bool true)], args := [d] }
  | _ => none }
def fnExactCountPinsLeftRow : OpenClaim := { program := "ytmpajijnpoekgab", sum := "db0e597285dcee2144b7304c597d34740c4c309c62ca121d2a9569638ffba4b8", func := "loop.example/g01350/laws.FnExactCountPinsLeft", spec := "fnExactCountPinsLeft", inPlace := ["internal/bytealg.IndexByteString", "internal/abi.NoEscape", "(*sync.WaitGroup).Go", "(*sync.WaitGroup).Add", "internal/race.ReleaseMerge", "internal/race.Disable", "internal/race.Enable", "internal/synctest.IsInBubble", "internal/synctest.Associate[sync.WaitGroup]", "sync.fatal", "sync/atomic.OrUint64", "sync/atomic.AddUint64", "internal/race.Read", "sync/atomic.LoadUint64", "sync/atomic.StoreUint64", "internal/synctest.Disassociate[sync.WaitGroup]", "sync.runtime_Semrelease", "(*sync.WaitGroup).Go$1", "(*sync.WaitGroup).Go$1$1", "(*sync.WaitGroup).Done", "(*sync.WaitGroup).Wait", "internal/race.Acquire", "internal/synctest.IsAssociated[sync.WaitGroup]", "sync/atomic.CompareAndSwapUint64", "internal/race.Write", "sync.runtime_SemacquireWaitGroup"], unfollowed := true, recurses := true, plainKeys := false, leaving := true, apart := false }
def FnExactCountPinsLeftSaid : Prop := fnExactCountPinsLeftRow.holds Try.pinned (OpenSpec.ofChange fnExactCountPinsLeftSpec)

/-- ITS FALSE NEIGHBOUR: 'it returns false'. Refute it at one input. -/
def fnExactCountPinsLeftWrong : ChangeSpec := { name := "fnExactCountPinsLeft", fn := fun _ => fun
  | [d] => { results := [.lit (.bool false)], args := [d] }
  | _ => none }
def FnExactCountPinsLeftWrongFalsely : Prop := fnExactCountPinsLeftRow.holds Try.pinned (OpenSpec.ofChange fnExactCountPinsLeftWrong)

/-- 'laws.FnExactWorstLeft': WHATEVER THE INPUT: true; the input reads as it did. -/
def fnExactWorstLeftSpec : ChangeSpec := { name := "fnExactWorstLeft", fn := fun _ => fun
  | [d1, d2] => { results := [.lit (.bool true)], args := [d1, d2] }
  | _ => none }
def fnExactWorstLeftRow : OpenClaim := { program := "ytmpajijnpoekgab", sum := "db0e597285dcee2144b7304c597d34740c4c309c62ca121d2a9569638ffba4b8", func := "loop.example/g01350/laws.FnExactWorstLeft", spec := "fnExactWorstLeft", inPlace := ["internal/bytealg.IndexByteString", "internal/abi.NoEscape", "(*sync.WaitGroup).Go", "(*sync.WaitGroup).Add", "internal/race.ReleaseMerge", "internal/race.Disable", "internal/race.Enable", "internal/synctest.IsInBubble", "internal/synctest.Associate[sync.WaitGroup]", "sync.fatal", "sync/atomic.OrUint64", "sync/atomic.AddUint64", "internal/race.Read", "sync/atomic.LoadUint64", "sync/atomic.StoreUint64", "internal/synctest.Disassociate[sync.WaitGroup]", "sync.runtime_Semrelease", "(*sync.WaitGroup).Go$1", "(*sync.WaitGroup).Go$1$1", "(*sync.WaitGroup).Done", "(*sync.WaitGroup).Wait", "internal/race.Acquire", "internal/synctest.IsAssociated[sync.WaitGroup]", "sync/atomic.CompareAndSwapUint64", "internal/race.Write", "sync.runtime_SemacquireWaitGroup"], unfollowed := true, recurses := true, plainKeys := false, leaving := true, apart := false }
def FnExactWorstLeftSaid : Prop := fnExactWorstLeftRow.holds Try.pinned (OpenSpec.ofChange fnExactWorstLeftSpec)

/-- ITS FALSE NEIGHBOUR: 'it returns false'. Refute it at one input. -/
def fnExactWorstLeftWrong : ChangeSpec := { name := "fnExactWorstLeft", fn := fun _ => fun
  | [d1, d2] => { results := [.lit (.bool false)], args := [d1, d2] }
  | _ => none }
def FnExactWorstLeftWrongFalsely : Prop := fnExactWorstLeftRow.holds Try.pinned (OpenSpec.ofChange fnExactWorstLeftWrong)

/-- 'laws.FnExactBestGuess': WHATEVER THE INPUT: true; the input reads as it did. -/
def fnExactBestGuessSpec : ChangeSpec := { name := "fnExactBestGuess", fn := fun _ => fun
  | [d] => { results := [.lit (.bool true)], args := [d] }
  | _ => none }
def fnExactBestGuessRow : OpenClaim := { program := "ytmpajijnpoekgab", sum := "db0e597285dcee2144b7304c597d34740c4c309c62ca121d2a9569638ffba4b8", func := "loop.example/g01350/laws.FnExactBestGuess", spec := "fnExactBestGuess", inPlace := ["internal/bytealg.IndexByteString", "internal/abi.NoEscape", "(*sync.WaitGroup).Go", "(*sync.WaitGroup).Add", "internal/race.ReleaseMerge", "internal/race.Disable", "internal/race.Enable", "internal/synctest.IsInBubble", "internal/synctest.Associate[sync.WaitGroup]", "sync.fatal", "sync/atomic.OrUint64", "sync/atomic.AddUint64", "internal/race.Read", "sync/atomic.LoadUint64", "sync/atomic.StoreUint64", "internal/synctest.Disassociate[sync.WaitGroup]", "sync.runtime_Semrelease", "(*sync.WaitGroup).Go$1", "(*sync.WaitGroup).Go$1$1", "(*sync.WaitGroup).Done", "(*sync.WaitGroup).Wait", "internal/race.Acquire", "internal/synctest.IsAssociated[sync.WaitGroup]", "sync/atomic.CompareAndSwapUint64", "internal/race.Write", "sync.runtime_SemacquireWaitGroup"], unfollowed := true, recurses := true, plainKeys := false, leaving := true, apart := false }
def FnExactBestGuessSaid : Prop := fnExactBestGuessRow.holds Try.pinned (OpenSpec.ofChange fnExactBestGuessSpec)

/-- ITS FALSE NEIGHBOUR: 'it returns false'. Refute it at one input. -/
def fnExactBestGuessWrong : ChangeSpec := { name := "fnExactBestGuess", fn := fun _ => fun
  | [d] => { results := [.lit (.bool false)], args := [d] }
  | _ => none }
def FnExactBestGuessWrongFalsely : Prop := fnExactBestGuessRow.holds Try.pinned (OpenSpec.ofChange fnExactBestGuessWrong)

/-- 'laws.FnExactFirstTypos': WHATEVER THE INPUT: true; the input reads as it did. -/
def fnExactFirstTyposSpec : ChangeSpec := { name := "fnExactFirstTypos", fn := fun _ => fun
  | [d1, d2] => { results := [.lit (.bool true)], args := [d1, d2] }
  | _ => none }
def fnExactFirstTyposRow : OpenClaim := { program := "ytmpajijnpoekgab", sum := "db0e597285dcee2144b7304c597d34740c4c309c62ca121d2a9569638ffba4b8", func := "loop.example/g01350/laws.FnExactFirstTypos", spec := "fnExactFirstTypos", plainKeys := false, apart := false }
def FnExactFirstTyposSaid : Prop := fnExactFirstTyposRow.holds Try.pinned (OpenSpec.ofChange fnExactFirstTyposSpec)

/-- ITS FALSE NEIGHBOUR: 'it returns false'. Refute it at one input. -/
def fnExactFirstTyposWrong : ChangeSpec := { name := "fnExactFirstTypos", fn := fun _ => fun
  | [d1, d2] => { results := [.lit (.bool false)], args := [d1, d2] }
  | _ => none }
def FnExactFirstTyposWrongFalsely : Prop := fnExactFirstTyposRow.holds Try.pinned (OpenSpec.ofChange fnExactFirstTyposWrong)

/-- 'laws.FnExactFirstCommon': WHATEVER THE INPUT: true; the input reads as it did. -/
def fnExactFirstCommonSpec : ChangeSpec := { name := "fnExactFirstCommon", fn := fun _ => fun
  | [d1, d2] => { results := [.lit (.bool true)], args := [d1, d2] }
  | _ => none }
def fnExactFirstCommonRow : OpenClaim := { program := "ytmpajijnpoekgab", sum := "db0e597285dcee2144b7304c597d34740c4c309c62ca121d2a9569638ffba4b8", func := "loop.example/g01350/laws.FnExactFirstCommon", spec := "fnExactFirstCommon", plainKeys := false, apart := false }
def FnExactFirstCommonSaid : Prop := fnExactFirstCommonRow.holds Try.pinned (OpenSpec.ofChange fnExactFirstCommonSpec)

/-- ITS FALSE NEIGHBOUR: 'it returns false'. Refute it at one input. -/
def fnExactFirstCommonWrong : ChangeSpec := { name := "fnExactFirstCommon", fn := fun _ => fun
  | [d1, d2] => { results := [.lit (.bool false)], args := [d1, d2] }
  | _ => none }
def FnExactFirstCommonWrongFalsely : Prop := fnExactFirstCommonRow.holds Try.pinned (OpenSpec.ofChange fnExactFirstCommonWrong)

/-- 'laws.FnExactLettersOf': WHATEVER THE INPUT: true; the input reads as it did. -/
def fnExactLettersOfSpec : ChangeSpec := { name := "fnExactLettersOf", fn := fun _ => fun
  | [d] => { results := [.lit (.bool true)], args := [d] }
  | _ => none }
def fnExactLettersOfRow : OpenClaim := { program := "ytmpajijnpoekgab", sum := "db0e597285dcee2144b7304c597d34740c4c309c62ca121d2a9569638ffba4b8", func := "loop.example/g01350/laws.FnExactLettersOf", spec := "fnExactLettersOf", recurses := true, plainKeys := false, apart := false }
def FnExactLettersOfSaid : Prop := fnExactLettersOfRow.holds Try.pinned (OpenSpec.ofChange fnExactLettersOfSpec)

/-- ITS FALSE NEIGHBOUR: 'it returns false'. Refute it at one input. -/
def fnExactLettersOfWrong : ChangeSpec := { name := "fnExactLettersOf", fn := fun _ => fun
  | [d] => { results := [.lit (.bool false)], args := [d] }
  | _ => none }
def FnExactLettersOfWrongFalsely : Prop := fnExactLettersOfRow.holds Try.pinned (OpenSpec.ofChange fnExactLettersOfWrong)

/-- 'laws.FnExactCountShown': WHATEVER THE INPUT: true; the input reads as it did. -/
def fnExactCountShownSpec : ChangeSpec := { name := "fnExactCountShown", fn := fun _ => fun
  | [d] => { results := [.lit (.bool true)], args := [d] }
  | _ => none }
def fnExactCountShownRow : OpenClaim := { program := "ytmpajijnpoekgab", sum := "db0e597285dcee2144b7304c597d34740c4c309c62ca121d2a9569638ffba4b8", func := "loop.example/g01350/laws.FnExactCountShown", spec := "fnExactCountShown", recurses := true, plainKeys := false, apart := false }
def FnExactCountShownSaid : Prop := fnExactCountShownRow.holds Try.pinned (OpenSpec.ofChange fnExactCountShownSpec)

/-- ITS FALSE NEIGHBOUR: 'it returns false'. Refute it at one input. -/
def fnExactCountShownWrong : ChangeSpec := { name := "fnExactCountShown", fn := fun _ => fun
  | [d] => { results := [.lit (.bool false)], args := [d] }
  | _ => none }
def FnExactCountShownWrongFalsely : Prop := fnExactCountShownRow.holds Try.pinned (OpenSpec.ofChange fnExactCountShownWrong)

/- THE SECOND FORM. 'bulk': how many values and letters a reading holds, each counted each time it is reached (what is shared counts as often as it is met; a slice's spare places count too). A statement '..UptoSaid' is the law's where the arguments, and the package variables that the reading takes, are together of bulk at most 1048576: NARROWER than '..Said'. Prove '..Said' where nothing that the law and all that it calls make is longer than what came in: it says more and counts as full. Else prove '..UptoSaid'. A law counts once. -/
mutual
def uptoBulk {H : Type} : DataW H → Nat
  | .lit (.string bytes) => bytes.length + 1
  | .lit _ => 1
  | .nil => 1
  | .ptr d => uptoBulk d + 1
  | .slice elems spare => uptoBulkAll elems + uptoBulkAll spare + 1
  | .agg parts => uptoBulkAll parts + 1
  | .iface _ d => uptoBulk d + 1
  | .map entries => uptoBulkEntries entries + 1
  | .held _ => 1
def uptoBulkAll {H : Type} : List (DataW H) → Nat
  | [] => 0
  | d :: r => uptoBulk d + uptoBulkAll r
def uptoBulkEntries {H : Type} : List (Lit × DataW H) → Nat
  | [] => 0
  | x :: r => uptoBulkEntry x + uptoBulkEntries r
def uptoBulkEntry {H : Type} : Lit × DataW H → Nat
  | (.string bytes, d) => bytes.length + uptoBulk d + 1
  | (_, d) => uptoBulk d + 1
 end
def uptoSmall : (H : Type) → List (DataW H) → Bool := fun _ ds => decide (uptoBulkAll ds ≤ 1048576)
def OpenSpec.upto (s : _root_.Go.ChangeSpec) : _root_.Go.OpenSpec := { _root_.Go.OpenSpec.ofChange s with cond := some uptoSmall }

/-- 'laws.FnExactOpensAt', WHERE WHAT IT READS IS OF BULK AT MOST 1048576: true; the input reads as it did. -/
def fnExactOpensAtUptoRow : OpenClaim := { program := "ytmpajijnpoekgab", sum := "db0e597285dcee2144b7304c597d34740c4c309c62ca121d2a9569638ffba4b8", func := "loop.example/g01350/laws.FnExactOpensAt", spec := "fnExactOpensAt", inPlace := ["internal/bytealg.IndexByteString", "internal/bytealg.IndexString"], named := ["internal/bytealg.MaxLen"], plainKeys := false, apart := false, narrowed := true }
def FnExactOpensAtUptoSaid : Prop := fnExactOpensAtUptoRow.holds Try.pinned (OpenSpec.upto fnExactOpensAtSpec)

/-- 'laws.FnExactOpenAllText', WHERE WHAT IT READS IS OF BULK AT MOST 1048576: true; the input reads as it did. -/
def fnExactOpenAllTextUptoRow : OpenClaim := { program := "ytmpajijnpoekgab", sum := "db0e597285dcee2144b7304c597d34740c4c309c62ca121d2a9569638ffba4b8", func := "loop.example/g01350/laws.FnExactOpenAllText", spec := "fnExactOpenAllText", inPlace := ["internal/abi.NoEscape", "internal/bytealg.MakeNoZero"], recurses := true, plainKeys := false, apart := false, narrowed := true }
def FnExactOpenAllTextUptoSaid : Prop := fnExactOpenAllTextUptoRow.holds Try.pinned (OpenSpec.upto fnExactOpenAllTextSpec)

/-- 'laws.FnExactDoesOpenAll', WHERE WHAT IT READS IS OF BULK AT MOST 1048576: true; the input reads as it did. -/
def fnExactDoesOpenAllUptoRow : OpenClaim := { program := "ytmpajijnpoekgab", sum := "db0e597285dcee2144b7304c597d34740c4c309c62ca121d2a9569638ffba4b8", func := "loop.example/g01350/laws.FnExactDoesOpenAll", spec := "fnExactDoesOpenAll", inPlace := ["internal/bytealg.IndexByteString", "internal/abi.NoEscape", "internal/bytealg.IndexString"], recurses := true, named := ["internal/bytealg.MaxLen"], plainKeys := false, apart := false, narrowed := true }
def FnExactDoesOpenAllUptoSaid : Prop := fnExactDoesOpenAllUptoRow.holds Try.pinned (OpenSpec.upto fnExactDoesOpenAllSpec)

/-- 'laws.FnExactPinsLeft', WHERE WHAT IT READS IS OF BULK AT MOST 1048576: true; the input reads as it did. -/
def fnExactPinsLeftUptoRow : OpenClaim := { program := "ytmpajijnpoekgab", sum := "db0e597285dcee2144b7304c597d34740c4c309c62ca121d2a9569638ffba4b8", func := "loop.example/g01350/laws.FnExactPinsLeft", spec := "fnExactPinsLeft", inPlace := ["internal/bytealg.IndexByteString", "internal/abi.NoEscape", "(*sync.WaitGroup).Go", "(*sync.WaitGroup).Add", "internal/race.ReleaseMerge", "internal/race.Disable", "internal/race.Enable", "internal/synctest.IsInBubble", "internal/synctest.Associate[sync.WaitGroup]", "sync.fatal", "sync/atomic.OrUint64", "sync/atomic.AddUint64", "internal/race.Read", "sync/atomic.LoadUint64", "sync/atomic.StoreUint64", "internal/synctest.Disassociate[sync.WaitGroup]", "sync.runtime_Semrelease", "(*sync.WaitGroup).Go$1", "(*sync.WaitGroup).Go$1$1", "(*sync.WaitGroup).Done", "(*sync.WaitGroup).Wait", "internal/race.Acquire", "internal/synctest.IsAssociated[sync.WaitGroup]", "sync/atomic.CompareAndSwapUint64", "internal/race.Write", "sync.runtime_SemacquireWaitGroup"], unfollowed := true, recurses := true, plainKeys := false, leaving := true, apart := false, narrowed := true }
def FnExactPinsLeftUptoSaid : Prop := fnExactPinsLeftUptoRow.holds Try.pinned (OpenSpec.upto fnExactPinsLeftSpec)

/-- 'laws.FnExactCountPinsLeft', WHERE WHAT IT READS IS OF BULK AT MOST 1048576: true; the input reads as it did. -/
def fnExactCountPinsLeftUptoRow : OpenClaim := { program := "ytmpajijnpoekgab", sum := "db0e597285dcee2144b7304c597d34740c4c309c62ca121d2a9569638ffba4b8", func := "loop.example/g01350/laws.FnExactCountPinsLeft", spec := "fnExactCountPinsLeft", inPlace := ["internal/bytealg.IndexByteString", "internal/abi.NoEscape", "(*sync.WaitGroup).Go", "(*sync.WaitGroup).Add", "internal/race.ReleaseMerge", "internal/race.Disable", "internal/race.Enable", "internal/synctest.IsInBubble", "internal/synctest.Associate[sync.WaitGroup]", "sync.fatal", "sync/atomic.OrUint64", "sync/atomic.AddUint64", "internal/race.Read", "sync/atomic.LoadUint64", "sync/atomic.StoreUint64", "internal/synctest.Disassociate[sync.WaitGroup]", "sync.runtime_Semrelease", "(*sync.WaitGroup).Go$1", "(*sync.WaitGroup).Go$1$1", "(*sync.WaitGroup).Done", "(*sync.WaitGroup).Wait", "internal/race.Acquire", "internal/synctest.IsAssociated[sync.WaitGroup]", "sync/atomic.CompareAndSwapUint64", "internal/race.Write", "sync.runtime_SemacquireWaitGroup"], unfollowed := true, recurses := true, plainKeys := false, leaving := true, apart := false, narrowed := true }
def FnExactCountPinsLeftUptoSaid : Prop := fnExactCountPinsLeftUptoRow.holds Try.pinned (OpenSpec.upto fnExactCountPinsLeftSpec)

/-- 'laws.FnExactWorstLeft', WHERE WHAT IT READS IS OF BULK AT MOST 1048576: true; the input reads as it did. -/
def fnExactWorstLeftUptoRow : OpenClaim := { program := "ytmpajijnpoekgab", sum := "db0e597285dcee2144b7304c597d34740c4c309c62ca121d2a9569638ffba4b8", func := "loop.example/g01350/laws.FnExactWorstLeft", spec := "fnExactWorstLeft", inPlace := ["internal/bytealg.IndexByteString", "internal/abi.NoEscape", "(*sync.WaitGroup).Go", "(*sync.WaitGroup).Add", "internal/race.ReleaseMerge", "internal/race.Disable", "internal/race.Enable", "internal/synctest.IsInBubble", "internal/synctest.Associate[sync.WaitGroup]", "sync.fatal", "sync/atomic.OrUint64", "sync/atomic.AddUint64", "internal/race.Read", "sync/atomic.LoadUint64", "sync/atomic.StoreUint64", "internal/synctest.Disassociate[sync.WaitGroup]", "sync.runtime_Semrelease", "(*sync.WaitGroup).Go$1", "(*sync.WaitGroup).Go$1$1", "(*sync.WaitGroup).Done", "(*sync.WaitGroup).Wait", "internal/race.Acquire", "internal/synctest.IsAssociated[sync.WaitGroup]", "sync/atomic.CompareAndSwapUint64", "internal/race.Write", "sync.runtime_SemacquireWaitGroup"], unfollowed := true, recurses := true, plainKeys := false, leaving := true, apart := false, narrowed := true }
def FnExactWorstLeftUptoSaid : Prop := fnExactWorstLeftUptoRow.holds Try.pinned (OpenSpec.upto fnExactWorstLeftSpec)

/-- 'laws.FnExactBestGuess', WHERE WHAT IT READS IS OF BULK AT MOST 1048576: true; the input reads as it did. -/
def fnExactBestGuessUptoRow : OpenClaim := { program := "ytmpajijnpoekgab", sum := "db0e597285dcee2144b7304c597d34740c4c309c62ca121d2a9569638ffba4b8", func := "loop.example/g01350/laws.FnExactBestGuess", spec := "fnExactBestGuess", inPlace := ["internal/bytealg.IndexByteString", "internal/abi.NoEscape", "(*sync.WaitGroup).Go", "(*sync.WaitGroup).Add", "internal/race.ReleaseMerge", "internal/race.Disable", "internal/race.Enable", "internal/synctest.IsInBubble", "internal/synctest.Associate[sync.WaitGroup]", "sync.fatal", "sync/atomic.OrUint64", "sync/atomic.AddUint64", "internal/race.Read", "sync/atomic.LoadUint64", "sync/atomic.StoreUint64", "internal/synctest.Disassociate[sync.WaitGroup]", "sync.runtime_Semrelease", "(*sync.WaitGroup).Go$1", "(*sync.WaitGroup).Go$1$1", "(*sync.WaitGroup).Done", "(*sync.WaitGroup).Wait", "internal/race.Acquire", "internal/synctest.IsAssociated[sync.WaitGroup]", "sync/atomic.CompareAndSwapUint64", "internal/race.Write", "sync.runtime_SemacquireWaitGroup"], unfollowed := true, recurses := true, plainKeys := false, leaving := true, apart := false, narrowed := true }
def FnExactBestGuessUptoSaid : Prop := fnExactBestGuessUptoRow.holds Try.pinned (OpenSpec.upto fnExactBestGuessSpec)

/-- 'laws.FnExactFirstTypos', WHERE WHAT IT READS IS OF BULK AT MOST 1048576: true; the input reads as it did. -/
def fnExactFirstTyposUptoRow : OpenClaim := { program := "ytmpajijnpoekgab", sum := "db0e597285dcee2144b7304c597d34740c4c309c62ca121d2a9569638ffba4b8", func := "loop.example/g01350/laws.FnExactFirstTypos", spec := "fnExactFirstTypos", plainKeys := false, apart := false, narrowed := true }
def FnExactFirstTyposUptoSaid : Prop := fnExactFirstTyposUptoRow.holds Try.pinned (OpenSpec.upto fnExactFirstTyposSpec)

/-- 'laws.FnExactFirstCommon', WHERE WHAT IT READS IS OF BULK AT MOST 1048576: true; the input reads as it did. -/
def fnExactFirstCommonUptoRow : OpenClaim := { program := "ytmpajijnpoekgab", sum := "db0e597285dcee2144b7304c597d34740c4c309c62ca121d2a9569638ffba4b8", func := "loop.example/g01350/laws.FnExactFirstCommon", spec := "fnExactFirstCommon", plainKeys := false, apart := false, narrowed := true }
def FnExactFirstCommonUptoSaid : Prop := fnExactFirstCommonUptoRow.holds Try.pinned (OpenSpec.upto fnExactFirstCommonSpec)

/-- 'laws.FnExactLettersOf', WHERE WHAT IT READS IS OF BULK AT MOST 1048576: true; the input reads as it did. -/
def fnExactLettersOfUptoRow : OpenClaim := { program := "ytmpajijnpoekgab", sum := "db0e597285dcee2144b7304c597d34740c4c309c62ca121d2a9569638ffba4b8", func := "loop.example/g01350/laws.FnExactLettersOf", spec := "fnExactLettersOf", recurses := true, plainKeys := false, apart := false, narrowed := true }
def FnExactLettersOfUptoSaid : Prop := fnExactLettersOfUptoRow.holds Try.pinned (OpenSpec.upto fnExactLettersOfSpec)

/-- 'laws.FnExactCountShown', WHERE WHAT IT READS IS OF BULK AT MOST 1048576: true; the input reads as it did. -/
def fnExactCountShownUptoRow : OpenClaim := { program := "ytmpajijnpoekgab", sum := "db0e597285dcee2144b7304c597d34740c4c309c62ca121d2a9569638ffba4b8", func := "loop.example/g01350/laws.FnExactCountShown", spec := "fnExactCountShown", recurses := true, plainKeys := false, apart := false, narrowed := true }
def FnExactCountShownUptoSaid : Prop := fnExactCountShownUptoRow.holds Try.pinned (OpenSpec.upto fnExactCountShownSpec)

end Rows
end Go.Proofs.Ytmpajijnpoekgab
