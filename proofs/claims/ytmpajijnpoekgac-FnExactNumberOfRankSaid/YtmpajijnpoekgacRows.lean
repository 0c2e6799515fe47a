/-
  No cell of these rows narrows 'for every input' (looked for: loops, veiled, ifaces, maps, wideKeys, modest, calm, conditions, laid).
  DERIVED. THE GIVEN ROWS OF THIS SEAT. 11 by the template 'for every input the law returns true; each argument reads behind the call as it read before'; 0 by the template 'total and deterministic' (their statements: YtmpajijnpoekgacTotals.lean).
  GIVEN WITH THE SEED: the statements are not yours to turn. If you find one false, say at which input.
  Laid BY PROGRAM, IN A SANDBOX (cutbox-rows.mjs): the forced cells as the released guide's own fill.sh prints them over the translation 9b4288fdb5116db5… (all of the seat's roots in one cut). By AI agents, Wed Nov 11 2026. No macro, syntax, notation, axiom, sorry.
-/
import Derived.Test.YtmpajijnpoekgacChecked
import GoSem.Claim
import GoSem.ClaimJoined
import GoSem.ClaimMapViews
import Derived.JoinedTies
import Derived.KernelRfl
namespace Go.Proofs.Ytmpajijnpoekgac
/- THE CELL 'sum', in the pinned program and in every row, IS THE sha256 OF THE DUMP (.gsa) THAT YtmpajijnpoekgacProg.lean LOADS. Nothing in Lean hashes anything: it is a label: what it is worth is what the hold of that sum in a sandbox is worth. -/
noncomputable def Try.pinned : Pinned := { name := "ytmpajijnpoekgac", sum := "9b4288fdb5116db53864660cb0c79d704f7d2d85ed572f3370902df55a5c8575", checked := Try.checked }
namespace Rows
def none {H : Type} : Left H := { results := [], args := [] }

/-- 'laws.FnExactReachedKeys': WHATEVER THE INPUT: true; the input reads as it did. -/
def fnExactReachedKeysSpec : ChangeSpec := { name := "fnExactReachedKeys", fn := fun _ => fun
  | [d1, d2] => { results := [.lit (.bool true)], args := [d1, d2] }
  | _ => none }
def fnExactReachedKeysRow : OpenClaim := { program := "ytmpajijnpoekgac", sum := "9b4288fdb5116db53864660cb0c79d704f7d2d85ed572f3370902df55a5c8575", func := "loop.example/g01350/laws.FnExactReachedKeys", spec := "fnExactReachedKeys", inPlace := ["internal/bytealg.IndexByteString", "internal/bytealg.IndexString", "internal/abi.NoEscape"], unfollowed := true, recurses := true, named := ["internal/bytealg.MaxLen"], apart := false }
def FnExactReachedKeysSaid : Prop := fnExactReachedKeysRow.holds Try.pinned (OpenSpec.ofChange fnExactReachedKeysSpec)

/-- ITS FALSE NEIGHBOUR: 'it returns false'. Refute it at one input. -/
def fnExactReachedKeysWrong : ChangeSpec := { name := "fnExactReachedKeys", fn := fun _ => fun
  | [d1, d2] => { results := [.lit (.bool false)], args := [d1, d2] }
  | _ => none }
def FnExactReachedKeysWrongFalsely : Prop := fnExactReachedKeysRow.holds Try.pinned (OpenSpec.ofChange fnExactReachedKeysWrong)

/-- 'laws.FnExactKeyDistances': WHATEVER THE INPUT: true; the input reads as it did. -/
def fnExactKeyDistancesSpec : ChangeSpec := { name := "fnExactKeyDistances", fn := fun _ => fun
  | [d1, d2] => { results := [.lit (.bool true)], args := [d1, d2] }
  | _ => none }
def fnExactKeyDistancesRow : OpenClaim := { program := "ytmpajijnpoekgac", sum := "9b4288fdb5116db53864660cb0c79d704f7d2d85ed572f3370902df55a5c8575", func := "loop.example/g01350/laws.FnExactKeyDistances", spec := "fnExactKeyDistances", inPlace := ["internal/bytealg.IndexByteString", "internal/bytealg.IndexString"], unfollowed := true, recurses := true, named := ["internal/bytealg.MaxLen"], apart := false }
def FnExactKeyDistancesSaid : Prop := fnExactKeyDistancesRow.holds Try.pinned (OpenSpec.ofChange fnExactKeyDistancesSpec)

/-- ITS FALSE NEIGHBOUR: 'it returns false'. Refute it at one input. -/
def fnExactKeyDistancesWrong : ChangeSpec := { name := "fnExactKeyDistances", fn := fun _ => fun
  | [d1, d2] => { results := [.lit (.bool false)], args := [d1, d2] }
  | _ => none }
def FnExactKeyDistancesWrongFalsely : Prop := fnExactKeyDistancesRow.holds Try.pinned (OpenSpec.ofChange fnExactKeyDistancesWrong)

/-- 'laws.FnExactFirstWalk': WHATEVER THE INPUT: true; the input reads as it did. -/
def fnExactFirstWalkSpec : ChangeSpec := { name := "fnExactFirstWalk", fn := fun _ => fun
  | [d1, d2, d3] => { results := [.lit (.bool true)], args := [d1, d2, d3] }
  | _ => none }
def fnExactFirstWalkRow : OpenClaim := { program := "ytmpajijnpoekgac", sum := "9b4288fdb5116db53864660cb0c79d704f7d2d85ed572f3370902df55a5c8575", func := "loop.example/g01350/laws.FnExactFirstWalk", spec := "fnExactFirstWalk", inPlace := ["internal/bytealg.IndexByteString", "internal/bytealg.IndexString", "internal/abi.NoEscape"], unfollowed := true, recurses := true, named := ["internal/bytealg.MaxLen"], apart := false }
def FnExactFirstWalkSaid : Prop := fnExactFirstWalkRow.holds Try.pinned (OpenSpec.ofChange fnExactFirstWalkSpec)

/-- ITS FALSE NEIGHBOUR: 'it returns false'. Refute it at one input. -/
def fnExactFirstWalkWrong : ChangeSpec := { name := "fnExactFirstWalk", fn := fun _ => fun
  | [d1, d2, d3] => { results := [.lit (.bool false)], args := [d1, d2, d3] }
  | _ => none }
def FnExactFirstWalkWrongFalsely : Prop := fnExactFirstWalkRow.holds Try.pinned (OpenSpec.ofChange fnExactFirstWalkWrong)

/-- 'laws.FnExactCountShortest': WHATEVER THE INPUT: true; the input reads as it did. -/
def fnExactCountShortestSpec : ChangeSpec := { name := "fnExactCountShortest", fn := fun _ => fun
  | [d1, d2, d3] => { results := [.lit (.bool true)], args := [d1, d2, d3] }
  | _ => none }
def fnExactCountShortestRow : OpenClaim := { program := "ytmpajijnpoekgac", sum := "9b4288fdb5116db53864660cb0c79d704f7d2d85ed572f3370902df55a5c8575", func := "loop.example/g01350/laws.FnExactCountShortest", spec := "fnExactCountShortest", inPlace := ["internal/bytealg.IndexByteString", "internal/bytealg.IndexString", "internal/abi.NoEscape"], unfollowed := true, recurses := true, named := ["internal/bytealg.MaxLen"], apart := false }
def FnExactCountShortestSaid : Prop := fnExactCountShortestRow.holds Try.pinned (OpenSpec.ofChange fnExactCountShortestSpec)

/-- ITS FALSE NEIGHBOUR: 'it returns false'. Refute it at one input. -/
def fnExactCountShortestWrong : ChangeSpec := { name := "fnExactCountShortest", fn := fun _ => fun
  | [d1, d2, d3] => { results := [.lit (.bool false)], args := [d1, d2, d3] }
  | _ => none }
def FnExactCountShortestWrongFalsely : Prop := fnExactCountShortestRow.holds Try.pinned (OpenSpec.ofChange fnExactCountShortestWrong)

/-- 'laws.FnExactLongestOnce': WHATEVER THE INPUT: true; the input reads as it did. -/
def fnExactLongestOnceSpec : ChangeSpec := { name := "fnExactLongestOnce", fn := fun _ => fun
  | [d1, d2] => { results := [.lit (.bool true)], args := [d1, d2] }
  | _ => none }
def fnExactLongestOnceRow : OpenClaim := { program := "ytmpajijnpoekgac", sum := "9b4288fdb5116db53864660cb0c79d704f7d2d85ed572f3370902df55a5c8575", func := "loop.example/g01350/laws.FnExactLongestOnce", spec := "fnExactLongestOnce", inPlace := ["internal/bytealg.IndexByteString", "internal/bytealg.IndexString", "internal/abi.NoEscape"], recurses := true, named := ["internal/bytealg.MaxLen"], apart := false }
def FnExactLongestOnceSaid : Prop := fnExactLongestOnceRow.holds Try.pinned (OpenSpec.ofChange fnExactLongestOnceSpec)

/-- ITS FALSE NEIGHBOUR: 'it returns false'. Refute it at one input. -/
def fnExactLongestOnceWrong : ChangeSpec := { name := "fnExactLongestOnce", fn := fun _ => fun
  | [d1, d2] => { results := [.lit (.bool false)], args := [d1, d2] }
  | _ => none }
def FnExactLongestOnceWrongFalsely : Prop := fnExactLongestOnceRow.holds Try.pinned (OpenSpec.ofChange fnExactLongestOnceWrong)

/-- 'laws.FnExactCountOnce': WHATEVER THE INPUT: true; the input reads as it did. -/
def fnExactCountOnceSpec : ChangeSpec := { name := "fnExactCountOnce", fn := fun _ => fun
  | [d1, d2, d3] => { results := [.lit (.bool true)], args := [d1, d2, d3] }
  | _ => none }
def fnExactCountOnceRow : OpenClaim := { program := "ytmpajijnpoekgac", sum := "9b4288fdb5116db53864660cb0c79d704f7d2d85ed572f3370902df55a5c8575", func := "loop.example/g01350/laws.FnExactCountOnce", spec := "fnExactCountOnce", inPlace := ["internal/bytealg.IndexByteString", "internal/bytealg.IndexString"], recurses := true, named := ["internal/bytealg.MaxLen"], apart := false }
def FnExactCountOnceSaid : Prop := fnExactCountOnceRow.holds Try.pinned (OpenSpec.ofChange fnExactCountOnceSpec)

/-- ITS FALSE NEIGHBOUR: 'it returns false'. Refute it at one input. -/
def fnExactCountOnceWrong : ChangeSpec := { name := "fnExactCountOnce", fn := fun _ => fun
  | [d1, d2, d3] => { results := [.lit (.bool false)], args := [d1, d2, d3] }
  | _ => none }
def FnExactCountOnceWrongFalsely : Prop := fnExactCountOnceRow.holds Try.pinned (OpenSpec.ofChange fnExactCountOnceWrong)

/-- 'laws.FnExactCountNumbers': WHATEVER THE INPUT: true; the input reads as it did. -/
def fnExactCountNumbersSpec : ChangeSpec := { name := "fnExactCountNumbers", fn := fun _ => fun
  | [d1, d2, d3] => { results := [.lit (.bool true)], args := [d1, d2, d3] }
  | _ => none }
def fnExactCountNumbersRow : OpenClaim := { program := "ytmpajijnpoekgac", sum := "9b4288fdb5116db53864660cb0c79d704f7d2d85ed572f3370902df55a5c8575", func := "loop.example/g01350/laws.FnExactCountNumbers", spec := "fnExactCountNumbers", inPlace := ["internal/bytealg.IndexByteString", "internal/bytealg.IndexString"], named := ["internal/bytealg.MaxLen"], apart := false }
def FnExactCountNumbersSaid : Prop := fnExactCountNumbersRow.holds Try.pinned (OpenSpec.ofChange fnExactCountNumbersSpec)

/-- ITS FALSE NEIGHBOUR: 'it returns false'. Refute it at one input. -/
def fnExactCountNumbersWrong : ChangeSpec := { name := "fnExactCountNumbers", fn := fun _ => fun
  | [d1, d2, d3] => { results := [.lit (.bool false)], args := [d1, d2, d3] }
  | _ => none }
def FnExactCountNumbersWrongFalsely : Prop := fnExactCountNumbersRow.holds Try.pinned (OpenSpec.ofChange fnExactCountNumbersWrong)

/-- 'laws.FnExactCountBetween': WHATEVER THE INPUT: true; the input reads as it did. -/
def fnExactCountBetweenSpec : ChangeSpec := { name := "fnExactCountBetween", fn := fun _ => fun
  | [d1, d2, d3, d4] => { results := [.lit (.bool true)], args := [d1, d2, d3, d4] }
  | _ => none }
def fnExactCountBetweenRow : OpenClaim := { program := "ytmpajijnpoekgac", sum := "9b4288fdb5116db53864660cb0c79d704f7d2d85ed572f3370902df55a5c8575", func := "loop.example/g01350/laws.FnExactCountBetween", spec := "fnExactCountBetween", inPlace := ["internal/bytealg.IndexByteString", "internal/bytealg.IndexString"], named := ["internal/bytealg.MaxLen"], apart := false }
def FnExactCountBetweenSaid : Prop := fnExactCountBetweenRow.holds Try.pinned (OpenSpec.ofChange fnExactCountBetweenSpec)

/-- ITS FALSE NEIGHBOUR: 'it returns false'. Refute it at one input. -/
def fnExactCountBetweenWrong : ChangeSpec := { name := "fnExactCountBetween", fn := fun _ => fun
  | [d1, d2, d3, d4] => { results := [.lit (.bool false)], args := [d1, d2, d3, d4] }
  | _ => none }
def FnExactCountBetweenWrongFalsely : Prop := fnExactCountBetweenRow.holds Try.pinned (OpenSpec.ofChange fnExactCountBetweenWrong)

/-- 'laws.FnExactCountRounds': WHATEVER THE INPUT: true; the input reads as it did. -/
def fnExactCountRoundsSpec : ChangeSpec := { name := "fnExactCountRounds", fn := fun _ => fun
  | [d1, d2, d3] => { results := [.lit (.bool true)], args := [d1, d2, d3] }
  | _ => none }
def fnExactCountRoundsRow : OpenClaim := { program := "ytmpajijnpoekgac", sum := "9b4288fdb5116db53864660cb0c79d704f7d2d85ed572f3370902df55a5c8575", func := "loop.example/g01350/laws.FnExactCountRounds", spec := "fnExactCountRounds", inPlace := ["internal/bytealg.IndexByteString", "internal/bytealg.IndexString"], named := ["internal/bytealg.MaxLen"], apart := false }
def FnExactCountRoundsSaid : Prop := fnExactCountRoundsRow.holds Try.pinned (OpenSpec.ofChange fnExactCountRoundsSpec)

/-- ITS FALSE NEIGHBOUR: 'it returns false'. Refute it at one input. -/
def fnExactCountRoundsWrong : ChangeSpec := { name := "fnExactCountRounds", fn := fun _ => fun
  | [d1, d2, d3] => { results := [.lit (.bool false)], args := [d1, d2, d3] }
  | _ => none }
def FnExactCountRoundsWrongFalsely : Prop := fnExactCountRoundsRow.holds Try.pinned (OpenSpec.ofChange fnExactCountRoundsWrong)

/-- 'laws.FnExactRankOfNumber': WHATEVER THE INPUT: true; the input reads as it did. -/
def fnExactRankOfNumberSpec : ChangeSpec := { name := "fnExactRankOfNumber", fn := fun _ => fun
  | [d1, d2] => { results := [.lit (.bool true)], args := [d1, d2] }
  | _ => none }
def fnExactRankOfNumberRow : OpenClaim := { program := "ytmpajijnpoekgac", sum := "9b4288fdb5116db53864660cb0c79d704f7d2d85ed572f3370902df55a5c8575", func := "loop.example/g01350/laws.FnExactRankOfNumber", spec := "fnExactRankOfNumber", inPlace := ["internal/bytealg.IndexByteString", "internal/bytealg.IndexString"], named := ["internal/bytealg.MaxLen"], apart := false }
def FnExactRankOfNumberSaid : Prop := fnExactRankOfNumberRow.holds Try.pinned (OpenSpec.ofChange fnExactRankOfNumberSpec)

/-- ITS FALSE NEIGHBOUR: 'it returns false'. Refute it at one input. -/
def fnExactRankOfNumberWrong : ChangeSpec := { name := "fnExactRankOfNumber", fn := fun _ => fun
  | [d1, d2] => { results := [.lit (.bool false)], args := [d1, d2] }
  | _ => none }
def FnExactRankOfNumberWrongFalsely : Prop := fnExactRankOfNumberRow.holds Try.pinned (OpenSpec.ofChange fnExactRankOfNumberWrong)

/-- 'laws.FnExactNumberOfRank': WHATEVER THE INPUT: true; the input reads as it did. -/
def fnExactNumberOfRankSpec : ChangeSpec := { name := "fnExactNumberOfRank", fn := fun _ => fun
  | [d1, d2, d3, d4] => { results := [.lit (.bool true)], args := [d1, d2, d3, d4] }
  | _ => none }
def fnExactNumberOfRankRow : OpenClaim := { program := "ytmpajijnpoekgac", sum := "9b4288fdb5116db53864660cb0c79d704f7d2d85ed572f3370902df55a5c8575", func := "loop.example/g01350/laws.FnExactNumberOfRank", spec := "fnExactNumberOfRank", inPlace := ["internal/bytealg.IndexByteString", "internal/bytealg.IndexString", "internal/abi.NoEscape"], named := ["internal/bytealg.MaxLen"], apart := false }
def FnExactNumberOfRankSaid : Prop := fnExactNumberOfRankRow.holds Try.pinned (OpenSpec.ofChange fnExactNumberOfRankSpec)

/-- ITS FALSE NEIGHBOUR: 'it returns false'. Refute it at one input. -/
def fnExactNumberOfRankWrong : ChangeSpec := { name := "fnExactNumberOfRank", fn := fun _ => fun
  | [d1, d2, d3, d4] => { results := [.lit (.bool false)], args := [d1, d2, d3, d4] }
  | _ => none }
def FnExactNumberOfRankWrongFalsely : Prop := fnExactNumberOfRankRow.holds Try.pinned (OpenSpec.ofChange fnExactNumberOfRankWrong)

/- THE SECOND FORM. 'bulk': how many values and letters a reading holds, each counted each time it is reached (what is shared counts as often as it is met; a slice's spare places count too). A statement '..UptoSaid' is the law's where the arguments, and the package variables that the reading takes, are together of bulk at most 1048576: NARROWER than '..Said'. Prove '..Said' where nothing that the law and all that it calls make is longer than what came in: it says more and counts as full. Else prove '..UptoSaid'. A law counts once. -/
mutual
def uptoBulk {H : Type} : DataW H → Nat
  | .lit (.string bytes) => bytes.length + 1
  | .lit _ => 1
  | .nil => 1
  | .ptr d => uptoBulk d + 1
  | .slice elems spare => uptoBulkAll elems + uptoBulkAll spare + 1
  | .agg parts => uptoBulkAll parts + 1
  | .iface _ d => uptoBulk d + 1
  | .map entries => uptoBulkEntries entries + 1
  | .held _ => 1
def uptoBulkAll {H : Type} : List (DataW H) → Nat
  | [] => 0
  | d :: r => uptoBulk d + uptoBulkAll r
def uptoBulkEntries {H : Type} : List (Lit × DataW H) → Nat
  | [] => 0
  | x :: r => uptoBulkEntry x + uptoBulkEntries r
def uptoBulkEntry {H : Type} : Lit × DataW H → Nat
  | (.string bytes, d) => bytes.length + uptoBulk d + 1
  | (_, d) => uptoBulk d + 1
 end
def uptoSmall : (H : Type) → List (DataW H) → Bool := fun _ ds => decide (uptoBulkAll ds ≤ 1048576)
def OpenSpec.upto (s : _root_.Go.ChangeSpec) : _root_.Go.OpenSpec := { _root_.Go.OpenSpec.ofChange s with cond := some uptoSmall }

/-- 'laws.FnExactReachedKeys', WHERE WHAT IT READS IS OF BULK AT MOST 1048576: true; the input reads as it did. -/
def fnExactReachedKeysUptoRow : OpenClaim := { program := "ytmpajijnpoekgac", sum := "9b4288fdb5116db53864660cb0c79d704f7d2d85ed572f3370902df55a5c8575", func := "loop.example/g01350/laws.FnExactReachedKeys", spec := "fnExactReachedKeys", inPlace := ["internal/bytealg.IndexByteString", "internal/bytealg.IndexString", "internal/abi.NoEscape"], unfollowed := true, recurses := true, named := ["internal/bytealg.MaxLen"], apart := false, narrowed := true }
def FnExactReachedKeysUptoSaid : Prop := fnExactReachedKeysUptoRow.holds Try.pinned (OpenSpec.upto fnExactReachedKeysSpec)

/-- 'laws.FnExactKeyDistances', WHERE WHAT IT READS IS OF BULK AT MOST 1048576: true; the input reads as it did. -/
def fnExactKeyDistancesUptoRow : OpenClaim := { program := "ytmpajijnpoekgac", sum := "9b4288fdb5116db53864660cb0c79d704f7d2d85ed572f3370902df55a5c8575", func := "loop.example/g01350/laws.FnExactKeyDistances", spec := "fnExactKeyDistances", inPlace := ["internal/bytealg.IndexByteString", "internal/bytealg.IndexString"], unfollowed := true, recurses := true, named := ["internal/bytealg.MaxLen"], apart := false, narrowed := true }
def FnExactKeyDistancesUptoSaid : Prop := fnExactKeyDistancesUptoRow.holds Try.pinned (OpenSpec.upto fnExactKeyDistancesSpec)

/-- 'laws.FnExactFirstWalk', WHERE WHAT IT READS IS OF BULK AT MOST 1048576: true; the input reads as it did. -/
def fnExactFirstWalkUptoRow : OpenClaim := { program := "ytmpajijnpoekgac", sum := "9b4288fdb5116db53864660cb0c79d704f7d2d85ed572f3370902df55a5c8575", func := "loop.example/g01350/laws.FnExactFirstWalk", spec := "fnExactFirstWalk", inPlace := ["internal/bytealg.IndexByteString", "internal/bytealg.IndexString", "internal/abi.NoEscape"], unfollowed := true, recurses := true, named := ["internal/bytealg.MaxLen"], apart := false, narrowed := true }
def FnExactFirstWalkUptoSaid : Prop := fnExactFirstWalkUptoRow.holds Try.pinned (OpenSpec.upto fnExactFirstWalkSpec)

/-- 'laws.FnExactCountShortest', WHERE WHAT IT READS IS OF BULK AT MOST 1048576: true; the input reads as it did. -/
def fnExactCountShortestUptoRow : OpenClaim := { program := "ytmpajijnpoekgac", sum := "9b4288fdb5116db53864660cb0c79d704f7d2d85ed572f3370902df55a5c8575", func := "loop.example/g01350/laws.FnExactCountShortest", spec := "fnExactCountShortest", inPlace := ["internal/bytealg.IndexByteString", "internal/bytealg.IndexString", "internal/abi.NoEscape"], unfollowed := true, recurses := true, named := ["internal/bytealg.MaxLen"], apart := false, narrowed := true }
def FnExactCountShortestUptoSaid : Prop := fnExactCountShortestUptoRow.holds Try.pinned (OpenSpec.upto fnExactCountShortestSpec)

/-- 'laws.FnExactLongestOnce', WHERE WHAT IT READS IS OF BULK AT MOST 1048576: true; the input reads as it did. -/
def fnExactLongestOnceUptoRow : OpenClaim := { program := "ytmpajijnpoekgac", sum := "9b4288fdb5116db53864660cb0c79d704f7d2d85ed572f3370902df55a5c8575", func := "loop.example/g01350/laws.FnExactLongestOnce", spec := "fnExactLongestOnce", inPlace := ["internal/bytealg.IndexByteString", "internal/bytealg.IndexString", "internal/abi.NoEscape"], recurses := true, named := ["internal/bytealg.MaxLen"], apart := false, narrowed := true }
def FnExactLongestOnceUptoSaid : Prop := fnExactLongestOnceUptoRow.holds Try.pinned (OpenSpec.upto fnExactLongestOnceSpec)

/-- 'laws.FnExactCountOnce', WHERE WHAT IT READS IS OF BULK AT MOST 1048576: true; the input reads as it did. -/
def fnExactCountOnceUptoRow : OpenClaim := { program := "ytmpajijnpoekgac", sum := "9b4288fdb5116db53864660cb0c79d704f7d2d85ed572f3370902df55a5c8575", func := "loop.example/g01350/laws.FnExactCountOnce", spec := "fnExactCountOnce", inPlace := ["internal/bytealg.IndexByteString", "internal/bytealg.IndexString"], recurses := true, named := ["internal/bytealg.MaxLen"], apart := false, narrowed := true }
def FnExactCountOnceUptoSaid : Prop := fnExactCountOnceUptoRow.holds Try.pinned (OpenSpec.upto fnExactCountOnceSpec)

/-- 'laws.FnExactCountNumbers', WHERE WHAT IT READS IS OF BULK AT MOST 1048576: true; the input reads as it did. -/
def fnExactCountNumbersUptoRow : OpenClaim := { program := "ytmpajijnpoekgac", sum := "9b4288fdb5116db53864660cb0c79d704f7d2d85ed572f3370902df55a5c8575", func := "loop.example/g01350/laws.FnExactCountNumbers", spec := "fnExactCountNumbers", inPlace := ["internal/bytealg.IndexByteString", "internal/bytealg.IndexString"], named := ["internal/bytealg.MaxLen"], apart := false, narrowed := true }
def FnExactCountNumbersUptoSaid : Prop := fnExactCountNumbersUptoRow.holds Try.pinned (OpenSpec.upto fnExactCountNumbersSpec)

/-- 'laws.FnExactCountBetween', WHERE WHAT IT READS IS OF BULK AT MOST 1048576: true; the input reads as it did. -/
def fnExactCountBetweenUptoRow : OpenClaim := { program := "ytmpajijnpoekgac", sum := "9b4288fdb5116db53864660cb0c79d704f7d2d85ed572f3370902df55a5c8575", func := "loop.example/g01350/laws.FnExactCountBetween", spec := "fnExactCountBetween", inPlace := ["internal/bytealg.IndexByteString", "internal/bytealg.IndexString"], named := ["internal/bytealg.MaxLen"], apart := false, narrowed := true }
def FnExactCountBetweenUptoSaid : Prop := fnExactCountBetweenUptoRow.holds Try.pinned (OpenSpec.upto fnExactCountBetweenSpec)

/-- 'laws.FnExactCountRounds', WHERE WHAT IT READS IS OF BULK AT MOST 1048576: true; the input reads as it did. -/
def fnExactCountRoundsUptoRow : OpenClaim := { program := "ytmpajijnpoekgac", sum := "9b4288fdb5116db53864660cb0c79d704f7d2d85ed572f3370902df55a5c8575", func := "loop.example/g01350/laws.FnExactCountRounds", spec := "fnExactCountRounds", inPlace := ["internal/bytealg.IndexByteString", "internal/bytealg.IndexString"], named := ["internal/bytealg.MaxLen"], apart := false, narrowed := true }
def FnExactCountRoundsUptoSaid : Prop := fnExactCountRoundsUptoRow.holds Try.pinned (OpenSpec.upto fnExactCountRoundsSpec)

/-- 'laws.FnExactRankOfNumber', WHERE WHAT IT READS IS OF BULK AT MOST 1048576: true; the input reads as it did. -/
def fnExactRankOfNumberUptoRow : OpenClaim := { program := "ytmpajijnpoekgac", sum := "9b4288fdb5116db53864660cb0c79d704f7d2d85ed572f3370902df55a5c8575", func := "loop.example/g01350/laws.FnExactRankOfNumber", spec := "fnExactRankOfNumber", inPlace := ["internal/bytealg.IndexByteString", "internal/bytealg.IndexString"], named := ["internal/bytealg.MaxLen"], apart := false, narrowed := true }
def FnExactRankOfNumberUptoSaid : Prop := fnExactRankOfNumberUptoRow.holds Try.pinned (OpenSpec.upto fnExactRankOfNumberSpec)

/-- 'laws.FnExactNumberOfRank', WHERE WHAT IT READS IS OF BULK AT MOST 1048576: true; the input reads as it did. -/
def fnExactNumberOfRankUptoRow : OpenClaim := { program := "ytmpajijnpoekgac", sum := "9b4288fdb5116db53864660cb0c79d704f7d2d85ed572f3370902df55a5c8575", func := "loop.example/g01350/laws.FnExactNumberOfRank", spec := "fnExactNumberOfRank", inPlace := ["internal/bytealg.IndexByteString", "internal/bytealg.IndexString", "internal/abi.NoEscape"], named := ["internal/bytealg.MaxLen"], apart := false, narrowed := true }
def FnExactNumberOfRankUptoSaid : Prop := fnExactNumberOfRankUptoRow.holds Try.pinned (OpenSpec.upto fnExactNumberOfRankSpec)

end Rows
end Go.Proofs.Ytmpajijnpoekgac
