/-
  No cell of these rows narrows 'for every input' (looked for: loops, veiled, ifaces, maps, wideKeys, modest, calm, conditions, laid).
  DERIVED. THE GIVEN ROWS OF THIS SEAT. 11 by the template 'for every input the law returns true; each argument reads behind the call as it read before'; 0 by the template 'total and deterministic' (their statements: YtcfoicogaggkbabTotals.lean).
  GIVEN WITH THE SEED: the statements are not yours to turn. If you find one false, say at which input.
  Laid BY PROGRAM, IN A SANDBOX (cutbox-rows.mjs): the forced cells as the released guide's own fill.sh prints them over the translation 11d8cc2a97fb1d89… (all of the seat's roots in one cut). By AI agents, Wed Nov 11 2026. No macro, syntax, notation, axiom, sorry.
-/
import Derived.Test.YtcfoicogaggkbabChecked
import GoSem.Claim
import GoSem.ClaimJoined
import GoSem.ClaimMapViews
import Derived.JoinedTies
import Derived.KernelRfl
namespace Go.Proofs.Ytcfoicogaggkbab
/- THE CELL 'sum', in the pinned program and in every row, IS THE sha256 OF THE DUMP (.gsa) THAT YtcfoicogaggkbabProg.lean LOADS. Nothing in Lean hashes anything: it is a label: what it is worth is what the hold of that sum in a sandbox is worth. -/
noncomputable def Try.pinned : Pinned := { name := "ytcfoicogaggkbab", sum := "11d8cc2a97fb1d89458eef635523d08b39a2c763a834b563e3c422dcfc72378f", checked := Try.checked }
namespace Rows
def none {H : Type} : Left H := { results := [], args := [] }

/-- 'laws.FnExactNextKeys': WHATEVER THE INPUT: true; the input reads as it did. -/
def fnExactNextKeysSpec : ChangeSpec := { name := "fnExactNextKeys", fn := fun _ => fun
  | [d1, d2] => { results := [.lit (.bool true)], args := [d1, d2] }
  | _ => none }
def fnExactNextKeysRow : OpenClaim := { program := "ytcfoicogaggkbab", sum := "11d8cc2a97fb1d89458eef635523d08b39a2c763a834b563e3c422dcfc72378f", func := "loop.example/g01350/laws.FnExactNextKeys", spec := "fnExactNextKeys", inPlace := ["internal/bytealg.IndexByteString", "internal/bytealg.IndexString", "internal/abi.NoEscape"], named := ["internal/bytealg.MaxLen"], apart := false }
def FnExactNextKeysSaid : Prop := fnExactNextKeysRow.holds Try.pinned (OpenSpec.ofChange fnExactNextKeysSpec)

/-- ITS FALSE NEIGHBOUR: 'it returns false'. Refute it at one input. -/
def fnExactNextKeysWrong : ChangeSpec := { name := "fnExactNextKeys", fn := fun _ => fun
  | [d1, d2] => { results := [.lit (.bool false)], args := [d1, d2] }
  | _ => none }
def FnExactNextKeysWrongFalsely : Prop := fnExactNextKeysRow.holds Try.pinned (OpenSpec.ofChange fnExactNextKeysWrong)

/-- 'laws.FnExactIsWalk': WHATEVER THE INPUT: true; the input reads as it did. -/
def fnExactIsWalkSpec : ChangeSpec := { name := "fnExactIsWalk", fn := fun _ => fun
  | [d1, d2] => { results := [.lit (.bool true)], args := [d1, d2] }
  | _ => none }
def fnExactIsWalkRow : OpenClaim := { program := "ytcfoicogaggkbab", sum := "11d8cc2a97fb1d89458eef635523d08b39a2c763a834b563e3c422dcfc72378f", func := "loop.example/g01350/laws.FnExactIsWalk", spec := "fnExactIsWalk", inPlace := ["internal/bytealg.IndexByteString", "internal/bytealg.IndexString"], named := ["internal/bytealg.MaxLen"], apart := false }
def FnExactIsWalkSaid : Prop := fnExactIsWalkRow.holds Try.pinned (OpenSpec.ofChange fnExactIsWalkSpec)

/-- ITS FALSE NEIGHBOUR: 'it returns false'. Refute it at one input. -/
def fnExactIsWalkWrong : ChangeSpec := { name := "fnExactIsWalk", fn := fun _ => fun
  | [d1, d2] => { results := [.lit (.bool false)], args := [d1, d2] }
  | _ => none }
def FnExactIsWalkWrongFalsely : Prop := fnExactIsWalkRow.holds Try.pinned (OpenSpec.ofChange fnExactIsWalkWrong)

/-- 'laws.FnExactCountNumbers': WHATEVER THE INPUT: true; the input reads as it did. -/
def fnExactCountNumbersSpec : ChangeSpec := { name := "fnExactCountNumbers", fn := fun _ => fun
  | [d1, d2, d3] => { results := [.lit (.bool true)], args := [d1, d2, d3] }
  | _ => none }
def fnExactCountNumbersRow : OpenClaim := { program := "ytcfoicogaggkbab", sum := "11d8cc2a97fb1d89458eef635523d08b39a2c763a834b563e3c422dcfc72378f", func := "loop.example/g01350/laws.FnExactCountNumbers", spec := "fnExactCountNumbers", inPlace := ["internal/bytealg.IndexByteString", "internal/bytealg.IndexString"], named := ["internal/bytealg.MaxLen"], apart := false }
def FnExactCountNumbersSaid : Prop := fnExactCountNumbersRow.holds Try.pinned (OpenSpec.ofChange fnExactCountNumbersSpec)

/-- ITS FALSE NEIGHBOUR: 'it returns false'. Refute it at one input. -/
def fnExactCountNumbersWrong : ChangeSpec := { name := "fnExactCountNumbers", fn := fun _ => fun
  | [d1, d2, d3] => { results := [.lit (.bool false)], args := [d1, d2, d3] }
  | _ => none }
def FnExactCountNumbersWrongFalsely : Prop := fnExactCountNumbersRow.holds Try.pinned (OpenSpec.ofChange fnExactCountNumbersWrong)

/-- 'laws.FnExactCountAllNumbers': WHATEVER THE INPUT: true; the input reads as it did. -/
def fnExactCountAllNumbersSpec : ChangeSpec := { name := "fnExactCountAllNumbers", fn := fun _ => fun
  | [d1, d2] => { results := [.lit (.bool true)], args := [d1, d2] }
  | _ => none }
def fnExactCountAllNumbersRow : OpenClaim := { program := "ytcfoicogaggkbab", sum := "11d8cc2a97fb1d89458eef635523d08b39a2c763a834b563e3c422dcfc72378f", func := "loop.example/g01350/laws.FnExactCountAllNumbers", spec := "fnExactCountAllNumbers", inPlace := ["internal/bytealg.IndexByteString", "internal/bytealg.IndexString"], named := ["internal/bytealg.MaxLen"], apart := false }
def FnExactCountAllNumbersSaid : Prop := fnExactCountAllNumbersRow.holds Try.pinned (OpenSpec.ofChange fnExactCountAllNumbersSpec)

/-- ITS FALSE NEIGHBOUR: 'it returns false'. Refute it at one input. -/
def fnExactCountAllNumbersWrong : ChangeSpec := { name := "fnExactCountAllNumbers", fn := fun _ => fun
  | [d1, d2] => { results := [.lit (.bool false)], args := [d1, d2] }
  | _ => none }
def FnExactCountAllNumbersWrongFalsely : Prop := fnExactCountAllNumbersRow.holds Try.pinned (OpenSpec.ofChange fnExactCountAllNumbersWrong)

/-- 'laws.FnExactCountBetween': WHATEVER THE INPUT: true; the input reads as it did. -/
def fnExactCountBetweenSpec : ChangeSpec := { name := "fnExactCountBetween", fn := fun _ => fun
  | [d1, d2, d3, d4] => { results := [.lit (.bool true)], args := [d1, d2, d3, d4] }
  | _ => none }
def fnExactCountBetweenRow : OpenClaim := { program := "ytcfoicogaggkbab", sum := "11d8cc2a97fb1d89458eef635523d08b39a2c763a834b563e3c422dcfc72378f", func := "loop.example/g01350/laws.FnExactCountBetween", spec := "fnExactCountBetween", inPlace := ["internal/bytealg.IndexByteString", "internal/bytealg.IndexString"], named := ["internal/bytealg.MaxLen"], apart := false }
def FnExactCountBetweenSaid : Prop := fnExactCountBetweenRow.holds Try.pinned (OpenSpec.ofChange fnExactCountBetweenSpec)

/-- ITS FALSE NEIGHBOUR: 'it returns false'. Refute it at one input. -/
def fnExactCountBetweenWrong : ChangeSpec := { name := "fnExactCountBetween", fn := fun _ => fun
  | [d1, d2, d3, d4] => { results := [.lit (.bool false)], args := [d1, d2, d3, d4] }
  | _ => none }
def FnExactCountBetweenWrongFalsely : Prop := fnExactCountBetweenRow.holds Try.pinned (OpenSpec.ofChange fnExactCountBetweenWrong)

/-- 'laws.FnExactCountRounds': WHATEVER THE INPUT: true; the input reads as it did. -/
def fnExactCountRoundsSpec : ChangeSpec := { name := "fnExactCountRounds", fn := fun _ => fun
  | [d1, d2, d3] => { results := [.lit (.bool true)], args := [d1, d2, d3] }
  | _ => none }
def fnExactCountRoundsRow : OpenClaim := { program := "ytcfoicogaggkbab", sum := "11d8cc2a97fb1d89458eef635523d08b39a2c763a834b563e3c422dcfc72378f", func := "loop.example/g01350/laws.FnExactCountRounds", spec := "fnExactCountRounds", inPlace := ["internal/bytealg.IndexByteString", "internal/bytealg.IndexString"], named := ["internal/bytealg.MaxLen"], apart := false }
def FnExactCountRoundsSaid : Prop := fnExactCountRoundsRow.holds Try.pinned (OpenSpec.ofChange fnExactCountRoundsSpec)

/-- ITS FALSE NEIGHBOUR: 'it returns false'. Refute it at one input. -/
def fnExactCountRoundsWrong : ChangeSpec := { name := "fnExactCountRounds", fn := fun _ => fun
  | [d1, d2, d3] => { results := [.lit (.bool false)], args := [d1, d2, d3] }
  | _ => none }
def FnExactCountRoundsWrongFalsely : Prop := fnExactCountRoundsRow.holds Try.pinned (OpenSpec.ofChange fnExactCountRoundsWrong)

/-- 'laws.FnExactBusiestKey': WHATEVER THE INPUT: true; the input reads as it did. -/
def fnExactBusiestKeySpec : ChangeSpec := { name := "fnExactBusiestKey", fn := fun _ => fun
  | [d1, d2] => { results := [.lit (.bool true)], args := [d1, d2] }
  | _ => none }
def fnExactBusiestKeyRow : OpenClaim := { program := "ytcfoicogaggkbab", sum := "11d8cc2a97fb1d89458eef635523d08b39a2c763a834b563e3c422dcfc72378f", func := "loop.example/g01350/laws.FnExactBusiestKey", spec := "fnExactBusiestKey", inPlace := ["internal/bytealg.IndexByteString", "internal/bytealg.IndexString"], recurses := true, named := ["internal/bytealg.MaxLen"], apart := false }
def FnExactBusiestKeySaid : Prop := fnExactBusiestKeyRow.holds Try.pinned (OpenSpec.ofChange fnExactBusiestKeySpec)

/-- ITS FALSE NEIGHBOUR: 'it returns false'. Refute it at one input. -/
def fnExactBusiestKeyWrong : ChangeSpec := { name := "fnExactBusiestKey", fn := fun _ => fun
  | [d1, d2] => { results := [.lit (.bool false)], args := [d1, d2] }
  | _ => none }
def FnExactBusiestKeyWrongFalsely : Prop := fnExactBusiestKeyRow.holds Try.pinned (OpenSpec.ofChange fnExactBusiestKeyWrong)

/-- 'laws.FnExactCountOnce': WHATEVER THE INPUT: true; the input reads as it did. -/
def fnExactCountOnceSpec : ChangeSpec := { name := "fnExactCountOnce", fn := fun _ => fun
  | [d1, d2, d3] => { results := [.lit (.bool true)], args := [d1, d2, d3] }
  | _ => none }
def fnExactCountOnceRow : OpenClaim := { program := "ytcfoicogaggkbab", sum := "11d8cc2a97fb1d89458eef635523d08b39a2c763a834b563e3c422dcfc72378f", func := "loop.example/g01350/laws.FnExactCountOnce", spec := "fnExactCountOnce", inPlace := ["internal/bytealg.IndexByteString", "internal/bytealg.IndexString"], recurses := true, named := ["internal/bytealg.MaxLen"], apart := false }
def FnExactCountOnceSaid : Prop := fnExactCountOnceRow.holds Try.pinned (OpenSpec.ofChange fnExactCountOnceSpec)

/-- ITS FALSE NEIGHBOUR: 'it returns false'. Refute it at one input. -/
def fnExactCountOnceWrong : ChangeSpec := { name := "fnExactCountOnce", fn := fun _ => fun
  | [d1, d2, d3] => { results := [.lit (.bool false)], args := [d1, d2, d3] }
  | _ => none }
def FnExactCountOnceWrongFalsely : Prop := fnExactCountOnceRow.holds Try.pinned (OpenSpec.ofChange fnExactCountOnceWrong)

/-- 'laws.FnExactLongestOnce': WHATEVER THE INPUT: true; the input reads as it did. -/
def fnExactLongestOnceSpec : ChangeSpec := { name := "fnExactLongestOnce", fn := fun _ => fun
  | [d1, d2] => { results := [.lit (.bool true)], args := [d1, d2] }
  | _ => none }
def fnExactLongestOnceRow : OpenClaim := { program := "ytcfoicogaggkbab", sum := "11d8cc2a97fb1d89458eef635523d08b39a2c763a834b563e3c422dcfc72378f", func := "loop.example/g01350/laws.FnExactLongestOnce", spec := "fnExactLongestOnce", inPlace := ["internal/bytealg.IndexByteString", "internal/bytealg.IndexString", "internal/abi.NoEscape"], recurses := true, named := ["internal/bytealg.MaxLen"], apart := false }
def FnExactLongestOnceSaid : Prop := fnExactLongestOnceRow.holds Try.pinned (OpenSpec.ofChange fnExactLongestOnceSpec)

/-- ITS FALSE NEIGHBOUR: 'it returns false'. Refute it at one input. -/
def fnExactLongestOnceWrong : ChangeSpec := { name := "fnExactLongestOnce", fn := fun _ => fun
  | [d1, d2] => { results := [.lit (.bool false)], args := [d1, d2] }
  | _ => none }
def FnExactLongestOnceWrongFalsely : Prop := fnExactLongestOnceRow.holds Try.pinned (OpenSpec.ofChange fnExactLongestOnceWrong)

/-- 'laws.FnExactNumberOfRank': WHATEVER THE INPUT: true; the input reads as it did. -/
def fnExactNumberOfRankSpec : ChangeSpec := { name := "fnExactNumberOfRank", fn := fun _ => fun
  | [d1, d2, d3, d4] => { results := [.lit (.bool true)], args := [d1, d2, d3, d4] }
  | _ => none }
def fnExactNumberOfRankRow : OpenClaim := { program := "ytcfoicogaggkbab", sum := "11d8cc2a97fb1d89458eef635523d08b39a2c763a834b563e3c422dcfc72378f", func := "loop.example/g01350/laws.FnExactNumberOfRank", spec := "fnExactNumberOfRank", inPlace := ["internal/bytealg.IndexByteString", "internal/bytealg.IndexString", "internal/abi.NoEscape"], named := ["internal/bytealg.MaxLen"], apart := false }
def FnExactNumberOfRankSaid : Prop := fnExactNumberOfRankRow.holds Try.pinned (OpenSpec.ofChange fnExactNumberOfRankSpec)

/-- ITS FALSE NEIGHBOUR: 'it returns false'. Refute it at one input. -/
def fnExactNumberOfRankWrong : ChangeSpec := { name := "fnExactNumberOfRank", fn := fun _ => fun
  | [d1, d2, d3, d4] => { results := [.lit (.bool false)], args := [d1, d2, d3, d4] }
  | _ => none }
def FnExactNumberOfRankWrongFalsely : Prop := fnExactNumberOfRankRow.holds Try.pinned (OpenSpec.ofChange fnExactNumberOfRankWrong)

/-- 'laws.FnExactRankOfNumber': WHATEVER THE INPUT: true; the input reads as it did. -/
def fnExactRankOfNumberSpec : ChangeSpec := { name := "fnExactRankOfNumber", fn := fun _ => fun
  | [d1, d2] => { results := [.lit (.bool true)], args := [d1, d2] }
  | _ => none }
def fnExactRankOfNumberRow : OpenClaim := { program := "ytcfoicogaggkbab", sum := "11d8cc2a97fb1d89458eef635523d08b39a2c763a834b563e3c422dcfc72378f", func := "loop.example/g01350/laws.FnExactRankOfNumber", spec := "fnExactRankOfNumber", inPlace := ["internal/bytealg.IndexByteString", "internal/bytealg.IndexString"], named := ["internal/bytealg.MaxLen"], apart := false }
def FnExactRankOfNumberSaid : Prop := fnExactRankOfNumberRow.holds Try.pinned (OpenSpec.ofChange fnExactRankOfNumberSpec)

/-- ITS FALSE NEIGHBOUR: 'it returns false'. Refute it at one input. -/
def fnExactRankOfNumberWrong : ChangeSpec := { name := "fnExactRankOfNumber", fn := fun _ => fun
  | [d1, d2] => { results := [.lit (.bool false)], args := [d1, d2] }
  | _ => none }
def FnExactRankOfNumberWrongFalsely : Prop := fnExactRankOfNumberRow.holds Try.pinned (OpenSpec.ofChange fnExactRankOfNumberWrong)

/- THE SECOND FORM. 'bulk': how many values and letters a reading holds, each counted each time it is reached (what is shared counts as often as it is met; a slice's spare places count too). A statement '..UptoSaid' is the law's where the arguments, and the package variables that the reading takes, are together of bulk at most 1048576: NARROWER than '..Said'. Prove '..Said' where nothing that the law and all that it calls make is longer than what came in: it says more and counts as full. Else prove '..UptoSaid'. A law counts once. -/
mutual
def uptoBulk {H : Type} : DataW H → Nat
  | .lit (.string bytes) => bytes.length + 1
  | .lit _ => 1
  | .nil => 1
  | .ptr d => uptoBulk d + 1
  | .slice elems spare => uptoBulkAll elems + uptoBulkAll spare + 1
  | .agg parts => uptoBulkAll parts + 1
  | .iface _ d => uptoBulk d + 1
  | .map entries => uptoBulkEntries entries + 1
  | .held _ => 1
def uptoBulkAll {H : Type} : List (DataW H) → Nat
  | [] => 0
  | d :: r => uptoBulk d + uptoBulkAll r
def uptoBulkEntries {H : Type} : List (Lit × DataW H) → Nat
  | [] => 0
  | x :: r => uptoBulkEntry x + uptoBulkEntries r
def uptoBulkEntry {H : Type} : Lit × DataW H → Nat
  | (.string bytes, d) => bytes.length + uptoBulk d + 1
  | (_, d) => uptoBulk d + 1
 end
def uptoSmall : (H : Type) → List (DataW H) → Bool := fun _ ds => decide (uptoBulkAll ds ≤ 1048576)
def OpenSpec.upto (s : _root_.Go.ChangeSpec) : _root_.Go.OpenSpec := { _root_.Go.OpenSpec.ofChange s with cond := some uptoSmall }

/-- 'laws.FnExactNextKeys', WHERE WHAT IT READS IS OF BULK AT MOST 1048576: true; the input reads as it did. -/
def fnExactNextKeysUptoRow : OpenClaim := { program := "ytcfoicogaggkbab", sum := "11d8cc2a97fb1d89458eef635523d08b39a2c763a834b563e3c422dcfc72378f", func := "loop.example/g01350/laws.FnExactNextKeys", spec := "fnExactNextKeys", inPlace := ["internal/bytealg.IndexByteString", "internal/bytealg.IndexString", "internal/abi.NoEscape"], named := ["internal/bytealg.MaxLen"], apart := false, narrowed := true }
def FnExactNextKeysUptoSaid : Prop := fnExactNextKeysUptoRow.holds Try.pinned (OpenSpec.upto fnExactNextKeysSpec)

/-- 'laws.FnExactIsWalk', WHERE WHAT IT READS IS OF BULK AT MOST 1048576: true; the input reads as it did. -/
def fnExactIsWalkUptoRow : OpenClaim := { program := "ytcfoicogaggkbab", sum := "11d8cc2a97fb1d89458eef635523d08b39a2c763a834b563e3c422dcfc72378f", func := "loop.example/g01350/laws.FnExactIsWalk", spec := "fnExactIsWalk", inPlace := ["internal/bytealg.IndexByteString", "internal/bytealg.IndexString"], named := ["internal/bytealg.MaxLen"], apart := false, narrowed := true }
def FnExactIsWalkUptoSaid : Prop := fnExactIsWalkUptoRow.holds Try.pinned (OpenSpec.upto fnExactIsWalkSpec)

/-- 'laws.FnExactCountNumbers', WHERE WHAT IT READS IS OF BULK AT MOST 1048576: true; the input reads as it did. -/
def fnExactCountNumbersUptoRow : OpenClaim := { program := "ytcfoicogaggkbab", sum := "11d8cc2a97fb1d89458eef635523d08b39a2c763a834b563e3c422dcfc72378f", func := "loop.example/g01350/laws.FnExactCountNumbers", spec := "fnExactCountNumbers", inPlace := ["internal/bytealg.IndexByteString", "internal/bytealg.IndexString"], named := ["internal/bytealg.MaxLen"], apart := false, narrowed := true }
def FnExactCountNumbersUptoSaid : Prop := fnExactCountNumbersUptoRow.holds Try.pinned (OpenSpec.upto fnExactCountNumbersSpec)

/-- 'laws.FnExactCountAllNumbers', WHERE WHAT IT READS IS OF BULK AT MOST 1048576: true; the input reads as it did. -/
def fnExactCountAllNumbersUptoRow : OpenClaim := { program := "ytcfoicogaggkbab", sum := "11d8cc2a97fb1d89458eef635523d08b39a2c763a834b563e3c422dcfc72378f", func := "loop.example/g01350/laws.FnExactCountAllNumbers", spec := "fnExactCountAllNumbers", inPlace := ["internal/bytealg.IndexByteString", "internal/bytealg.IndexString"], named := ["internal/bytealg.MaxLen"], apart := false, narrowed := true }
def FnExactCountAllNumbersUptoSaid : Prop := fnExactCountAllNumbersUptoRow.holds Try.pinned (OpenSpec.upto fnExactCountAllNumbersSpec)

/-- 'laws.FnExactCountBetween', WHERE WHAT IT READS IS OF BULK AT MOST 1048576: true; the input reads as it did. -/
def fnExactCountBetweenUptoRow : OpenClaim := { program := "ytcfoicogaggkbab", sum := "11d8cc2a97fb1d89458eef635523d08b39a2c763a834b563e3c422dcfc72378f", func := "loop.example/g01350/laws.FnExactCountBetween", spec := "fnExactCountBetween", inPlace := ["internal/bytealg.IndexByteString", "internal/bytealg.IndexString"], named := ["internal/bytealg.MaxLen"], apart := false, narrowed := true }
def FnExactCountBetweenUptoSaid : Prop := fnExactCountBetweenUptoRow.holds Try.pinned (OpenSpec.upto fnExactCountBetweenSpec)

/-- 'laws.FnExactCountRounds', WHERE WHAT IT READS IS OF BULK AT MOST 1048576: true; the input reads as it did. -/
def fnExactCountRoundsUptoRow : OpenClaim := { program := "ytcfoicogaggkbab", sum := "11d8cc2a97fb1d89458eef635523d08b39a2c763a834b563e3c422dcfc72378f", func := "loop.example/g01350/laws.FnExactCountRounds", spec := "fnExactCountRounds", inPlace := ["internal/bytealg.IndexByteString", "internal/bytealg.IndexString"], named := ["internal/bytealg.MaxLen"], apart := false, narrowed := true }
def FnExactCountRoundsUptoSaid : Prop := fnExactCountRoundsUptoRow.holds Try.pinned (OpenSpec.upto fnExactCountRoundsSpec)

/-- 'laws.FnExactBusiestKey', WHERE WHAT IT READS IS OF BULK AT MOST 1048576: true; the input reads as it did. -/
def fnExactBusiestKeyUptoRow : OpenClaim := { program := "ytcfoicogaggkbab", sum := "11d8cc2a97fb1d89458eef635523d08b39a2c763a834b563e3c422dcfc72378f", func := "loop.example/g01350/laws.FnExactBusiestKey", spec := "fnExactBusiestKey", inPlace := ["internal/bytealg.IndexByteString", "internal/bytealg.IndexString"], recurses := true, named := ["internal/bytealg.MaxLen"], apart := false, narrowed := true }
def FnExactBusiestKeyUptoSaid : Prop := fnExactBusiestKeyUptoRow.holds Try.pinned (OpenSpec.upto fnExactBusiestKeySpec)

/-- 'laws.FnExactCountOnce', WHERE WHAT IT READS IS OF BULK AT MOST 1048576: true; the input reads as it did. -/
def fnExactCountOnceUptoRow : OpenClaim := { program := "ytcfoicogaggkbab", sum := "11d8cc2a97fb1d89458eef635523d08b39a2c763a834b563e3c422dcfc72378f", func := "loop.example/g01350/laws.FnExactCountOnce", spec := "fnExactCountOnce", inPlace := ["internal/bytealg.IndexByteString", "internal/bytealg.IndexString"], recurses := true, named := ["internal/bytealg.MaxLen"], apart := false, narrowed := true }
def FnExactCountOnceUptoSaid : Prop := fnExactCountOnceUptoRow.holds Try.pinned (OpenSpec.upto fnExactCountOnceSpec)

/-- 'laws.FnExactLongestOnce', WHERE WHAT IT READS IS OF BULK AT MOST 1048576: true; the input reads as it did. -/
def fnExactLongestOnceUptoRow : OpenClaim := { program := "ytcfoicogaggkbab", sum := "11d8cc2a97fb1d89458eef635523d08b39a2c763a834b563e3c422dcfc72378f", func := "loop.example/g01350/laws.FnExactLongestOnce", spec := "fnExactLongestOnce", inPlace := ["internal/bytealg.IndexByteString", "internal/bytealg.IndexString", "internal/abi.NoEscape"], recurses := true, named := ["internal/bytealg.MaxLen"], apart := false, narrowed := true }
def FnExactLongestOnceUptoSaid : Prop := fnExactLongestOnceUptoRow.holds Try.pinned (OpenSpec.upto fnExactLongestOnceSpec)

/-- 'laws.FnExactNumberOfRank', WHERE WHAT IT READS IS OF BULK AT MOST 1048576: true; the input reads as it did. -/
def fnExactNumberOfRankUptoRow : OpenClaim := { program := "ytcfoicogaggkbab", sum := "11d8cc2a97fb1d89458eef635523d08b39a2c763a834b563e3c422dcfc72378f", func := "loop.example/g01350/laws.FnExactNumberOfRank", spec := "fnExactNumberOfRank", inPlace := ["internal/bytealg.IndexByteString", "internal/bytealg.IndexString", "internal/abi.NoEscape"], named := ["internal/bytealg.MaxLen"], apart := false, narrowed := true }
def FnExactNumberOfRankUptoSaid : Prop := fnExactNumberOfRankUptoRow.holds Try.pinned (OpenSpec.upto fnExactNumberOfRankSpec)

/-- 'laws.FnExactRankOfNumber', WHERE WHAT IT READS IS OF BULK AT MOST 1048576: true; the input reads as it did. -/
def fnExactRankOfNumberUptoRow : OpenClaim := { program := "ytcfoicogaggkbab", sum := "11d8cc2a97fb1d89458eef635523d08b39a2c763a834b563e3c422dcfc72378f", func := "loop.example/g01350/laws.FnExactRankOfNumber", spec := "fnExactRankOfNumber", inPlace := ["internal/bytealg.IndexByteString", "internal/bytealg.IndexString"], named := ["internal/bytealg.MaxLen"], apart := false, narrowed := true }
def FnExactRankOfNumberUptoSaid : Prop := fnExactRankOfNumberUptoRow.holds Try.pinned (OpenSpec.upto fnExactRankOfNumberSpec)

end Rows
end Go.Proofs.Ytcfoicogaggkbab
