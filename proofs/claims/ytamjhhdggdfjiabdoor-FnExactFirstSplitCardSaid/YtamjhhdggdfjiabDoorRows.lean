/-
  NARROWER THAN 'FOR EVERY INPUT', by the rows' own cells (each row's printed sentence says how): FnExactWordsFor: laid · FnExactFirstSplit: laid · FnExactCountSplits: laid · FnExactFewestWords: laid · FnExactFirstFewest: laid · FnExactLongestSplit: laid · FnExactSharedKeys: laid · FnExactPressesWithNext: laid · FnExactMostPresses: laid.
  DERIVED. THE GIVEN ROWS OF THIS SEAT. 9 by the template 'for every input the law returns true; each argument reads behind the call as it read before'; 0 by the template 'total and deterministic' (their statements: YtamjhhdggdfjiabDoorTotals.lean).
  GIVEN WITH THE SEED: the statements are not yours to turn. If you find one false, say at which input.
  Laid BY PROGRAM, IN A SANDBOX (cutbox-rows.mjs): the forced cells as the released guide's own fill.sh prints them over the translation bd46b1d2975505ad… (all of the seat's roots in one cut). By AI agents, Wed Nov 11 2026. No macro, syntax, notation, axiom, sorry.
-/
import Derived.Test.YtamjhhdggdfjiabDoorChecked
import GoSem.Claim
import GoSem.ClaimJoined
import GoSem.ClaimMapViews
import Derived.JoinedTies
import Derived.KernelRfl
namespace Go.Proofs.YtamjhhdggdfjiabDoor
/- THE CELL 'sum', in the pinned program and in every row, IS THE sha256 OF THE DUMP (.gsa) THAT YtamjhhdggdfjiabDoorProg.lean LOADS. Nothing in Lean hashes anything: it is a label: what it is worth is what the hold of that sum in a sandbox is worth. -/
noncomputable def Tryd.pinned : Pinned := { name := "ytamjhhdggdfjiabdoor", sum := "bd46b1d2975505adb6929e0180dbacb45c2ab62d6e7d12199a62d46dcfc32fee", checked := Tryd.checked }
namespace Rows
def none {H : Type} : Left H := { results := [], args := [] }

/- WHAT THE LISTED PACKAGE-LEVEL VARIABLES READ AS WHEN THE CALL BEGINS. Each datum BY PROGRAM (the guide's laid-datum.mjs) off the statement by which the dump's own 'gosem.cut.vars' lays the variable. In a bare row this is a premise. The card (YtamjhhdggdfjiabDoorCards.lean) ties it to the program's text. -/
def laid_loop_example_g01350_impl_padKeys {H : Type} : DataW H := .agg [.agg [.lit (.int .u8 50), .lit (.string [97, 98, 99])], .agg [.lit (.int .u8 51), .lit (.string [100, 101, 102])], .agg [.lit (.int .u8 52), .lit (.string [103, 104, 105])], .agg [.lit (.int .u8 53), .lit (.string [106, 107, 108])], .agg [.lit (.int .u8 54), .lit (.string [109, 110, 111])], .agg [.lit (.int .u8 55), .lit (.string [112, 113, 114, 115])], .agg [.lit (.int .u8 56), .lit (.string [116, 117, 118])], .agg [.lit (.int .u8 57), .lit (.string [119, 120, 121, 122])]]

/-- 'laws.FnExactWordsFor': WHATEVER THE INPUT: true; the input reads as it did. -/
def fnExactWordsForSpec : ChangeSpec := { name := "fnExactWordsFor", vars := ["loop.example/g01350/impl.padKeys"], fn := fun _ => fun
  | [d1, d2, g1] => { results := [.lit (.bool true)], args := [d1, d2], vars := [g1] }
  | _ => none }
def fnExactWordsForRow : OpenClaim := { program := "ytamjhhdggdfjiabdoor", sum := "bd46b1d2975505adb6929e0180dbacb45c2ab62d6e7d12199a62d46dcfc32fee", func := "loop.example/g01350/laws.FnExactWordsFor", spec := "fnExactWordsFor", inPlace := ["internal/bytealg.IndexByteString"], unfollowed := true, recurses := true, named := ["loop.example/g01350/impl.padKeys"], plainKeys := false, apart := false, laid := [("loop.example/g01350/impl.padKeys", laid_loop_example_g01350_impl_padKeys)] }
def FnExactWordsForSaid : Prop := fnExactWordsForRow.holds Tryd.pinned (OpenSpec.ofChange fnExactWordsForSpec)

/-- ITS FALSE NEIGHBOUR: 'it returns false'. Refute it at one input. -/
def fnExactWordsForWrong : ChangeSpec := { name := "fnExactWordsFor", vars := ["loop.example/g01350/impl.padKeys"], fn := fun _ => fun
  | [d1, d2, g1] => { results := [.lit (.bool false)], args := [d1, d2], vars := [g1] }
  | _ => none }
def FnExactWordsForWrongFalsely : Prop := fnExactWordsForRow.holds Tryd.pinned (OpenSpec.ofChange fnExactWordsForWrong)

/-- 'laws.FnExactFirstSplit': WHATEVER THE INPUT: true; the input reads as it did. -/
def fnExactFirstSplitSpec : ChangeSpec := { name := "fnExactFirstSplit", vars := ["loop.example/g01350/impl.padKeys"], fn := fun _ => fun
  | [d1, d2, g1] => { results := [.lit (.bool true)], args := [d1, d2], vars := [g1] }
  | _ => none }
def fnExactFirstSplitRow : OpenClaim := { program := "ytamjhhdggdfjiabdoor", sum := "bd46b1d2975505adb6929e0180dbacb45c2ab62d6e7d12199a62d46dcfc32fee", func := "loop.example/g01350/laws.FnExactFirstSplit", spec := "fnExactFirstSplit", inPlace := ["internal/bytealg.IndexByteString"], unfollowed := true, recurses := true, named := ["loop.example/g01350/impl.padKeys"], plainKeys := false, apart := false, laid := [("loop.example/g01350/impl.padKeys", laid_loop_example_g01350_impl_padKeys)] }
def FnExactFirstSplitSaid : Prop := fnExactFirstSplitRow.holds Tryd.pinned (OpenSpec.ofChange fnExactFirstSplitSpec)

/-- ITS FALSE NEIGHBOUR: 'it returns false'. Refute it at one input. -/
def fnExactFirstSplitWrong : ChangeSpec := { name := "fnExactFirstSplit", vars := ["loop.example/g01350/impl.padKeys"], fn := fun _ => fun
  | [d1, d2, g1] => { results := [.lit (.bool false)], args := [d1, d2], vars := [g1] }
  | _ => none }
def FnExactFirstSplitWrongFalsely : Prop := fnExactFirstSplitRow.holds Tryd.pinned (OpenSpec.ofChange fnExactFirstSplitWrong)

/-- 'laws.FnExactCountSplits': WHATEVER THE INPUT: true; the input reads as it did. -/
def fnExactCountSplitsSpec : ChangeSpec := { name := "fnExactCountSplits", vars := ["loop.example/g01350/impl.padKeys"], fn := fun _ => fun
  | [d1, d2, g1] => { results := [.lit (.bool true)], args := [d1, d2], vars := [g1] }
  | _ => none }
def fnExactCountSplitsRow : OpenClaim := { program := "ytamjhhdggdfjiabdoor", sum := "bd46b1d2975505adb6929e0180dbacb45c2ab62d6e7d12199a62d46dcfc32fee", func := "loop.example/g01350/laws.FnExactCountSplits", spec := "fnExactCountSplits", inPlace := ["internal/bytealg.IndexByteString"], unfollowed := true, recurses := true, named := ["loop.example/g01350/impl.padKeys"], plainKeys := false, apart := false, laid := [("loop.example/g01350/impl.padKeys", laid_loop_example_g01350_impl_padKeys)] }
def FnExactCountSplitsSaid : Prop := fnExactCountSplitsRow.holds Tryd.pinned (OpenSpec.ofChange fnExactCountSplitsSpec)

/-- ITS FALSE NEIGHBOUR: 'it returns false'. Refute it at one input. -/
def fnExactCountSplitsWrong : ChangeSpec := { name := "fnExactCountSplits", vars := ["loop.example/g01350/impl.padKeys"], fn := fun _ => fun
  | [d1, d2, g1] => { results := [.lit (.bool false)], args := [d1, d2], vars := [g1] }
  | _ => none }
def FnExactCountSplitsWrongFalsely : Prop := fnExactCountSplitsRow.holds Tryd.pinned (OpenSpec.ofChange fnExactCountSplitsWrong)

/-- 'laws.FnExactFewestWords': WHATEVER THE INPUT: true; the input reads as it did. -/
def fnExactFewestWordsSpec : ChangeSpec := { name := "fnExactFewestWords", vars := ["loop.example/g01350/impl.padKeys"], fn := fun _ => fun
  | [d1, d2, g1] => { results := [.lit (.bool true)], args := [d1, d2], vars := [g1] }
  | _ => none }
def fnExactFewestWordsRow : OpenClaim := { program := "ytamjhhdggdfjiabdoor", sum := "bd46b1d2975505adb6929e0180dbacb45c2ab62d6e7d12199a62d46dcfc32fee", func := "loop.example/g01350/laws.FnExactFewestWords", spec := "fnExactFewestWords", inPlace := ["internal/bytealg.IndexByteString"], unfollowed := true, recurses := true, named := ["loop.example/g01350/impl.padKeys"], plainKeys := false, apart := false, laid := [("loop.example/g01350/impl.padKeys", laid_loop_example_g01350_impl_padKeys)] }
def FnExactFewestWordsSaid : Prop := fnExactFewestWordsRow.holds Tryd.pinned (OpenSpec.ofChange fnExactFewestWordsSpec)

/-- ITS FALSE NEIGHBOUR: 'it returns false'. Refute it at one input. -/
def fnExactFewestWordsWrong : ChangeSpec := { name := "fnExactFewestWords", vars := ["loop.example/g01350/impl.padKeys"], fn := fun _ => fun
  | [d1, d2, g1] => { results := [.lit (.bool false)], args := [d1, d2], vars := [g1] }
  | _ => none }
def FnExactFewestWordsWrongFalsely : Prop := fnExactFewestWordsRow.holds Tryd.pinned (OpenSpec.ofChange fnExactFewestWordsWrong)

/-- 'laws.FnExactFirstFewest': WHATEVER THE INPUT: true; the input reads as it did. -/
def fnExactFirstFewestSpec : ChangeSpec := { name := "fnExactFirstFewest", vars := ["loop.example/g01350/impl.padKeys"], fn := fun _ => fun
  | [d1, d2, g1] => { results := [.lit (.bool true)], args := [d1, d2], vars := [g1] }
  | _ => none }
def fnExactFirstFewestRow : OpenClaim := { program := "ytamjhhdggdfjiabdoor", sum := "bd46b1d2975505adb6929e0180dbacb45c2ab62d6e7d12199a62d46dcfc32fee", func := "loop.example/g01350/laws.FnExactFirstFewest", spec := "fnExactFirstFewest", inPlace := ["internal/bytealg.IndexByteString"], unfollowed := true, recurses := true, named := ["loop.example/g01350/impl.padKeys"], plainKeys := false, apart := false, laid := [("loop.example/g01350/impl.padKeys", laid_loop_example_g01350_impl_padKeys)] }
def FnExactFirstFewestSaid : Prop := fnExactFirstFewestRow.holds Tryd.pinned (OpenSpec.ofChange fnExactFirstFewestSpec)

/-- ITS FALSE NEIGHBOUR: 'it returns false'. Refute it at one input. -/
def fnExactFirstFewestWrong : ChangeSpec := { name := "fnExactFirstFewest", vars := ["loop.example/g01350/impl.padKeys"], fn := fun _ => fun
  | [d1, d2, g1] => { results := [.lit (.bool false)], args := [d1, d2], vars := [g1] }
  | _ => none }
def FnExactFirstFewestWrongFalsely : Prop := fnExactFirstFewestRow.holds Tryd.pinned (OpenSpec.ofChange fnExactFirstFewestWrong)

/-- 'laws.FnExactLongestSplit': WHATEVER THE INPUT: true; the input reads as it did. -/
def fnExactLongestSplitSpec : ChangeSpec := { name := "fnExactLongestSplit", vars := ["loop.example/g01350/impl.padKeys"], fn := fun _ => fun
  | [d1, d2, g1] => { results := [.lit (.bool true)], args := [d1, d2], vars := [g1] }
  | _ => none }
def fnExactLongestSplitRow : OpenClaim := { program := "ytamjhhdggdfjiabdoor", sum := "bd46b1d2975505adb6929e0180dbacb45c2ab62d6e7d12199a62d46dcfc32fee", func := "loop.example/g01350/laws.FnExactLongestSplit", spec := "fnExactLongestSplit", inPlace := ["internal/bytealg.IndexByteString"], unfollowed := true, recurses := true, named := ["loop.example/g01350/impl.padKeys"], plainKeys := false, apart := false, laid := [("loop.example/g01350/impl.padKeys", laid_loop_example_g01350_impl_padKeys)] }
def FnExactLongestSplitSaid : Prop := fnExactLongestSplitRow.holds Tryd.pinned (OpenSpec.ofChange fnExactLongestSplitSpec)

/-- ITS FALSE NEIGHBOUR: 'it returns false'. Refute it at one input. -/
def fnExactLongestSplitWrong : ChangeSpec := { name := "fnExactLongestSplit", vars := ["loop.example/g01350/impl.padKeys"], fn := fun _ => fun
  | [d1, d2, g1] => { results := [.lit (.bool false)], args := [d1, d2], vars := [g1] }
  | _ => none }
def FnExactLongestSplitWrongFalsely : Prop := fnExactLongestSplitRow.holds Tryd.pinned (OpenSpec.ofChange fnExactLongestSplitWrong)

/-- 'laws.FnExactSharedKeys': WHATEVER THE INPUT: true; the input reads as it did. -/
def fnExactSharedKeysSpec : ChangeSpec := { name := "fnExactSharedKeys", vars := ["loop.example/g01350/impl.padKeys"], fn := fun _ => fun
  | [d, g1] => { results := [.lit (.bool true)], args := [d], vars := [g1] }
  | _ => none }
def fnExactSharedKeysRow : OpenClaim := { program := "ytamjhhdggdfjiabdoor", sum := "bd46b1d2975505adb6929e0180dbacb45c2ab62d6e7d12199a62d46dcfc32fee", func := "loop.example/g01350/laws.FnExactSharedKeys", spec := "fnExactSharedKeys", inPlace := ["internal/bytealg.IndexByteString"], unfollowed := true, recurses := true, named := ["loop.example/g01350/impl.padKeys"], plainKeys := false, apart := false, laid := [("loop.example/g01350/impl.padKeys", laid_loop_example_g01350_impl_padKeys)] }
def FnExactSharedKeysSaid : Prop := fnExactSharedKeysRow.holds Tryd.pinned (OpenSpec.ofChange fnExactSharedKeysSpec)

/-- ITS FALSE NEIGHBOUR: 'it returns false'. Refute it at one input. -/
def fnExactSharedKeysWrong : ChangeSpec := { name := "fnExactSharedKeys", vars := ["loop.example/g01350/impl.padKeys"], fn := fun _ => fun
  | [d, g1] => { results := [.lit (.bool false)], args := [d], vars := [g1] }
  | _ => none }
def FnExactSharedKeysWrongFalsely : Prop := fnExactSharedKeysRow.holds Tryd.pinned (OpenSpec.ofChange fnExactSharedKeysWrong)

/-- 'laws.FnExactPressesWithNext': WHATEVER THE INPUT: true; the input reads as it did. -/
def fnExactPressesWithNextSpec : ChangeSpec := { name := "fnExactPressesWithNext", vars := ["loop.example/g01350/impl.padKeys"], fn := fun _ => fun
  | [d1, d2, g1] => { results := [.lit (.bool true)], args := [d1, d2], vars := [g1] }
  | _ => none }
def fnExactPressesWithNextRow : OpenClaim := { program := "ytamjhhdggdfjiabdoor", sum := "bd46b1d2975505adb6929e0180dbacb45c2ab62d6e7d12199a62d46dcfc32fee", func := "loop.example/g01350/laws.FnExactPressesWithNext", spec := "fnExactPressesWithNext", inPlace := ["internal/bytealg.IndexByteString"], unfollowed := true, recurses := true, named := ["loop.example/g01350/impl.padKeys"], plainKeys := false, apart := false, laid := [("loop.example/g01350/impl.padKeys", laid_loop_example_g01350_impl_padKeys)] }
def FnExactPressesWithNextSaid : Prop := fnExactPressesWithNextRow.holds Tryd.pinned (OpenSpec.ofChange fnExactPressesWithNextSpec)

/-- ITS FALSE NEIGHBOUR: 'it returns false'. Refute it at one input. -/
def fnExactPressesWithNextWrong : ChangeSpec := { name := "fnExactPressesWithNext", vars := ["loop.example/g01350/impl.padKeys"], fn := fun _ => fun
  | [d1, d2, g1] => { results := [.lit (.bool false)], args := [d1, d2], vars := [g1] }
  | _ => none }
def FnExactPressesWithNextWrongFalsely : Prop := fnExactPressesWithNextRow.holds Tryd.pinned (OpenSpec.ofChange fnExactPressesWithNextWrong)

/-- 'laws.FnExactMostPresses': WHATEVER THE INPUT: true; the input reads as it did. -/
def fnExactMostPressesSpec : ChangeSpec := { name := "fnExactMostPresses", vars := ["loop.example/g01350/impl.padKeys"], fn := fun _ => fun
  | [d, g1] => { results := [.lit (.bool true)], args := [d], vars := [g1] }
  | _ => none }
def fnExactMostPressesRow : OpenClaim := { program := "ytamjhhdggdfjiabdoor", sum := "bd46b1d2975505adb6929e0180dbacb45c2ab62d6e7d12199a62d46dcfc32fee", func := "loop.example/g01350/laws.FnExactMostPresses", spec := "fnExactMostPresses", inPlace := ["internal/bytealg.IndexByteString"], unfollowed := true, recurses := true, named := ["loop.example/g01350/impl.padKeys"], plainKeys := false, apart := false, laid := [("loop.example/g01350/impl.padKeys", laid_loop_example_g01350_impl_padKeys)] }
def FnExactMostPressesSaid : Prop := fnExactMostPressesRow.holds Tryd.pinned (OpenSpec.ofChange fnExactMostPressesSpec)

/-- ITS FALSE NEIGHBOUR: 'it returns false'. Refute it at one input. -/
def fnExactMostPressesWrong : ChangeSpec := { name := "fnExactMostPresses", vars := ["loop.example/g01350/impl.padKeys"], fn := fun _ => fun
  | [d, g1] => { results := [.lit (.bool false)], args := [d], vars := [g1] }
  | _ => none }
def FnExactMostPressesWrongFalsely : Prop := fnExactMostPressesRow.holds Tryd.pinned (OpenSpec.ofChange fnExactMostPressesWrong)

/- THE SECOND FORM. 'bulk': how many values and letters a reading holds, each counted each time it is reached (what is shared counts as often as it is met; a slice's spare places count too). A statement '..UptoSaid' is the law's where the arguments, and the package variables that the reading takes, are together of bulk at most 1048576: NARROWER than '..Said'. Prove '..Said' where nothing that the law and all that it calls make is longer than what came in: it says more and counts as full. Else prove '..UptoSaid'. A law counts once. -/
mutual
def uptoBulk {H : Type} : DataW H → Nat
  | .lit (.string bytes) => bytes.length + 1
  | .lit _ => 1
  | .nil => 1
  | .ptr d => uptoBulk d + 1
  | .slice elems spare => uptoBulkAll elems + uptoBulkAll spare + 1
  | .agg parts => uptoBulkAll parts + 1
  | .iface _ d => uptoBulk d + 1
  | .map entries => uptoBulkEntries entries + 1
  | .held _ => 1
def uptoBulkAll {H : Type} : List (DataW H) → Nat
  | [] => 0
  | d :: r => uptoBulk d + uptoBulkAll r
def uptoBulkEntries {H : Type} : List (Lit × DataW H) → Nat
  | [] => 0
  | x :: r => uptoBulkEntry x + uptoBulkEntries r
def uptoBulkEntry {H : Type} : Lit × DataW H → Nat
  | (.string bytes, d) => bytes.length + uptoBulk d + 1
  | (_, d) => uptoBulk d + 1
 end
def uptoSmall : (H : Type) → List (DataW H) → Bool := fun _ ds => decide (uptoBulkAll ds ≤ 1048576)
def OpenSpec.upto (s : _root_.Go.ChangeSpec) : _root_.Go.OpenSpec := { _root_.Go.OpenSpec.ofChange s with cond := some uptoSmall }

/-- 'laws.FnExactWordsFor', WHERE WHAT IT READS IS OF BULK AT MOST 1048576: true; the input reads as it did. -/
def fnExactWordsForUptoRow : OpenClaim := { program := "ytamjhhdggdfjiabdoor", sum := "bd46b1d2975505adb6929e0180dbacb45c2ab62d6e7d12199a62d46dcfc32fee", func := "loop.example/g01350/laws.FnExactWordsFor", spec := "fnExactWordsFor", inPlace := ["internal/bytealg.IndexByteString"], unfollowed := true, recurses := true, named := ["loop.example/g01350/impl.padKeys"], plainKeys := false, apart := false, laid := [("loop.example/g01350/impl.padKeys", laid_loop_example_g01350_impl_padKeys)], narrowed := true }
def FnExactWordsForUptoSaid : Prop := fnExactWordsForUptoRow.holds Tryd.pinned (OpenSpec.upto fnExactWordsForSpec)

/-- 'laws.FnExactFirstSplit', WHERE WHAT IT READS IS OF BULK AT MOST 1048576: true; the input reads as it did. -/
def fnExactFirstSplitUptoRow : OpenClaim := { program := "ytamjhhdggdfjiabdoor", sum := "bd46b1d2975505adb6929e0180dbacb45c2ab62d6e7d12199a62d46dcfc32fee", func := "loop.example/g01350/laws.FnExactFirstSplit", spec := "fnExactFirstSplit", inPlace := ["internal/bytealg.IndexByteString"], unfollowed := true, recurses := true, named := ["loop.example/g01350/impl.padKeys"], plainKeys := false, apart := false, laid := [("loop.example/g01350/impl.padKeys", laid_loop_example_g01350_impl_padKeys)], narrowed := true }
def FnExactFirstSplitUptoSaid : Prop := fnExactFirstSplitUptoRow.holds Tryd.pinned (OpenSpec.upto fnExactFirstSplitSpec)

/-- 'laws.FnExactCountSplits', WHERE WHAT IT READS IS OF BULK AT MOST 1048576: true; the input reads as it did. -/
def fnExactCountSplitsUptoRow : OpenClaim := { program := "ytamjhhdggdfjiabdoor", sum := "bd46b1d2975505adb6929e0180dbacb45c2ab62d6e7d12199a62d46dcfc32fee", func := "loop.example/g01350/laws.FnExactCountSplits", spec := "fnExactCountSplits", inPlace := ["internal/bytealg.IndexByteString"], unfollowed := true, recurses := true, named := ["loop.example/g01350/impl.padKeys"], plainKeys := false, apart := false, laid := [("loop.example/g01350/impl.padKeys", laid_loop_example_g01350_impl_padKeys)], narrowed := true }
def FnExactCountSplitsUptoSaid : Prop := fnExactCountSplitsUptoRow.holds Tryd.pinned (OpenSpec.upto fnExactCountSplitsSpec)

/-- 'laws.FnExactFewestWords', WHERE WHAT IT READS IS OF BULK AT MOST 1048576: true; the input reads as it did. -/
def fnExactFewestWordsUptoRow : OpenClaim := { program := "ytamjhhdggdfjiabdoor", sum := "bd46b1d2975505adb6929e0180dbacb45c2ab62d6e7d12199a62d46dcfc32fee", func := "loop.example/g01350/laws.FnExactFewestWords", spec := "fnExactFewestWords", inPlace := ["internal/bytealg.IndexByteString"], unfollowed := true, recurses := true, named := ["loop.example/g01350/impl.padKeys"], plainKeys := false, apart := false, laid := [("loop.example/g01350/impl.padKeys", laid_loop_example_g01350_impl_padKeys)], narrowed := true }
def FnExactFewestWordsUptoSaid : Prop := fnExactFewestWordsUptoRow.holds Tryd.pinned (OpenSpec.upto fnExactFewestWordsSpec)

/-- 'laws.FnExactFirstFewest', WHERE WHAT IT READS IS OF BULK AT MOST 1048576: true; the input reads as it did. -/
def fnExactFirstFewestUptoRow : OpenClaim := { program := "ytamjhhdggdfjiabdoor", sum := "bd46b1d2975505adb6929e0180dbacb45c2ab62d6e7d12199a62d46dcfc32fee", func := "loop.example/g01350/laws.FnExactFirstFewest", spec := "fnExactFirstFewest", inPlace := ["internal/bytealg.IndexByteString"], unfollowed := true, recurses := true, named := ["loop.example/g01350/impl.padKeys"], plainKeys := false, apart := false, laid := [("loop.example/g01350/impl.padKeys", laid_loop_example_g01350_impl_padKeys)], narrowed := true }
def FnExactFirstFewestUptoSaid : Prop := fnExactFirstFewestUptoRow.holds Tryd.pinned (OpenSpec.upto fnExactFirstFewestSpec)

/-- 'laws.FnExactLongestSplit', WHERE WHAT IT READS IS OF BULK AT MOST 1048576: true; the input reads as it did. -/
def fnExactLongestSplitUptoRow : OpenClaim := { program := "ytamjhhdggdfjiabdoor", sum := "bd46b1d2975505adb6929e0180dbacb45c2ab62d6e7d12199a62d46dcfc32fee", func := "loop.example/g01350/laws.FnExactLongestSplit", spec := "fnExactLongestSplit", inPlace := ["internal/bytealg.IndexByteString"], unfollowed := true, recurses := true, named := ["loop.example/g01350/impl.padKeys"], plainKeys := false, apart := false, laid := [("loop.example/g01350/impl.padKeys", laid_loop_example_g01350_impl_padKeys)], narrowed := true }
def FnExactLongestSplitUptoSaid : Prop := fnExactLongestSplitUptoRow.holds Tryd.pinned (OpenSpec.upto fnExactLongestSplitSpec)

/-- 'laws.FnExactSharedKeys', WHERE WHAT IT READS IS OF BULK AT MOST 1048576: true; the input reads as it did. -/
def fnExactSharedKeysUptoRow : OpenClaim := { program := "ytamjhhdggdfjiabdoor", sum := "bd46b1d2975505adb6929e0180dbacb45c2ab62d6e7d12199a62d46dcfc32fee", func := "loop.example/g01350/laws.FnExactSharedKeys", spec := "fnExactSharedKeys", inPlace := ["internal/bytealg.IndexByteString"], unfollowed := true, recurses := true, named := ["loop.example/g01350/impl.padKeys"], plainKeys := false, apart := false, laid := [("loop.example/g01350/impl.padKeys", laid_loop_example_g01350_impl_padKeys)], narrowed := true }
def FnExactSharedKeysUptoSaid : Prop := fnExactSharedKeysUptoRow.holds Tryd.pinned (OpenSpec.upto fnExactSharedKeysSpec)

/-- 'laws.FnExactPressesWithNext', WHERE WHAT IT READS IS OF BULK AT MOST 1048576: true; the input reads as it did. -/
def fnExactPressesWithNextUptoRow : OpenClaim := { program := "ytamjhhdggdfjiabdoor", sum := "bd46b1d2975505adb6929e0180dbacb45c2ab62d6e7d12199a62d46dcfc32fee", func := "loop.example/g01350/laws.FnExactPressesWithNext", spec := "fnExactPressesWithNext", inPlace := ["internal/bytealg.IndexByteString"], unfollowed := true, recurses := true, named := ["loop.example/g01350/impl.padKeys"], plainKeys := false, apart := false, laid := [("loop.example/g01350/impl.padKeys", laid_loop_example_g01350_impl_padKeys)], narrowed := true }
def FnExactPressesWithNextUptoSaid : Prop := fnExactPressesWithNextUptoRow.holds Tryd.pinned (OpenSpec.upto fnExactPressesWithNextSpec)

/-- 'laws.FnExactMostPresses', WHERE WHAT IT READS IS OF BULK AT MOST 1048576: true; the input reads as it did. -/
def fnExactMostPressesUptoRow : OpenClaim := { program := "ytamjhhdggdfjiabdoor", sum := "bd46b1d2975505adb6929e0180dbacb45c2ab62d6e7d12199a62d46dcfc32fee", func := "loop.example/g01350/laws.FnExactMostPresses", spec := "fnExactMostPresses", inPlace := ["internal/bytealg.IndexByteString"], unfollowed := true, recurses := true, named := ["loop.example/g01350/impl.padKeys"], plainKeys := false, apart := false, laid := [("loop.example/g01350/impl.padKeys", laid_loop_example_g01350_impl_padKeys)], narrowed := true }
def FnExactMostPressesUptoSaid : Prop := fnExactMostPressesUptoRow.holds Tryd.pinned (OpenSpec.upto fnExactMostPressesSpec)

end Rows
end Go.Proofs.YtamjhhdggdfjiabDoor
