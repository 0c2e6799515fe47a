/-
  NARROWER THAN 'FOR EVERY INPUT', by the rows' own cells (each row's printed sentence says how): FnExactKeyOf: laid · FnExactPressesFor: laid · FnExactCountPresses: laid · FnExactKeysOf: laid · FnExactSameKeys: laid · FnExactWaitsIn: laid · FnExactTimeFor: laid · FnExactPressText: laid · FnExactRankOfWord: laid · FnExactFirstWord: laid · FnExactCountSameKeys: laid.
  DERIVED. THE GIVEN ROWS OF THIS SEAT. 11 by the template 'for every input the law returns true; each argument reads behind the call as it read before'; 0 by the template 'total and deterministic' (their statements: YtfekamknnmhgpaaDoorTotals.lean).
  GIVEN WITH THE SEED: the statements are not yours to turn. If you find one false, say at which input.
  Laid BY PROGRAM, IN A SANDBOX (cutbox-rows.mjs): the forced cells as the released guide's own fill.sh prints them over the translation 371be32cab132de2… (all of the seat's roots in one cut). By AI agents, Wed Nov 11 2026. No macro, syntax, notation, axiom, sorry.
-/
import Derived.Test.YtfekamknnmhgpaaDoorChecked
import GoSem.Claim
import GoSem.ClaimJoined
import GoSem.ClaimMapViews
import Derived.JoinedTies
import Derived.KernelRfl
namespace Go.Proofs.YtfekamknnmhgpaaDoor
/- THE CELL 'sum', in the pinned program and in every row, IS THE sha256 OF THE DUMP (.gsa) THAT YtfekamknnmhgpaaDoorProg.lean LOADS. Nothing in Lean hashes anything: it is a label: what it is worth is what the hold of that sum in a sandbox is worth. -/
noncomputable def Tryd.pinned : Pinned := { name := "ytfekamknnmhgpaadoor", sum := "371be32cab132de23690c9664b7d4c8d446f54d6730b0878dc7e58be630d21bf", checked := Tryd.checked }
namespace Rows
def none {H : Type} : Left H := { results := [], args := [] }

/- WHAT THE LISTED PACKAGE-LEVEL VARIABLES READ AS WHEN THE CALL BEGINS. Each datum BY PROGRAM (the guide's laid-datum.mjs) off the statement by which the dump's own 'gosem.cut.vars' lays the variable. In a bare row this is a premise. The card (YtfekamknnmhgpaaDoorCards.lean) ties it to the program's text. -/
def laid_loop_example_g01350_impl_padKeys {H : Type} : DataW H := .agg [.agg [.lit (.int .u8 50), .lit (.string [97, 98, 99])], .agg [.lit (.int .u8 51), .lit (.string [100, 101, 102])], .agg [.lit (.int .u8 52), .lit (.string [103, 104, 105])], .agg [.lit (.int .u8 53), .lit (.string [106, 107, 108])], .agg [.lit (.int .u8 54), .lit (.string [109, 110, 111])], .agg [.lit (.int .u8 55), .lit (.string [112, 113, 114, 115])], .agg [.lit (.int .u8 56), .lit (.string [116, 117, 118])], .agg [.lit (.int .u8 57), .lit (.string [119, 120, 121, 122])]]

/-- 'laws.FnExactKeyOf': WHATEVER THE INPUT: true; the input reads as it did. -/
def fnExactKeyOfSpec : ChangeSpec := { name := "fnExactKeyOf", vars := ["loop.example/g01350/impl.padKeys"], fn := fun _ => fun
  | [d, g1] => { results := [.lit (.bool true)], args := [d], vars := [g1] }
  | _ => none }
def fnExactKeyOfRow : OpenClaim := { program := "ytfekamknnmhgpaadoor", sum := "371be32cab132de23690c9664b7d4c8d446f54d6730b0878dc7e58be630d21bf", func := "loop.example/g01350/laws.FnExactKeyOf", spec := "fnExactKeyOf", inPlace := ["internal/bytealg.IndexByteString"], unfollowed := true, recurses := true, named := ["loop.example/g01350/impl.padKeys"], apart := false, laid := [("loop.example/g01350/impl.padKeys", laid_loop_example_g01350_impl_padKeys)] }
def FnExactKeyOfSaid : Prop := fnExactKeyOfRow.holds Tryd.pinned (OpenSpec.ofChange fnExactKeyOfSpec)

/-- ITS FALSE NEIGHBOUR: 'it returns false'. Refute it at one input. -/
def fnExactKeyOfWrong : ChangeSpec := { name := "fnExactKeyOf", vars := ["loop.example/g01350/impl.padKeys"], fn := fun _ => fun
  | [d, g1] => { results := [.lit (.bool false)], args := [d], vars := [g1] }
  | _ => none }
def FnExactKeyOfWrongFalsely : Prop := fnExactKeyOfRow.holds Tryd.pinned (OpenSpec.ofChange fnExactKeyOfWrong)

/-- 'laws.FnExactPressesFor': WHATEVER THE INPUT: true; the input reads as it did. -/
def fnExactPressesForSpec : ChangeSpec := { name := "fnExactPressesFor", vars := ["loop.example/g01350/impl.padKeys"], fn := fun _ => fun
  | [d, g1] => { results := [.lit (.bool true)], args := [d], vars := [g1] }
  | _ => none }
def fnExactPressesForRow : OpenClaim := { program := "ytfekamknnmhgpaadoor", sum := "371be32cab132de23690c9664b7d4c8d446f54d6730b0878dc7e58be630d21bf", func := "loop.example/g01350/laws.FnExactPressesFor", spec := "fnExactPressesFor", inPlace := ["internal/bytealg.IndexByteString"], named := ["loop.example/g01350/impl.padKeys"], apart := false, laid := [("loop.example/g01350/impl.padKeys", laid_loop_example_g01350_impl_padKeys)] }
def FnExactPressesForSaid : Prop := fnExactPressesForRow.holds Tryd.pinned (OpenSpec.ofChange fnExactPressesForSpec)

/-- ITS FALSE NEIGHBOUR: 'it returns false'. Refute it at one input. -/
def fnExactPressesForWrong : ChangeSpec := { name := "fnExactPressesFor", vars := ["loop.example/g01350/impl.padKeys"], fn := fun _ => fun
  | [d, g1] => { results := [.lit (.bool false)], args := [d], vars := [g1] }
  | _ => none }
def FnExactPressesForWrongFalsely : Prop := fnExactPressesForRow.holds Tryd.pinned (OpenSpec.ofChange fnExactPressesForWrong)

/-- 'laws.FnExactCountPresses': WHATEVER THE INPUT: true; the input reads as it did. -/
def fnExactCountPressesSpec : ChangeSpec := { name := "fnExactCountPresses", vars := ["loop.example/g01350/impl.padKeys"], fn := fun _ => fun
  | [d, g1] => { results := [.lit (.bool true)], args := [d], vars := [g1] }
  | _ => none }
def fnExactCountPressesRow : OpenClaim := { program := "ytfekamknnmhgpaadoor", sum := "371be32cab132de23690c9664b7d4c8d446f54d6730b0878dc7e58be630d21bf", func := "loop.example/g01350/laws.FnExactCountPresses", spec := "fnExactCountPresses", inPlace := ["internal/bytealg.IndexByteString"], unfollowed := true, recurses := true, named := ["loop.example/g01350/impl.padKeys"], apart := false, laid := [("loop.example/g01350/impl.padKeys", laid_loop_example_g01350_impl_padKeys)] }
def FnExactCountPressesSaid : Prop := fnExactCountPressesRow.holds Tryd.pinned (OpenSpec.ofChange fnExactCountPressesSpec)

/-- ITS FALSE NEIGHBOUR: 'it returns false'. Refute it at one input. -/
def fnExactCountPressesWrong : ChangeSpec := { name := "fnExactCountPresses", vars := ["loop.example/g01350/impl.padKeys"], fn := fun _ => fun
  | [d, g1] => { results := [.lit (.bool false)], args := [d], vars := [g1] }
  | _ => none }
def FnExactCountPressesWrongFalsely : Prop := fnExactCountPressesRow.holds Tryd.pinned (OpenSpec.ofChange fnExactCountPressesWrong)

/-- 'laws.FnExactKeysOf': WHATEVER THE INPUT: true; the input reads as it did. -/
def fnExactKeysOfSpec : ChangeSpec := { name := "fnExactKeysOf", vars := ["loop.example/g01350/impl.padKeys"], fn := fun _ => fun
  | [d, g1] => { results := [.lit (.bool true)], args := [d], vars := [g1] }
  | _ => none }
def fnExactKeysOfRow : OpenClaim := { program := "ytfekamknnmhgpaadoor", sum := "371be32cab132de23690c9664b7d4c8d446f54d6730b0878dc7e58be630d21bf", func := "loop.example/g01350/laws.FnExactKeysOf", spec := "fnExactKeysOf", inPlace := ["internal/bytealg.IndexByteString"], unfollowed := true, recurses := true, named := ["loop.example/g01350/impl.padKeys"], apart := false, laid := [("loop.example/g01350/impl.padKeys", laid_loop_example_g01350_impl_padKeys)] }
def FnExactKeysOfSaid : Prop := fnExactKeysOfRow.holds Tryd.pinned (OpenSpec.ofChange fnExactKeysOfSpec)

/-- ITS FALSE NEIGHBOUR: 'it returns false'. Refute it at one input. -/
def fnExactKeysOfWrong : ChangeSpec := { name := "fnExactKeysOf", vars := ["loop.example/g01350/impl.padKeys"], fn := fun _ => fun
  | [d, g1] => { results := [.lit (.bool false)], args := [d], vars := [g1] }
  | _ => none }
def FnExactKeysOfWrongFalsely : Prop := fnExactKeysOfRow.holds Tryd.pinned (OpenSpec.ofChange fnExactKeysOfWrong)

/-- 'laws.FnExactSameKeys': WHATEVER THE INPUT: true; the input reads as it did. -/
def fnExactSameKeysSpec : ChangeSpec := { name := "fnExactSameKeys", vars := ["loop.example/g01350/impl.padKeys"], fn := fun _ => fun
  | [d1, d2, g1] => { results := [.lit (.bool true)], args := [d1, d2], vars := [g1] }
  | _ => none }
def fnExactSameKeysRow : OpenClaim := { program := "ytfekamknnmhgpaadoor", sum := "371be32cab132de23690c9664b7d4c8d446f54d6730b0878dc7e58be630d21bf", func := "loop.example/g01350/laws.FnExactSameKeys", spec := "fnExactSameKeys", inPlace := ["internal/bytealg.IndexByteString"], unfollowed := true, recurses := true, named := ["loop.example/g01350/impl.padKeys"], apart := false, laid := [("loop.example/g01350/impl.padKeys", laid_loop_example_g01350_impl_padKeys)] }
def FnExactSameKeysSaid : Prop := fnExactSameKeysRow.holds Tryd.pinned (OpenSpec.ofChange fnExactSameKeysSpec)

/-- ITS FALSE NEIGHBOUR: 'it returns false'. Refute it at one input. -/
def fnExactSameKeysWrong : ChangeSpec := { name := "fnExactSameKeys", vars := ["loop.example/g01350/impl.padKeys"], fn := fun _ => fun
  | [d1, d2, g1] => { results := [.lit (.bool false)], args := [d1, d2], vars := [g1] }
  | _ => none }
def FnExactSameKeysWrongFalsely : Prop := fnExactSameKeysRow.holds Tryd.pinned (OpenSpec.ofChange fnExactSameKeysWrong)

/-- 'laws.FnExactWaitsIn': WHATEVER THE INPUT: true; the input reads as it did. -/
def fnExactWaitsInSpec : ChangeSpec := { name := "fnExactWaitsIn", vars := ["loop.example/g01350/impl.padKeys"], fn := fun _ => fun
  | [d, g1] => { results := [.lit (.bool true)], args := [d], vars := [g1] }
  | _ => none }
def fnExactWaitsInRow : OpenClaim := { program := "ytfekamknnmhgpaadoor", sum := "371be32cab132de23690c9664b7d4c8d446f54d6730b0878dc7e58be630d21bf", func := "loop.example/g01350/laws.FnExactWaitsIn", spec := "fnExactWaitsIn", inPlace := ["internal/bytealg.IndexByteString"], named := ["loop.example/g01350/impl.padKeys"], apart := false, laid := [("loop.example/g01350/impl.padKeys", laid_loop_example_g01350_impl_padKeys)] }
def FnExactWaitsInSaid : Prop := fnExactWaitsInRow.holds Tryd.pinned (OpenSpec.ofChange fnExactWaitsInSpec)

/-- ITS FALSE NEIGHBOUR: 'it returns false'. Refute it at one input. -/
def fnExactWaitsInWrong : ChangeSpec := { name := "fnExactWaitsIn", vars := ["loop.example/g01350/impl.padKeys"], fn := fun _ => fun
  | [d, g1] => { results := [.lit (.bool false)], args := [d], vars := [g1] }
  | _ => none }
def FnExactWaitsInWrongFalsely : Prop := fnExactWaitsInRow.holds Tryd.pinned (OpenSpec.ofChange fnExactWaitsInWrong)

/-- 'laws.FnExactTimeFor': WHATEVER THE INPUT: true; the input reads as it did. -/
def fnExactTimeForSpec : ChangeSpec := { name := "fnExactTimeFor", vars := ["loop.example/g01350/impl.padKeys"], fn := fun _ => fun
  | [d1, d2, d3, g1] => { results := [.lit (.bool true)], args := [d1, d2, d3], vars := [g1] }
  | _ => none }
def fnExactTimeForRow : OpenClaim := { program := "ytfekamknnmhgpaadoor", sum := "371be32cab132de23690c9664b7d4c8d446f54d6730b0878dc7e58be630d21bf", func := "loop.example/g01350/laws.FnExactTimeFor", spec := "fnExactTimeFor", inPlace := ["internal/bytealg.IndexByteString"], unfollowed := true, recurses := true, named := ["loop.example/g01350/impl.padKeys"], apart := false, laid := [("loop.example/g01350/impl.padKeys", laid_loop_example_g01350_impl_padKeys)] }
def FnExactTimeForSaid : Prop := fnExactTimeForRow.holds Tryd.pinned (OpenSpec.ofChange fnExactTimeForSpec)

/-- ITS FALSE NEIGHBOUR: 'it returns false'. Refute it at one input. -/
def fnExactTimeForWrong : ChangeSpec := { name := "fnExactTimeFor", vars := ["loop.example/g01350/impl.padKeys"], fn := fun _ => fun
  | [d1, d2, d3, g1] => { results := [.lit (.bool false)], args := [d1, d2, d3], vars := [g1] }
  | _ => none }
def FnExactTimeForWrongFalsely : Prop := fnExactTimeForRow.holds Tryd.pinned (OpenSpec.ofChange fnExactTimeForWrong)

/-- 'laws.FnExactPressText': WHATEVER THE INPUT: true; the input reads as it did. -/
def fnExactPressTextSpec : ChangeSpec := { name := "fnExactPressText", vars := ["loop.example/g01350/impl.padKeys"], fn := fun _ => fun
  | [d, g1] => { results := [.lit (.bool true)], args := [d], vars := [g1] }
  | _ => none }
def fnExactPressTextRow : OpenClaim := { program := "ytfekamknnmhgpaadoor", sum := "371be32cab132de23690c9664b7d4c8d446f54d6730b0878dc7e58be630d21bf", func := "loop.example/g01350/laws.FnExactPressText", spec := "fnExactPressText", inPlace := ["internal/bytealg.IndexByteString"], named := ["loop.example/g01350/impl.padKeys"], apart := false, laid := [("loop.example/g01350/impl.padKeys", laid_loop_example_g01350_impl_padKeys)] }
def FnExactPressTextSaid : Prop := fnExactPressTextRow.holds Tryd.pinned (OpenSpec.ofChange fnExactPressTextSpec)

/-- ITS FALSE NEIGHBOUR: 'it returns false'. Refute it at one input. -/
def fnExactPressTextWrong : ChangeSpec := { name := "fnExactPressText", vars := ["loop.example/g01350/impl.padKeys"], fn := fun _ => fun
  | [d, g1] => { results := [.lit (.bool false)], args := [d], vars := [g1] }
  | _ => none }
def FnExactPressTextWrongFalsely : Prop := fnExactPressTextRow.holds Tryd.pinned (OpenSpec.ofChange fnExactPressTextWrong)

/-- 'laws.FnExactRankOfWord': WHATEVER THE INPUT: true; the input reads as it did. -/
def fnExactRankOfWordSpec : ChangeSpec := { name := "fnExactRankOfWord", vars := ["loop.example/g01350/impl.padKeys"], fn := fun _ => fun
  | [d, g1] => { results := [.lit (.bool true)], args := [d], vars := [g1] }
  | _ => none }
def fnExactRankOfWordRow : OpenClaim := { program := "ytfekamknnmhgpaadoor", sum := "371be32cab132de23690c9664b7d4c8d446f54d6730b0878dc7e58be630d21bf", func := "loop.example/g01350/laws.FnExactRankOfWord", spec := "fnExactRankOfWord", inPlace := ["internal/bytealg.IndexByteString"], named := ["loop.example/g01350/impl.padKeys"], apart := false, laid := [("loop.example/g01350/impl.padKeys", laid_loop_example_g01350_impl_padKeys)] }
def FnExactRankOfWordSaid : Prop := fnExactRankOfWordRow.holds Tryd.pinned (OpenSpec.ofChange fnExactRankOfWordSpec)

/-- ITS FALSE NEIGHBOUR: 'it returns false'. Refute it at one input. -/
def fnExactRankOfWordWrong : ChangeSpec := { name := "fnExactRankOfWord", vars := ["loop.example/g01350/impl.padKeys"], fn := fun _ => fun
  | [d, g1] => { results := [.lit (.bool false)], args := [d], vars := [g1] }
  | _ => none }
def FnExactRankOfWordWrongFalsely : Prop := fnExactRankOfWordRow.holds Tryd.pinned (OpenSpec.ofChange fnExactRankOfWordWrong)

/-- 'laws.FnExactFirstWord': WHATEVER THE INPUT: true; the input reads as it did. -/
def fnExactFirstWordSpec : ChangeSpec := { name := "fnExactFirstWord", vars := ["loop.example/g01350/impl.padKeys"], fn := fun _ => fun
  | [d, g1] => { results := [.lit (.bool true)], args := [d], vars := [g1] }
  | _ => none }
def fnExactFirstWordRow : OpenClaim := { program := "ytfekamknnmhgpaadoor", sum := "371be32cab132de23690c9664b7d4c8d446f54d6730b0878dc7e58be630d21bf", func := "loop.example/g01350/laws.FnExactFirstWord", spec := "fnExactFirstWord", named := ["loop.example/g01350/impl.padKeys"], apart := false, laid := [("loop.example/g01350/impl.padKeys", laid_loop_example_g01350_impl_padKeys)] }
def FnExactFirstWordSaid : Prop := fnExactFirstWordRow.holds Tryd.pinned (OpenSpec.ofChange fnExactFirstWordSpec)

/-- ITS FALSE NEIGHBOUR: 'it returns false'. Refute it at one input. -/
def fnExactFirstWordWrong : ChangeSpec := { name := "fnExactFirstWord", vars := ["loop.example/g01350/impl.padKeys"], fn := fun _ => fun
  | [d, g1] => { results := [.lit (.bool false)], args := [d], vars := [g1] }
  | _ => none }
def FnExactFirstWordWrongFalsely : Prop := fnExactFirstWordRow.holds Tryd.pinned (OpenSpec.ofChange fnExactFirstWordWrong)

/-- 'laws.FnExactCountSameKeys': WHATEVER THE INPUT: true; the input reads as it did. -/
def fnExactCountSameKeysSpec : ChangeSpec := { name := "fnExactCountSameKeys", vars := ["loop.example/g01350/impl.padKeys"], fn := fun _ => fun
  | [d, g1] => { results := [.lit (.bool true)], args := [d], vars := [g1] }
  | _ => none }
def fnExactCountSameKeysRow : OpenClaim := { program := "ytfekamknnmhgpaadoor", sum := "371be32cab132de23690c9664b7d4c8d446f54d6730b0878dc7e58be630d21bf", func := "loop.example/g01350/laws.FnExactCountSameKeys", spec := "fnExactCountSameKeys", named := ["loop.example/g01350/impl.padKeys"], apart := false, laid := [("loop.example/g01350/impl.padKeys", laid_loop_example_g01350_impl_padKeys)] }
def FnExactCountSameKeysSaid : Prop := fnExactCountSameKeysRow.holds Tryd.pinned (OpenSpec.ofChange fnExactCountSameKeysSpec)

/-- ITS FALSE NEIGHBOUR: 'it returns false'. Refute it at one input. -/
def fnExactCountSameKeysWrong : ChangeSpec := { name := "fnExactCountSameKeys", vars := ["loop.example/g01350/impl.padKeys"], fn := fun _ => fun
  | [d, g1] => { results := [.lit (.bool false)], args := [d], vars := [g1] }
  | _ => none }
def FnExactCountSameKeysWrongFalsely : Prop := fnExactCountSameKeysRow.holds Tryd.pinned (OpenSpec.ofChange fnExactCountSameKeysWrong)

/- THE SECOND FORM. 'bulk': how many values and letters a reading holds, each counted each time it is reached (what is shared counts as often as it is met; a slice's spare places count too). A statement '..UptoSaid' is the law's where the arguments, and the package variables that the reading takes, are together of bulk at most 1048576: NARROWER than '..Said'. Prove '..Said' where nothing that the law and all that it calls make is longer than what came in: it says more and counts as full. Else prove '..UptoSaid'. A law counts once. -/
mutual
def uptoBulk {H : Type} : DataW H → Nat
  | .lit (.string bytes) => bytes.length + 1
  | .lit _ => 1
  | .nil => 1
  | .ptr d => uptoBulk d + 1
  | .slice elems spare => uptoBulkAll elems + uptoBulkAll spare + 1
  | .agg parts => uptoBulkAll parts + 1
  | .iface _ d => uptoBulk d + 1
  | .map entries => uptoBulkEntries entries + 1
  | .held _ => 1
def uptoBulkAll {H : Type} : List (DataW H) → Nat
  | [] => 0
  | d :: r => uptoBulk d + uptoBulkAll r
def uptoBulkEntries {H : Type} : List (Lit × DataW H) → Nat
  | [] => 0
  | x :: r => uptoBulkEntry x + uptoBulkEntries r
def uptoBulkEntry {H : Type} : Lit × DataW H → Nat
  | (.string bytes, d) => bytes.length + uptoBulk d + 1
  | (_, d) => uptoBulk d + 1
 end
def uptoSmall : (H : Type) → List (DataW H) → Bool := fun _ ds => decide (uptoBulkAll ds ≤ 1048576)
def OpenSpec.upto (s : _root_.Go.ChangeSpec) : _root_.Go.OpenSpec := { _root_.Go.OpenSpec.ofChange s with cond := some uptoSmall }

/-- 'laws.FnExactKeyOf', WHERE WHAT IT READS IS OF BULK AT MOST 1048576: true; the input reads as it did. -/
def fnExactKeyOfUptoRow : OpenClaim := { program := "ytfekamknnmhgpaadoor", sum := "371be32cab132de23690c9664b7d4c8d446f54d6730b0878dc7e58be630d21bf", func := "loop.example/g01350/laws.FnExactKeyOf", spec := "fnExactKeyOf", inPlace := ["internal/bytealg.IndexByteString"], unfollowed := true, recurses := true, named := ["loop.example/g01350/impl.padKeys"], apart := false, laid := [("loop.example/g01350/impl.padKeys", laid_loop_example_g01350_impl_padKeys)], narrowed := true }
def FnExactKeyOfUptoSaid : Prop := fnExactKeyOfUptoRow.holds Tryd.pinned (OpenSpec.upto fnExactKeyOfSpec)

/-- 'laws.FnExactPressesFor', WHERE WHAT IT READS IS OF BULK AT MOST 1048576: true; the input reads as it did. -/
def fnExactPressesForUptoRow : OpenClaim := { program := "ytfekamknnmhgpaadoor", sum := "371be32cab132de23690c9664b7d4c8d446f54d6730b0878dc7e58be630d21bf", func := "loop.example/g01350/laws.FnExactPressesFor", spec := "fnExactPressesFor", inPlace := ["internal/bytealg.IndexByteString"], named := ["loop.example/g01350/impl.padKeys"], apart := false, laid := [("loop.example/g01350/impl.padKeys", laid_loop_example_g01350_impl_padKeys)], narrowed := true }
def FnExactPressesForUptoSaid : Prop := fnExactPressesForUptoRow.holds Tryd.pinned (OpenSpec.upto fnExactPressesForSpec)

/-- 'laws.FnExactCountPresses', WHERE WHAT IT READS IS OF BULK AT MOST 1048576: true; the input reads as it did. -/
def fnExactCountPressesUptoRow : OpenClaim := { program := "ytfekamknnmhgpaadoor", sum := "371be32cab132de23690c9664b7d4c8d446f54d6730b0878dc7e58be630d21bf", func := "loop.example/g01350/laws.FnExactCountPresses", spec := "fnExactCountPresses", inPlace := ["internal/bytealg.IndexByteString"], unfollowed := true, recurses := true, named := ["loop.example/g01350/impl.padKeys"], apart := false, laid := [("loop.example/g01350/impl.padKeys", laid_loop_example_g01350_impl_padKeys)], narrowed := true }
def FnExactCountPressesUptoSaid : Prop := fnExactCountPressesUptoRow.holds Tryd.pinned (OpenSpec.upto fnExactCountPressesSpec)

/-- 'laws.FnExactKeysOf', WHERE WHAT IT READS IS OF BULK AT MOST 1048576: true; the input reads as it did. -/
def fnExactKeysOfUptoRow : OpenClaim := { program := "ytfekamknnmhgpaadoor", sum := "371be32cab132de23690c9664b7d4c8d446f54d6730b0878dc7e58be630d21bf", func := "loop.example/g01350/laws.FnExactKeysOf", spec := "fnExactKeysOf", inPlace := ["internal/bytealg.IndexByteString"], unfollowed := true, recurses := true, named := ["loop.example/g01350/impl.padKeys"], apart := false, laid := [("loop.example/g01350/impl.padKeys", laid_loop_example_g01350_impl_padKeys)], narrowed := true }
def FnExactKeysOfUptoSaid : Prop := fnExactKeysOfUptoRow.holds Tryd.pinned (OpenSpec.upto fnExactKeysOfSpec)

/-- 'laws.FnExactSameKeys', WHERE WHAT IT READS IS OF BULK AT MOST 1048576: true; the input reads as it did. -/
def fnExactSameKeysUptoRow : OpenClaim := { program := "ytfekamknnmhgpaadoor", sum := "371be32cab132de23690c9664b7d4c8d446f54d6730b0878dc7e58be630d21bf", func := "loop.example/g01350/laws.FnExactSameKeys", spec := "fnExactSameKeys", inPlace := ["internal/bytealg.IndexByteString"], unfollowed := true, recurses := true, named := ["loop.example/g01350/impl.padKeys"], apart := false, laid := [("loop.example/g01350/impl.padKeys", laid_loop_example_g01350_impl_padKeys)], narrowed := true }
def FnExactSameKeysUptoSaid : Prop := fnExactSameKeysUptoRow.holds Tryd.pinned (OpenSpec.upto fnExactSameKeysSpec)

/-- 'laws.FnExactWaitsIn', WHERE WHAT IT READS IS OF BULK AT MOST 1048576: true; the input reads as it did. -/
def fnExactWaitsInUptoRow : OpenClaim := { program := "ytfekamknnmhgpaadoor", sum := "371be32cab132de23690c9664b7d4c8d446f54d6730b0878dc7e58be630d21bf", func := "loop.example/g01350/laws.FnExactWaitsIn", spec := "fnExactWaitsIn", inPlace := ["internal/bytealg.IndexByteString"], named := ["loop.example/g01350/impl.padKeys"], apart := false, laid := [("loop.example/g01350/impl.padKeys", laid_loop_example_g01350_impl_padKeys)], narrowed := true }
def FnExactWaitsInUptoSaid : Prop := fnExactWaitsInUptoRow.holds Tryd.pinned (OpenSpec.upto fnExactWaitsInSpec)

/-- 'laws.FnExactTimeFor', WHERE WHAT IT READS IS OF BULK AT MOST 1048576: true; the input reads as it did. -/
def fnExactTimeForUptoRow : OpenClaim := { program := "ytfekamknnmhgpaadoor", sum := "371be32cab132de23690c9664b7d4c8d446f54d6730b0878dc7e58be630d21bf", func := "loop.example/g01350/laws.FnExactTimeFor", spec := "fnExactTimeFor", inPlace := ["internal/bytealg.IndexByteString"], unfollowed := true, recurses := true, named := ["loop.example/g01350/impl.padKeys"], apart := false, laid := [("loop.example/g01350/impl.padKeys", laid_loop_example_g01350_impl_padKeys)], narrowed := true }
def FnExactTimeForUptoSaid : Prop := fnExactTimeForUptoRow.holds Tryd.pinned (OpenSpec.upto fnExactTimeForSpec)

/-- 'laws.FnExactPressText', WHERE WHAT IT READS IS OF BULK AT MOST 1048576: true; the input reads as it did. -/
def fnExactPressTextUptoRow : OpenClaim := { program := "ytfekamknnmhgpaadoor", sum := "371be32cab132de23690c9664b7d4c8d446f54d6730b0878dc7e58be630d21bf", func := "loop.example/g01350/laws.FnExactPressText", spec := "fnExactPressText", inPlace := ["internal/bytealg.IndexByteString"], named := ["loop.example/g01350/impl.padKeys"], apart := false, laid := [("loop.example/g01350/impl.padKeys", laid_loop_example_g01350_impl_padKeys)], narrowed := true }
def FnExactPressTextUptoSaid : Prop := fnExactPressTextUptoRow.holds Tryd.pinned (OpenSpec.upto fnExactPressTextSpec)

/-- 'laws.FnExactRankOfWord', WHERE WHAT IT READS IS OF BULK AT MOST 1048576: true; the input reads as it did. -/
def fnExactRankOfWordUptoRow : OpenClaim := { program := "ytfekamknnmhgpaadoor", sum := "371be32cab132de23690c9664b7d4c8d446f54d6730b0878dc7e58be630d21bf", func := "loop.example/g01350/laws.FnExactRankOfWord", spec := "fnExactRankOfWord", inPlace := ["internal/bytealg.IndexByteString"], named := ["loop.example/g01350/impl.padKeys"], apart := false, laid := [("loop.example/g01350/impl.padKeys", laid_loop_example_g01350_impl_padKeys)], narrowed := true }
def FnExactRankOfWordUptoSaid : Prop := fnExactRankOfWordUptoRow.holds Tryd.pinned (OpenSpec.upto fnExactRankOfWordSpec)

/-- 'laws.FnExactFirstWord', WHERE WHAT IT READS IS OF BULK AT MOST 1048576: true; the input reads as it did. -/
def fnExactFirstWordUptoRow : OpenClaim := { program := "ytfekamknnmhgpaadoor", sum := "371be32cab132de23690c9664b7d4c8d446f54d6730b0878dc7e58be630d21bf", func := "loop.example/g01350/laws.FnExactFirstWord", spec := "fnExactFirstWord", named := ["loop.example/g01350/impl.padKeys"], apart := false, laid := [("loop.example/g01350/impl.padKeys", laid_loop_example_g01350_impl_padKeys)], narrowed := true }
def FnExactFirstWordUptoSaid : Prop := fnExactFirstWordUptoRow.holds Tryd.pinned (OpenSpec.upto fnExactFirstWordSpec)

/-- 'laws.FnExactCountSameKeys', WHERE WHAT IT READS IS OF BULK AT MOST 1048576: true; the input reads as it did. -/
def fnExactCountSameKeysUptoRow : OpenClaim := { program := "ytfekamknnmhgpaadoor", sum := "371be32cab132de23690c9664b7d4c8d446f54d6730b0878dc7e58be630d21bf", func := "loop.example/g01350/laws.FnExactCountSameKeys", spec := "fnExactCountSameKeys", named := ["loop.example/g01350/impl.padKeys"], apart := false, laid := [("loop.example/g01350/impl.padKeys", laid_loop_example_g01350_impl_padKeys)], narrowed := true }
def FnExactCountSameKeysUptoSaid : Prop := fnExactCountSameKeysUptoRow.holds Tryd.pinned (OpenSpec.upto fnExactCountSameKeysSpec)

end Rows
end Go.Proofs.YtfekamknnmhgpaaDoor
