/-
  NARROWER THAN 'FOR EVERY INPUT', by the rows' own cells (each row's printed sentence says how): FnExactWordOfRank: laid · FnExactReadPresses: laid · FnExactLongestPressed: laid.
  DERIVED. THE GIVEN ROWS OF THIS SEAT. 3 by the template 'for every input the law returns true; each argument reads behind the call as it read before'; 0 by the template 'total and deterministic' (their statements: YtfekamknnmhgpabDoorTotals.lean).
  GIVEN WITH THE SEED: the statements are not yours to turn. If you find one false, say at which input.
  Laid BY PROGRAM, IN A SANDBOX (cutbox-rows.mjs): the forced cells as the released guide's own fill.sh prints them over the translation 1bdaebc6b5a703a5… (all of the seat's roots in one cut). By AI agents, Wed Nov 11 2026. No macro, syntax, notation, axiom, sorry.
-/
import Derived.Test.YtfekamknnmhgpabDoorChecked
import GoSem.Claim
import GoSem.ClaimJoined
import GoSem.ClaimMapViews
import Derived.JoinedTies
import Derived.KernelRfl
namespace Go.Proofs.YtfekamknnmhgpabDoor
/- THE CELL 'sum', in the pinned program and in every row, IS THE sha256 OF THE DUMP (.gsa) THAT YtfekamknnmhgpabDoorProg.lean LOADS. Nothing in Lean hashes anything: it is a label: what it is worth is what the hold of that sum in a sandbox is worth. -/
noncomputable def Tryd.pinned : Pinned := { name := "ytfekamknnmhgpabdoor", sum := "1bdaebc6b5a703a5795698b0873946a8e09eb3e3a1f9ad2fd2a548fdf30f0285", checked := Tryd.checked }
namespace Rows
def none {H : Type} : Left H := { results := [], args := [] }

/- WHAT THE LISTED PACKAGE-LEVEL VARIABLES READ AS WHEN THE CALL BEGINS. Each datum BY PROGRAM (the guide's laid-datum.mjs) off the statement by which the dump's own 'gosem.cut.vars' lays the variable. In a bare row this is a premise. The card (YtfekamknnmhgpabDoorCards.lean) ties it to the program's text. -/
def laid_loop_example_g01350_impl_padKeys {H : Type} : DataW H := .agg [.agg [.lit (.int .u8 50), .lit (.string [97, 98, 99])], .agg [.lit (.int .u8 51), .lit (.string [100, 101, 102])], .agg [.lit (.int .u8 52), .lit (.string [103, 104, 105])], .agg [.lit (.int .u8 53), .lit (.string [106, 107, 108])], .agg [.lit (.int .u8 54), .lit (.string [109, 110, 111])], .agg [.lit (.int .u8 55), .lit (.string [112, 113, 114, 115])], .agg [.lit (.int .u8 56), .lit (.string [116, 117, 118])], .agg [.lit (.int .u8 57), .lit (.string [119, 120, 121, 122])]]

/-- 'laws.FnExactWordOfRank': WHATEVER THE INPUT: true; the input reads as it did. -/
def fnExactWordOfRankSpec : ChangeSpec := { name := "fnExactWordOfRank", vars := ["loop.example/g01350/impl.padKeys"], fn := fun _ => fun
  | [d1, d2, g1] => { results := [.lit (.bool true)], args := [d1, d2], vars := [g1] }
  | _ => none }
def fnExactWordOfRankRow : OpenClaim := { program := "ytfekamknnmhgpabdoor", sum := "1bdaebc6b5a703a5795698b0873946a8e09eb3e3a1f9ad2fd2a548fdf30f0285", func := "loop.example/g01350/laws.FnExactWordOfRank", spec := "fnExactWordOfRank", named := ["loop.example/g01350/impl.padKeys"], apart := false, laid := [("loop.example/g01350/impl.padKeys", laid_loop_example_g01350_impl_padKeys)] }
def FnExactWordOfRankSaid : Prop := fnExactWordOfRankRow.holds Tryd.pinned (OpenSpec.ofChange fnExactWordOfRankSpec)

/-- ITS FALSE NEIGHBOUR: 'it returns false'. Refute it at one input. -/
def fnExactWordOfRankWrong : ChangeSpec := { name := "fnExactWordOfRank", vars := ["loop.example/g01350/impl.padKeys"], fn := fun _ => fun
  | [d1, d2, g1] => { results := [.lit (.bool false)], args := [d1, d2], vars := [g1] }
  | _ => none }
def FnExactWordOfRankWrongFalsely : Prop := fnExactWordOfRankRow.holds Tryd.pinned (OpenSpec.ofChange fnExactWordOfRankWrong)

/-- 'laws.FnExactReadPresses': WHATEVER THE INPUT: true; the input reads as it did. -/
def fnExactReadPressesSpec : ChangeSpec := { name := "fnExactReadPresses", vars := ["loop.example/g01350/impl.padKeys"], fn := fun _ => fun
  | [d, g1] => { results := [.lit (.bool true)], args := [d], vars := [g1] }
  | _ => none }
def fnExactReadPressesRow : OpenClaim := { program := "ytfekamknnmhgpabdoor", sum := "1bdaebc6b5a703a5795698b0873946a8e09eb3e3a1f9ad2fd2a548fdf30f0285", func := "loop.example/g01350/laws.FnExactReadPresses", spec := "fnExactReadPresses", inPlace := ["internal/bytealg.IndexByteString"], named := ["loop.example/g01350/impl.padKeys"], apart := false, laid := [("loop.example/g01350/impl.padKeys", laid_loop_example_g01350_impl_padKeys)] }
def FnExactReadPressesSaid : Prop := fnExactReadPressesRow.holds Tryd.pinned (OpenSpec.ofChange fnExactReadPressesSpec)

/-- ITS FALSE NEIGHBOUR: 'it returns false'. Refute it at one input. -/
def fnExactReadPressesWrong : ChangeSpec := { name := "fnExactReadPresses", vars := ["loop.example/g01350/impl.padKeys"], fn := fun _ => fun
  | [d, g1] => { results := [.lit (.bool false)], args := [d], vars := [g1] }
  | _ => none }
def FnExactReadPressesWrongFalsely : Prop := fnExactReadPressesRow.holds Tryd.pinned (OpenSpec.ofChange fnExactReadPressesWrong)

/-- 'laws.FnExactLongestPressed': WHATEVER THE INPUT: true; the input reads as it did. -/
def fnExactLongestPressedSpec : ChangeSpec := { name := "fnExactLongestPressed", vars := ["loop.example/g01350/impl.padKeys"], fn := fun _ => fun
  | [d1, d2, g1] => { results := [.lit (.bool true)], args := [d1, d2], vars := [g1] }
  | _ => none }
def fnExactLongestPressedRow : OpenClaim := { program := "ytfekamknnmhgpabdoor", sum := "1bdaebc6b5a703a5795698b0873946a8e09eb3e3a1f9ad2fd2a548fdf30f0285", func := "loop.example/g01350/laws.FnExactLongestPressed", spec := "fnExactLongestPressed", inPlace := ["internal/bytealg.IndexByteString"], named := ["loop.example/g01350/impl.padKeys"], apart := false, laid := [("loop.example/g01350/impl.padKeys", laid_loop_example_g01350_impl_padKeys)] }
def FnExactLongestPressedSaid : Prop := fnExactLongestPressedRow.holds Tryd.pinned (OpenSpec.ofChange fnExactLongestPressedSpec)

/-- ITS FALSE NEIGHBOUR: 'it returns false'. Refute it at one input. -/
def fnExactLongestPressedWrong : ChangeSpec := { name := "fnExactLongestPressed", vars := ["loop.example/g01350/impl.padKeys"], fn := fun _ => fun
  | [d1, d2, g1] => { results := [.lit (.bool false)], args := [d1, d2], vars := [g1] }
  | _ => none }
def FnExactLongestPressedWrongFalsely : Prop := fnExactLongestPressedRow.holds Tryd.pinned (OpenSpec.ofChange fnExactLongestPressedWrong)

/- THE SECOND FORM. 'bulk': how many values and letters a reading holds, each counted each time it is reached (what is shared counts as often as it is met; a slice's spare places count too). A statement '..UptoSaid' is the law's where the arguments, and the package variables that the reading takes, are together of bulk at most 1048576: NARROWER than '..Said'. Prove '..Said' where nothing that the law and all that it calls make is longer than what came in: it says more and counts as full. Else prove '..UptoSaid'. A law counts once. -/
mutual
def uptoBulk {H : Type} : DataW H → Nat
  | .lit (.string bytes) => bytes.length + 1
  | .lit _ => 1
  | .nil => 1
  | .ptr d => uptoBulk d + 1
  | .slice elems spare => uptoBulkAll elems + uptoBulkAll spare + 1
  | .agg parts => uptoBulkAll parts + 1
  | .iface _ d => uptoBulk d + 1
  | .map entries => uptoBulkEntries entries + 1
  | .held _ => 1
def uptoBulkAll {H : Type} : List (DataW H) → Nat
  | [] => 0
  | d :: r => uptoBulk d + uptoBulkAll r
def uptoBulkEntries {H : Type} : List (Lit × DataW H) → Nat
  | [] => 0
  | x :: r => uptoBulkEntry x + uptoBulkEntries r
def uptoBulkEntry {H : Type} : Lit × DataW H → Nat
  | (.string bytes, d) => bytes.length + uptoBulk d + 1
  | (_, d) => uptoBulk d + 1
 end
def uptoSmall : (H : Type) → List (DataW H) → Bool := fun _ ds => decide (uptoBulkAll ds ≤ 1048576)
def OpenSpec.upto (s : _root_.Go.ChangeSpec) : _root_.Go.OpenSpec := { _root_.Go.OpenSpec.ofChange s with cond := some uptoSmall }

/-- 'laws.FnExactWordOfRank', WHERE WHAT IT READS IS OF BULK AT MOST 1048576: true; the input reads as it did. -/
def fnExactWordOfRankUptoRow : OpenClaim := { program := "ytfekamknnmhgpabdoor", sum := "1bdaebc6b5a703a5795698b0873946a8e09eb3e3a1f9ad2fd2a548fdf30f0285", func := "loop.example/g01350/laws.FnExactWordOfRank", spec := "fnExactWordOfRank", named := ["loop.example/g01350/impl.padKeys"], apart := false, laid := [("loop.example/g01350/impl.padKeys", laid_loop_example_g01350_impl_padKeys)], narrowed := true }
def FnExactWordOfRankUptoSaid : Prop := fnExactWordOfRankUptoRow.holds Tryd.pinned (OpenSpec.upto fnExactWordOfRankSpec)

/-- 'laws.FnExactReadPresses', WHERE WHAT IT READS IS OF BULK AT MOST 1048576: true; the input reads as it did. -/
def fnExactReadPressesUptoRow : OpenClaim := { program := "ytfekamknnmhgpabdoor", sum := "1bdaebc6b5a703a5795698b0873946a8e09eb3e3a1f9ad2fd2a548fdf30f0285", func := "loop.example/g01350/laws.FnExactReadPresses", spec := "fnExactReadPresses", inPlace := ["internal/bytealg.IndexByteString"], named := ["loop.example/g01350/impl.padKeys"], apart := false, laid := [("loop.example/g01350/impl.padKeys", laid_loop_example_g01350_impl_padKeys)], narrowed := true }
def FnExactReadPressesUptoSaid : Prop := fnExactReadPressesUptoRow.holds Tryd.pinned (OpenSpec.upto fnExactReadPressesSpec)

/-- 'laws.FnExactLongestPressed', WHERE WHAT IT READS IS OF BULK AT MOST 1048576: true; the input reads as it did. -/
def fnExactLongestPressedUptoRow : OpenClaim := { program := "ytfekamknnmhgpabdoor", sum := "1bdaebc6b5a703a5795698b0873946a8e09eb3e3a1f9ad2fd2a548fdf30f0285", func := "loop.example/g01350/laws.FnExactLongestPressed", spec := "fnExactLongestPressed", inPlace := ["internal/bytealg.IndexByteString"], named := ["loop.example/g01350/impl.padKeys"], apart := false, laid := [("loop.example/g01350/impl.padKeys", laid_loop_example_g01350_impl_padKeys)], narrowed := true }
def FnExactLongestPressedUptoSaid : Prop := fnExactLongestPressedUptoRow.holds Tryd.pinned (OpenSpec.upto fnExactLongestPressedSpec)

end Rows
end Go.Proofs.YtfekamknnmhgpabDoor
