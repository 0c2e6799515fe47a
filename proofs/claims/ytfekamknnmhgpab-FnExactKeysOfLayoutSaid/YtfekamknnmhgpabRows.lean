/-
  No cell of these rows narrows 'for every input' (looked for: loops, veiled, ifaces, maps, wideKeys, modest, calm, conditions, laid).
  DERIVED. THE GIVEN ROWS OF THIS SEAT. 4 by the template 'for every input the law returns true; each argument reads behind the call as it read before'; 0 by the template 'total and deterministic' (their statements: YtfekamknnmhgpabTotals.lean).
  GIVEN WITH THE SEED: the statements are not yours to turn. If you find one false, say at which input.
  Laid BY PROGRAM, IN A SANDBOX (cutbox-rows.mjs): the forced cells as the released guide's own fill.sh prints them over the translation e20409191e744e9b… (all of the seat's roots in one cut). By AI agents, Wed Nov 11 2026. No macro, syntax, notation, axiom, sorry.
-/
import Derived.Test.YtfekamknnmhgpabChecked
import GoSem.Claim
import GoSem.ClaimJoined
import GoSem.ClaimMapViews
import Derived.JoinedTies
import Derived.KernelRfl
namespace Go.Proofs.Ytfekamknnmhgpab
/- THE CELL 'sum', in the pinned program and in every row, IS THE sha256 OF THE DUMP (.gsa) THAT YtfekamknnmhgpabProg.lean LOADS. Nothing in Lean hashes anything: it is a label: what it is worth is what the hold of that sum in a sandbox is worth. -/
noncomputable def Try.pinned : Pinned := { name := "ytfekamknnmhgpab", sum := "e20409191e744e9b2637e9dc415bf249684b60a8b1baa5b54603828553aab211", checked := Try.checked }
namespace Rows
def none {H : Type} : Left H := { results := [], args := [] }

/-- 'laws.FnExactIsLayout': WHATEVER THE INPUT: true; the input reads as it did. -/
def fnExactIsLayoutSpec : ChangeSpec := { name := "fnExactIsLayout", fn := fun _ => fun
  | [d] => { results := [.lit (.bool true)], args := [d] }
  | _ => none }
def fnExactIsLayoutRow : OpenClaim := { program := "ytfekamknnmhgpab", sum := "e20409191e744e9b2637e9dc415bf249684b60a8b1baa5b54603828553aab211", func := "loop.example/g01350/laws.FnExactIsLayout", spec := "fnExactIsLayout", apart := false }
def FnExactIsLayoutSaid : Prop := fnExactIsLayoutRow.holds Try.pinned (OpenSpec.ofChange fnExactIsLayoutSpec)

/-- ITS FALSE NEIGHBOUR: 'it returns false'. Refute it at one input. -/
def fnExactIsLayoutWrong : ChangeSpec := { name := "fnExactIsLayout", fn := fun _ => fun
  | [d] => { results := [.lit (.bool false)], args := [d] }
  | _ => none }
def FnExactIsLayoutWrongFalsely : Prop := fnExactIsLayoutRow.holds Try.pinned (OpenSpec.ofChange fnExactIsLayoutWrong)

/-- 'laws.FnExactPressesBy': WHATEVER THE INPUT: true; the input reads as it did. -/
def fnExactPressesBySpec : ChangeSpec := { name := "fnExactPressesBy", fn := fun _ => fun
  | [d1, d2] => { results := [.lit (.bool true)], args := [d1, d2] }
  | _ => none }
def fnExactPressesByRow : OpenClaim := { program := "ytfekamknnmhgpab", sum := "e20409191e744e9b2637e9dc415bf249684b60a8b1baa5b54603828553aab211", func := "loop.example/g01350/laws.FnExactPressesBy", spec := "fnExactPressesBy", inPlace := ["internal/bytealg.IndexByteString"], apart := false }
def FnExactPressesBySaid : Prop := fnExactPressesByRow.holds Try.pinned (OpenSpec.ofChange fnExactPressesBySpec)

/-- ITS FALSE NEIGHBOUR: 'it returns false'. Refute it at one input. -/
def fnExactPressesByWrong : ChangeSpec := { name := "fnExactPressesBy", fn := fun _ => fun
  | [d1, d2] => { results := [.lit (.bool false)], args := [d1, d2] }
  | _ => none }
def FnExactPressesByWrongFalsely : Prop := fnExactPressesByRow.holds Try.pinned (OpenSpec.ofChange fnExactPressesByWrong)

/-- 'laws.FnExactKeysOfLayout': WHATEVER THE INPUT: true; the input reads as it did. -/
def fnExactKeysOfLayoutSpec : ChangeSpec := { name := "fnExactKeysOfLayout", fn := fun _ => fun
  | [d1, d2] => { results := [.lit (.bool true)], args := [d1, d2] }
  | _ => none }
def fnExactKeysOfLayoutRow : OpenClaim := { program := "ytfekamknnmhgpab", sum := "e20409191e744e9b2637e9dc415bf249684b60a8b1baa5b54603828553aab211", func := "loop.example/g01350/laws.FnExactKeysOfLayout", spec := "fnExactKeysOfLayout", inPlace := ["internal/bytealg.IndexByteString"], apart := false }
def FnExactKeysOfLayoutSaid : Prop := fnExactKeysOfLayoutRow.holds Try.pinned (OpenSpec.ofChange fnExactKeysOfLayoutSpec)

/-- ITS FALSE NEIGHBOUR: 'it returns false'. Refute it at one input. -/
def fnExactKeysOfLayoutWrong : ChangeSpec := { name := "fnExactKeysOfLayout", fn := fun _ => fun
  | [d1, d2] => { results := [.lit (.bool false)], args := [d1, d2] }
  | _ => none }
def FnExactKeysOfLayoutWrongFalsely : Prop := fnExactKeysOfLayoutRow.holds Try.pinned (OpenSpec.ofChange fnExactKeysOfLayoutWrong)

/-- 'laws.FnExactBestLayout': WHATEVER THE INPUT: true; the input reads as it did. -/
def fnExactBestLayoutSpec : ChangeSpec := { name := "fnExactBestLayout", fn := fun _ => fun
  | [d1, d2] => { results := [.lit (.bool true)], args := [d1, d2] }
  | _ => none }
def fnExactBestLayoutRow : OpenClaim := { program := "ytfekamknnmhgpab", sum := "e20409191e744e9b2637e9dc415bf249684b60a8b1baa5b54603828553aab211", func := "loop.example/g01350/laws.FnExactBestLayout", spec := "fnExactBestLayout", apart := false }
def FnExactBestLayoutSaid : Prop := fnExactBestLayoutRow.holds Try.pinned (OpenSpec.ofChange fnExactBestLayoutSpec)

/-- ITS FALSE NEIGHBOUR: 'it returns false'. Refute it at one input. -/
def fnExactBestLayoutWrong : ChangeSpec := { name := "fnExactBestLayout", fn := fun _ => fun
  | [d1, d2] => { results := [.lit (.bool false)], args := [d1, d2] }
  | _ => none }
def FnExactBestLayoutWrongFalsely : Prop := fnExactBestLayoutRow.holds Try.pinned (OpenSpec.ofChange fnExactBestLayoutWrong)

/- THE SECOND FORM. 'bulk': how many values and letters a reading holds, each counted each time it is reached (what is shared counts as often as it is met; a slice's spare places count too). A statement '..UptoSaid' is the law's where the arguments, and the package variables that the reading takes, are together of bulk at most 1048576: NARROWER than '..Said'. Prove '..Said' where nothing that the law and all that it calls make is longer than what came in: it says more and counts as full. Else prove '..UptoSaid'. A law counts once. -/
mutual
def uptoBulk {H : Type} : DataW H → Nat
  | .lit (.string bytes) => bytes.length + 1
  | .lit _ => 1
  | .nil => 1
  | .ptr d => uptoBulk d + 1
  | .slice elems spare => uptoBulkAll elems + uptoBulkAll spare + 1
  | .agg parts => uptoBulkAll parts + 1
  | .iface _ d => uptoBulk d + 1
  | .map entries => uptoBulkEntries entries + 1
  | .held _ => 1
def uptoBulkAll {H : Type} : List (DataW H) → Nat
  | [] => 0
  | d :: r => uptoBulk d + uptoBulkAll r
def uptoBulkEntries {H : Type} : List (Lit × DataW H) → Nat
  | [] => 0
  | x :: r => uptoBulkEntry x + uptoBulkEntries r
def uptoBulkEntry {H : Type} : Lit × DataW H → Nat
  | (.string bytes, d) => bytes.length + uptoBulk d + 1
  | (_, d) => uptoBulk d + 1
 end
def uptoSmall : (H : Type) → List (DataW H) → Bool := fun _ ds => decide (uptoBulkAll ds ≤ 1048576)
def OpenSpec.upto (s : _root_.Go.ChangeSpec) : _root_.Go.OpenSpec := { _root_.Go.OpenSpec.ofChange s with cond := some uptoSmall }

/-- 'laws.FnExactIsLayout', WHERE WHAT IT READS IS OF BULK AT MOST 1048576: true; the input reads as it did. -/
def fnExactIsLayoutUptoRow : OpenClaim := { program := "ytfekamknnmhgpab", sum := "e20409191e744e9b2637e9dc415bf249684b60a8b1baa5b54603828553aab211", func := "loop.example/g01350/laws.FnExactIsLayout", spec := "fnExactIsLayout", apart := false, narrowed := true }
def FnExactIsLayoutUptoSaid : Prop := fnExactIsLayoutUptoRow.holds Try.pinned (OpenSpec.upto fnExactIsLayoutSpec)

/-- 'laws.FnExactPressesBy', WHERE WHAT IT READS IS OF BULK AT MOST 1048576: true; the input reads as it did. -/
def fnExactPressesByUptoRow : OpenClaim := { program := "ytfekamknnmhgpab", sum := "e20409191e744e9b2637e9dc415bf249684b60a8b1baa5b54603828553aab211", func := "loop.example/g01350/laws.FnExactPressesBy", spec := "fnExactPressesBy", inPlace := ["internal/bytealg.IndexByteString"], apart := false, narrowed := true }
def FnExactPressesByUptoSaid : Prop := fnExactPressesByUptoRow.holds Try.pinned (OpenSpec.upto fnExactPressesBySpec)

/-- 'laws.FnExactKeysOfLayout', WHERE WHAT IT READS IS OF BULK AT MOST 1048576: true; the input reads as it did. -/
def fnExactKeysOfLayoutUptoRow : OpenClaim := { program := "ytfekamknnmhgpab", sum := "e20409191e744e9b2637e9dc415bf249684b60a8b1baa5b54603828553aab211", func := "loop.example/g01350/laws.FnExactKeysOfLayout", spec := "fnExactKeysOfLayout", inPlace := ["internal/bytealg.IndexByteString"], apart := false, narrowed := true }
def FnExactKeysOfLayoutUptoSaid : Prop := fnExactKeysOfLayoutUptoRow.holds Try.pinned (OpenSpec.upto fnExactKeysOfLayoutSpec)

/-- 'laws.FnExactBestLayout', WHERE WHAT IT READS IS OF BULK AT MOST 1048576: true; the input reads as it did. -/
def fnExactBestLayoutUptoRow : OpenClaim := { program := "ytfekamknnmhgpab", sum := "e20409191e744e9b2637e9dc415bf249684b60a8b1baa5b54603828553aab211", func := "loop.example/g01350/laws.FnExactBestLayout", spec := "fnExactBestLayout", apart := false, narrowed := true }
def FnExactBestLayoutUptoSaid : Prop := fnExactBestLayoutUptoRow.holds Try.pinned (OpenSpec.upto fnExactBestLayoutSpec)

end Rows
end Go.Proofs.Ytfekamknnmhgpab
