/-
  No cell of these rows narrows 'for every input' (looked for: loops, veiled, ifaces, maps, wideKeys, modest, calm, conditions, laid).
  DERIVED. THE GIVEN ROWS OF THIS SEAT. 10 by the template 'for every input the law returns true; each argument reads behind the call as it read before'; 0 by the template 'total and deterministic' (their statements: YtdhcknknmloopaaTotals.lean).
  GIVEN WITH THE SEED: the statements are not yours to turn. If you find one false, say at which input.
  Laid BY PROGRAM, IN A SANDBOX (cutbox-rows.mjs): the forced cells as the released guide's own fill.sh prints them over the translation abafa6c41d81d104… (all of the seat's roots in one cut). By AI agents, Wed Nov 11 2026. No macro, syntax, notation, axiom, sorry.
-/
import Derived.Test.YtdhcknknmloopaaChecked
import GoSem.Claim
import GoSem.ClaimJoined
import GoSem.ClaimMapViews
import Derived.JoinedTies
import Derived.KernelRfl
namespace Go.Proofs.Ytdhcknknmloopaa
/- THE CELL 'sum', in the pinned program and in every row, IS THE sha256 OF THE DUMP (.gsa) THAT YtdhcknknmloopaaProg.lean LOADS. Nothing in Lean hashes anything: it is a label: what it is worth is what the hold of that sum in a sandbox is worth. -/
noncomputable def Try.pinned : Pinned := { name := "ytdhcknknmloopaa", sum := "abafa6c41d81d104cb7aa44a325c0cf0fff28b9f9f188402aa24c51f6aa436e0", checked := Try.checked }
namespace Rows
def none {H : Type} : Left H := { results := [], args := [] }

/-- 'laws.FnExactIsScheme': WHATEVER THE INPUT: true; the input reads as it did. -/
def fnExactIsSchemeSpec : ChangeSpec := { name := "fnExactIsScheme", fn := fun _ => fun
  | [d] => { results := [.lit (.bool true)], args := [d] }
  | _ => none }
def fnExactIsSchemeRow : OpenClaim := { program := "ytdhcknknmloopaa", sum := "abafa6c41d81d104cb7aa44a325c0cf0fff28b9f9f188402aa24c51f6aa436e0", func := "loop.example/g01350/laws.FnExactIsScheme", spec := "fnExactIsScheme", unfollowed := true, recurses := true, apart := false }
def FnExactIsSchemeSaid : Prop := fnExactIsSchemeRow.holds Try.pinned (OpenSpec.ofChange fnExactIsSchemeSpec)

/-- ITS FALSE NEIGHBOUR: 'it returns false'. Refute it at one input. -/
def fnExactIsSchemeWrong : ChangeSpec := { name := "fnExactIsScheme", fn := fun _ => fun
  | [d] => { results := [.lit (.bool false)], args := [d] }
  | _ => none }
def FnExactIsSchemeWrongFalsely : Prop := fnExactIsSchemeRow.holds Try.pinned (OpenSpec.ofChange fnExactIsSchemeWrong)

/-- 'laws.FnExactIsRight': WHATEVER THE INPUT: true; the input reads as it did. -/
def fnExactIsRightSpec : ChangeSpec := { name := "fnExactIsRight", fn := fun _ => fun
  | [d1, d2] => { results := [.lit (.bool true)], args := [d1, d2] }
  | _ => none }
def fnExactIsRightRow : OpenClaim := { program := "ytdhcknknmloopaa", sum := "abafa6c41d81d104cb7aa44a325c0cf0fff28b9f9f188402aa24c51f6aa436e0", func := "loop.example/g01350/laws.FnExactIsRight", spec := "fnExactIsRight", inPlace := ["internal/bytealg.IndexByteString", "internal/bytealg.IndexString"], unfollowed := true, recurses := true, named := ["internal/bytealg.MaxLen"], apart := false }
def FnExactIsRightSaid : Prop := fnExactIsRightRow.holds Try.pinned (OpenSpec.ofChange fnExactIsRightSpec)

/-- ITS FALSE NEIGHBOUR: 'it returns false'. Refute it at one input. -/
def fnExactIsRightWrong : ChangeSpec := { name := "fnExactIsRight", fn := fun _ => fun
  | [d1, d2] => { results := [.lit (.bool false)], args := [d1, d2] }
  | _ => none }
def FnExactIsRightWrongFalsely : Prop := fnExactIsRightRow.holds Try.pinned (OpenSpec.ofChange fnExactIsRightWrong)

/-- 'laws.FnExactSumOfNumber': WHATEVER THE INPUT: true; the input reads as it did. -/
def fnExactSumOfNumberSpec : ChangeSpec := { name := "fnExactSumOfNumber", fn := fun _ => fun
  | [d1, d2] => { results := [.lit (.bool true)], args := [d1, d2] }
  | _ => none }
def fnExactSumOfNumberRow : OpenClaim := { program := "ytdhcknknmloopaa", sum := "abafa6c41d81d104cb7aa44a325c0cf0fff28b9f9f188402aa24c51f6aa436e0", func := "loop.example/g01350/laws.FnExactSumOfNumber", spec := "fnExactSumOfNumber", inPlace := ["internal/bytealg.IndexByteString", "internal/bytealg.IndexString"], unfollowed := true, recurses := true, named := ["internal/bytealg.MaxLen"], apart := false }
def FnExactSumOfNumberSaid : Prop := fnExactSumOfNumberRow.holds Try.pinned (OpenSpec.ofChange fnExactSumOfNumberSpec)

/-- ITS FALSE NEIGHBOUR: 'it returns false'. Refute it at one input. -/
def fnExactSumOfNumberWrong : ChangeSpec := { name := "fnExactSumOfNumber", fn := fun _ => fun
  | [d1, d2] => { results := [.lit (.bool false)], args := [d1, d2] }
  | _ => none }
def FnExactSumOfNumberWrongFalsely : Prop := fnExactSumOfNumberRow.holds Try.pinned (OpenSpec.ofChange fnExactSumOfNumberWrong)

/-- 'laws.FnExactMissedSingles': WHATEVER THE INPUT: true; the input reads as it did. -/
def fnExactMissedSinglesSpec : ChangeSpec := { name := "fnExactMissedSingles", fn := fun _ => fun
  | [d1, d2] => { results := [.lit (.bool true)], args := [d1, d2] }
  | _ => none }
def fnExactMissedSinglesRow : OpenClaim := { program := "ytdhcknknmloopaa", sum := "abafa6c41d81d104cb7aa44a325c0cf0fff28b9f9f188402aa24c51f6aa436e0", func := "loop.example/g01350/laws.FnExactMissedSingles", spec := "fnExactMissedSingles", unfollowed := true, recurses := true, apart := false }
def FnExactMissedSinglesSaid : Prop := fnExactMissedSinglesRow.holds Try.pinned (OpenSpec.ofChange fnExactMissedSinglesSpec)

/-- ITS FALSE NEIGHBOUR: 'it returns false'. Refute it at one input. -/
def fnExactMissedSinglesWrong : ChangeSpec := { name := "fnExactMissedSingles", fn := fun _ => fun
  | [d1, d2] => { results := [.lit (.bool false)], args := [d1, d2] }
  | _ => none }
def FnExactMissedSinglesWrongFalsely : Prop := fnExactMissedSinglesRow.holds Try.pinned (OpenSpec.ofChange fnExactMissedSinglesWrong)

/-- 'laws.FnExactMissedSwaps': WHATEVER THE INPUT: true; the input reads as it did. -/
def fnExactMissedSwapsSpec : ChangeSpec := { name := "fnExactMissedSwaps", fn := fun _ => fun
  | [d1, d2] => { results := [.lit (.bool true)], args := [d1, d2] }
  | _ => none }
def fnExactMissedSwapsRow : OpenClaim := { program := "ytdhcknknmloopaa", sum := "abafa6c41d81d104cb7aa44a325c0cf0fff28b9f9f188402aa24c51f6aa436e0", func := "loop.example/g01350/laws.FnExactMissedSwaps", spec := "fnExactMissedSwaps", unfollowed := true, recurses := true, apart := false }
def FnExactMissedSwapsSaid : Prop := fnExactMissedSwapsRow.holds Try.pinned (OpenSpec.ofChange fnExactMissedSwapsSpec)

/-- ITS FALSE NEIGHBOUR: 'it returns false'. Refute it at one input. -/
def fnExactMissedSwapsWrong : ChangeSpec := { name := "fnExactMissedSwaps", fn := fun _ => fun
  | [d1, d2] => { results := [.lit (.bool false)], args := [d1, d2] }
  | _ => none }
def FnExactMissedSwapsWrongFalsely : Prop := fnExactMissedSwapsRow.holds Try.pinned (OpenSpec.ofChange fnExactMissedSwapsWrong)

/-- 'laws.FnExactFindsAllSingles': WHATEVER THE INPUT: true; the input reads as it did. -/
def fnExactFindsAllSinglesSpec : ChangeSpec := { name := "fnExactFindsAllSingles", fn := fun _ => fun
  | [d] => { results := [.lit (.bool true)], args := [d] }
  | _ => none }
def fnExactFindsAllSinglesRow : OpenClaim := { program := "ytdhcknknmloopaa", sum := "abafa6c41d81d104cb7aa44a325c0cf0fff28b9f9f188402aa24c51f6aa436e0", func := "loop.example/g01350/laws.FnExactFindsAllSingles", spec := "fnExactFindsAllSingles", unfollowed := true, recurses := true, apart := false }
def FnExactFindsAllSinglesSaid : Prop := fnExactFindsAllSinglesRow.holds Try.pinned (OpenSpec.ofChange fnExactFindsAllSinglesSpec)

/-- ITS FALSE NEIGHBOUR: 'it returns false'. Refute it at one input. -/
def fnExactFindsAllSinglesWrong : ChangeSpec := { name := "fnExactFindsAllSingles", fn := fun _ => fun
  | [d] => { results := [.lit (.bool false)], args := [d] }
  | _ => none }
def FnExactFindsAllSinglesWrongFalsely : Prop := fnExactFindsAllSinglesRow.holds Try.pinned (OpenSpec.ofChange fnExactFindsAllSinglesWrong)

/-- 'laws.FnExactFindsAllSwaps': WHATEVER THE INPUT: true; the input reads as it did. -/
def fnExactFindsAllSwapsSpec : ChangeSpec := { name := "fnExactFindsAllSwaps", fn := fun _ => fun
  | [d] => { results := [.lit (.bool true)], args := [d] }
  | _ => none }
def fnExactFindsAllSwapsRow : OpenClaim := { program := "ytdhcknknmloopaa", sum := "abafa6c41d81d104cb7aa44a325c0cf0fff28b9f9f188402aa24c51f6aa436e0", func := "loop.example/g01350/laws.FnExactFindsAllSwaps", spec := "fnExactFindsAllSwaps", unfollowed := true, recurses := true, apart := false }
def FnExactFindsAllSwapsSaid : Prop := fnExactFindsAllSwapsRow.holds Try.pinned (OpenSpec.ofChange fnExactFindsAllSwapsSpec)

/-- ITS FALSE NEIGHBOUR: 'it returns false'. Refute it at one input. -/
def fnExactFindsAllSwapsWrong : ChangeSpec := { name := "fnExactFindsAllSwaps", fn := fun _ => fun
  | [d] => { results := [.lit (.bool false)], args := [d] }
  | _ => none }
def FnExactFindsAllSwapsWrongFalsely : Prop := fnExactFindsAllSwapsRow.holds Try.pinned (OpenSpec.ofChange fnExactFindsAllSwapsWrong)

/-- 'laws.FnExactDoubledMissed': WHATEVER THE INPUT: true; the input reads as it did. -/
def fnExactDoubledMissedSpec : ChangeSpec := { name := "fnExactDoubledMissed", fn := fun _ => fun
  | [] => { results := [.lit (.bool true)], args := [] }
  | _ => none }
def fnExactDoubledMissedRow : OpenClaim := { program := "ytdhcknknmloopaa", sum := "abafa6c41d81d104cb7aa44a325c0cf0fff28b9f9f188402aa24c51f6aa436e0", func := "loop.example/g01350/laws.FnExactDoubledMissed", spec := "fnExactDoubledMissed", unfollowed := true, recurses := true, apart := false }
def FnExactDoubledMissedSaid : Prop := fnExactDoubledMissedRow.holds Try.pinned (OpenSpec.ofChange fnExactDoubledMissedSpec)

/-- ITS FALSE NEIGHBOUR: 'it returns false'. Refute it at one input. -/
def fnExactDoubledMissedWrong : ChangeSpec := { name := "fnExactDoubledMissed", fn := fun _ => fun
  | [] => { results := [.lit (.bool false)], args := [] }
  | _ => none }
def FnExactDoubledMissedWrongFalsely : Prop := fnExactDoubledMissedRow.holds Try.pinned (OpenSpec.ofChange fnExactDoubledMissedWrong)

/-- 'laws.FnExactSwapRepairs': WHATEVER THE INPUT: true; the input reads as it did. -/
def fnExactSwapRepairsSpec : ChangeSpec := { name := "fnExactSwapRepairs", fn := fun _ => fun
  | [d1, d2] => { results := [.lit (.bool true)], args := [d1, d2] }
  | _ => none }
def fnExactSwapRepairsRow : OpenClaim := { program := "ytdhcknknmloopaa", sum := "abafa6c41d81d104cb7aa44a325c0cf0fff28b9f9f188402aa24c51f6aa436e0", func := "loop.example/g01350/laws.FnExactSwapRepairs", spec := "fnExactSwapRepairs", inPlace := ["internal/bytealg.IndexByteString", "internal/bytealg.IndexString"], unfollowed := true, recurses := true, named := ["internal/bytealg.MaxLen"], apart := false }
def FnExactSwapRepairsSaid : Prop := fnExactSwapRepairsRow.holds Try.pinned (OpenSpec.ofChange fnExactSwapRepairsSpec)

/-- ITS FALSE NEIGHBOUR: 'it returns false'. Refute it at one input. -/
def fnExactSwapRepairsWrong : ChangeSpec := { name := "fnExactSwapRepairs", fn := fun _ => fun
  | [d1, d2] => { results := [.lit (.bool false)], args := [d1, d2] }
  | _ => none }
def FnExactSwapRepairsWrongFalsely : Prop := fnExactSwapRepairsRow.holds Try.pinned (OpenSpec.ofChange fnExactSwapRepairsWrong)

/-- 'laws.FnExactCountRight': WHATEVER THE INPUT: true; the input reads as it did. -/
def fnExactCountRightSpec : ChangeSpec := { name := "fnExactCountRight", fn := fun _ => fun
  | [d] => { results := [.lit (.bool true)], args := [d] }
  | _ => none }
def fnExactCountRightRow : OpenClaim := { program := "ytdhcknknmloopaa", sum := "abafa6c41d81d104cb7aa44a325c0cf0fff28b9f9f188402aa24c51f6aa436e0", func := "loop.example/g01350/laws.FnExactCountRight", spec := "fnExactCountRight", unfollowed := true, recurses := true, apart := false }
def FnExactCountRightSaid : Prop := fnExactCountRightRow.holds Try.pinned (OpenSpec.ofChange fnExactCountRightSpec)

/-- ITS FALSE NEIGHBOUR: 'it returns false'. Refute it at one input. -/
def fnExactCountRightWrong : ChangeSpec := { name := "fnExactCountRight", fn := fun _ => fun
  | [d] => { results := [.lit (.bool false)], args := [d] }
  | _ => none }
def FnExactCountRightWrongFalsely : Prop := fnExactCountRightRow.holds Try.pinned (OpenSpec.ofChange fnExactCountRightWrong)

/- THE SECOND FORM. 'bulk': how many values and letters a reading holds, each counted each time it is reached (what is shared counts as often as it is met; a slice's spare places count too). A statement '..UptoSaid' is the law's where the arguments, and the package variables that the reading takes, are together of bulk at most 1048576: NARROWER than '..Said'. Prove '..Said' where nothing that the law and all that it calls make is longer than what came in: it says more and counts as full. Else prove '..UptoSaid'. A law counts once. -/
mutual
def uptoBulk {H : Type} : DataW H → Nat
  | .lit (.string bytes) => bytes.length + 1
  | .lit _ => 1
  | .nil => 1
  | .ptr d => uptoBulk d + 1
  | .slice elems spare => uptoBulkAll elems + uptoBulkAll spare + 1
  | .agg parts => uptoBulkAll parts + 1
  | .iface _ d => uptoBulk d + 1
  | .map entries => uptoBulkEntries entries + 1
  | .held _ => 1
def uptoBulkAll {H : Type} : List (DataW H) → Nat
  | [] => 0
  | d :: r => uptoBulk d + uptoBulkAll r
def uptoBulkEntries {H : Type} : List (Lit × DataW H) → Nat
  | [] => 0
  | x :: r => uptoBulkEntry x + uptoBulkEntries r
def uptoBulkEntry {H : Type} : Lit × DataW H → Nat
  | (.string bytes, d) => bytes.length + uptoBulk d + 1
  | (_, d) => uptoBulk d + 1
 end
def uptoSmall : (H : Type) → List (DataW H) → Bool := fun _ ds => decide (uptoBulkAll ds ≤ 1048576)
def OpenSpec.upto (s : _root_.Go.ChangeSpec) : _root_.Go.OpenSpec := { _root_.Go.OpenSpec.ofChange s with cond := some uptoSmall }

/-- 'laws.FnExactIsScheme', WHERE WHAT IT READS IS OF BULK AT MOST 1048576: true; the input reads as it did. -/
def fnExactIsSchemeUptoRow : OpenClaim := { program := "ytdhcknknmloopaa", sum := "abafa6c41d81d104cb7aa44a325c0cf0fff28b9f9f188402aa24c51f6aa436e0", func := "loop.example/g01350/laws.FnExactIsScheme", spec := "fnExactIsScheme", unfollowed := true, recurses := true, apart := false, narrowed := true }
def FnExactIsSchemeUptoSaid : Prop := fnExactIsSchemeUptoRow.holds Try.pinned (OpenSpec.upto fnExactIsSchemeSpec)

/-- 'laws.FnExactIsRight', WHERE WHAT IT READS IS OF BULK AT MOST 1048576: true; the input reads as it did. -/
def fnExactIsRightUptoRow : OpenClaim := { program := "ytdhcknknmloopaa", sum := "abafa6c41d81d104cb7aa44a325c0cf0fff28b9f9f188402aa24c51f6aa436e0", func := "loop.example/g01350/laws.FnExactIsRight", spec := "fnExactIsRight", inPlace := ["internal/bytealg.IndexByteString", "internal/bytealg.IndexString"], unfollowed := true, recurses := true, named := ["internal/bytealg.MaxLen"], apart := false, narrowed := true }
def FnExactIsRightUptoSaid : Prop := fnExactIsRightUptoRow.holds Try.pinned (OpenSpec.upto fnExactIsRightSpec)

/-- 'laws.FnExactSumOfNumber', WHERE WHAT IT READS IS OF BULK AT MOST 1048576: true; the input reads as it did. -/
def fnExactSumOfNumberUptoRow : OpenClaim := { program := "ytdhcknknmloopaa", sum := "abafa6c41d81d104cb7aa44a325c0cf0fff28b9f9f188402aa24c51f6aa436e0", func := "loop.example/g01350/laws.FnExactSumOfNumber", spec := "fnExactSumOfNumber", inPlace := ["internal/bytealg.IndexByteString", "internal/bytealg.IndexString"], unfollowed := true, recurses := true, named := ["internal/bytealg.MaxLen"], apart := false, narrowed := true }
def FnExactSumOfNumberUptoSaid : Prop := fnExactSumOfNumberUptoRow.holds Try.pinned (OpenSpec.upto fnExactSumOfNumberSpec)

/-- 'laws.FnExactMissedSingles', WHERE WHAT IT READS IS OF BULK AT MOST 1048576: true; the input reads as it did. -/
def fnExactMissedSinglesUptoRow : OpenClaim := { program := "ytdhcknknmloopaa", sum := "abafa6c41d81d104cb7aa44a325c0cf0fff28b9f9f188402aa24c51f6aa436e0", func := "loop.example/g01350/laws.FnExactMissedSingles", spec := "fnExactMissedSingles", unfollowed := true, recurses := true, apart := false, narrowed := true }
def FnExactMissedSinglesUptoSaid : Prop := fnExactMissedSinglesUptoRow.holds Try.pinned (OpenSpec.upto fnExactMissedSinglesSpec)

/-- 'laws.FnExactMissedSwaps', WHERE WHAT IT READS IS OF BULK AT MOST 1048576: true; the input reads as it did. -/
def fnExactMissedSwapsUptoRow : OpenClaim := { program := "ytdhcknknmloopaa", sum := "abafa6c41d81d104cb7aa44a325c0cf0fff28b9f9f188402aa24c51f6aa436e0", func := "loop.example/g01350/laws.FnExactMissedSwaps", spec := "fnExactMissedSwaps", unfollowed := true, recurses := true, apart := false, narrowed := true }
def FnExactMissedSwapsUptoSaid : Prop := fnExactMissedSwapsUptoRow.holds Try.pinned (OpenSpec.upto fnExactMissedSwapsSpec)

/-- 'laws.FnExactFindsAllSingles', WHERE WHAT IT READS IS OF BULK AT MOST 1048576: true; the input reads as it did. -/
def fnExactFindsAllSinglesUptoRow : OpenClaim := { program := "ytdhcknknmloopaa", sum := "abafa6c41d81d104cb7aa44a325c0cf0fff28b9f9f188402aa24c51f6aa436e0", func := "loop.example/g01350/laws.FnExactFindsAllSingles", spec := "fnExactFindsAllSingles", unfollowed := true, recurses := true, apart := false, narrowed := true }
def FnExactFindsAllSinglesUptoSaid : Prop := fnExactFindsAllSinglesUptoRow.holds Try.pinned (OpenSpec.upto fnExactFindsAllSinglesSpec)

/-- 'laws.FnExactFindsAllSwaps', WHERE WHAT IT READS IS OF BULK AT MOST 1048576: true; the input reads as it did. -/
def fnExactFindsAllSwapsUptoRow : OpenClaim := { program := "ytdhcknknmloopaa", sum := "abafa6c41d81d104cb7aa44a325c0cf0fff28b9f9f188402aa24c51f6aa436e0", func := "loop.example/g01350/laws.FnExactFindsAllSwaps", spec := "fnExactFindsAllSwaps", unfollowed := true, recurses := true, apart := false, narrowed := true }
def FnExactFindsAllSwapsUptoSaid : Prop := fnExactFindsAllSwapsUptoRow.holds Try.pinned (OpenSpec.upto fnExactFindsAllSwapsSpec)

/-- 'laws.FnExactDoubledMissed', WHERE WHAT IT READS IS OF BULK AT MOST 1048576: true; the input reads as it did. -/
def fnExactDoubledMissedUptoRow : OpenClaim := { program := "ytdhcknknmloopaa", sum := "abafa6c41d81d104cb7aa44a325c0cf0fff28b9f9f188402aa24c51f6aa436e0", func := "loop.example/g01350/laws.FnExactDoubledMissed", spec := "fnExactDoubledMissed", unfollowed := true, recurses := true, apart := false, narrowed := true }
def FnExactDoubledMissedUptoSaid : Prop := fnExactDoubledMissedUptoRow.holds Try.pinned (OpenSpec.upto fnExactDoubledMissedSpec)

/-- 'laws.FnExactSwapRepairs', WHERE WHAT IT READS IS OF BULK AT MOST 1048576: true; the input reads as it did. -/
def fnExactSwapRepairsUptoRow : OpenClaim := { program := "ytdhcknknmloopaa", sum := "abafa6c41d81d104cb7aa44a325c0cf0fff28b9f9f188402aa24c51f6aa436e0", func := "loop.example/g01350/laws.FnExactSwapRepairs", spec := "fnExactSwapRepairs", inPlace := ["internal/bytealg.IndexByteString", "internal/bytealg.IndexString"], unfollowed := true, recurses := true, named := ["internal/bytealg.MaxLen"], apart := false, narrowed := true }
def FnExactSwapRepairsUptoSaid : Prop := fnExactSwapRepairsUptoRow.holds Try.pinned (OpenSpec.upto fnExactSwapRepairsSpec)

/-- 'laws.FnExactCountRight', WHERE WHAT IT READS IS OF BULK AT MOST 1048576: true; the input reads as it did. -/
def fnExactCountRightUptoRow : OpenClaim := { program := "ytdhcknknmloopaa", sum := "abafa6c41d81d104cb7aa44a325c0cf0fff28b9f9f188402aa24c51f6aa436e0", func := "loop.example/g01350/laws.FnExactCountRight", spec := "fnExactCountRight", unfollowed := true, recurses := true, apart := false, narrowed := true }
def FnExactCountRightUptoSaid : Prop := fnExactCountRightUptoRow.holds Try.pinned (OpenSpec.upto fnExactCountRightSpec)

end Rows
end Go.Proofs.Ytdhcknknmloopaa
