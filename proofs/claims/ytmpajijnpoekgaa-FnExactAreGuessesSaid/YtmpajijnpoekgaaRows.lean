/-
  No cell of these rows narrows 'for every input' (looked for: loops, veiled, ifaces, maps, wideKeys, modest, calm, conditions, laid).
  DERIVED. THE GIVEN ROWS OF THIS SEAT. 12 by the template 'for every input the law returns true; each argument reads behind the call as it read before'; 0 by the template 'total and deterministic' (their statements: YtmpajijnpoekgaaTotals.lean).
  GIVEN WITH THE SEED: the statements are not yours to turn. If you find one false, say at which input.
  Laid BY PROGRAM, IN A SANDBOX (cutbox-rows.mjs): the forced cells as the released guide's own fill.sh prints them over the translation 18bc1fb8ef5178b0… (all of the seat's roots in one cut). By AI agents, Wed Nov 11 2026. No macro, syntax, notation, axiom, sorry.
-/
import Derived.Test.YtmpajijnpoekgaaChecked
import GoSem.Claim
import GoSem.ClaimJoined
import GoSem.ClaimMapViews
import Derived.JoinedTies
import Derived.KernelRfl
namespace Go.Proofs.Ytmpajijnpoekgaa
/- THE CELL 'sum', in the pinned program and in every row, IS THE sha256 OF THE DUMP (.gsa) THAT YtmpajijnpoekgaaProg.lean LOADS. Nothing in Lean hashes anything: it is a label: what it is worth is what the hold of that sum in a sandbox is worth. -/
noncomputable def Try.pinned : Pinned := { name := "ytmpajijnpoekgaa", sum := "18bc1fb8ef5178b0eabb3b2667d4b2f1d81440a714c974dadd60f4f59f32cfb0", checked := Try.checked }
namespace Rows
def none {H : Type} : Left H := { results := [], args := [] }

/-- 'laws.FnExactIsDrawn': WHATEVER THE INPUT: true; the input reads as it did. -/
def fnExactIsDrawnSpec : ChangeSpec := { name := "fnExactIsDrawn", fn := fun _ => fun
  | [d] => { results := [.lit (.bool true)], args := [d] }
  | _ => none }
def fnExactIsDrawnRow : OpenClaim := { program := "ytmpajijnpoekgaa", sum := "18bc1fb8ef5178b0eabb3b2667d4b2f1d81440a714c974dadd60f4f59f32cfb0", func := "loop.example/g01350/laws.FnExactIsDrawn", spec := "fnExactIsDrawn", inPlace := ["internal/bytealg.IndexByteString", "internal/bytealg.IndexString"], named := ["internal/bytealg.MaxLen"], apart := false }
def FnExactIsDrawnSaid : Prop := fnExactIsDrawnRow.holds Try.pinned (OpenSpec.ofChange fnExactIsDrawnSpec)

/-- ITS FALSE NEIGHBOUR: 'it returns false'. Refute it at one input. -/
def fnExactIsDrawnWrong : ChangeSpec := { name := "fnExactIsDrawn", fn := fun _ => fun
  | [d] => { results := [.lit (.bool false)], args := [d] }
  | _ => none }
def FnExactIsDrawnWrongFalsely : Prop := fnExactIsDrawnRow.holds Try.pinned (OpenSpec.ofChange fnExactIsDrawnWrong)

/-- 'laws.FnExactNextPoints': WHATEVER THE INPUT: true; the input reads as it did. -/
def fnExactNextPointsSpec : ChangeSpec := { name := "fnExactNextPoints", fn := fun _ => fun
  | [d] => { results := [.lit (.bool true)], args := [d] }
  | _ => none }
def fnExactNextPointsRow : OpenClaim := { program := "ytmpajijnpoekgaa", sum := "18bc1fb8ef5178b0eabb3b2667d4b2f1d81440a714c974dadd60f4f59f32cfb0", func := "loop.example/g01350/laws.FnExactNextPoints", spec := "fnExactNextPoints", inPlace := ["internal/bytealg.IndexByteString", "internal/bytealg.IndexString", "internal/abi.NoEscape"], named := ["internal/bytealg.MaxLen"], apart := false }
def FnExactNextPointsSaid : Prop := fnExactNextPointsRow.holds Try.pinned (OpenSpec.ofChange fnExactNextPointsSpec)

/-- ITS FALSE NEIGHBOUR: 'it returns false'. Refute it at one input. -/
def fnExactNextPointsWrong : ChangeSpec := { name := "fnExactNextPoints", fn := fun _ => fun
  | [d] => { results := [.lit (.bool false)], args := [d] }
  | _ => none }
def FnExactNextPointsWrongFalsely : Prop := fnExactNextPointsRow.holds Try.pinned (OpenSpec.ofChange fnExactNextPointsWrong)

/-- 'laws.FnExactCountDrawn': WHATEVER THE INPUT: true; the input reads as it did. -/
def fnExactCountDrawnSpec : ChangeSpec := { name := "fnExactCountDrawn", fn := fun _ => fun
  | [d1, d2] => { results := [.lit (.bool true)], args := [d1, d2] }
  | _ => none }
def fnExactCountDrawnRow : OpenClaim := { program := "ytmpajijnpoekgaa", sum := "18bc1fb8ef5178b0eabb3b2667d4b2f1d81440a714c974dadd60f4f59f32cfb0", func := "loop.example/g01350/laws.FnExactCountDrawn", spec := "fnExactCountDrawn", inPlace := ["internal/bytealg.IndexByteString", "internal/bytealg.IndexString"], recurses := true, named := ["internal/bytealg.MaxLen"], apart := false }
def FnExactCountDrawnSaid : Prop := fnExactCountDrawnRow.holds Try.pinned (OpenSpec.ofChange fnExactCountDrawnSpec)

/-- ITS FALSE NEIGHBOUR: 'it returns false'. Refute it at one input. -/
def fnExactCountDrawnWrong : ChangeSpec := { name := "fnExactCountDrawn", fn := fun _ => fun
  | [d1, d2] => { results := [.lit (.bool false)], args := [d1, d2] }
  | _ => none }
def FnExactCountDrawnWrongFalsely : Prop := fnExactCountDrawnRow.holds Try.pinned (OpenSpec.ofChange fnExactCountDrawnWrong)

/-- 'laws.FnExactCountAllDrawn': WHATEVER THE INPUT: true; the input reads as it did. -/
def fnExactCountAllDrawnSpec : ChangeSpec := { name := "fnExactCountAllDrawn", fn := fun _ => fun
  | [d] => { results := [.lit (.bool true)], args := [d] }
  | _ => none }
def fnExactCountAllDrawnRow : OpenClaim := { program := "ytmpajijnpoekgaa", sum := "18bc1fb8ef5178b0eabb3b2667d4b2f1d81440a714c974dadd60f4f59f32cfb0", func := "loop.example/g01350/laws.FnExactCountAllDrawn", spec := "fnExactCountAllDrawn", recurses := true, apart := false }
def FnExactCountAllDrawnSaid : Prop := fnExactCountAllDrawnRow.holds Try.pinned (OpenSpec.ofChange fnExactCountAllDrawnSpec)

/-- ITS FALSE NEIGHBOUR: 'it returns false'. Refute it at one input. -/
def fnExactCountAllDrawnWrong : ChangeSpec := { name := "fnExactCountAllDrawn", fn := fun _ => fun
  | [d] => { results := [.lit (.bool false)], args := [d] }
  | _ => none }
def FnExactCountAllDrawnWrongFalsely : Prop := fnExactCountAllDrawnRow.holds Try.pinned (OpenSpec.ofChange fnExactCountAllDrawnWrong)

/-- 'laws.FnExactFirstDrawn': WHATEVER THE INPUT: true; the input reads as it did. -/
def fnExactFirstDrawnSpec : ChangeSpec := { name := "fnExactFirstDrawn", fn := fun _ => fun
  | [d1, d2] => { results := [.lit (.bool true)], args := [d1, d2] }
  | _ => none }
def fnExactFirstDrawnRow : OpenClaim := { program := "ytmpajijnpoekgaa", sum := "18bc1fb8ef5178b0eabb3b2667d4b2f1d81440a714c974dadd60f4f59f32cfb0", func := "loop.example/g01350/laws.FnExactFirstDrawn", spec := "fnExactFirstDrawn", inPlace := ["internal/bytealg.IndexByteString", "internal/bytealg.IndexString", "internal/abi.NoEscape"], recurses := true, named := ["internal/bytealg.MaxLen"], apart := false }
def FnExactFirstDrawnSaid : Prop := fnExactFirstDrawnRow.holds Try.pinned (OpenSpec.ofChange fnExactFirstDrawnSpec)

/-- ITS FALSE NEIGHBOUR: 'it returns false'. Refute it at one input. -/
def fnExactFirstDrawnWrong : ChangeSpec := { name := "fnExactFirstDrawn", fn := fun _ => fun
  | [d1, d2] => { results := [.lit (.bool false)], args := [d1, d2] }
  | _ => none }
def FnExactFirstDrawnWrongFalsely : Prop := fnExactFirstDrawnRow.holds Try.pinned (OpenSpec.ofChange fnExactFirstDrawnWrong)

/-- 'laws.FnExactMirrorDrawn': WHATEVER THE INPUT: true; the input reads as it did. -/
def fnExactMirrorDrawnSpec : ChangeSpec := { name := "fnExactMirrorDrawn", fn := fun _ => fun
  | [d] => { results := [.lit (.bool true)], args := [d] }
  | _ => none }
def fnExactMirrorDrawnRow : OpenClaim := { program := "ytmpajijnpoekgaa", sum := "18bc1fb8ef5178b0eabb3b2667d4b2f1d81440a714c974dadd60f4f59f32cfb0", func := "loop.example/g01350/laws.FnExactMirrorDrawn", spec := "fnExactMirrorDrawn", inPlace := ["internal/bytealg.IndexByteString", "internal/bytealg.IndexString", "internal/abi.NoEscape"], unfollowed := true, recurses := true, named := ["internal/bytealg.MaxLen"], apart := false }
def FnExactMirrorDrawnSaid : Prop := fnExactMirrorDrawnRow.holds Try.pinned (OpenSpec.ofChange fnExactMirrorDrawnSpec)

/-- ITS FALSE NEIGHBOUR: 'it returns false'. Refute it at one input. -/
def fnExactMirrorDrawnWrong : ChangeSpec := { name := "fnExactMirrorDrawn", fn := fun _ => fun
  | [d] => { results := [.lit (.bool false)], args := [d] }
  | _ => none }
def FnExactMirrorDrawnWrongFalsely : Prop := fnExactMirrorDrawnRow.holds Try.pinned (OpenSpec.ofChange fnExactMirrorDrawnWrong)

/-- 'laws.FnExactIsPin': WHATEVER THE INPUT: true; the input reads as it did. -/
def fnExactIsPinSpec : ChangeSpec := { name := "fnExactIsPin", fn := fun _ => fun
  | [d] => { results := [.lit (.bool true)], args := [d] }
  | _ => none }
def fnExactIsPinRow : OpenClaim := { program := "ytmpajijnpoekgaa", sum := "18bc1fb8ef5178b0eabb3b2667d4b2f1d81440a714c974dadd60f4f59f32cfb0", func := "loop.example/g01350/laws.FnExactIsPin", spec := "fnExactIsPin", inPlace := ["internal/bytealg.IndexByteString"], apart := false }
def FnExactIsPinSaid : Prop := fnExactIsPinRow.holds Try.pinned (OpenSpec.ofChange fnExactIsPinSpec)

/-- ITS FALSE NEIGHBOUR: 'it returns false'. Refute it at one input. -/
def fnExactIsPinWrong : ChangeSpec := { name := "fnExactIsPin", fn := fun _ => fun
  | [d] => { results := [.lit (.bool false)], args := [d] }
  | _ => none }
def FnExactIsPinWrongFalsely : Prop := fnExactIsPinRow.holds Try.pinned (OpenSpec.ofChange fnExactIsPinWrong)

/-- 'laws.FnExactHitsOf': WHATEVER THE INPUT: true; the input reads as it did. -/
def fnExactHitsOfSpec : ChangeSpec := { name := "fnExactHitsOf", fn := fun _ => fun
  | [d1, d2] => { results := [.lit (.bool true)], args := [d1, d2] }
  | _ => none }
def fnExactHitsOfRow : OpenClaim := { program := "ytmpajijnpoekgaa", sum := "18bc1fb8ef5178b0eabb3b2667d4b2f1d81440a714c974dadd60f4f59f32cfb0", func := "loop.example/g01350/laws.FnExactHitsOf", spec := "fnExactHitsOf", inPlace := ["internal/bytealg.IndexByteString"], apart := false }
def FnExactHitsOfSaid : Prop := fnExactHitsOfRow.holds Try.pinned (OpenSpec.ofChange fnExactHitsOfSpec)

/-- ITS FALSE NEIGHBOUR: 'it returns false'. Refute it at one input. -/
def fnExactHitsOfWrong : ChangeSpec := { name := "fnExactHitsOf", fn := fun _ => fun
  | [d1, d2] => { results := [.lit (.bool false)], args := [d1, d2] }
  | _ => none }
def FnExactHitsOfWrongFalsely : Prop := fnExactHitsOfRow.holds Try.pinned (OpenSpec.ofChange fnExactHitsOfWrong)

/-- 'laws.FnExactAreGuesses': WHATEVER THE INPUT: true; the input reads as it did. -/
def fnExactAreGuessesSpec : ChangeSpec := { name := "fnExactAreGuesses", fn := fun _ => fun
  | [d] => { results := [.lit (.bool true)], args := [d] }
  | _ => none }
def fnExactAreGuessesRow : OpenClaim := { program := "ytmpajijnpoekgaa", sum := "18bc1fb8ef5178b0eabb3b2667d4b2f1d81440a714c974dadd60f4f59f32cfb0", func := "loop.example/g01350/laws.FnExactAreGuesses", spec := "fnExactAreGuesses", inPlace := ["internal/bytealg.IndexByteString"], apart := false }
def FnExactAreGuessesSaid : Prop := fnExactAreGuessesRow.holds Try.pinned (OpenSpec.ofChange fnExactAreGuessesSpec)

/-- ITS FALSE NEIGHBOUR: 'it returns false'. Refute it at one input. -/
def fnExactAreGuessesWrong : ChangeSpec := { name := "fnExactAreGuesses", fn := fun _ => fun
  | [d] => { results := [.lit (.bool false)], args := [d] }
  | _ => none }
def FnExactAreGuessesWrongFalsely : Prop := fnExactAreGuessesRow.holds Try.pinned (OpenSpec.ofChange fnExactAreGuessesWrong)

/-- 'laws.FnExactCountWorn': WHATEVER THE INPUT: true; the input reads as it did. -/
def fnExactCountWornSpec : ChangeSpec := { name := "fnExactCountWorn", fn := fun _ => fun
  | [d1, d2] => { results := [.lit (.bool true)], args := [d1, d2] }
  | _ => none }
def fnExactCountWornRow : OpenClaim := { program := "ytmpajijnpoekgaa", sum := "18bc1fb8ef5178b0eabb3b2667d4b2f1d81440a714c974dadd60f4f59f32cfb0", func := "loop.example/g01350/laws.FnExactCountWorn", spec := "fnExactCountWorn", inPlace := ["internal/bytealg.IndexByteString"], recurses := true, apart := false }
def FnExactCountWornSaid : Prop := fnExactCountWornRow.holds Try.pinned (OpenSpec.ofChange fnExactCountWornSpec)

/-- ITS FALSE NEIGHBOUR: 'it returns false'. Refute it at one input. -/
def fnExactCountWornWrong : ChangeSpec := { name := "fnExactCountWorn", fn := fun _ => fun
  | [d1, d2] => { results := [.lit (.bool false)], args := [d1, d2] }
  | _ => none }
def FnExactCountWornWrongFalsely : Prop := fnExactCountWornRow.holds Try.pinned (OpenSpec.ofChange fnExactCountWornWrong)

/-- 'laws.FnExactWheelTurns': WHATEVER THE INPUT: true; the input reads as it did. -/
def fnExactWheelTurnsSpec : ChangeSpec := { name := "fnExactWheelTurns", fn := fun _ => fun
  | [d1, d2] => { results := [.lit (.bool true)], args := [d1, d2] }
  | _ => none }
def fnExactWheelTurnsRow : OpenClaim := { program := "ytmpajijnpoekgaa", sum := "18bc1fb8ef5178b0eabb3b2667d4b2f1d81440a714c974dadd60f4f59f32cfb0", func := "loop.example/g01350/laws.FnExactWheelTurns", spec := "fnExactWheelTurns", inPlace := ["internal/bytealg.IndexByteString"], apart := false }
def FnExactWheelTurnsSaid : Prop := fnExactWheelTurnsRow.holds Try.pinned (OpenSpec.ofChange fnExactWheelTurnsSpec)

/-- ITS FALSE NEIGHBOUR: 'it returns false'. Refute it at one input. -/
def fnExactWheelTurnsWrong : ChangeSpec := { name := "fnExactWheelTurns", fn := fun _ => fun
  | [d1, d2] => { results := [.lit (.bool false)], args := [d1, d2] }
  | _ => none }
def FnExactWheelTurnsWrongFalsely : Prop := fnExactWheelTurnsRow.holds Try.pinned (OpenSpec.ofChange fnExactWheelTurnsWrong)

/-- 'laws.FnExactTurnWheel': WHATEVER THE INPUT: true; the input reads as it did. -/
def fnExactTurnWheelSpec : ChangeSpec := { name := "fnExactTurnWheel", fn := fun _ => fun
  | [d1, d2, d3] => { results := [.lit (.bool true)], args := [d1, d2, d3] }
  | _ => none }
def fnExactTurnWheelRow : OpenClaim := { program := "ytmpajijnpoekgaa", sum := "18bc1fb8ef5178b0eabb3b2667d4b2f1d81440a714c974dadd60f4f59f32cfb0", func := "loop.example/g01350/laws.FnExactTurnWheel", spec := "fnExactTurnWheel", inPlace := ["internal/bytealg.IndexByteString", "internal/abi.NoEscape"], recurses := true, apart := false }
def FnExactTurnWheelSaid : Prop := fnExactTurnWheelRow.holds Try.pinned (OpenSpec.ofChange fnExactTurnWheelSpec)

/-- ITS FALSE NEIGHBOUR: 'it returns false'. Refute it at one input. -/
def fnExactTurnWheelWrong : ChangeSpec := { name := "fnExactTurnWheel", fn := fun _ => fun
  | [d1, d2, d3] => { results := [.lit (.bool false)], args := [d1, d2, d3] }
  | _ => none }
def FnExactTurnWheelWrongFalsely : Prop := fnExactTurnWheelRow.holds Try.pinned (OpenSpec.ofChange fnExactTurnWheelWrong)

/- THE SECOND FORM. 'bulk': how many values and letters a reading holds, each counted each time it is reached (what is shared counts as often as it is met; a slice's spare places count too). A statement '..UptoSaid' is the law's where the arguments, and the package variables that the reading takes, are together of bulk at most 1048576: NARROWER than '..Said'. Prove '..Said' where nothing that the law and all that it calls make is longer than what came in: it says more and counts as full. Else prove '..UptoSaid'. A law counts once. -/
mutual
def uptoBulk {H : Type} : DataW H → Nat
  | .lit (.string bytes) => bytes.length + 1
  | .lit _ => 1
  | .nil => 1
  | .ptr d => uptoBulk d + 1
  | .slice elems spare => uptoBulkAll elems + uptoBulkAll spare + 1
  | .agg parts => uptoBulkAll parts + 1
  | .iface _ d => uptoBulk d + 1
  | .map entries => uptoBulkEntries entries + 1
  | .held _ => 1
def uptoBulkAll {H : Type} : List (DataW H) → Nat
  | [] => 0
  | d :: r => uptoBulk d + uptoBulkAll r
def uptoBulkEntries {H : Type} : List (Lit × DataW H) → Nat
  | [] => 0
  | x :: r => uptoBulkEntry x + uptoBulkEntries r
def uptoBulkEntry {H : Type} : Lit × DataW H → Nat
  | (.string bytes, d) => bytes.length + uptoBulk d + 1
  | (_, d) => uptoBulk d + 1
 end
def uptoSmall : (H : Type) → List (DataW H) → Bool := fun _ ds => decide (uptoBulkAll ds ≤ 1048576)
def OpenSpec.upto (s : _root_.Go.ChangeSpec) : _root_.Go.OpenSpec := { _root_.Go.OpenSpec.ofChange s with cond := some uptoSmall }

/-- 'laws.FnExactIsDrawn', WHERE WHAT IT READS IS OF BULK AT MOST 1048576: true; the input reads as it did. -/
def fnExactIsDrawnUptoRow : OpenClaim := { program := "ytmpajijnpoekgaa", sum := "18bc1fb8ef5178b0eabb3b2667d4b2f1d81440a714c974dadd60f4f59f32cfb0", func := "loop.example/g01350/laws.FnExactIsDrawn", spec := "fnExactIsDrawn", inPlace := ["internal/bytealg.IndexByteString", "internal/bytealg.IndexString"], named := ["internal/bytealg.MaxLen"], apart := false, narrowed := true }
def FnExactIsDrawnUptoSaid : Prop := fnExactIsDrawnUptoRow.holds Try.pinned (OpenSpec.upto fnExactIsDrawnSpec)

/-- 'laws.FnExactNextPoints', WHERE WHAT IT READS IS OF BULK AT MOST 1048576: true; the input reads as it did. -/
def fnExactNextPointsUptoRow : OpenClaim := { program := "ytmpajijnpoekgaa", sum := "18bc1fb8ef5178b0eabb3b2667d4b2f1d81440a714c974dadd60f4f59f32cfb0", func := "loop.example/g01350/laws.FnExactNextPoints", spec := "fnExactNextPoints", inPlace := ["internal/bytealg.IndexByteString", "internal/bytealg.IndexString", "internal/abi.NoEscape"], named := ["internal/bytealg.MaxLen"], apart := false, narrowed := true }
def FnExactNextPointsUptoSaid : Prop := fnExactNextPointsUptoRow.holds Try.pinned (OpenSpec.upto fnExactNextPointsSpec)

/-- 'laws.FnExactCountDrawn', WHERE WHAT IT READS IS OF BULK AT MOST 1048576: true; the input reads as it did. -/
def fnExactCountDrawnUptoRow : OpenClaim := { program := "ytmpajijnpoekgaa", sum := "18bc1fb8ef5178b0eabb3b2667d4b2f1d81440a714c974dadd60f4f59f32cfb0", func := "loop.example/g01350/laws.FnExactCountDrawn", spec := "fnExactCountDrawn", inPlace := ["internal/bytealg.IndexByteString", "internal/bytealg.IndexString"], recurses := true, named := ["internal/bytealg.MaxLen"], apart := false, narrowed := true }
def FnExactCountDrawnUptoSaid : Prop := fnExactCountDrawnUptoRow.holds Try.pinned (OpenSpec.upto fnExactCountDrawnSpec)

/-- 'laws.FnExactCountAllDrawn', WHERE WHAT IT READS IS OF BULK AT MOST 1048576: true; the input reads as it did. -/
def fnExactCountAllDrawnUptoRow : OpenClaim := { program := "ytmpajijnpoekgaa", sum := "18bc1fb8ef5178b0eabb3b2667d4b2f1d81440a714c974dadd60f4f59f32cfb0", func := "loop.example/g01350/laws.FnExactCountAllDrawn", spec := "fnExactCountAllDrawn", recurses := true, apart := false, narrowed := true }
def FnExactCountAllDrawnUptoSaid : Prop := fnExactCountAllDrawnUptoRow.holds Try.pinned (OpenSpec.upto fnExactCountAllDrawnSpec)

/-- 'laws.FnExactFirstDrawn', WHERE WHAT IT READS IS OF BULK AT MOST 1048576: true; the input reads as it did. -/
def fnExactFirstDrawnUptoRow : OpenClaim := { program := "ytmpajijnpoekgaa", sum := "18bc1fb8ef5178b0eabb3b2667d4b2f1d81440a714c974dadd60f4f59f32cfb0", func := "loop.example/g01350/laws.FnExactFirstDrawn", spec := "fnExactFirstDrawn", inPlace := ["internal/bytealg.IndexByteString", "internal/bytealg.IndexString", "internal/abi.NoEscape"], recurses := true, named := ["internal/bytealg.MaxLen"], apart := false, narrowed := true }
def FnExactFirstDrawnUptoSaid : Prop := fnExactFirstDrawnUptoRow.holds Try.pinned (OpenSpec.upto fnExactFirstDrawnSpec)

/-- 'laws.FnExactMirrorDrawn', WHERE WHAT IT READS IS OF BULK AT MOST 1048576: true; the input reads as it did. -/
def fnExactMirrorDrawnUptoRow : OpenClaim := { program := "ytmpajijnpoekgaa", sum := "18bc1fb8ef5178b0eabb3b2667d4b2f1d81440a714c974dadd60f4f59f32cfb0", func := "loop.example/g01350/laws.FnExactMirrorDrawn", spec := "fnExactMirrorDrawn", inPlace := ["internal/bytealg.IndexByteString", "internal/bytealg.IndexString", "internal/abi.NoEscape"], unfollowed := true, recurses := true, named := ["internal/bytealg.MaxLen"], apart := false, narrowed := true }
def FnExactMirrorDrawnUptoSaid : Prop := fnExactMirrorDrawnUptoRow.holds Try.pinned (OpenSpec.upto fnExactMirrorDrawnSpec)

/-- 'laws.FnExactIsPin', WHERE WHAT IT READS IS OF BULK AT MOST 1048576: true; the input reads as it did. -/
def fnExactIsPinUptoRow : OpenClaim := { program := "ytmpajijnpoekgaa", sum := "18bc1fb8ef5178b0eabb3b2667d4b2f1d81440a714c974dadd60f4f59f32cfb0", func := "loop.example/g01350/laws.FnExactIsPin", spec := "fnExactIsPin", inPlace := ["internal/bytealg.IndexByteString"], apart := false, narrowed := true }
def FnExactIsPinUptoSaid : Prop := fnExactIsPinUptoRow.holds Try.pinned (OpenSpec.upto fnExactIsPinSpec)

/-- 'laws.FnExactHitsOf', WHERE WHAT IT READS IS OF BULK AT MOST 1048576: true; the input reads as it did. -/
def fnExactHitsOfUptoRow : OpenClaim := { program := "ytmpajijnpoekgaa", sum := "18bc1fb8ef5178b0eabb3b2667d4b2f1d81440a714c974dadd60f4f59f32cfb0", func := "loop.example/g01350/laws.FnExactHitsOf", spec := "fnExactHitsOf", inPlace := ["internal/bytealg.IndexByteString"], apart := false, narrowed := true }
def FnExactHitsOfUptoSaid : Prop := fnExactHitsOfUptoRow.holds Try.pinned (OpenSpec.upto fnExactHitsOfSpec)

/-- 'laws.FnExactAreGuesses', WHERE WHAT IT READS IS OF BULK AT MOST 1048576: true; the input reads as it did. -/
def fnExactAreGuessesUptoRow : OpenClaim := { program := "ytmpajijnpoekgaa", sum := "18bc1fb8ef5178b0eabb3b2667d4b2f1d81440a714c974dadd60f4f59f32cfb0", func := "loop.example/g01350/laws.FnExactAreGuesses", spec := "fnExactAreGuesses", inPlace := ["internal/bytealg.IndexByteString"], apart := false, narrowed := true }
def FnExactAreGuessesUptoSaid : Prop := fnExactAreGuessesUptoRow.holds Try.pinned (OpenSpec.upto fnExactAreGuessesSpec)

/-- 'laws.FnExactCountWorn', WHERE WHAT IT READS IS OF BULK AT MOST 1048576: true; the input reads as it did. -/
def fnExactCountWornUptoRow : OpenClaim := { program := "ytmpajijnpoekgaa", sum := "18bc1fb8ef5178b0eabb3b2667d4b2f1d81440a714c974dadd60f4f59f32cfb0", func := "loop.example/g01350/laws.FnExactCountWorn", spec := "fnExactCountWorn", inPlace := ["internal/bytealg.IndexByteString"], recurses := true, apart := false, narrowed := true }
def FnExactCountWornUptoSaid : Prop := fnExactCountWornUptoRow.holds Try.pinned (OpenSpec.upto fnExactCountWornSpec)

/-- 'laws.FnExactWheelTurns', WHERE WHAT IT READS IS OF BULK AT MOST 1048576: true; the input reads as it did. -/
def fnExactWheelTurnsUptoRow : OpenClaim := { program := "ytmpajijnpoekgaa", sum := "18bc1fb8ef5178b0eabb3b2667d4b2f1d81440a714c974dadd60f4f59f32cfb0", func := "loop.example/g01350/laws.FnExactWheelTurns", spec := "fnExactWheelTurns", inPlace := ["internal/bytealg.IndexByteString"], apart := false, narrowed := true }
def FnExactWheelTurnsUptoSaid : Prop := fnExactWheelTurnsUptoRow.holds Try.pinned (OpenSpec.upto fnExactWheelTurnsSpec)

/-- 'laws.FnExactTurnWheel', WHERE WHAT IT READS IS OF BULK AT MOST 1048576: true; the input reads as it did. -/
def fnExactTurnWheelUptoRow : OpenClaim := { program := "ytmpajijnpoekgaa", sum := "18bc1fb8ef5178b0eabb3b2667d4b2f1d81440a714c974dadd60f4f59f32cfb0", func := "loop.example/g01350/laws.FnExactTurnWheel", spec := "fnExactTurnWheel", inPlace := ["internal/bytealg.IndexByteString", "internal/abi.NoEscape"], recurses := true, apart := false, narrowed := true }
def FnExactTurnWheelUptoSaid : Prop := fnExactTurnWheelUptoRow.holds Try.pinned (OpenSpec.upto fnExactTurnWheelSpec)

end Rows
end Go.Proofs.Ytmpajijnpoekgaa
