/-
  DERIVED. GIVEN WITH THE SEED: THE CARDS: each row of YtfekamknnmhgpabDoorRows.lean that lists a variable, with what it lists TIED to the program's text (the seventh form; the later family's looks); each row that meets fmt, with fmt's text TOLD by the authors' own Lean function (tested against real Go, not proved from fmt's source: count such statements apart). THE CARD IS WHAT COUNTS. Prove the row's statement (the work); the ties are given (YtfekamknnmhgpabDoorTie.lean); close each card by the builder's one call (the guide's Derived/Test/ToyasCard.lean, 'card_holds'). Laid BY PROGRAM, IN A SANDBOX (cutbox-door.mjs). By AI agents, Wed Nov 11 2026. No macro, syntax, notation, axiom, sorry.
-/
import Derived.Test.YtfekamknnmhgpabDoorRows
import GoSem.ClaimSeven
namespace Go.Proofs.YtfekamknnmhgpabDoor
namespace Rows

/-- THE TIED CARD OF 'laws.FnExactWordOfRank'. -/
def fnExactWordOfRankCard : Claim7 := { stood := { row := fnExactWordOfRankRow, standIns := [], harness := (true, "36acfe9cfe97db2a67acd8d15d33def04f697a59b57721832fe2cb058d934606"), looks := false }, kinds := [], alts := [], laidByText := true, laidKinds := [.data], laidTests := true, laidLooks := .later }
def FnExactWordOfRankCardSaid : Prop := Claim7.holds Tryd.pinned (.plain (OpenSpec.ofChange fnExactWordOfRankSpec)) fnExactWordOfRankCard

/-- THE TIED CARD OF 'laws.FnExactReadPresses'. -/
def fnExactReadPressesCard : Claim7 := { stood := { row := fnExactReadPressesRow, standIns := [], harness := (true, "36acfe9cfe97db2a67acd8d15d33def04f697a59b57721832fe2cb058d934606"), looks := false }, kinds := [], alts := [], laidByText := true, laidKinds := [.data], laidTests := true, laidLooks := .later }
def FnExactReadPressesCardSaid : Prop := Claim7.holds Tryd.pinned (.plain (OpenSpec.ofChange fnExactReadPressesSpec)) fnExactReadPressesCard

/-- THE TIED CARD OF 'laws.FnExactLongestPressed'. -/
def fnExactLongestPressedCard : Claim7 := { stood := { row := fnExactLongestPressedRow, standIns := [], harness := (true, "36acfe9cfe97db2a67acd8d15d33def04f697a59b57721832fe2cb058d934606"), looks := false }, kinds := [], alts := [], laidByText := true, laidKinds := [.data], laidTests := true, laidLooks := .later }
def FnExactLongestPressedCardSaid : Prop := Claim7.holds Tryd.pinned (.plain (OpenSpec.ofChange fnExactLongestPressedSpec)) fnExactLongestPressedCard

/-- THE SECOND FORM's CARD OF 'laws.FnExactWordOfRank'. -/
def fnExactWordOfRankUptoCard : Claim7 := { stood := { row := fnExactWordOfRankUptoRow, standIns := [], harness := (true, "36acfe9cfe97db2a67acd8d15d33def04f697a59b57721832fe2cb058d934606"), looks := false }, kinds := [], alts := [], laidByText := true, laidKinds := [.data], laidTests := true, laidLooks := .later }
def FnExactWordOfRankUptoCardSaid : Prop := Claim7.holds Tryd.pinned (.plain (OpenSpec.upto fnExactWordOfRankSpec)) fnExactWordOfRankUptoCard

/-- THE SECOND FORM's CARD OF 'laws.FnExactReadPresses'. -/
def fnExactReadPressesUptoCard : Claim7 := { stood := { row := fnExactReadPressesUptoRow, standIns := [], harness := (true, "36acfe9cfe97db2a67acd8d15d33def04f697a59b57721832fe2cb058d934606"), looks := false }, kinds := [], alts := [], laidByText := true, laidKinds := [.data], laidTests := true, laidLooks := .later }
def FnExactReadPressesUptoCardSaid : Prop := Claim7.holds Tryd.pinned (.plain (OpenSpec.upto fnExactReadPressesSpec)) fnExactReadPressesUptoCard

/-- THE SECOND FORM's CARD OF 'laws.FnExactLongestPressed'. -/
def fnExactLongestPressedUptoCard : Claim7 := { stood := { row := fnExactLongestPressedUptoRow, standIns := [], harness := (true, "36acfe9cfe97db2a67acd8d15d33def04f697a59b57721832fe2cb058d934606"), looks := false }, kinds := [], alts := [], laidByText := true, laidKinds := [.data], laidTests := true, laidLooks := .later }
def FnExactLongestPressedUptoCardSaid : Prop := Claim7.holds Tryd.pinned (.plain (OpenSpec.upto fnExactLongestPressedSpec)) fnExactLongestPressedUptoCard
end Rows
end Go.Proofs.YtfekamknnmhgpabDoor
