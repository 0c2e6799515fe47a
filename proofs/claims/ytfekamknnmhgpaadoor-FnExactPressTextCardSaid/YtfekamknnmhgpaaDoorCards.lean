/-
  DERIVED. GIVEN WITH THE SEED: THE CARDS: each row of YtfekamknnmhgpaaDoorRows.lean that lists a variable, with what it lists TIED to the program's text (the seventh form; the later family's looks); each row that meets fmt, with fmt's text TOLD by the authors' own Lean function (tested against real Go, not proved from fmt's source: count such statements apart). THE CARD IS WHAT COUNTS. Prove the row's statement (the work); the ties are given (YtfekamknnmhgpaaDoorTie.lean); close each card by the builder's one call (the guide's Derived/Test/ToyasCard.lean, 'card_holds'). Laid BY PROGRAM, IN A SANDBOX (cutbox-door.mjs). By AI agents, Wed Nov 11 2026. No macro, syntax, notation, axiom, sorry.
-/
import Derived.Test.YtfekamknnmhgpaaDoorRows
import GoSem.ClaimSeven
namespace Go.Proofs.YtfekamknnmhgpaaDoor
namespace Rows

/-- THE TIED CARD OF 'laws.FnExactKeyOf'. -/
def fnExactKeyOfCard : Claim7 := { stood := { row := fnExactKeyOfRow, standIns := [], harness := (true, "d84d6d18eb25cface1b7a97ad34034afe3ff72d22a4fd8fdafa9b3570811bf49"), looks := false }, kinds := [], alts := [], laidByText := true, laidKinds := [.data], laidTests := true, laidLooks := .later }
def FnExactKeyOfCardSaid : Prop := Claim7.holds Tryd.pinned (.plain (OpenSpec.ofChange fnExactKeyOfSpec)) fnExactKeyOfCard

/-- THE TIED CARD OF 'laws.FnExactPressesFor'. -/
def fnExactPressesForCard : Claim7 := { stood := { row := fnExactPressesForRow, standIns := [], harness := (true, "d84d6d18eb25cface1b7a97ad34034afe3ff72d22a4fd8fdafa9b3570811bf49"), looks := false }, kinds := [], alts := [], laidByText := true, laidKinds := [.data], laidTests := true, laidLooks := .later }
def FnExactPressesForCardSaid : Prop := Claim7.holds Tryd.pinned (.plain (OpenSpec.ofChange fnExactPressesForSpec)) fnExactPressesForCard

/-- THE TIED CARD OF 'laws.FnExactCountPresses'. -/
def fnExactCountPressesCard : Claim7 := { stood := { row := fnExactCountPressesRow, standIns := [], harness := (true, "d84d6d18eb25cface1b7a97ad34034afe3ff72d22a4fd8fdafa9b3570811bf49"), looks := false }, kinds := [], alts := [], laidByText := true, laidKinds := [.data], laidTests := true, laidLooks := .later }
def FnExactCountPressesCardSaid : Prop := Claim7.holds Tryd.pinned (.plain (OpenSpec.ofChange fnExactCountPressesSpec)) fnExactCountPressesCard

/-- THE TIED CARD OF 'laws.FnExactKeysOf'. -/
def fnExactKeysOfCard : Claim7 := { stood := { row := fnExactKeysOfRow, standIns := [], harness := (true, "d84d6d18eb25cface1b7a97ad34034afe3ff72d22a4fd8fdafa9b3570811bf49"), looks := false }, kinds := [], alts := [], laidByText := true, laidKinds := [.data], laidTests := true, laidLooks := .later }
def FnExactKeysOfCardSaid : Prop := Claim7.holds Tryd.pinned (.plain (OpenSpec.ofChange fnExactKeysOfSpec)) fnExactKeysOfCard

/-- THE TIED CARD OF 'laws.FnExactSameKeys'. -/
def fnExactSameKeysCard : Claim7 := { stood := { row := fnExactSameKeysRow, standIns := [], harness := (true, "d84d6d18eb25cface1b7a97ad34034afe3ff72d22a4fd8fdafa9b3570811bf49"), looks := false }, kinds := [], alts := [], laidByText := true, laidKinds := [.data], laidTests := true, laidLooks := .later }
def FnExactSameKeysCardSaid : Prop := Claim7.holds Tryd.pinned (.plain (OpenSpec.ofChange fnExactSameKeysSpec)) fnExactSameKeysCard

/-- THE TIED CARD OF 'laws.FnExactWaitsIn'. -/
def fnExactWaitsInCard : Claim7 := { stood := { row := fnExactWaitsInRow, standIns := [], harness := (true, "d84d6d18eb25cface1b7a97ad34034afe3ff72d22a4fd8fdafa9b3570811bf49"), looks := false }, kinds := [], alts := [], laidByText := true, laidKinds := [.data], laidTests := true, laidLooks := .later }
def FnExactWaitsInCardSaid : Prop := Claim7.holds Tryd.pinned (.plain (OpenSpec.ofChange fnExactWaitsInSpec)) fnExactWaitsInCard

/-- THE TIED CARD OF 'laws.FnExactTimeFor'. -/
def fnExactTimeForCard : Claim7 := { stood := { row := fnExactTimeForRow, standIns := [], harness := (true, "d84d6d18eb25cface1b7a97ad34034afe3ff72d22a4fd8fdafa9b3570811bf49"), looks := false }, kinds := [], alts := [], laidByText := true, laidKinds := [.data], laidTests := true, laidLooks := .later }
def FnExactTimeForCardSaid : Prop := Claim7.holds Tryd.pinned (.plain (OpenSpec.ofChange fnExactTimeForSpec)) fnExactTimeForCard

/-- THE TIED CARD OF 'laws.FnExactPressText'. -/
def fnExactPressTextCard : Claim7 := { stood := { row := fnExactPressTextRow, standIns := [], harness := (true, "d84d6d18eb25cface1b7a97ad34034afe3ff72d22a4fd8fdafa9b3570811bf49"), looks := false }, kinds := [], alts := [], laidByText := true, laidKinds := [.data], laidTests := true, laidLooks := .later }
def FnExactPressTextCardSaid : Prop := Claim7.holds Tryd.pinned (.plain (OpenSpec.ofChange fnExactPressTextSpec)) fnExactPressTextCard

/-- THE TIED CARD OF 'laws.FnExactRankOfWord'. -/
def fnExactRankOfWordCard : Claim7 := { stood := { row := fnExactRankOfWordRow, standIns := [], harness := (true, "d84d6d18eb25cface1b7a97ad34034afe3ff72d22a4fd8fdafa9b3570811bf49"), looks := false }, kinds := [], alts := [], laidByText := true, laidKinds := [.data], laidTests := true, laidLooks := .later }
def FnExactRankOfWordCardSaid : Prop := Claim7.holds Tryd.pinned (.plain (OpenSpec.ofChange fnExactRankOfWordSpec)) fnExactRankOfWordCard

/-- THE TIED CARD OF 'laws.FnExactFirstWord'. -/
def fnExactFirstWordCard : Claim7 := { stood := { row := fnExactFirstWordRow, standIns := [], harness := (true, "d84d6d18eb25cface1b7a97ad34034afe3ff72d22a4fd8fdafa9b3570811bf49"), looks := false }, kinds := [], alts := [], laidByText := true, laidKinds := [.data], laidTests := true, laidLooks := .later }
def FnExactFirstWordCardSaid : Prop := Claim7.holds Tryd.pinned (.plain (OpenSpec.ofChange fnExactFirstWordSpec)) fnExactFirstWordCard

/-- THE TIED CARD OF 'laws.FnExactCountSameKeys'. -/
def fnExactCountSameKeysCard : Claim7 := { stood := { row := fnExactCountSameKeysRow, standIns := [], harness := (true, "d84d6d18eb25cface1b7a97ad34034afe3ff72d22a4fd8fdafa9b3570811bf49"), looks := false }, kinds := [], alts := [], laidByText := true, laidKinds := [.data], laidTests := true, laidLooks := .later }
def FnExactCountSameKeysCardSaid : Prop := Claim7.holds Tryd.pinned (.plain (OpenSpec.ofChange fnExactCountSameKeysSpec)) fnExactCountSameKeysCard

/-- THE SECOND FORM's CARD OF 'laws.FnExactKeyOf'. -/
def fnExactKeyOfUptoCard : Claim7 := { stood := { row := fnExactKeyOfUptoRow, standIns := [], harness := (true, "d84d6d18eb25cface1b7a97ad34034afe3ff72d22a4fd8fdafa9b3570811bf49"), looks := false }, kinds := [], alts := [], laidByText := true, laidKinds := [.data], laidTests := true, laidLooks := .later }
def FnExactKeyOfUptoCardSaid : Prop := Claim7.holds Tryd.pinned (.plain (OpenSpec.upto fnExactKeyOfSpec)) fnExactKeyOfUptoCard

/-- THE SECOND FORM's CARD OF 'laws.FnExactPressesFor'. -/
def fnExactPressesForUptoCard : Claim7 := { stood := { row := fnExactPressesForUptoRow, standIns := [], harness := (true, "d84d6d18eb25cface1b7a97ad34034afe3ff72d22a4fd8fdafa9b3570811bf49"), looks := false }, kinds := [], alts := [], laidByText := true, laidKinds := [.data], laidTests := true, laidLooks := .later }
def FnExactPressesForUptoCardSaid : Prop := Claim7.holds Tryd.pinned (.plain (OpenSpec.upto fnExactPressesForSpec)) fnExactPressesForUptoCard

/-- THE SECOND FORM's CARD OF 'laws.FnExactCountPresses'. -/
def fnExactCountPressesUptoCard : Claim7 := { stood := { row := fnExactCountPressesUptoRow, standIns := [], harness := (true, "d84d6d18eb25cface1b7a97ad34034afe3ff72d22a4fd8fdafa9b3570811bf49"), looks := false }, kinds := [], alts := [], laidByText := true, laidKinds := [.data], laidTests := true, laidLooks := .later }
def FnExactCountPressesUptoCardSaid : Prop := Claim7.holds Tryd.pinned (.plain (OpenSpec.upto fnExactCountPressesSpec)) fnExactCountPressesUptoCard

/-- THE SECOND FORM's CARD OF 'laws.FnExactKeysOf'. -/
def fnExactKeysOfUptoCard : Claim7 := { stood := { row := fnExactKeysOfUptoRow, standIns := [], harness := (true, "d84d6d18eb25cface1b7a97ad34034afe3ff72d22a4fd8fdafa9b3570811bf49"), looks := false }, kinds := [], alts := [], laidByText := true, laidKinds := [.data], laidTests := true, laidLooks := .later }
def FnExactKeysOfUptoCardSaid : Prop := Claim7.holds Tryd.pinned (.plain (OpenSpec.upto fnExactKeysOfSpec)) fnExactKeysOfUptoCard

/-- THE SECOND FORM's CARD OF 'laws.FnExactSameKeys'. -/
def fnExactSameKeysUptoCard : Claim7 := { stood := { row := fnExactSameKeysUptoRow, standIns := [], harness := (true, "d84d6d18eb25cface1b7a97ad34034afe3ff72d22a4fd8fdafa9b3570811bf49"), looks := false }, kinds := [], alts := [], laidByText := true, laidKinds := [.data], laidTests := true, laidLooks := .later }
def FnExactSameKeysUptoCardSaid : Prop := Claim7.holds Tryd.pinned (.plain (OpenSpec.upto fnExactSameKeysSpec)) fnExactSameKeysUptoCard

/-- THE SECOND FORM's CARD OF 'laws.FnExactWaitsIn'. -/
def fnExactWaitsInUptoCard : Claim7 := { stood := { row := fnExactWaitsInUptoRow, standIns := [], harness := (true, "d84d6d18eb25cface1b7a97ad34034afe3ff72d22a4fd8fdafa9b3570811bf49"), looks := false }, kinds := [], alts := [], laidByText := true, laidKinds := [.data], laidTests := true, laidLooks := .later }
def FnExactWaitsInUptoCardSaid : Prop := Claim7.holds Tryd.pinned (.plain (OpenSpec.upto fnExactWaitsInSpec)) fnExactWaitsInUptoCard

/-- THE SECOND FORM's CARD OF 'laws.FnExactTimeFor'. -/
def fnExactTimeForUptoCard : Claim7 := { stood := { row := fnExactTimeForUptoRow, standIns := [], harness := (true, "d84d6d18eb25cface1b7a97ad34034afe3ff72d22a4fd8fdafa9b3570811bf49"), looks := false }, kinds := [], alts := [], laidByText := true, laidKinds := [.data], laidTests := true, laidLooks := .later }
def FnExactTimeForUptoCardSaid : Prop := Claim7.holds Tryd.pinned (.plain (OpenSpec.upto fnExactTimeForSpec)) fnExactTimeForUptoCard

/-- THE SECOND FORM's CARD OF 'laws.FnExactPressText'. -/
def fnExactPressTextUptoCard : Claim7 := { stood := { row := fnExactPressTextUptoRow, standIns := [], harness := (true, "d84d6d18eb25cface1b7a97ad34034afe3ff72d22a4fd8fdafa9b3570811bf49"), looks := false }, kinds := [], alts := [], laidByText := true, laidKinds := [.data], laidTests := true, laidLooks := .later }
def FnExactPressTextUptoCardSaid : Prop := Claim7.holds Tryd.pinned (.plain (OpenSpec.upto fnExactPressTextSpec)) fnExactPressTextUptoCard

/-- THE SECOND FORM's CARD OF 'laws.FnExactRankOfWord'. -/
def fnExactRankOfWordUptoCard : Claim7 := { stood := { row := fnExactRankOfWordUptoRow, standIns := [], harness := (true, "d84d6d18eb25cface1b7a97ad34034afe3ff72d22a4fd8fdafa9b3570811bf49"), looks := false }, kinds := [], alts := [], laidByText := true, laidKinds := [.data], laidTests := true, laidLooks := .later }
def FnExactRankOfWordUptoCardSaid : Prop := Claim7.holds Tryd.pinned (.plain (OpenSpec.upto fnExactRankOfWordSpec)) fnExactRankOfWordUptoCard

/-- THE SECOND FORM's CARD OF 'laws.FnExactFirstWord'. -/
def fnExactFirstWordUptoCard : Claim7 := { stood := { row := fnExactFirstWordUptoRow, standIns := [], harness := (true, "d84d6d18eb25cface1b7a97ad34034afe3ff72d22a4fd8fdafa9b3570811bf49"), looks := false }, kinds := [], alts := [], laidByText := true, laidKinds := [.data], laidTests := true, laidLooks := .later }
def FnExactFirstWordUptoCardSaid : Prop := Claim7.holds Tryd.pinned (.plain (OpenSpec.upto fnExactFirstWordSpec)) fnExactFirstWordUptoCard

/-- THE SECOND FORM's CARD OF 'laws.FnExactCountSameKeys'. -/
def fnExactCountSameKeysUptoCard : Claim7 := { stood := { row := fnExactCountSameKeysUptoRow, standIns := [], harness := (true, "d84d6d18eb25cface1b7a97ad34034afe3ff72d22a4fd8fdafa9b3570811bf49"), looks := false }, kinds := [], alts := [], laidByText := true, laidKinds := [.data], laidTests := true, laidLooks := .later }
def FnExactCountSameKeysUptoCardSaid : Prop := Claim7.holds Tryd.pinned (.plain (OpenSpec.upto fnExactCountSameKeysSpec)) fnExactCountSameKeysUptoCard
end Rows
end Go.Proofs.YtfekamknnmhgpaaDoor
