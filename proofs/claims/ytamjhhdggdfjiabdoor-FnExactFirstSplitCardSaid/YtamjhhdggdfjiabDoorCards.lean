/-
  DERIVED. GIVEN WITH THE SEED: THE CARDS: each row of YtamjhhdggdfjiabDoorRows.lean that lists a variable, with what it lists TIED to the program's text (the seventh form; the later family's looks); each row that meets fmt, with fmt's text TOLD by the authors' own Lean function (tested against real Go, not proved from fmt's source: count such statements apart). THE CARD IS WHAT COUNTS. Prove the row's statement (the work); the ties are given (YtamjhhdggdfjiabDoorTie.lean); close each card by the builder's one call (the guide's Derived/Test/ToyasCard.lean, 'card_holds'). Laid BY PROGRAM, IN A SANDBOX (cutbox-door.mjs). By AI agents, Wed Nov 11 2026. No macro, syntax, notation, axiom, sorry.
-/
import Derived.Test.YtamjhhdggdfjiabDoorRows
import GoSem.ClaimSeven
namespace Go.Proofs.YtamjhhdggdfjiabDoor
namespace Rows

/-- THE TIED CARD OF 'laws.FnExactWordsFor'. -/
def fnExactWordsForCard : Claim7 := { stood := { row := fnExactWordsForRow, standIns := [], harness := (true, "3c85c8790604765d1d67983f65c71ff37960cace549d7296f1a884a3b5bd3aa4"), looks := false }, kinds := [], alts := [], laidByText := true, laidKinds := [.data], laidTests := true, laidLooks := .later }
def FnExactWordsForCardSaid : Prop := Claim7.holds Tryd.pinned (.plain (OpenSpec.ofChange fnExactWordsForSpec)) fnExactWordsForCard

/-- THE TIED CARD OF 'laws.FnExactFirstSplit'. -/
def fnExactFirstSplitCard : Claim7 := { stood := { row := fnExactFirstSplitRow, standIns := [], harness := (true, "3c85c8790604765d1d67983f65c71ff37960cace549d7296f1a884a3b5bd3aa4"), looks := false }, kinds := [], alts := [], laidByText := true, laidKinds := [.data], laidTests := true, laidLooks := .later }
def FnExactFirstSplitCardSaid : Prop := Claim7.holds Tryd.pinned (.plain (OpenSpec.ofChange fnExactFirstSplitSpec)) fnExactFirstSplitCard

/-- THE TIED CARD OF 'laws.FnExactCountSplits'. -/
def fnExactCountSplitsCard : Claim7 := { stood := { row := fnExactCountSplitsRow, standIns := [], harness := (true, "3c85c8790604765d1d67983f65c71ff37960cace549d7296f1a884a3b5bd3aa4"), looks := false }, kinds := [], alts := [], laidByText := true, laidKinds := [.data], laidTests := true, laidLooks := .later }
def FnExactCountSplitsCardSaid : Prop := Claim7.holds Tryd.pinned (.plain (OpenSpec.ofChange fnExactCountSplitsSpec)) fnExactCountSplitsCard

/-- THE TIED CARD OF 'laws.FnExactFewestWords'. -/
def fnExactFewestWordsCard : Claim7 := { stood := { row := fnExactFewestWordsRow, standIns := [], harness := (true, "3c85c8790604765d1d67983f65c71ff37960cace549d7296f1a884a3b5bd3aa4"), looks := false }, kinds := [], alts := [], laidByText := true, laidKinds := [.data], laidTests := true, laidLooks := .later }
def FnExactFewestWordsCardSaid : Prop := Claim7.holds Tryd.pinned (.plain (OpenSpec.ofChange fnExactFewestWordsSpec)) fnExactFewestWordsCard

/-- THE TIED CARD OF 'laws.FnExactFirstFewest'. -/
def fnExactFirstFewestCard : Claim7 := { stood := { row := fnExactFirstFewestRow, standIns := [], harness := (true, "3c85c8790604765d1d67983f65c71ff37960cace549d7296f1a884a3b5bd3aa4"), looks := false }, kinds := [], alts := [], laidByText := true, laidKinds := [.data], laidTests := true, laidLooks := .later }
def FnExactFirstFewestCardSaid : Prop := Claim7.holds Tryd.pinned (.plain (OpenSpec.ofChange fnExactFirstFewestSpec)) fnExactFirstFewestCard

/-- THE TIED CARD OF 'laws.FnExactLongestSplit'. -/
def fnExactLongestSplitCard : Claim7 := { stood := { row := fnExactLongestSplitRow, standIns := [], harness := (true, "3c85c8790604765d1d67983f65c71ff37960cace549d7296f1a884a3b5bd3aa4"), looks := false }, kinds := [], alts := [], laidByText := true, laidKinds := [.data], laidTests := true, laidLooks := .later }
def FnExactLongestSplitCardSaid : Prop := Claim7.holds Tryd.pinned (.plain (OpenSpec.ofChange fnExactLongestSplitSpec)) fnExactLongestSplitCard

/-- THE TIED CARD OF 'laws.FnExactSharedKeys'. -/
def fnExactSharedKeysCard : Claim7 := { stood := { row := fnExactSharedKeysRow, standIns := [], harness := (true, "3c85c8790604765d1d67983f65c71ff37960cace549d7296f1a884a3b5bd3aa4"), looks := false }, kinds := [], alts := [], laidByText := true, laidKinds := [.data], laidTests := true, laidLooks := .later }
def FnExactSharedKeysCardSaid : Prop := Claim7.holds Tryd.pinned (.plain (OpenSpec.ofChange fnExactSharedKeysSpec)) fnExactSharedKeysCard

/-- THE TIED CARD OF 'laws.FnExactPressesWithNext'. -/
def fnExactPressesWithNextCard : Claim7 := { stood := { row := fnExactPressesWithNextRow, standIns := [], harness := (true, "3c85c8790604765d1d67983f65c71ff37960cace549d7296f1a884a3b5bd3aa4"), looks := false }, kinds := [], alts := [], laidByText := true, laidKinds := [.data], laidTests := true, laidLooks := .later }
def FnExactPressesWithNextCardSaid : Prop := Claim7.holds Tryd.pinned (.plain (OpenSpec.ofChange fnExactPressesWithNextSpec)) fnExactPressesWithNextCard

/-- THE TIED CARD OF 'laws.FnExactMostPresses'. -/
def fnExactMostPressesCard : Claim7 := { stood := { row := fnExactMostPressesRow, standIns := [], harness := (true, "3c85c8790604765d1d67983f65c71ff37960cace549d7296f1a884a3b5bd3aa4"), looks := false }, kinds := [], alts := [], laidByText := true, laidKinds := [.data], laidTests := true, laidLooks := .later }
def FnExactMostPressesCardSaid : Prop := Claim7.holds Tryd.pinned (.plain (OpenSpec.ofChange fnExactMostPressesSpec)) fnExactMostPressesCard

/-- THE SECOND FORM's CARD OF 'laws.FnExactWordsFor'. -/
def fnExactWordsForUptoCard : Claim7 := { stood := { row := fnExactWordsForUptoRow, standIns := [], harness := (true, "3c85c8790604765d1d67983f65c71ff37960cace549d7296f1a884a3b5bd3aa4"), looks := false }, kinds := [], alts := [], laidByText := true, laidKinds := [.data], laidTests := true, laidLooks := .later }
def FnExactWordsForUptoCardSaid : Prop := Claim7.holds Tryd.pinned (.plain (OpenSpec.upto fnExactWordsForSpec)) fnExactWordsForUptoCard

/-- THE SECOND FORM's CARD OF 'laws.FnExactFirstSplit'. -/
def fnExactFirstSplitUptoCard : Claim7 := { stood := { row := fnExactFirstSplitUptoRow, standIns := [], harness := (true, "3c85c8790604765d1d67983f65c71ff37960cace549d7296f1a884a3b5bd3aa4"), looks := false }, kinds := [], alts := [], laidByText := true, laidKinds := [.data], laidTests := true, laidLooks := .later }
def FnExactFirstSplitUptoCardSaid : Prop := Claim7.holds Tryd.pinned (.plain (OpenSpec.upto fnExactFirstSplitSpec)) fnExactFirstSplitUptoCard

/-- THE SECOND FORM's CARD OF 'laws.FnExactCountSplits'. -/
def fnExactCountSplitsUptoCard : Claim7 := { stood := { row := fnExactCountSplitsUptoRow, standIns := [], harness := (true, "3c85c8790604765d1d67983f65c71ff37960cace549d7296f1a884a3b5bd3aa4"), looks := false }, kinds := [], alts := [], laidByText := true, laidKinds := [.data], laidTests := true, laidLooks := .later }
def FnExactCountSplitsUptoCardSaid : Prop := Claim7.holds Tryd.pinned (.plain (OpenSpec.upto fnExactCountSplitsSpec)) fnExactCountSplitsUptoCard

/-- THE SECOND FORM's CARD OF 'laws.FnExactFewestWords'. -/
def fnExactFewestWordsUptoCard : Claim7 := { stood := { row := fnExactFewestWordsUptoRow, standIns := [], harness := (true, "3c85c8790604765d1d67983f65c71ff37960cace549d7296f1a884a3b5bd3aa4"), looks := false }, kinds := [], alts := [], laidByText := true, laidKinds := [.data], laidTests := true, laidLooks := .later }
def FnExactFewestWordsUptoCardSaid : Prop := Claim7.holds Tryd.pinned (.plain (OpenSpec.upto fnExactFewestWordsSpec)) fnExactFewestWordsUptoCard

/-- THE SECOND FORM's CARD OF 'laws.FnExactFirstFewest'. -/
def fnExactFirstFewestUptoCard : Claim7 := { stood := { row := fnExactFirstFewestUptoRow, standIns := [], harness := (true, "3c85c8790604765d1d67983f65c71ff37960cace549d7296f1a884a3b5bd3aa4"), looks := false }, kinds := [], alts := [], laidByText := true, laidKinds := [.data], laidTests := true, laidLooks := .later }
def FnExactFirstFewestUptoCardSaid : Prop := Claim7.holds Tryd.pinned (.plain (OpenSpec.upto fnExactFirstFewestSpec)) fnExactFirstFewestUptoCard

/-- THE SECOND FORM's CARD OF 'laws.FnExactLongestSplit'. -/
def fnExactLongestSplitUptoCard : Claim7 := { stood := { row := fnExactLongestSplitUptoRow, standIns := [], harness := (true, "3c85c8790604765d1d67983f65c71ff37960cace549d7296f1a884a3b5bd3aa4"), looks := false }, kinds := [], alts := [], laidByText := true, laidKinds := [.data], laidTests := true, laidLooks := .later }
def FnExactLongestSplitUptoCardSaid : Prop := Claim7.holds Tryd.pinned (.plain (OpenSpec.upto fnExactLongestSplitSpec)) fnExactLongestSplitUptoCard

/-- THE SECOND FORM's CARD OF 'laws.FnExactSharedKeys'. -/
def fnExactSharedKeysUptoCard : Claim7 := { stood := { row := fnExactSharedKeysUptoRow, standIns := [], harness := (true, "3c85c8790604765d1d67983f65c71ff37960cace549d7296f1a884a3b5bd3aa4"), looks := false }, kinds := [], alts := [], laidByText := true, laidKinds := [.data], laidTests := true, laidLooks := .later }
def FnExactSharedKeysUptoCardSaid : Prop := Claim7.holds Tryd.pinned (.plain (OpenSpec.upto fnExactSharedKeysSpec)) fnExactSharedKeysUptoCard

/-- THE SECOND FORM's CARD OF 'laws.FnExactPressesWithNext'. -/
def fnExactPressesWithNextUptoCard : Claim7 := { stood := { row := fnExactPressesWithNextUptoRow, standIns := [], harness := (true, "3c85c8790604765d1d67983f65c71ff37960cace549d7296f1a884a3b5bd3aa4"), looks := false }, kinds := [], alts := [], laidByText := true, laidKinds := [.data], laidTests := true, laidLooks := .later }
def FnExactPressesWithNextUptoCardSaid : Prop := Claim7.holds Tryd.pinned (.plain (OpenSpec.upto fnExactPressesWithNextSpec)) fnExactPressesWithNextUptoCard

/-- THE SECOND FORM's CARD OF 'laws.FnExactMostPresses'. -/
def fnExactMostPressesUptoCard : Claim7 := { stood := { row := fnExactMostPressesUptoRow, standIns := [], harness := (true, "3c85c8790604765d1d67983f65c71ff37960cace549d7296f1a884a3b5bd3aa4"), looks := false }, kinds := [], alts := [], laidByText := true, laidKinds := [.data], laidTests := true, laidLooks := .later }
def FnExactMostPressesUptoCardSaid : Prop := Claim7.holds Tryd.pinned (.plain (OpenSpec.upto fnExactMostPressesSpec)) fnExactMostPressesUptoCard
end Rows
end Go.Proofs.YtamjhhdggdfjiabDoor
