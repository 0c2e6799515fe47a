/-
  DERIVED. GIVEN WITH THE SEED: THE CARDS: each row of YtioinihlahnbfaaDoorRows.lean that lists a variable, with what it lists TIED to the program's text (the seventh form; the later family's looks); each row that meets fmt, with fmt's text TOLD by the authors' own Lean function (tested against real Go, not proved from fmt's source: count such statements apart). THE CARD IS WHAT COUNTS. Prove the row's statement (the work); the ties are given (YtioinihlahnbfaaDoorTie.lean); close each card by the builder's one call (the guide's Derived/Test/ToyasCard.lean, 'card_holds'). Laid BY PROGRAM, IN A SANDBOX (cutbox-door.mjs). By AI agents, Wed Nov 11 2026. No macro, syntax, notation, axiom, sorry.
-/
import Derived.Test.YtioinihlahnbfaaDoorRows
import GoSem.ClaimSeven
namespace Go.Proofs.YtioinihlahnbfaaDoor
namespace Rows

/-- THE TIED CARD OF 'laws.FnExactKeysOfAll'. -/
def fnExactKeysOfAllCard : Claim7 := { stood := { row := fnExactKeysOfAllRow, standIns := [], harness := (true, "f7cf8d31378fb6d33dba72d941380d5e914c503509a512a42e19dd0cf4327caf"), looks := false }, kinds := [], alts := [], laidByText := true, laidKinds := [.data], laidTests := true, laidLooks := .later }
def FnExactKeysOfAllCardSaid : Prop := Claim7.holds Tryd.pinned (.plain (OpenSpec.ofChange fnExactKeysOfAllSpec)) fnExactKeysOfAllCard

/-- THE TIED CARD OF 'laws.FnExactNextKeysOf'. -/
def fnExactNextKeysOfCard : Claim7 := { stood := { row := fnExactNextKeysOfRow, standIns := [], harness := (true, "f7cf8d31378fb6d33dba72d941380d5e914c503509a512a42e19dd0cf4327caf"), looks := false }, kinds := [], alts := [], laidByText := true, laidKinds := [.data], laidTests := true, laidLooks := .later }
def FnExactNextKeysOfCardSaid : Prop := Claim7.holds Tryd.pinned (.plain (OpenSpec.ofChange fnExactNextKeysOfSpec)) fnExactNextKeysOfCard

/-- THE TIED CARD OF 'laws.FnExactParseDictionary'. -/
def fnExactParseDictionaryCard : Claim7 := { stood := { row := fnExactParseDictionaryRow, standIns := [], harness := (true, "f7cf8d31378fb6d33dba72d941380d5e914c503509a512a42e19dd0cf4327caf"), looks := false }, kinds := [], alts := [], laidByText := true, laidKinds := [.data, .pinned], laidTests := true, laidLooks := .later }
def FnExactParseDictionaryCardSaid : Prop := Claim7.holds Tryd.pinned (.plain (OpenSpec.ofChange fnExactParseDictionarySpec)) fnExactParseDictionaryCard

/-- THE TIED CARD OF 'laws.FnExactFewestWords'. -/
def fnExactFewestWordsCard : Claim7 := { stood := { row := fnExactFewestWordsRow, standIns := [], harness := (true, "f7cf8d31378fb6d33dba72d941380d5e914c503509a512a42e19dd0cf4327caf"), looks := false }, kinds := [], alts := [], laidByText := true, laidKinds := [.data], laidTests := true, laidLooks := .later }
def FnExactFewestWordsCardSaid : Prop := Claim7.holds Tryd.pinned (.plain (OpenSpec.ofChange fnExactFewestWordsSpec)) fnExactFewestWordsCard

/-- THE TIED CARD OF 'laws.FnExactFirstFewest'. -/
def fnExactFirstFewestCard : Claim7 := { stood := { row := fnExactFirstFewestRow, standIns := [], harness := (true, "f7cf8d31378fb6d33dba72d941380d5e914c503509a512a42e19dd0cf4327caf"), looks := false }, kinds := [], alts := [], laidByText := true, laidKinds := [.data], laidTests := true, laidLooks := .later }
def FnExactFirstFewestCardSaid : Prop := Claim7.holds Tryd.pinned (.plain (OpenSpec.ofChange fnExactFirstFewestSpec)) fnExactFirstFewestCard

/-- THE TIED CARD OF 'laws.FnExactSharedKeys'. -/
def fnExactSharedKeysCard : Claim7 := { stood := { row := fnExactSharedKeysRow, standIns := [], harness := (true, "f7cf8d31378fb6d33dba72d941380d5e914c503509a512a42e19dd0cf4327caf"), looks := false }, kinds := [], alts := [], laidByText := true, laidKinds := [.data], laidTests := true, laidLooks := .later }
def FnExactSharedKeysCardSaid : Prop := Claim7.holds Tryd.pinned (.plain (OpenSpec.ofChange fnExactSharedKeysSpec)) fnExactSharedKeysCard

/-- THE SECOND FORM's CARD OF 'laws.FnExactKeysOfAll'. -/
def fnExactKeysOfAllUptoCard : Claim7 := { stood := { row := fnExactKeysOfAllUptoRow, standIns := [], harness := (true, "f7cf8d31378fb6d33dba72d941380d5e914c503509a512a42e19dd0cf4327caf"), looks := false }, kinds := [], alts := [], laidByText := true, laidKinds := [.data], laidTests := true, laidLooks := .later }
def FnExactKeysOfAllUptoCardSaid : Prop := Claim7.holds Tryd.pinned (.plain (OpenSpec.upto fnExactKeysOfAllSpec)) fnExactKeysOfAllUptoCard

/-- THE SECOND FORM's CARD OF 'laws.FnExactNextKeysOf'. -/
def fnExactNextKeysOfUptoCard : Claim7 := { stood := { row := fnExactNextKeysOfUptoRow, standIns := [], harness := (true, "f7cf8d31378fb6d33dba72d941380d5e914c503509a512a42e19dd0cf4327caf"), looks := false }, kinds := [], alts := [], laidByText := true, laidKinds := [.data], laidTests := true, laidLooks := .later }
def FnExactNextKeysOfUptoCardSaid : Prop := Claim7.holds Tryd.pinned (.plain (OpenSpec.upto fnExactNextKeysOfSpec)) fnExactNextKeysOfUptoCard

/-- THE SECOND FORM's CARD OF 'laws.FnExactParseDictionary'. -/
def fnExactParseDictionaryUptoCard : Claim7 := { stood := { row := fnExactParseDictionaryUptoRow, standIns := [], harness := (true, "f7cf8d31378fb6d33dba72d941380d5e914c503509a512a42e19dd0cf4327caf"), looks := false }, kinds := [], alts := [], laidByText := true, laidKinds := [.data, .pinned], laidTests := true, laidLooks := .later }
def FnExactParseDictionaryUptoCardSaid : Prop := Claim7.holds Tryd.pinned (.plain (OpenSpec.upto fnExactParseDictionarySpec)) fnExactParseDictionaryUptoCard

/-- THE SECOND FORM's CARD OF 'laws.FnExactFewestWords'. -/
def fnExactFewestWordsUptoCard : Claim7 := { stood := { row := fnExactFewestWordsUptoRow, standIns := [], harness := (true, "f7cf8d31378fb6d33dba72d941380d5e914c503509a512a42e19dd0cf4327caf"), looks := false }, kinds := [], alts := [], laidByText := true, laidKinds := [.data], laidTests := true, laidLooks := .later }
def FnExactFewestWordsUptoCardSaid : Prop := Claim7.holds Tryd.pinned (.plain (OpenSpec.upto fnExactFewestWordsSpec)) fnExactFewestWordsUptoCard

/-- THE SECOND FORM's CARD OF 'laws.FnExactFirstFewest'. -/
def fnExactFirstFewestUptoCard : Claim7 := { stood := { row := fnExactFirstFewestUptoRow, standIns := [], harness := (true, "f7cf8d31378fb6d33dba72d941380d5e914c503509a512a42e19dd0cf4327caf"), looks := false }, kinds := [], alts := [], laidByText := true, laidKinds := [.data], laidTests := true, laidLooks := .later }
def FnExactFirstFewestUptoCardSaid : Prop := Claim7.holds Tryd.pinned (.plain (OpenSpec.upto fnExactFirstFewestSpec)) fnExactFirstFewestUptoCard

/-- THE SECOND FORM's CARD OF 'laws.FnExactSharedKeys'. -/
def fnExactSharedKeysUptoCard : Claim7 := { stood := { row := fnExactSharedKeysUptoRow, standIns := [], harness := (true, "f7cf8d31378fb6d33dba72d941380d5e914c503509a512a42e19dd0cf4327caf"), looks := false }, kinds := [], alts := [], laidByText := true, laidKinds := [.data], laidTests := true, laidLooks := .later }
def FnExactSharedKeysUptoCardSaid : Prop := Claim7.holds Tryd.pinned (.plain (OpenSpec.upto fnExactSharedKeysSpec)) fnExactSharedKeysUptoCard
end Rows
end Go.Proofs.YtioinihlahnbfaaDoor
