/-
  DERIVED. GIVEN WITH THE SEED: THE CARDS: each row of YtamjhhdggdfjiaaDoorRows.lean that lists a variable, with what it lists TIED to the program's text (the seventh form; the later family's looks); each row that meets fmt, with fmt's text TOLD by the authors' own Lean function (tested against real Go, not proved from fmt's source: count such statements apart). THE CARD IS WHAT COUNTS. Prove the row's statement (the work); the ties are given (YtamjhhdggdfjiaaDoorTie.lean); close each card by the builder's one call (the guide's Derived/Test/ToyasCard.lean, 'card_holds'). Laid BY PROGRAM, IN A SANDBOX (cutbox-door.mjs). By AI agents, Wed Nov 11 2026. No macro, syntax, notation, axiom, sorry.
-/
import Derived.Test.YtamjhhdggdfjiaaDoorRows
import GoSem.ClaimSeven
namespace Go.Proofs.YtamjhhdggdfjiaaDoor
namespace Rows

/-- THE TIED CARD OF 'laws.FnExactParseDictionary'. -/
def fnExactParseDictionaryCard : Claim7 := { stood := { row := fnExactParseDictionaryRow, standIns := [], harness := (true, "df9176baef633bbc9b8fa0fb755bfe891fd8b709e9b2e074e0fc40c329bed76d"), looks := false }, kinds := [], alts := [], laidByText := true, laidKinds := [.data, .pinned], laidTests := true, laidLooks := .later }
def FnExactParseDictionaryCardSaid : Prop := Claim7.holds Tryd.pinned (.plain (OpenSpec.ofChange fnExactParseDictionarySpec)) fnExactParseDictionaryCard

/-- THE TIED CARD OF 'laws.FnExactReadPresses'. -/
def fnExactReadPressesCard : Claim7 := { stood := { row := fnExactReadPressesRow, standIns := [], harness := (true, "df9176baef633bbc9b8fa0fb755bfe891fd8b709e9b2e074e0fc40c329bed76d"), looks := false }, kinds := [], alts := [], laidByText := true, laidKinds := [.data], laidTests := true, laidLooks := .later }
def FnExactReadPressesCardSaid : Prop := Claim7.holds Tryd.pinned (.plain (OpenSpec.ofChange fnExactReadPressesSpec)) fnExactReadPressesCard

/-- THE TIED CARD OF 'laws.FnExactKeysOfAll'. -/
def fnExactKeysOfAllCard : Claim7 := { stood := { row := fnExactKeysOfAllRow, standIns := [], harness := (true, "df9176baef633bbc9b8fa0fb755bfe891fd8b709e9b2e074e0fc40c329bed76d"), looks := false }, kinds := [], alts := [], laidByText := true, laidKinds := [.data], laidTests := true, laidLooks := .later }
def FnExactKeysOfAllCardSaid : Prop := Claim7.holds Tryd.pinned (.plain (OpenSpec.ofChange fnExactKeysOfAllSpec)) fnExactKeysOfAllCard

/-- THE TIED CARD OF 'laws.FnExactWordsBeginning'. -/
def fnExactWordsBeginningCard : Claim7 := { stood := { row := fnExactWordsBeginningRow, standIns := [], harness := (true, "df9176baef633bbc9b8fa0fb755bfe891fd8b709e9b2e074e0fc40c329bed76d"), looks := false }, kinds := [], alts := [], laidByText := true, laidKinds := [.data], laidTests := true, laidLooks := .later }
def FnExactWordsBeginningCardSaid : Prop := Claim7.holds Tryd.pinned (.plain (OpenSpec.ofChange fnExactWordsBeginningSpec)) fnExactWordsBeginningCard

/-- THE TIED CARD OF 'laws.FnExactNextKeysOf'. -/
def fnExactNextKeysOfCard : Claim7 := { stood := { row := fnExactNextKeysOfRow, standIns := [], harness := (true, "df9176baef633bbc9b8fa0fb755bfe891fd8b709e9b2e074e0fc40c329bed76d"), looks := false }, kinds := [], alts := [], laidByText := true, laidKinds := [.data], laidTests := true, laidLooks := .later }
def FnExactNextKeysOfCardSaid : Prop := Claim7.holds Tryd.pinned (.plain (OpenSpec.ofChange fnExactNextKeysOfSpec)) fnExactNextKeysOfCard

/-- THE TIED CARD OF 'laws.FnExactSureAfter'. -/
def fnExactSureAfterCard : Claim7 := { stood := { row := fnExactSureAfterRow, standIns := [], harness := (true, "df9176baef633bbc9b8fa0fb755bfe891fd8b709e9b2e074e0fc40c329bed76d"), looks := false }, kinds := [], alts := [], laidByText := true, laidKinds := [.data], laidTests := true, laidLooks := .later }
def FnExactSureAfterCardSaid : Prop := Claim7.holds Tryd.pinned (.plain (OpenSpec.ofChange fnExactSureAfterSpec)) fnExactSureAfterCard

/-- THE SECOND FORM's CARD OF 'laws.FnExactParseDictionary'. -/
def fnExactParseDictionaryUptoCard : Claim7 := { stood := { row := fnExactParseDictionaryUptoRow, standIns := [], harness := (true, "df9176baef633bbc9b8fa0fb755bfe891fd8b709e9b2e074e0fc40c329bed76d"), looks := false }, kinds := [], alts := [], laidByText := true, laidKinds := [.data, .pinned], laidTests := true, laidLooks := .later }
def FnExactParseDictionaryUptoCardSaid : Prop := Claim7.holds Tryd.pinned (.plain (OpenSpec.upto fnExactParseDictionarySpec)) fnExactParseDictionaryUptoCard

/-- THE SECOND FORM's CARD OF 'laws.FnExactReadPresses'. -/
def fnExactReadPressesUptoCard : Claim7 := { stood := { row := fnExactReadPressesUptoRow, standIns := [], harness := (true, "df9176baef633bbc9b8fa0fb755bfe891fd8b709e9b2e074e0fc40c329bed76d"), looks := false }, kinds := [], alts := [], laidByText := true, laidKinds := [.data], laidTests := true, laidLooks := .later }
def FnExactReadPressesUptoCardSaid : Prop := Claim7.holds Tryd.pinned (.plain (OpenSpec.upto fnExactReadPressesSpec)) fnExactReadPressesUptoCard

/-- THE SECOND FORM's CARD OF 'laws.FnExactKeysOfAll'. -/
def fnExactKeysOfAllUptoCard : Claim7 := { stood := { row := fnExactKeysOfAllUptoRow, standIns := [], harness := (true, "df9176baef633bbc9b8fa0fb755bfe891fd8b709e9b2e074e0fc40c329bed76d"), looks := false }, kinds := [], alts := [], laidByText := true, laidKinds := [.data], laidTests := true, laidLooks := .later }
def FnExactKeysOfAllUptoCardSaid : Prop := Claim7.holds Tryd.pinned (.plain (OpenSpec.upto fnExactKeysOfAllSpec)) fnExactKeysOfAllUptoCard

/-- THE SECOND FORM's CARD OF 'laws.FnExactWordsBeginning'. -/
def fnExactWordsBeginningUptoCard : Claim7 := { stood := { row := fnExactWordsBeginningUptoRow, standIns := [], harness := (true, "df9176baef633bbc9b8fa0fb755bfe891fd8b709e9b2e074e0fc40c329bed76d"), looks := false }, kinds := [], alts := [], laidByText := true, laidKinds := [.data], laidTests := true, laidLooks := .later }
def FnExactWordsBeginningUptoCardSaid : Prop := Claim7.holds Tryd.pinned (.plain (OpenSpec.upto fnExactWordsBeginningSpec)) fnExactWordsBeginningUptoCard

/-- THE SECOND FORM's CARD OF 'laws.FnExactNextKeysOf'. -/
def fnExactNextKeysOfUptoCard : Claim7 := { stood := { row := fnExactNextKeysOfUptoRow, standIns := [], harness := (true, "df9176baef633bbc9b8fa0fb755bfe891fd8b709e9b2e074e0fc40c329bed76d"), looks := false }, kinds := [], alts := [], laidByText := true, laidKinds := [.data], laidTests := true, laidLooks := .later }
def FnExactNextKeysOfUptoCardSaid : Prop := Claim7.holds Tryd.pinned (.plain (OpenSpec.upto fnExactNextKeysOfSpec)) fnExactNextKeysOfUptoCard

/-- THE SECOND FORM's CARD OF 'laws.FnExactSureAfter'. -/
def fnExactSureAfterUptoCard : Claim7 := { stood := { row := fnExactSureAfterUptoRow, standIns := [], harness := (true, "df9176baef633bbc9b8fa0fb755bfe891fd8b709e9b2e074e0fc40c329bed76d"), looks := false }, kinds := [], alts := [], laidByText := true, laidKinds := [.data], laidTests := true, laidLooks := .later }
def FnExactSureAfterUptoCardSaid : Prop := Claim7.holds Tryd.pinned (.plain (OpenSpec.upto fnExactSureAfterSpec)) fnExactSureAfterUptoCard
end Rows
end Go.Proofs.YtamjhhdggdfjiaaDoor
