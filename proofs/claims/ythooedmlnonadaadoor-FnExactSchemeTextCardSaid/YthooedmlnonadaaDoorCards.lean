/-
  DERIVED. GIVEN WITH THE SEED: THE CARDS: each row of YthooedmlnonadaaDoorRows.lean that lists a variable, with what it lists TIED to the program's text (the seventh form; the later family's looks); each row that meets fmt, with fmt's text TOLD by the authors' own Lean function (tested against real Go, not proved from fmt's source: count such statements apart). THE CARD IS WHAT COUNTS. Prove the row's statement (the work); the ties are given (YthooedmlnonadaaDoorTie.lean); close each card by the builder's one call (the guide's Derived/Test/ToyasCard.lean, 'card_holds'). Laid BY PROGRAM, IN A SANDBOX (cutbox-door.mjs). By AI agents, Wed Nov 11 2026. No macro, syntax, notation, axiom, sorry.
-/
import Derived.Test.YthooedmlnonadaaDoorRows
import GoSem.ClaimSeven
namespace Go.Proofs.YthooedmlnonadaaDoor
namespace Rows

/-- THE TIED CARD OF 'laws.FnExactParseCodePlan'. -/
def fnExactParseCodePlanCard : Claim7 := { stood := { row := fnExactParseCodePlanRow, standIns := [], harness := (true, "5fff0f030084390a631478c75fd8b34afa28d94840b85b962ef49a9e9ffa498a"), looks := true }, kinds := [], alts := [], laidByText := true, laidKinds := [.data, .pinned], laidTests := true, laidLooks := .later }
def FnExactParseCodePlanCardSaid : Prop := Claim7.holds Tryd.pinned (.plain (OpenSpec.ofChange fnExactParseCodePlanSpec)) fnExactParseCodePlanCard

/-- THE TIED CARD OF 'laws.FnExactSchemeText'. -/
def fnExactSchemeTextCard : Claim7 := { stood := { row := fnExactSchemeTextRow, standIns := [], harness := (true, "5fff0f030084390a631478c75fd8b34afa28d94840b85b962ef49a9e9ffa498a"), looks := true }, kinds := [], alts := [], laidByText := true, laidKinds := [.data, .data, .data], laidTests := true, laidLooks := .later }
def FnExactSchemeTextCardSaid : Prop := Claim7.holds Tryd.pinned (.plain (OpenSpec.ofChange fnExactSchemeTextSpec)) fnExactSchemeTextCard

/-- THE TIED CARD OF 'laws.FnExactParseScheme'. -/
def fnExactParseSchemeCard : Claim7 := { stood := { row := fnExactParseSchemeRow, standIns := [], harness := (true, "5fff0f030084390a631478c75fd8b34afa28d94840b85b962ef49a9e9ffa498a"), looks := true }, kinds := [], alts := [], laidByText := true, laidKinds := [.data, .data, .data, .data, .sentinel, .sentinel, .pinned], laidTests := true, laidLooks := .later }
def FnExactParseSchemeCardSaid : Prop := Claim7.holds Tryd.pinned (.plain (OpenSpec.ofChange fnExactParseSchemeSpec)) fnExactParseSchemeCard

/-- THE SECOND FORM's CARD OF 'laws.FnExactParseCodePlan'. -/
def fnExactParseCodePlanUptoCard : Claim7 := { stood := { row := fnExactParseCodePlanUptoRow, standIns := [], harness := (true, "5fff0f030084390a631478c75fd8b34afa28d94840b85b962ef49a9e9ffa498a"), looks := true }, kinds := [], alts := [], laidByText := true, laidKinds := [.data, .pinned], laidTests := true, laidLooks := .later }
def FnExactParseCodePlanUptoCardSaid : Prop := Claim7.holds Tryd.pinned (.plain (OpenSpec.upto fnExactParseCodePlanSpec)) fnExactParseCodePlanUptoCard

/-- THE SECOND FORM's CARD OF 'laws.FnExactSchemeText'. -/
def fnExactSchemeTextUptoCard : Claim7 := { stood := { row := fnExactSchemeTextUptoRow, standIns := [], harness := (true, "5fff0f030084390a631478c75fd8b34afa28d94840b85b962ef49a9e9ffa498a"), looks := true }, kinds := [], alts := [], laidByText := true, laidKinds := [.data, .data, .data], laidTests := true, laidLooks := .later }
def FnExactSchemeTextUptoCardSaid : Prop := Claim7.holds Tryd.pinned (.plain (OpenSpec.upto fnExactSchemeTextSpec)) fnExactSchemeTextUptoCard

/-- THE SECOND FORM's CARD OF 'laws.FnExactParseScheme'. -/
def fnExactParseSchemeUptoCard : Claim7 := { stood := { row := fnExactParseSchemeUptoRow, standIns := [], harness := (true, "5fff0f030084390a631478c75fd8b34afa28d94840b85b962ef49a9e9ffa498a"), looks := true }, kinds := [], alts := [], laidByText := true, laidKinds := [.data, .data, .data, .data, .sentinel, .sentinel, .pinned], laidTests := true, laidLooks := .later }
def FnExactParseSchemeUptoCardSaid : Prop := Claim7.holds Tryd.pinned (.plain (OpenSpec.upto fnExactParseSchemeSpec)) fnExactParseSchemeUptoCard
end Rows
end Go.Proofs.YthooedmlnonadaaDoor
