/-
  DERIVED. GIVEN WITH THE SEED: THE CARDS: each row of YthlbagcdindhdaaDoorRows.lean that lists a variable, with what it lists TIED to the program's text (the seventh form; the later family's looks); each row that meets fmt, with fmt's text TOLD by the authors' own Lean function (tested against real Go, not proved from fmt's source: count such statements apart). THE CARD IS WHAT COUNTS. Prove the row's statement (the work); the ties are given (YthlbagcdindhdaaDoorTie.lean); close each card by the builder's one call (the guide's Derived/Test/ToyasCard.lean, 'card_holds'). Laid BY PROGRAM, IN A SANDBOX (cutbox-door.mjs). By AI agents, Wed Nov 11 2026. No macro, syntax, notation, axiom, sorry.
-/
import Derived.Test.YthlbagcdindhdaaDoorRows
import GoSem.ClaimSeven
namespace Go.Proofs.YthlbagcdindhdaaDoor
namespace Rows

/-- THE TIED CARD OF 'scuttlebuttlaw07.RuleTells'. -/
def ruleTellsCard : Claim7 := { stood := { row := ruleTellsRow, standIns := [], harness := (true, "07ee839a35cbf5e7643c5f92e7eb78df7c3512d90c85e6e40b3636a9b798580d"), looks := false }, kinds := [], alts := [], laidByText := true, laidKinds := [.data], laidTests := true, laidLooks := .later }
def RuleTellsCardSaid : Prop := Claim7.holds Tryd.pinned (.plain (OpenSpec.ofChange ruleTellsSpec)) ruleTellsCard

/-- THE TIED CARD OF 'scuttlebuttlaw07.RulePunch'. -/
def rulePunchCard : Claim7 := { stood := { row := rulePunchRow, standIns := [], harness := (true, "07ee839a35cbf5e7643c5f92e7eb78df7c3512d90c85e6e40b3636a9b798580d"), looks := false }, kinds := [], alts := [], laidByText := true, laidKinds := [.data], laidTests := true, laidLooks := .later }
def RulePunchCardSaid : Prop := Claim7.holds Tryd.pinned (.plain (OpenSpec.ofChange rulePunchSpec)) rulePunchCard

/-- THE TIED CARD OF 'scuttlebuttlaw07.RuleKeys'. -/
def ruleKeysCard : Claim7 := { stood := { row := ruleKeysRow, standIns := [], harness := (true, "07ee839a35cbf5e7643c5f92e7eb78df7c3512d90c85e6e40b3636a9b798580d"), looks := false }, kinds := [], alts := [], laidByText := true, laidKinds := [.data], laidTests := true, laidLooks := .later }
def RuleKeysCardSaid : Prop := Claim7.holds Tryd.pinned (.plain (OpenSpec.ofChange ruleKeysSpec)) ruleKeysCard

/-- THE TIED CARD OF 'scuttlebuttlaw07.RuleFilters'. -/
def ruleFiltersCard : Claim7 := { stood := { row := ruleFiltersRow, standIns := [], harness := (true, "07ee839a35cbf5e7643c5f92e7eb78df7c3512d90c85e6e40b3636a9b798580d"), looks := false }, kinds := [], alts := [], laidByText := true, laidKinds := [.data], laidTests := true, laidLooks := .later }
def RuleFiltersCardSaid : Prop := Claim7.holds Tryd.pinned (.plain (OpenSpec.ofChange ruleFiltersSpec)) ruleFiltersCard

/-- THE TIED CARD OF 'scuttlebuttlaw07.RuleWords'. -/
def ruleWordsCard : Claim7 := { stood := { row := ruleWordsRow, standIns := [], harness := (true, "07ee839a35cbf5e7643c5f92e7eb78df7c3512d90c85e6e40b3636a9b798580d"), looks := false }, kinds := [], alts := [], laidByText := true, laidKinds := [.data], laidTests := true, laidLooks := .later }
def RuleWordsCardSaid : Prop := Claim7.holds Tryd.pinned (.plain (OpenSpec.ofChange ruleWordsSpec)) ruleWordsCard

/-- THE SECOND FORM's CARD OF 'scuttlebuttlaw07.RuleTells'. -/
def ruleTellsUptoCard : Claim7 := { stood := { row := ruleTellsUptoRow, standIns := [], harness := (true, "07ee839a35cbf5e7643c5f92e7eb78df7c3512d90c85e6e40b3636a9b798580d"), looks := false }, kinds := [], alts := [], laidByText := true, laidKinds := [.data], laidTests := true, laidLooks := .later }
def RuleTellsUptoCardSaid : Prop := Claim7.holds Tryd.pinned (.plain (OpenSpec.upto ruleTellsSpec)) ruleTellsUptoCard

/-- THE SECOND FORM's CARD OF 'scuttlebuttlaw07.RulePunch'. -/
def rulePunchUptoCard : Claim7 := { stood := { row := rulePunchUptoRow, standIns := [], harness := (true, "07ee839a35cbf5e7643c5f92e7eb78df7c3512d90c85e6e40b3636a9b798580d"), looks := false }, kinds := [], alts := [], laidByText := true, laidKinds := [.data], laidTests := true, laidLooks := .later }
def RulePunchUptoCardSaid : Prop := Claim7.holds Tryd.pinned (.plain (OpenSpec.upto rulePunchSpec)) rulePunchUptoCard

/-- THE SECOND FORM's CARD OF 'scuttlebuttlaw07.RuleKeys'. -/
def ruleKeysUptoCard : Claim7 := { stood := { row := ruleKeysUptoRow, standIns := [], harness := (true, "07ee839a35cbf5e7643c5f92e7eb78df7c3512d90c85e6e40b3636a9b798580d"), looks := false }, kinds := [], alts := [], laidByText := true, laidKinds := [.data], laidTests := true, laidLooks := .later }
def RuleKeysUptoCardSaid : Prop := Claim7.holds Tryd.pinned (.plain (OpenSpec.upto ruleKeysSpec)) ruleKeysUptoCard

/-- THE SECOND FORM's CARD OF 'scuttlebuttlaw07.RuleFilters'. -/
def ruleFiltersUptoCard : Claim7 := { stood := { row := ruleFiltersUptoRow, standIns := [], harness := (true, "07ee839a35cbf5e7643c5f92e7eb78df7c3512d90c85e6e40b3636a9b798580d"), looks := false }, kinds := [], alts := [], laidByText := true, laidKinds := [.data], laidTests := true, laidLooks := .later }
def RuleFiltersUptoCardSaid : Prop := Claim7.holds Tryd.pinned (.plain (OpenSpec.upto ruleFiltersSpec)) ruleFiltersUptoCard

/-- THE SECOND FORM's CARD OF 'scuttlebuttlaw07.RuleWords'. -/
def ruleWordsUptoCard : Claim7 := { stood := { row := ruleWordsUptoRow, standIns := [], harness := (true, "07ee839a35cbf5e7643c5f92e7eb78df7c3512d90c85e6e40b3636a9b798580d"), looks := false }, kinds := [], alts := [], laidByText := true, laidKinds := [.data], laidTests := true, laidLooks := .later }
def RuleWordsUptoCardSaid : Prop := Claim7.holds Tryd.pinned (.plain (OpenSpec.upto ruleWordsSpec)) ruleWordsUptoCard
end Rows
end Go.Proofs.YthlbagcdindhdaaDoor
