/-
  DERIVED. GIVEN WITH THE SEED: THE CARDS: each row of YtidilfakganooaaGreatDoorRows.lean that lists a variable, with what it lists TIED to the program's text (the seventh form; the later family's looks); each row that meets fmt, with fmt's text TOLD by the authors' own Lean function (tested against real Go, not proved from fmt's source: count such statements apart). THE CARD IS WHAT COUNTS. Prove the row's statement (the work); the ties are given (YtidilfakganooaaGreatDoorTie.lean); close each card by the builder's one call (the guide's Derived/Test/ToyasCard.lean, 'card_holds'). Laid BY PROGRAM, IN A SANDBOX (cutbox-door.mjs). By AI agents, Wed Nov 11 2026. No macro, syntax, notation, axiom, sorry.
-/
import Derived.Test.YtidilfakganooaaGreatDoorRows
import GoSem.ClaimSeven
namespace Go.Proofs.YtidilfakganooaaGreatDoor
namespace Rows

/-- THE TIED CARD OF 'laws.FnVerdicts'. -/
def fnVerdictsCard : Claim7 := { stood := { row := fnVerdictsRow, standIns := [], harness := (true, "6782b0b253b1f30838e46e219023ab00f3a8ff298501090b891d3a0a224efbf1"), looks := true }, kinds := [], alts := [], laidByText := true, laidKinds := [.sentinel], laidTests := true, laidLooks := .later }
def FnVerdictsCardSaid : Prop := Claim7.holds Tryz.pinned (.plain (OpenSpec.ofChange fnVerdictsSpec)) fnVerdictsCard

/-- THE TIED CARD OF 'laws.FnExactCheckTable'. -/
def fnExactCheckTableCard : Claim7 := { stood := { row := fnExactCheckTableRow, standIns := [], harness := (true, "6782b0b253b1f30838e46e219023ab00f3a8ff298501090b891d3a0a224efbf1"), looks := true }, kinds := [], alts := [], laidByText := true, laidKinds := [.sentinel], laidTests := true, laidLooks := .later }
def FnExactCheckTableCardSaid : Prop := Claim7.holds Tryz.pinned (.plain (OpenSpec.ofChange fnExactCheckTableSpec)) fnExactCheckTableCard

/-- THE TIED CARD OF 'laws.FnExactSafeRules'. -/
def fnExactSafeRulesCard : Claim7 := { stood := { row := fnExactSafeRulesRow, standIns := [], harness := (true, "6782b0b253b1f30838e46e219023ab00f3a8ff298501090b891d3a0a224efbf1"), looks := true }, kinds := [], alts := [], laidByText := true, laidKinds := [.sentinel], laidTests := true, laidLooks := .later }
def FnExactSafeRulesCardSaid : Prop := Claim7.holds Tryz.pinned (.plain (OpenSpec.ofChange fnExactSafeRulesSpec)) fnExactSafeRulesCard

/-- THE SECOND FORM's CARD OF 'laws.FnVerdicts'. -/
def fnVerdictsUptoCard : Claim7 := { stood := { row := fnVerdictsUptoRow, standIns := [], harness := (true, "6782b0b253b1f30838e46e219023ab00f3a8ff298501090b891d3a0a224efbf1"), looks := true }, kinds := [], alts := [], laidByText := true, laidKinds := [.sentinel], laidTests := true, laidLooks := .later }
def FnVerdictsUptoCardSaid : Prop := Claim7.holds Tryz.pinned (.plain (OpenSpec.upto fnVerdictsSpec)) fnVerdictsUptoCard

/-- THE SECOND FORM's CARD OF 'laws.FnExactCheckTable'. -/
def fnExactCheckTableUptoCard : Claim7 := { stood := { row := fnExactCheckTableUptoRow, standIns := [], harness := (true, "6782b0b253b1f30838e46e219023ab00f3a8ff298501090b891d3a0a224efbf1"), looks := true }, kinds := [], alts := [], laidByText := true, laidKinds := [.sentinel], laidTests := true, laidLooks := .later }
def FnExactCheckTableUptoCardSaid : Prop := Claim7.holds Tryz.pinned (.plain (OpenSpec.upto fnExactCheckTableSpec)) fnExactCheckTableUptoCard

/-- THE SECOND FORM's CARD OF 'laws.FnExactSafeRules'. -/
def fnExactSafeRulesUptoCard : Claim7 := { stood := { row := fnExactSafeRulesUptoRow, standIns := [], harness := (true, "6782b0b253b1f30838e46e219023ab00f3a8ff298501090b891d3a0a224efbf1"), looks := true }, kinds := [], alts := [], laidByText := true, laidKinds := [.sentinel], laidTests := true, laidLooks := .later }
def FnExactSafeRulesUptoCardSaid : Prop := Claim7.holds Tryz.pinned (.plain (OpenSpec.upto fnExactSafeRulesSpec)) fnExactSafeRulesUptoCard
end Rows
end Go.Proofs.YtidilfakganooaaGreatDoor
