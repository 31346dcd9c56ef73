/-
  DERIVED. GIVEN WITH THE SEED: THE CARDS: each row of YtidilfakganooaaDoorRows.lean that lists a variable, with what it lists TIED to the program's text (the seventh form; the later family's looks); each row that meets fmt, with fmt's text TOLD by the authors' own Lean function (tested against real Go, not proved from fmt's source: count such statements apart). THE CARD IS WHAT COUNTS. Prove the row's statement (the work); the ties are given (YtidilfakganooaaDoorTie.lean); close each card by the builder's one call (the guide's Derived/Test/ToyasCard.lean, 'card_holds'). Laid BY PROGRAM, IN A SANDBOX (cutbox-door.mjs). By AI agents, Wed Nov 11 2026. No macro, syntax, notation, axiom, sorry.
-/
import Derived.Test.YtidilfakganooaaDoorRows
import GoSem.ClaimSeven
namespace Go.Proofs.YtidilfakganooaaDoor
namespace Rows

/-- THE TIED CARD OF 'laws.FnSafeRules'. -/
def fnSafeRulesCard : Claim7 := { stood := { row := fnSafeRulesRow, standIns := [], harness := (true, "0cad17083b958ee8a99609525a8d4327d13683b1c7fa3552418db6e9ddbfc5b0"), looks := true }, kinds := [], alts := [], laidByText := true, laidKinds := [.sentinel], laidTests := true, laidLooks := .later }
def FnSafeRulesCardSaid : Prop := Claim7.holds Tryd.pinned (.plain (OpenSpec.ofChange fnSafeRulesSpec)) fnSafeRulesCard

/-- THE TIED CARD OF 'laws.FnExactProvesVerdict'. -/
def fnExactProvesVerdictCard : Claim7 := { stood := { row := fnExactProvesVerdictRow, standIns := [], harness := (true, "0cad17083b958ee8a99609525a8d4327d13683b1c7fa3552418db6e9ddbfc5b0"), looks := true }, kinds := [], alts := [], laidByText := true, laidKinds := [.sentinel], laidTests := true, laidLooks := .later }
def FnExactProvesVerdictCardSaid : Prop := Claim7.holds Tryd.pinned (.plain (OpenSpec.ofChange fnExactProvesVerdictSpec)) fnExactProvesVerdictCard

/-- THE SECOND FORM's CARD OF 'laws.FnSafeRules'. -/
def fnSafeRulesUptoCard : Claim7 := { stood := { row := fnSafeRulesUptoRow, standIns := [], harness := (true, "0cad17083b958ee8a99609525a8d4327d13683b1c7fa3552418db6e9ddbfc5b0"), looks := true }, kinds := [], alts := [], laidByText := true, laidKinds := [.sentinel], laidTests := true, laidLooks := .later }
def FnSafeRulesUptoCardSaid : Prop := Claim7.holds Tryd.pinned (.plain (OpenSpec.upto fnSafeRulesSpec)) fnSafeRulesUptoCard

/-- THE SECOND FORM's CARD OF 'laws.FnExactProvesVerdict'. -/
def fnExactProvesVerdictUptoCard : Claim7 := { stood := { row := fnExactProvesVerdictUptoRow, standIns := [], harness := (true, "0cad17083b958ee8a99609525a8d4327d13683b1c7fa3552418db6e9ddbfc5b0"), looks := true }, kinds := [], alts := [], laidByText := true, laidKinds := [.sentinel], laidTests := true, laidLooks := .later }
def FnExactProvesVerdictUptoCardSaid : Prop := Claim7.holds Tryd.pinned (.plain (OpenSpec.upto fnExactProvesVerdictSpec)) fnExactProvesVerdictUptoCard
end Rows
end Go.Proofs.YtidilfakganooaaDoor
