/-
  DERIVED. GIVEN WITH THE SEED: THE CARDS: each row of YtoiflcpfopkkjaaDoorRows.lean that lists a variable, with what it lists TIED to the program's text (the seventh form; the later family's looks); each row that meets fmt, with fmt's text TOLD by the authors' own Lean function (tested against real Go, not proved from fmt's source: count such statements apart). THE CARD IS WHAT COUNTS. Prove the row's statement (the work); the ties are given (YtoiflcpfopkkjaaDoorTie.lean); close each card by the builder's one call (the guide's Derived/Test/ToyasCard.lean, 'card_holds'). Laid BY PROGRAM, IN A SANDBOX (cutbox-door.mjs). By AI agents, Wed Nov 11 2026. No macro, syntax, notation, axiom, sorry.
-/
import Derived.Test.YtoiflcpfopkkjaaDoorRows
import GoSem.ClaimSeven
namespace Go.Proofs.YtoiflcpfopkkjaaDoor
namespace Rows

/-- THE TIED CARD OF 'laws.FnExactSubsume'. -/
def fnExactSubsumeCard : Claim7 := { stood := { row := fnExactSubsumeRow, standIns := [], harness := (true, "01590c322c4c2ccd400401feafa4817dd8d1c8727a5f37400b4ee9e58259ee70"), looks := false }, kinds := [], alts := [], laidByText := true, laidKinds := [.data], laidTests := true, laidLooks := .later }
def FnExactSubsumeCardSaid : Prop := Claim7.holds Tryd.pinned (.plain (OpenSpec.ofChange fnExactSubsumeSpec)) fnExactSubsumeCard

/-- THE TIED CARD OF 'laws.FnExactEliminate'. -/
def fnExactEliminateCard : Claim7 := { stood := { row := fnExactEliminateRow, standIns := [], harness := (true, "01590c322c4c2ccd400401feafa4817dd8d1c8727a5f37400b4ee9e58259ee70"), looks := false }, kinds := [], alts := [], laidByText := true, laidKinds := [.data], laidTests := true, laidLooks := .later }
def FnExactEliminateCardSaid : Prop := Claim7.holds Tryd.pinned (.plain (OpenSpec.ofChange fnExactEliminateSpec)) fnExactEliminateCard

/-- THE TIED CARD OF 'laws.FnExactUnits'. -/
def fnExactUnitsCard : Claim7 := { stood := { row := fnExactUnitsRow, standIns := [], harness := (true, "01590c322c4c2ccd400401feafa4817dd8d1c8727a5f37400b4ee9e58259ee70"), looks := false }, kinds := [], alts := [], laidByText := true, laidKinds := [.data], laidTests := true, laidLooks := .later }
def FnExactUnitsCardSaid : Prop := Claim7.holds Tryd.pinned (.plain (OpenSpec.ofChange fnExactUnitsSpec)) fnExactUnitsCard

/-- THE TIED CARD OF 'laws.FnExactLess'. -/
def fnExactLessCard : Claim7 := { stood := { row := fnExactLessRow, standIns := [], harness := (true, "01590c322c4c2ccd400401feafa4817dd8d1c8727a5f37400b4ee9e58259ee70"), looks := false }, kinds := [], alts := [], laidByText := true, laidKinds := [.data], laidTests := true, laidLooks := .later }
def FnExactLessCardSaid : Prop := Claim7.holds Tryd.pinned (.plain (OpenSpec.ofChange fnExactLessSpec)) fnExactLessCard

/-- THE SECOND FORM's CARD OF 'laws.FnExactSubsume'. -/
def fnExactSubsumeUptoCard : Claim7 := { stood := { row := fnExactSubsumeUptoRow, standIns := [], harness := (true, "01590c322c4c2ccd400401feafa4817dd8d1c8727a5f37400b4ee9e58259ee70"), looks := false }, kinds := [], alts := [], laidByText := true, laidKinds := [.data], laidTests := true, laidLooks := .later }
def FnExactSubsumeUptoCardSaid : Prop := Claim7.holds Tryd.pinned (.plain (OpenSpec.upto fnExactSubsumeSpec)) fnExactSubsumeUptoCard

/-- THE SECOND FORM's CARD OF 'laws.FnExactEliminate'. -/
def fnExactEliminateUptoCard : Claim7 := { stood := { row := fnExactEliminateUptoRow, standIns := [], harness := (true, "01590c322c4c2ccd400401feafa4817dd8d1c8727a5f37400b4ee9e58259ee70"), looks := false }, kinds := [], alts := [], laidByText := true, laidKinds := [.data], laidTests := true, laidLooks := .later }
def FnExactEliminateUptoCardSaid : Prop := Claim7.holds Tryd.pinned (.plain (OpenSpec.upto fnExactEliminateSpec)) fnExactEliminateUptoCard

/-- THE SECOND FORM's CARD OF 'laws.FnExactUnits'. -/
def fnExactUnitsUptoCard : Claim7 := { stood := { row := fnExactUnitsUptoRow, standIns := [], harness := (true, "01590c322c4c2ccd400401feafa4817dd8d1c8727a5f37400b4ee9e58259ee70"), looks := false }, kinds := [], alts := [], laidByText := true, laidKinds := [.data], laidTests := true, laidLooks := .later }
def FnExactUnitsUptoCardSaid : Prop := Claim7.holds Tryd.pinned (.plain (OpenSpec.upto fnExactUnitsSpec)) fnExactUnitsUptoCard

/-- THE SECOND FORM's CARD OF 'laws.FnExactLess'. -/
def fnExactLessUptoCard : Claim7 := { stood := { row := fnExactLessUptoRow, standIns := [], harness := (true, "01590c322c4c2ccd400401feafa4817dd8d1c8727a5f37400b4ee9e58259ee70"), looks := false }, kinds := [], alts := [], laidByText := true, laidKinds := [.data], laidTests := true, laidLooks := .later }
def FnExactLessUptoCardSaid : Prop := Claim7.holds Tryd.pinned (.plain (OpenSpec.upto fnExactLessSpec)) fnExactLessUptoCard
end Rows
end Go.Proofs.YtoiflcpfopkkjaaDoor
