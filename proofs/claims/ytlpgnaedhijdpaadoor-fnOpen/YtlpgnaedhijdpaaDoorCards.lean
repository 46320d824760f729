/-
  DERIVED. GIVEN WITH THE SEED: THE CARDS: each row of YtlpgnaedhijdpaaDoorRows.lean that lists a variable, with what it lists TIED to the program's text (the seventh form; the later family's looks); each row that meets fmt, with fmt's text TOLD by the authors' own Lean function (tested against real Go, not proved from fmt's source: count such statements apart). THE CARD IS WHAT COUNTS. Prove the row's statement (the work); the ties are given (YtlpgnaedhijdpaaDoorTie.lean); close each card by the builder's one call (the guide's Derived/Test/ToyasCard.lean, 'card_holds'). Laid BY PROGRAM, IN A SANDBOX (cutbox-door.mjs). By AI agents, Wed Nov 11 2026. No macro, syntax, notation, axiom, sorry.
-/
import Derived.Test.YtlpgnaedhijdpaaDoorRows
import GoSem.ClaimSeven
namespace Go.Proofs.YtlpgnaedhijdpaaDoor
namespace Rows

/-- THE TIED CARD OF 'laws.FnAssign'. -/
def fnAssignCard : Claim7 := { stood := { row := fnAssignRow, standIns := [], harness := (true, "c49f9c248b6e2d1117d1207bded9cd23e6d961fbf5180ce098cf87e023d4d2a1"), looks := true }, kinds := [], alts := [], laidByText := true, laidKinds := [.data, .data, .data, .sentinel, .sentinel], laidTests := true, laidLooks := .later }
def FnAssignCardSaid : Prop := Claim7.holds Tryd.pinned (.plain (OpenSpec.ofChange fnAssignSpec)) fnAssignCard

/-- THE TIED CARD OF 'laws.FnMachine'. -/
def fnMachineCard : Claim7 := { stood := { row := fnMachineRow, standIns := [], harness := (true, "c49f9c248b6e2d1117d1207bded9cd23e6d961fbf5180ce098cf87e023d4d2a1"), looks := true }, kinds := [], alts := [], laidByText := true, laidKinds := [.data], laidTests := true, laidLooks := .later }
def FnMachineCardSaid : Prop := Claim7.holds Tryd.pinned (.plain (OpenSpec.ofChange fnMachineSpec)) fnMachineCard

/-- THE TIED CARD OF 'laws.FnSteps'. -/
def fnStepsCard : Claim7 := { stood := { row := fnStepsRow, standIns := [], harness := (true, "c49f9c248b6e2d1117d1207bded9cd23e6d961fbf5180ce098cf87e023d4d2a1"), looks := true }, kinds := [], alts := [], laidByText := true, laidKinds := [.data], laidTests := true, laidLooks := .later }
def FnStepsCardSaid : Prop := Claim7.holds Tryd.pinned (.plain (OpenSpec.ofChange fnStepsSpec)) fnStepsCard

/-- THE TIED CARD OF 'laws.FnOpen'. -/
def fnOpenCard : Claim7 := { stood := { row := fnOpenRow, standIns := [], harness := (true, "c49f9c248b6e2d1117d1207bded9cd23e6d961fbf5180ce098cf87e023d4d2a1"), looks := true }, kinds := [], alts := [], laidByText := true, laidKinds := [.data], laidTests := true, laidLooks := .later }
def FnOpenCardSaid : Prop := Claim7.holds Tryd.pinned (.plain (OpenSpec.ofChange fnOpenSpec)) fnOpenCard

/-- THE TIED CARD OF 'laws.FnExactReadAssign'. -/
def fnExactReadAssignCard : Claim7 := { stood := { row := fnExactReadAssignRow, standIns := [], harness := (true, "c49f9c248b6e2d1117d1207bded9cd23e6d961fbf5180ce098cf87e023d4d2a1"), looks := true }, kinds := [], alts := [], laidByText := true, laidKinds := [.data, .data, .data, .sentinel, .sentinel], laidTests := true, laidLooks := .later }
def FnExactReadAssignCardSaid : Prop := Claim7.holds Tryd.pinned (.plain (OpenSpec.ofChange fnExactReadAssignSpec)) fnExactReadAssignCard

/-- THE TIED CARD OF 'laws.FnExactMachineStep'. -/
def fnExactMachineStepCard : Claim7 := { stood := { row := fnExactMachineStepRow, standIns := [], harness := (true, "c49f9c248b6e2d1117d1207bded9cd23e6d961fbf5180ce098cf87e023d4d2a1"), looks := true }, kinds := [], alts := [], laidByText := true, laidKinds := [.data], laidTests := true, laidLooks := .later }
def FnExactMachineStepCardSaid : Prop := Claim7.holds Tryd.pinned (.plain (OpenSpec.ofChange fnExactMachineStepSpec)) fnExactMachineStepCard

/-- THE TIED CARD OF 'laws.FnExactMachineRun'. -/
def fnExactMachineRunCard : Claim7 := { stood := { row := fnExactMachineRunRow, standIns := [], harness := (true, "c49f9c248b6e2d1117d1207bded9cd23e6d961fbf5180ce098cf87e023d4d2a1"), looks := true }, kinds := [], alts := [], laidByText := true, laidKinds := [.data], laidTests := true, laidLooks := .later }
def FnExactMachineRunCardSaid : Prop := Claim7.holds Tryd.pinned (.plain (OpenSpec.ofChange fnExactMachineRunSpec)) fnExactMachineRunCard

/-- THE TIED CARD OF 'laws.FnExactMachineCost'. -/
def fnExactMachineCostCard : Claim7 := { stood := { row := fnExactMachineCostRow, standIns := [], harness := (true, "c49f9c248b6e2d1117d1207bded9cd23e6d961fbf5180ce098cf87e023d4d2a1"), looks := true }, kinds := [], alts := [], laidByText := true, laidKinds := [.data], laidTests := true, laidLooks := .later }
def FnExactMachineCostCardSaid : Prop := Claim7.holds Tryd.pinned (.plain (OpenSpec.ofChange fnExactMachineCostSpec)) fnExactMachineCostCard

/-- THE SECOND FORM's CARD OF 'laws.FnAssign'. -/
def fnAssignUptoCard : Claim7 := { stood := { row := fnAssignUptoRow, standIns := [], harness := (true, "c49f9c248b6e2d1117d1207bded9cd23e6d961fbf5180ce098cf87e023d4d2a1"), looks := true }, kinds := [], alts := [], laidByText := true, laidKinds := [.data, .data, .data, .sentinel, .sentinel], laidTests := true, laidLooks := .later }
def FnAssignUptoCardSaid : Prop := Claim7.holds Tryd.pinned (.plain (OpenSpec.upto fnAssignSpec)) fnAssignUptoCard

/-- THE SECOND FORM's CARD OF 'laws.FnMachine'. -/
def fnMachineUptoCard : Claim7 := { stood := { row := fnMachineUptoRow, standIns := [], harness := (true, "c49f9c248b6e2d1117d1207bded9cd23e6d961fbf5180ce098cf87e023d4d2a1"), looks := true }, kinds := [], alts := [], laidByText := true, laidKinds := [.data], laidTests := true, laidLooks := .later }
def FnMachineUptoCardSaid : Prop := Claim7.holds Tryd.pinned (.plain (OpenSpec.upto fnMachineSpec)) fnMachineUptoCard

/-- THE SECOND FORM's CARD OF 'laws.FnSteps'. -/
def fnStepsUptoCard : Claim7 := { stood := { row := fnStepsUptoRow, standIns := [], harness := (true, "c49f9c248b6e2d1117d1207bded9cd23e6d961fbf5180ce098cf87e023d4d2a1"), looks := true }, kinds := [], alts := [], laidByText := true, laidKinds := [.data], laidTests := true, laidLooks := .later }
def FnStepsUptoCardSaid : Prop := Claim7.holds Tryd.pinned (.plain (OpenSpec.upto fnStepsSpec)) fnStepsUptoCard

/-- THE SECOND FORM's CARD OF 'laws.FnOpen'. -/
def fnOpenUptoCard : Claim7 := { stood := { row := fnOpenUptoRow, standIns := [], harness := (true, "c49f9c248b6e2d1117d1207bded9cd23e6d961fbf5180ce098cf87e023d4d2a1"), looks := true }, kinds := [], alts := [], laidByText := true, laidKinds := [.data], laidTests := true, laidLooks := .later }
def FnOpenUptoCardSaid : Prop := Claim7.holds Tryd.pinned (.plain (OpenSpec.upto fnOpenSpec)) fnOpenUptoCard

/-- THE SECOND FORM's CARD OF 'laws.FnExactReadAssign'. -/
def fnExactReadAssignUptoCard : Claim7 := { stood := { row := fnExactReadAssignUptoRow, standIns := [], harness := (true, "c49f9c248b6e2d1117d1207bded9cd23e6d961fbf5180ce098cf87e023d4d2a1"), looks := true }, kinds := [], alts := [], laidByText := true, laidKinds := [.data, .data, .data, .sentinel, .sentinel], laidTests := true, laidLooks := .later }
def FnExactReadAssignUptoCardSaid : Prop := Claim7.holds Tryd.pinned (.plain (OpenSpec.upto fnExactReadAssignSpec)) fnExactReadAssignUptoCard

/-- THE SECOND FORM's CARD OF 'laws.FnExactMachineStep'. -/
def fnExactMachineStepUptoCard : Claim7 := { stood := { row := fnExactMachineStepUptoRow, standIns := [], harness := (true, "c49f9c248b6e2d1117d1207bded9cd23e6d961fbf5180ce098cf87e023d4d2a1"), looks := true }, kinds := [], alts := [], laidByText := true, laidKinds := [.data], laidTests := true, laidLooks := .later }
def FnExactMachineStepUptoCardSaid : Prop := Claim7.holds Tryd.pinned (.plain (OpenSpec.upto fnExactMachineStepSpec)) fnExactMachineStepUptoCard

/-- THE SECOND FORM's CARD OF 'laws.FnExactMachineRun'. -/
def fnExactMachineRunUptoCard : Claim7 := { stood := { row := fnExactMachineRunUptoRow, standIns := [], harness := (true, "c49f9c248b6e2d1117d1207bded9cd23e6d961fbf5180ce098cf87e023d4d2a1"), looks := true }, kinds := [], alts := [], laidByText := true, laidKinds := [.data], laidTests := true, laidLooks := .later }
def FnExactMachineRunUptoCardSaid : Prop := Claim7.holds Tryd.pinned (.plain (OpenSpec.upto fnExactMachineRunSpec)) fnExactMachineRunUptoCard

/-- THE SECOND FORM's CARD OF 'laws.FnExactMachineCost'. -/
def fnExactMachineCostUptoCard : Claim7 := { stood := { row := fnExactMachineCostUptoRow, standIns := [], harness := (true, "c49f9c248b6e2d1117d1207bded9cd23e6d961fbf5180ce098cf87e023d4d2a1"), looks := true }, kinds := [], alts := [], laidByText := true, laidKinds := [.data], laidTests := true, laidLooks := .later }
def FnExactMachineCostUptoCardSaid : Prop := Claim7.holds Tryd.pinned (.plain (OpenSpec.upto fnExactMachineCostSpec)) fnExactMachineCostUptoCard
end Rows
end Go.Proofs.YtlpgnaedhijdpaaDoor
