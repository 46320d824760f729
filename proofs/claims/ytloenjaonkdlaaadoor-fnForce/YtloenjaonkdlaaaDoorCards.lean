/-
  DERIVED. GIVEN WITH THE SEED: THE CARDS: each row of YtloenjaonkdlaaaDoorRows.lean that lists a variable, with what it lists TIED to the program's text (the seventh form; the later family's looks); each row that meets fmt, with fmt's text TOLD by the authors' own Lean function (tested against real Go, not proved from fmt's source: count such statements apart). THE CARD IS WHAT COUNTS. Prove the row's statement (the work); the ties are given (YtloenjaonkdlaaaDoorTie.lean); close each card by the builder's one call (the guide's Derived/Test/ToyasCard.lean, 'card_holds'). Laid BY PROGRAM, IN A SANDBOX (cutbox-door.mjs). By AI agents, Wed Nov 11 2026. No macro, syntax, notation, axiom, sorry.
-/
import Derived.Test.YtloenjaonkdlaaaDoorRows
import GoSem.ClaimSeven
namespace Go.Proofs.YtloenjaonkdlaaaDoor
namespace Rows

/-- THE TIED CARD OF 'laws.FnAssign'. -/
def fnAssignCard : Claim7 := { stood := { row := fnAssignRow, standIns := [], harness := (true, "839239be4e80eef8685b833789be4d709d38525623f958ac44600255cf5063bf"), looks := true }, kinds := [], alts := [], laidByText := true, laidKinds := [.data, .data, .data, .sentinel, .sentinel], laidTests := true, laidLooks := .later }
def FnAssignCardSaid : Prop := Claim7.holds Tryd.pinned (.plain (OpenSpec.ofChange fnAssignSpec)) fnAssignCard

/-- THE TIED CARD OF 'laws.FnForce'. -/
def fnForceCard : Claim7 := { stood := { row := fnForceRow, standIns := [], harness := (true, "839239be4e80eef8685b833789be4d709d38525623f958ac44600255cf5063bf"), looks := true }, kinds := [], alts := [], laidByText := true, laidKinds := [.data], laidTests := true, laidLooks := .later }
def FnForceCardSaid : Prop := Claim7.holds Tryd.pinned (.plain (OpenSpec.ofChange fnForceSpec)) fnForceCard

/-- THE TIED CARD OF 'laws.FnLeaves'. -/
def fnLeavesCard : Claim7 := { stood := { row := fnLeavesRow, standIns := [], harness := (true, "839239be4e80eef8685b833789be4d709d38525623f958ac44600255cf5063bf"), looks := true }, kinds := [], alts := [], laidByText := true, laidKinds := [.data], laidTests := true, laidLooks := .later }
def FnLeavesCardSaid : Prop := Claim7.holds Tryd.pinned (.plain (OpenSpec.ofChange fnLeavesSpec)) fnLeavesCard

/-- THE TIED CARD OF 'laws.FnRefute'. -/
def fnRefuteCard : Claim7 := { stood := { row := fnRefuteRow, standIns := [], harness := (true, "839239be4e80eef8685b833789be4d709d38525623f958ac44600255cf5063bf"), looks := true }, kinds := [], alts := [], laidByText := true, laidKinds := [.data], laidTests := true, laidLooks := .later }
def FnRefuteCardSaid : Prop := Claim7.holds Tryd.pinned (.plain (OpenSpec.ofChange fnRefuteSpec)) fnRefuteCard

/-- THE TIED CARD OF 'laws.FnCheck'. -/
def fnCheckCard : Claim7 := { stood := { row := fnCheckRow, standIns := [], harness := (true, "839239be4e80eef8685b833789be4d709d38525623f958ac44600255cf5063bf"), looks := true }, kinds := [], alts := [], laidByText := true, laidKinds := [.data], laidTests := true, laidLooks := .later }
def FnCheckCardSaid : Prop := Claim7.holds Tryd.pinned (.plain (OpenSpec.ofChange fnCheckSpec)) fnCheckCard

/-- THE TIED CARD OF 'laws.FnExactReadAssign'. -/
def fnExactReadAssignCard : Claim7 := { stood := { row := fnExactReadAssignRow, standIns := [], harness := (true, "839239be4e80eef8685b833789be4d709d38525623f958ac44600255cf5063bf"), looks := true }, kinds := [], alts := [], laidByText := true, laidKinds := [.data, .data, .data, .sentinel, .sentinel], laidTests := true, laidLooks := .later }
def FnExactReadAssignCardSaid : Prop := Claim7.holds Tryd.pinned (.plain (OpenSpec.ofChange fnExactReadAssignSpec)) fnExactReadAssignCard

/-- THE TIED CARD OF 'laws.FnExactUnit'. -/
def fnExactUnitCard : Claim7 := { stood := { row := fnExactUnitRow, standIns := [], harness := (true, "839239be4e80eef8685b833789be4d709d38525623f958ac44600255cf5063bf"), looks := true }, kinds := [], alts := [], laidByText := true, laidKinds := [.data], laidTests := true, laidLooks := .later }
def FnExactUnitCardSaid : Prop := Claim7.holds Tryd.pinned (.plain (OpenSpec.ofChange fnExactUnitSpec)) fnExactUnitCard

/-- THE TIED CARD OF 'laws.FnExactForce'. -/
def fnExactForceCard : Claim7 := { stood := { row := fnExactForceRow, standIns := [], harness := (true, "839239be4e80eef8685b833789be4d709d38525623f958ac44600255cf5063bf"), looks := true }, kinds := [], alts := [], laidByText := true, laidKinds := [.data], laidTests := true, laidLooks := .later }
def FnExactForceCardSaid : Prop := Claim7.holds Tryd.pinned (.plain (OpenSpec.ofChange fnExactForceSpec)) fnExactForceCard

/-- THE TIED CARD OF 'laws.FnExactLeaves'. -/
def fnExactLeavesCard : Claim7 := { stood := { row := fnExactLeavesRow, standIns := [], harness := (true, "839239be4e80eef8685b833789be4d709d38525623f958ac44600255cf5063bf"), looks := true }, kinds := [], alts := [], laidByText := true, laidKinds := [.data], laidTests := true, laidLooks := .later }
def FnExactLeavesCardSaid : Prop := Claim7.holds Tryd.pinned (.plain (OpenSpec.ofChange fnExactLeavesSpec)) fnExactLeavesCard

/-- THE TIED CARD OF 'laws.FnExactRefute'. -/
def fnExactRefuteCard : Claim7 := { stood := { row := fnExactRefuteRow, standIns := [], harness := (true, "839239be4e80eef8685b833789be4d709d38525623f958ac44600255cf5063bf"), looks := true }, kinds := [], alts := [], laidByText := true, laidKinds := [.data], laidTests := true, laidLooks := .later }
def FnExactRefuteCardSaid : Prop := Claim7.holds Tryd.pinned (.plain (OpenSpec.ofChange fnExactRefuteSpec)) fnExactRefuteCard

/-- THE TIED CARD OF 'laws.FnExactCheck'. -/
def fnExactCheckCard : Claim7 := { stood := { row := fnExactCheckRow, standIns := [], harness := (true, "839239be4e80eef8685b833789be4d709d38525623f958ac44600255cf5063bf"), looks := true }, kinds := [], alts := [], laidByText := true, laidKinds := [.data], laidTests := true, laidLooks := .later }
def FnExactCheckCardSaid : Prop := Claim7.holds Tryd.pinned (.plain (OpenSpec.ofChange fnExactCheckSpec)) fnExactCheckCard

/-- THE TIED CARD OF 'laws.FnExactTrim'. -/
def fnExactTrimCard : Claim7 := { stood := { row := fnExactTrimRow, standIns := [], harness := (true, "839239be4e80eef8685b833789be4d709d38525623f958ac44600255cf5063bf"), looks := true }, kinds := [], alts := [], laidByText := true, laidKinds := [.data], laidTests := true, laidLooks := .later }
def FnExactTrimCardSaid : Prop := Claim7.holds Tryd.pinned (.plain (OpenSpec.ofChange fnExactTrimSpec)) fnExactTrimCard

/-- THE TIED CARD OF 'laws.FnExactFirstBad'. -/
def fnExactFirstBadCard : Claim7 := { stood := { row := fnExactFirstBadRow, standIns := [], harness := (true, "839239be4e80eef8685b833789be4d709d38525623f958ac44600255cf5063bf"), looks := true }, kinds := [], alts := [], laidByText := true, laidKinds := [.data], laidTests := true, laidLooks := .later }
def FnExactFirstBadCardSaid : Prop := Claim7.holds Tryd.pinned (.plain (OpenSpec.ofChange fnExactFirstBadSpec)) fnExactFirstBadCard

/-- THE SECOND FORM's CARD OF 'laws.FnAssign'. -/
def fnAssignUptoCard : Claim7 := { stood := { row := fnAssignUptoRow, standIns := [], harness := (true, "839239be4e80eef8685b833789be4d709d38525623f958ac44600255cf5063bf"), looks := true }, kinds := [], alts := [], laidByText := true, laidKinds := [.data, .data, .data, .sentinel, .sentinel], laidTests := true, laidLooks := .later }
def FnAssignUptoCardSaid : Prop := Claim7.holds Tryd.pinned (.plain (OpenSpec.upto fnAssignSpec)) fnAssignUptoCard

/-- THE SECOND FORM's CARD OF 'laws.FnForce'. -/
def fnForceUptoCard : Claim7 := { stood := { row := fnForceUptoRow, standIns := [], harness := (true, "839239be4e80eef8685b833789be4d709d38525623f958ac44600255cf5063bf"), looks := true }, kinds := [], alts := [], laidByText := true, laidKinds := [.data], laidTests := true, laidLooks := .later }
def FnForceUptoCardSaid : Prop := Claim7.holds Tryd.pinned (.plain (OpenSpec.upto fnForceSpec)) fnForceUptoCard

/-- THE SECOND FORM's CARD OF 'laws.FnLeaves'. -/
def fnLeavesUptoCard : Claim7 := { stood := { row := fnLeavesUptoRow, standIns := [], harness := (true, "839239be4e80eef8685b833789be4d709d38525623f958ac44600255cf5063bf"), looks := true }, kinds := [], alts := [], laidByText := true, laidKinds := [.data], laidTests := true, laidLooks := .later }
def FnLeavesUptoCardSaid : Prop := Claim7.holds Tryd.pinned (.plain (OpenSpec.upto fnLeavesSpec)) fnLeavesUptoCard

/-- THE SECOND FORM's CARD OF 'laws.FnRefute'. -/
def fnRefuteUptoCard : Claim7 := { stood := { row := fnRefuteUptoRow, standIns := [], harness := (true, "839239be4e80eef8685b833789be4d709d38525623f958ac44600255cf5063bf"), looks := true }, kinds := [], alts := [], laidByText := true, laidKinds := [.data], laidTests := true, laidLooks := .later }
def FnRefuteUptoCardSaid : Prop := Claim7.holds Tryd.pinned (.plain (OpenSpec.upto fnRefuteSpec)) fnRefuteUptoCard

/-- THE SECOND FORM's CARD OF 'laws.FnCheck'. -/
def fnCheckUptoCard : Claim7 := { stood := { row := fnCheckUptoRow, standIns := [], harness := (true, "839239be4e80eef8685b833789be4d709d38525623f958ac44600255cf5063bf"), looks := true }, kinds := [], alts := [], laidByText := true, laidKinds := [.data], laidTests := true, laidLooks := .later }
def FnCheckUptoCardSaid : Prop := Claim7.holds Tryd.pinned (.plain (OpenSpec.upto fnCheckSpec)) fnCheckUptoCard

/-- THE SECOND FORM's CARD OF 'laws.FnExactReadAssign'. -/
def fnExactReadAssignUptoCard : Claim7 := { stood := { row := fnExactReadAssignUptoRow, standIns := [], harness := (true, "839239be4e80eef8685b833789be4d709d38525623f958ac44600255cf5063bf"), looks := true }, kinds := [], alts := [], laidByText := true, laidKinds := [.data, .data, .data, .sentinel, .sentinel], laidTests := true, laidLooks := .later }
def FnExactReadAssignUptoCardSaid : Prop := Claim7.holds Tryd.pinned (.plain (OpenSpec.upto fnExactReadAssignSpec)) fnExactReadAssignUptoCard

/-- THE SECOND FORM's CARD OF 'laws.FnExactUnit'. -/
def fnExactUnitUptoCard : Claim7 := { stood := { row := fnExactUnitUptoRow, standIns := [], harness := (true, "839239be4e80eef8685b833789be4d709d38525623f958ac44600255cf5063bf"), looks := true }, kinds := [], alts := [], laidByText := true, laidKinds := [.data], laidTests := true, laidLooks := .later }
def FnExactUnitUptoCardSaid : Prop := Claim7.holds Tryd.pinned (.plain (OpenSpec.upto fnExactUnitSpec)) fnExactUnitUptoCard

/-- THE SECOND FORM's CARD OF 'laws.FnExactForce'. -/
def fnExactForceUptoCard : Claim7 := { stood := { row := fnExactForceUptoRow, standIns := [], harness := (true, "839239be4e80eef8685b833789be4d709d38525623f958ac44600255cf5063bf"), looks := true }, kinds := [], alts := [], laidByText := true, laidKinds := [.data], laidTests := true, laidLooks := .later }
def FnExactForceUptoCardSaid : Prop := Claim7.holds Tryd.pinned (.plain (OpenSpec.upto fnExactForceSpec)) fnExactForceUptoCard

/-- THE SECOND FORM's CARD OF 'laws.FnExactLeaves'. -/
def fnExactLeavesUptoCard : Claim7 := { stood := { row := fnExactLeavesUptoRow, standIns := [], harness := (true, "839239be4e80eef8685b833789be4d709d38525623f958ac44600255cf5063bf"), looks := true }, kinds := [], alts := [], laidByText := true, laidKinds := [.data], laidTests := true, laidLooks := .later }
def FnExactLeavesUptoCardSaid : Prop := Claim7.holds Tryd.pinned (.plain (OpenSpec.upto fnExactLeavesSpec)) fnExactLeavesUptoCard

/-- THE SECOND FORM's CARD OF 'laws.FnExactRefute'. -/
def fnExactRefuteUptoCard : Claim7 := { stood := { row := fnExactRefuteUptoRow, standIns := [], harness := (true, "839239be4e80eef8685b833789be4d709d38525623f958ac44600255cf5063bf"), looks := true }, kinds := [], alts := [], laidByText := true, laidKinds := [.data], laidTests := true, laidLooks := .later }
def FnExactRefuteUptoCardSaid : Prop := Claim7.holds Tryd.pinned (.plain (OpenSpec.upto fnExactRefuteSpec)) fnExactRefuteUptoCard

/-- THE SECOND FORM's CARD OF 'laws.FnExactCheck'. -/
def fnExactCheckUptoCard : Claim7 := { stood := { row := fnExactCheckUptoRow, standIns := [], harness := (true, "839239be4e80eef8685b833789be4d709d38525623f958ac44600255cf5063bf"), looks := true }, kinds := [], alts := [], laidByText := true, laidKinds := [.data], laidTests := true, laidLooks := .later }
def FnExactCheckUptoCardSaid : Prop := Claim7.holds Tryd.pinned (.plain (OpenSpec.upto fnExactCheckSpec)) fnExactCheckUptoCard

/-- THE SECOND FORM's CARD OF 'laws.FnExactTrim'. -/
def fnExactTrimUptoCard : Claim7 := { stood := { row := fnExactTrimUptoRow, standIns := [], harness := (true, "839239be4e80eef8685b833789be4d709d38525623f958ac44600255cf5063bf"), looks := true }, kinds := [], alts := [], laidByText := true, laidKinds := [.data], laidTests := true, laidLooks := .later }
def FnExactTrimUptoCardSaid : Prop := Claim7.holds Tryd.pinned (.plain (OpenSpec.upto fnExactTrimSpec)) fnExactTrimUptoCard

/-- THE SECOND FORM's CARD OF 'laws.FnExactFirstBad'. -/
def fnExactFirstBadUptoCard : Claim7 := { stood := { row := fnExactFirstBadUptoRow, standIns := [], harness := (true, "839239be4e80eef8685b833789be4d709d38525623f958ac44600255cf5063bf"), looks := true }, kinds := [], alts := [], laidByText := true, laidKinds := [.data], laidTests := true, laidLooks := .later }
def FnExactFirstBadUptoCardSaid : Prop := Claim7.holds Tryd.pinned (.plain (OpenSpec.upto fnExactFirstBadSpec)) fnExactFirstBadUptoCard
end Rows
end Go.Proofs.YtloenjaonkdlaaaDoor
