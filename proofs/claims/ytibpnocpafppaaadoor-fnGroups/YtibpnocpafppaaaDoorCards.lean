/-
  DERIVED. GIVEN WITH THE SEED: THE CARDS: each row of YtibpnocpafppaaaDoorRows.lean that lists a variable, with what it lists TIED to the program's text (the seventh form; the later family's looks); each row that meets fmt, with fmt's text TOLD by the authors' own Lean function (tested against real Go, not proved from fmt's source: count such statements apart). THE CARD IS WHAT COUNTS. Prove the row's statement (the work); the ties are given (YtibpnocpafppaaaDoorTie.lean); close each card by the builder's one call (the guide's Derived/Test/ToyasCard.lean, 'card_holds'). Laid BY PROGRAM, IN A SANDBOX (cutbox-door.mjs). By AI agents, Wed Nov 11 2026. No macro, syntax, notation, axiom, sorry.
-/
import Derived.Test.YtibpnocpafppaaaDoorRows
import GoSem.ClaimSeven
namespace Go.Proofs.YtibpnocpafppaaaDoor
namespace Rows

/-- THE TIED CARD OF 'laws.FnSubsume'. -/
def fnSubsumeCard : Claim7 := { stood := { row := fnSubsumeRow, standIns := [], harness := (true, "fcf7baaaabdd5946f9ef273744635147fdc4a104f62880e88e7af7b319ed5a60"), looks := false }, kinds := [], alts := [], laidByText := true, laidKinds := [.data], laidTests := true, laidLooks := .later }
def FnSubsumeCardSaid : Prop := Claim7.holds Tryd.pinned (.plain (OpenSpec.ofChange fnSubsumeSpec)) fnSubsumeCard

/-- THE TIED CARD OF 'laws.FnEliminate'. -/
def fnEliminateCard : Claim7 := { stood := { row := fnEliminateRow, standIns := [], harness := (true, "fcf7baaaabdd5946f9ef273744635147fdc4a104f62880e88e7af7b319ed5a60"), looks := false }, kinds := [], alts := [], laidByText := true, laidKinds := [.data], laidTests := true, laidLooks := .later }
def FnEliminateCardSaid : Prop := Claim7.holds Tryd.pinned (.plain (OpenSpec.ofChange fnEliminateSpec)) fnEliminateCard

/-- THE TIED CARD OF 'laws.FnGroups'. -/
def fnGroupsCard : Claim7 := { stood := { row := fnGroupsRow, standIns := [], harness := (true, "fcf7baaaabdd5946f9ef273744635147fdc4a104f62880e88e7af7b319ed5a60"), looks := false }, kinds := [], alts := [], laidByText := true, laidKinds := [.data], laidTests := true, laidLooks := .later }
def FnGroupsCardSaid : Prop := Claim7.holds Tryd.pinned (.plain (OpenSpec.ofChange fnGroupsSpec)) fnGroupsCard

/-- THE TIED CARD OF 'laws.FnHorn'. -/
def fnHornCard : Claim7 := { stood := { row := fnHornRow, standIns := [], harness := (true, "fcf7baaaabdd5946f9ef273744635147fdc4a104f62880e88e7af7b319ed5a60"), looks := false }, kinds := [], alts := [], laidByText := true, laidKinds := [.data], laidTests := true, laidLooks := .later }
def FnHornCardSaid : Prop := Claim7.holds Tryd.pinned (.plain (OpenSpec.ofChange fnHornSpec)) fnHornCard

/-- THE TIED CARD OF 'laws.FnExactEliminate'. -/
def fnExactEliminateCard : Claim7 := { stood := { row := fnExactEliminateRow, standIns := [], harness := (true, "fcf7baaaabdd5946f9ef273744635147fdc4a104f62880e88e7af7b319ed5a60"), looks := false }, kinds := [], alts := [], laidByText := true, laidKinds := [.data], laidTests := true, laidLooks := .later }
def FnExactEliminateCardSaid : Prop := Claim7.holds Tryd.pinned (.plain (OpenSpec.ofChange fnExactEliminateSpec)) fnExactEliminateCard

/-- THE TIED CARD OF 'laws.FnExactGroups'. -/
def fnExactGroupsCard : Claim7 := { stood := { row := fnExactGroupsRow, standIns := [], harness := (true, "fcf7baaaabdd5946f9ef273744635147fdc4a104f62880e88e7af7b319ed5a60"), looks := false }, kinds := [], alts := [], laidByText := true, laidKinds := [.data], laidTests := true, laidLooks := .later }
def FnExactGroupsCardSaid : Prop := Claim7.holds Tryd.pinned (.plain (OpenSpec.ofChange fnExactGroupsSpec)) fnExactGroupsCard

/-- THE SECOND FORM's CARD OF 'laws.FnSubsume'. -/
def fnSubsumeUptoCard : Claim7 := { stood := { row := fnSubsumeUptoRow, standIns := [], harness := (true, "fcf7baaaabdd5946f9ef273744635147fdc4a104f62880e88e7af7b319ed5a60"), looks := false }, kinds := [], alts := [], laidByText := true, laidKinds := [.data], laidTests := true, laidLooks := .later }
def FnSubsumeUptoCardSaid : Prop := Claim7.holds Tryd.pinned (.plain (OpenSpec.upto fnSubsumeSpec)) fnSubsumeUptoCard

/-- THE SECOND FORM's CARD OF 'laws.FnEliminate'. -/
def fnEliminateUptoCard : Claim7 := { stood := { row := fnEliminateUptoRow, standIns := [], harness := (true, "fcf7baaaabdd5946f9ef273744635147fdc4a104f62880e88e7af7b319ed5a60"), looks := false }, kinds := [], alts := [], laidByText := true, laidKinds := [.data], laidTests := true, laidLooks := .later }
def FnEliminateUptoCardSaid : Prop := Claim7.holds Tryd.pinned (.plain (OpenSpec.upto fnEliminateSpec)) fnEliminateUptoCard

/-- THE SECOND FORM's CARD OF 'laws.FnGroups'. -/
def fnGroupsUptoCard : Claim7 := { stood := { row := fnGroupsUptoRow, standIns := [], harness := (true, "fcf7baaaabdd5946f9ef273744635147fdc4a104f62880e88e7af7b319ed5a60"), looks := false }, kinds := [], alts := [], laidByText := true, laidKinds := [.data], laidTests := true, laidLooks := .later }
def FnGroupsUptoCardSaid : Prop := Claim7.holds Tryd.pinned (.plain (OpenSpec.upto fnGroupsSpec)) fnGroupsUptoCard

/-- THE SECOND FORM's CARD OF 'laws.FnHorn'. -/
def fnHornUptoCard : Claim7 := { stood := { row := fnHornUptoRow, standIns := [], harness := (true, "fcf7baaaabdd5946f9ef273744635147fdc4a104f62880e88e7af7b319ed5a60"), looks := false }, kinds := [], alts := [], laidByText := true, laidKinds := [.data], laidTests := true, laidLooks := .later }
def FnHornUptoCardSaid : Prop := Claim7.holds Tryd.pinned (.plain (OpenSpec.upto fnHornSpec)) fnHornUptoCard

/-- THE SECOND FORM's CARD OF 'laws.FnExactEliminate'. -/
def fnExactEliminateUptoCard : Claim7 := { stood := { row := fnExactEliminateUptoRow, standIns := [], harness := (true, "fcf7baaaabdd5946f9ef273744635147fdc4a104f62880e88e7af7b319ed5a60"), looks := false }, kinds := [], alts := [], laidByText := true, laidKinds := [.data], laidTests := true, laidLooks := .later }
def FnExactEliminateUptoCardSaid : Prop := Claim7.holds Tryd.pinned (.plain (OpenSpec.upto fnExactEliminateSpec)) fnExactEliminateUptoCard

/-- THE SECOND FORM's CARD OF 'laws.FnExactGroups'. -/
def fnExactGroupsUptoCard : Claim7 := { stood := { row := fnExactGroupsUptoRow, standIns := [], harness := (true, "fcf7baaaabdd5946f9ef273744635147fdc4a104f62880e88e7af7b319ed5a60"), looks := false }, kinds := [], alts := [], laidByText := true, laidKinds := [.data], laidTests := true, laidLooks := .later }
def FnExactGroupsUptoCardSaid : Prop := Claim7.holds Tryd.pinned (.plain (OpenSpec.upto fnExactGroupsSpec)) fnExactGroupsUptoCard
end Rows
end Go.Proofs.YtibpnocpafppaaaDoor
