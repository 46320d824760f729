/-
  DERIVED. GIVEN WITH THE SEED: THE CARDS: each row of YtabiopkjeodamaaDoorRows.lean that lists a variable, with what it lists TIED to the program's text (the seventh form; the later family's looks); each row that meets fmt, with fmt's text TOLD by the authors' own Lean function (tested against real Go, not proved from fmt's source: count such statements apart). THE CARD IS WHAT COUNTS. Prove the row's statement (the work); the ties are given (YtabiopkjeodamaaDoorTie.lean); close each card by the builder's one call (the guide's Derived/Test/ToyasCard.lean, 'card_holds'). Laid BY PROGRAM, IN A SANDBOX (cutbox-door.mjs). By AI agents, Wed Nov 11 2026. No macro, syntax, notation, axiom, sorry.
-/
import Derived.Test.YtabiopkjeodamaaDoorRows
import GoSem.ClaimSeven
namespace Go.Proofs.YtabiopkjeodamaaDoor
namespace Rows

/-- THE TIED CARD OF 'laws.FnCertText'. -/
def fnCertTextCard : Claim7 := { stood := { row := fnCertTextRow, standIns := [], harness := (true, "fd1cd20ed0f5de71000c15e234fd79c27c55c0c31f34cf6f9ebce4af9e54cc31"), looks := false }, kinds := [], alts := [], laidByText := true, laidKinds := [.data, .pinned], laidTests := true, laidLooks := .later }
def FnCertTextCardSaid : Prop := Claim7.holds Tryd.pinned (.plain (OpenSpec.ofChange fnCertTextSpec)) fnCertTextCard

/-- THE TIED CARD OF 'laws.FnExactAssignText'. -/
def fnExactAssignTextCard : Claim7 := { stood := { row := fnExactAssignTextRow, standIns := [], harness := (true, "fd1cd20ed0f5de71000c15e234fd79c27c55c0c31f34cf6f9ebce4af9e54cc31"), looks := false }, kinds := [], alts := [], laidByText := true, laidKinds := [.data, .data, .data], laidTests := true, laidLooks := .later }
def FnExactAssignTextCardSaid : Prop := Claim7.holds Tryd.pinned (.plain (OpenSpec.ofChange fnExactAssignTextSpec)) fnExactAssignTextCard

/-- THE TIED CARD OF 'laws.FnExactProofText'. -/
def fnExactProofTextCard : Claim7 := { stood := { row := fnExactProofTextRow, standIns := [], harness := (true, "fd1cd20ed0f5de71000c15e234fd79c27c55c0c31f34cf6f9ebce4af9e54cc31"), looks := false }, kinds := [], alts := [], laidByText := true, laidKinds := [.data, .data, .data], laidTests := true, laidLooks := .later }
def FnExactProofTextCardSaid : Prop := Claim7.holds Tryd.pinned (.plain (OpenSpec.ofChange fnExactProofTextSpec)) fnExactProofTextCard

/-- THE TIED CARD OF 'laws.FnExactMacOk'. -/
def fnExactMacOkCard : Claim7 := { stood := { row := fnExactMacOkRow, standIns := [], harness := (true, "fd1cd20ed0f5de71000c15e234fd79c27c55c0c31f34cf6f9ebce4af9e54cc31"), looks := false }, kinds := [], alts := [], laidByText := true, laidKinds := [.data, .data], laidTests := true, laidLooks := .later }
def FnExactMacOkCardSaid : Prop := Claim7.holds Tryd.pinned (.plain (OpenSpec.ofChange fnExactMacOkSpec)) fnExactMacOkCard

/-- THE TIED CARD OF 'laws.FnExactDigest'. -/
def fnExactDigestCard : Claim7 := { stood := { row := fnExactDigestRow, standIns := [], harness := (true, "fd1cd20ed0f5de71000c15e234fd79c27c55c0c31f34cf6f9ebce4af9e54cc31"), looks := false }, kinds := [], alts := [], laidByText := true, laidKinds := [.data, .data, .data, .data, .data], laidTests := true, laidLooks := .later }
def FnExactDigestCardSaid : Prop := Claim7.holds Tryd.pinned (.plain (OpenSpec.ofChange fnExactDigestSpec)) fnExactDigestCard

/-- THE SECOND FORM's CARD OF 'laws.FnCertText'. -/
def fnCertTextUptoCard : Claim7 := { stood := { row := fnCertTextUptoRow, standIns := [], harness := (true, "fd1cd20ed0f5de71000c15e234fd79c27c55c0c31f34cf6f9ebce4af9e54cc31"), looks := false }, kinds := [], alts := [], laidByText := true, laidKinds := [.data, .pinned], laidTests := true, laidLooks := .later }
def FnCertTextUptoCardSaid : Prop := Claim7.holds Tryd.pinned (.plain (OpenSpec.upto fnCertTextSpec)) fnCertTextUptoCard

/-- THE SECOND FORM's CARD OF 'laws.FnExactAssignText'. -/
def fnExactAssignTextUptoCard : Claim7 := { stood := { row := fnExactAssignTextUptoRow, standIns := [], harness := (true, "fd1cd20ed0f5de71000c15e234fd79c27c55c0c31f34cf6f9ebce4af9e54cc31"), looks := false }, kinds := [], alts := [], laidByText := true, laidKinds := [.data, .data, .data], laidTests := true, laidLooks := .later }
def FnExactAssignTextUptoCardSaid : Prop := Claim7.holds Tryd.pinned (.plain (OpenSpec.upto fnExactAssignTextSpec)) fnExactAssignTextUptoCard

/-- THE SECOND FORM's CARD OF 'laws.FnExactProofText'. -/
def fnExactProofTextUptoCard : Claim7 := { stood := { row := fnExactProofTextUptoRow, standIns := [], harness := (true, "fd1cd20ed0f5de71000c15e234fd79c27c55c0c31f34cf6f9ebce4af9e54cc31"), looks := false }, kinds := [], alts := [], laidByText := true, laidKinds := [.data, .data, .data], laidTests := true, laidLooks := .later }
def FnExactProofTextUptoCardSaid : Prop := Claim7.holds Tryd.pinned (.plain (OpenSpec.upto fnExactProofTextSpec)) fnExactProofTextUptoCard

/-- THE SECOND FORM's CARD OF 'laws.FnExactMacOk'. -/
def fnExactMacOkUptoCard : Claim7 := { stood := { row := fnExactMacOkUptoRow, standIns := [], harness := (true, "fd1cd20ed0f5de71000c15e234fd79c27c55c0c31f34cf6f9ebce4af9e54cc31"), looks := false }, kinds := [], alts := [], laidByText := true, laidKinds := [.data, .data], laidTests := true, laidLooks := .later }
def FnExactMacOkUptoCardSaid : Prop := Claim7.holds Tryd.pinned (.plain (OpenSpec.upto fnExactMacOkSpec)) fnExactMacOkUptoCard

/-- THE SECOND FORM's CARD OF 'laws.FnExactDigest'. -/
def fnExactDigestUptoCard : Claim7 := { stood := { row := fnExactDigestUptoRow, standIns := [], harness := (true, "fd1cd20ed0f5de71000c15e234fd79c27c55c0c31f34cf6f9ebce4af9e54cc31"), looks := false }, kinds := [], alts := [], laidByText := true, laidKinds := [.data, .data, .data, .data, .data], laidTests := true, laidLooks := .later }
def FnExactDigestUptoCardSaid : Prop := Claim7.holds Tryd.pinned (.plain (OpenSpec.upto fnExactDigestSpec)) fnExactDigestUptoCard
end Rows
end Go.Proofs.YtabiopkjeodamaaDoor
