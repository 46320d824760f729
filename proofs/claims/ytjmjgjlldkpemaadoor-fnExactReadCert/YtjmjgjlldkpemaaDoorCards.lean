/-
  DERIVED. GIVEN WITH THE SEED: THE CARDS: each row of YtjmjgjlldkpemaaDoorRows.lean that lists a variable, with what it lists TIED to the program's text (the seventh form; the later family's looks); each row that meets fmt, with fmt's text TOLD by the authors' own Lean function (tested against real Go, not proved from fmt's source: count such statements apart). THE CARD IS WHAT COUNTS. Prove the row's statement (the work); the ties are given (YtjmjgjlldkpemaaDoorTie.lean); close each card by the builder's one call (the guide's Derived/Test/ToyasCard.lean, 'card_holds'). Laid BY PROGRAM, IN A SANDBOX (cutbox-door.mjs). By AI agents, Wed Nov 11 2026. No macro, syntax, notation, axiom, sorry.
-/
import Derived.Test.YtjmjgjlldkpemaaDoorRows
import GoSem.ClaimSeven
namespace Go.Proofs.YtjmjgjlldkpemaaDoor
namespace Rows

/-- THE TIED CARD OF 'laws.FnCheck'. -/
def fnCheckCard : Claim7 := { stood := { row := fnCheckRow, standIns := [], harness := (true, "f8a0edc0e83110e87a3e5fd34e0cc7ee507022ce12834c2edae1fd273a28c83e"), looks := false }, kinds := [], alts := [], laidByText := true, laidKinds := [.data], laidTests := true, laidLooks := .later }
def FnCheckCardSaid : Prop := Claim7.holds Tryd.pinned (.plain (OpenSpec.ofChange fnCheckSpec)) fnCheckCard

/-- THE TIED CARD OF 'laws.FnCertText'. -/
def fnCertTextCard : Claim7 := { stood := { row := fnCertTextRow, standIns := [], harness := (true, "f8a0edc0e83110e87a3e5fd34e0cc7ee507022ce12834c2edae1fd273a28c83e"), looks := false }, kinds := [], alts := [], laidByText := true, laidKinds := [.data, .pinned], laidTests := true, laidLooks := .later }
def FnCertTextCardSaid : Prop := Claim7.holds Tryd.pinned (.plain (OpenSpec.ofChange fnCertTextSpec)) fnCertTextCard

/-- THE TIED CARD OF 'laws.FnExactReadCert'. -/
def fnExactReadCertCard : Claim7 := { stood := { row := fnExactReadCertRow, standIns := [], harness := (true, "f8a0edc0e83110e87a3e5fd34e0cc7ee507022ce12834c2edae1fd273a28c83e"), looks := false }, kinds := [], alts := [], laidByText := true, laidKinds := [.data, .pinned], laidTests := true, laidLooks := .later }
def FnExactReadCertCardSaid : Prop := Claim7.holds Tryd.pinned (.plain (OpenSpec.ofChange fnExactReadCertSpec)) fnExactReadCertCard

/-- THE SECOND FORM's CARD OF 'laws.FnCheck'. -/
def fnCheckUptoCard : Claim7 := { stood := { row := fnCheckUptoRow, standIns := [], harness := (true, "f8a0edc0e83110e87a3e5fd34e0cc7ee507022ce12834c2edae1fd273a28c83e"), looks := false }, kinds := [], alts := [], laidByText := true, laidKinds := [.data], laidTests := true, laidLooks := .later }
def FnCheckUptoCardSaid : Prop := Claim7.holds Tryd.pinned (.plain (OpenSpec.upto fnCheckSpec)) fnCheckUptoCard

/-- THE SECOND FORM's CARD OF 'laws.FnCertText'. -/
def fnCertTextUptoCard : Claim7 := { stood := { row := fnCertTextUptoRow, standIns := [], harness := (true, "f8a0edc0e83110e87a3e5fd34e0cc7ee507022ce12834c2edae1fd273a28c83e"), looks := false }, kinds := [], alts := [], laidByText := true, laidKinds := [.data, .pinned], laidTests := true, laidLooks := .later }
def FnCertTextUptoCardSaid : Prop := Claim7.holds Tryd.pinned (.plain (OpenSpec.upto fnCertTextSpec)) fnCertTextUptoCard

/-- THE SECOND FORM's CARD OF 'laws.FnExactReadCert'. -/
def fnExactReadCertUptoCard : Claim7 := { stood := { row := fnExactReadCertUptoRow, standIns := [], harness := (true, "f8a0edc0e83110e87a3e5fd34e0cc7ee507022ce12834c2edae1fd273a28c83e"), looks := false }, kinds := [], alts := [], laidByText := true, laidKinds := [.data, .pinned], laidTests := true, laidLooks := .later }
def FnExactReadCertUptoCardSaid : Prop := Claim7.holds Tryd.pinned (.plain (OpenSpec.upto fnExactReadCertSpec)) fnExactReadCertUptoCard
end Rows
end Go.Proofs.YtjmjgjlldkpemaaDoor
