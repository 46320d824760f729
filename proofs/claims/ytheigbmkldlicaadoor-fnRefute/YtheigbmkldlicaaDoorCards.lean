/-
  DERIVED. GIVEN WITH THE SEED: THE CARDS: each row of YtheigbmkldlicaaDoorRows.lean that lists a variable, with what it lists TIED to the program's text (the seventh form; the later family's looks); each row that meets fmt, with fmt's text TOLD by the authors' own Lean function (tested against real Go, not proved from fmt's source: count such statements apart). THE CARD IS WHAT COUNTS. Prove the row's statement (the work); the ties are given (YtheigbmkldlicaaDoorTie.lean); close each card by the builder's one call (the guide's Derived/Test/ToyasCard.lean, 'card_holds'). Laid BY PROGRAM, IN A SANDBOX (cutbox-door.mjs). By AI agents, Wed Nov 11 2026. No macro, syntax, notation, axiom, sorry.
-/
import Derived.Test.YtheigbmkldlicaaDoorRows
import GoSem.ClaimSeven
namespace Go.Proofs.YtheigbmkldlicaaDoor
namespace Rows

/-- THE TIED CARD OF 'laws.FnRefute'. -/
def fnRefuteCard : Claim7 := { stood := { row := fnRefuteRow, standIns := [], harness := (true, "d5a70a720686569bacaf142bce8378f2e807df1a29b328152470491d62721dc8"), looks := false }, kinds := [], alts := [], laidByText := true, laidKinds := [.data], laidTests := true, laidLooks := .later }
def FnRefuteCardSaid : Prop := Claim7.holds Tryd.pinned (.plain (OpenSpec.ofChange fnRefuteSpec)) fnRefuteCard

/-- THE TIED CARD OF 'laws.FnCheck'. -/
def fnCheckCard : Claim7 := { stood := { row := fnCheckRow, standIns := [], harness := (true, "d5a70a720686569bacaf142bce8378f2e807df1a29b328152470491d62721dc8"), looks := false }, kinds := [], alts := [], laidByText := true, laidKinds := [.data], laidTests := true, laidLooks := .later }
def FnCheckCardSaid : Prop := Claim7.holds Tryd.pinned (.plain (OpenSpec.ofChange fnCheckSpec)) fnCheckCard

/-- THE TIED CARD OF 'laws.FnCertText'. -/
def fnCertTextCard : Claim7 := { stood := { row := fnCertTextRow, standIns := [], harness := (true, "d5a70a720686569bacaf142bce8378f2e807df1a29b328152470491d62721dc8"), looks := false }, kinds := [], alts := [], laidByText := true, laidKinds := [.data, .pinned], laidTests := true, laidLooks := .later }
def FnCertTextCardSaid : Prop := Claim7.holds Tryd.pinned (.plain (OpenSpec.ofChange fnCertTextSpec)) fnCertTextCard

/-- THE TIED CARD OF 'laws.FnExactRefute'. -/
def fnExactRefuteCard : Claim7 := { stood := { row := fnExactRefuteRow, standIns := [], harness := (true, "d5a70a720686569bacaf142bce8378f2e807df1a29b328152470491d62721dc8"), looks := false }, kinds := [], alts := [], laidByText := true, laidKinds := [.data], laidTests := true, laidLooks := .later }
def FnExactRefuteCardSaid : Prop := Claim7.holds Tryd.pinned (.plain (OpenSpec.ofChange fnExactRefuteSpec)) fnExactRefuteCard

/-- THE TIED CARD OF 'laws.FnExactCheck'. -/
def fnExactCheckCard : Claim7 := { stood := { row := fnExactCheckRow, standIns := [], harness := (true, "d5a70a720686569bacaf142bce8378f2e807df1a29b328152470491d62721dc8"), looks := false }, kinds := [], alts := [], laidByText := true, laidKinds := [.data], laidTests := true, laidLooks := .later }
def FnExactCheckCardSaid : Prop := Claim7.holds Tryd.pinned (.plain (OpenSpec.ofChange fnExactCheckSpec)) fnExactCheckCard

/-- THE TIED CARD OF 'laws.FnExactTrim'. -/
def fnExactTrimCard : Claim7 := { stood := { row := fnExactTrimRow, standIns := [], harness := (true, "d5a70a720686569bacaf142bce8378f2e807df1a29b328152470491d62721dc8"), looks := false }, kinds := [], alts := [], laidByText := true, laidKinds := [.data], laidTests := true, laidLooks := .later }
def FnExactTrimCardSaid : Prop := Claim7.holds Tryd.pinned (.plain (OpenSpec.ofChange fnExactTrimSpec)) fnExactTrimCard

/-- THE TIED CARD OF 'laws.FnExactFirstBad'. -/
def fnExactFirstBadCard : Claim7 := { stood := { row := fnExactFirstBadRow, standIns := [], harness := (true, "d5a70a720686569bacaf142bce8378f2e807df1a29b328152470491d62721dc8"), looks := false }, kinds := [], alts := [], laidByText := true, laidKinds := [.data], laidTests := true, laidLooks := .later }
def FnExactFirstBadCardSaid : Prop := Claim7.holds Tryd.pinned (.plain (OpenSpec.ofChange fnExactFirstBadSpec)) fnExactFirstBadCard

/-- THE TIED CARD OF 'laws.FnExactDigest'. -/
def fnExactDigestCard : Claim7 := { stood := { row := fnExactDigestRow, standIns := [], harness := (true, "d5a70a720686569bacaf142bce8378f2e807df1a29b328152470491d62721dc8"), looks := false }, kinds := [], alts := [], laidByText := true, laidKinds := [.data, .data, .data, .data, .data], laidTests := true, laidLooks := .later }
def FnExactDigestCardSaid : Prop := Claim7.holds Tryd.pinned (.plain (OpenSpec.ofChange fnExactDigestSpec)) fnExactDigestCard

/-- THE TIED CARD OF 'laws.FnExactReadCert'. -/
def fnExactReadCertCard : Claim7 := { stood := { row := fnExactReadCertRow, standIns := [], harness := (true, "d5a70a720686569bacaf142bce8378f2e807df1a29b328152470491d62721dc8"), looks := false }, kinds := [], alts := [], laidByText := true, laidKinds := [.data, .pinned], laidTests := true, laidLooks := .later }
def FnExactReadCertCardSaid : Prop := Claim7.holds Tryd.pinned (.plain (OpenSpec.ofChange fnExactReadCertSpec)) fnExactReadCertCard

/-- THE SECOND FORM's CARD OF 'laws.FnRefute'. -/
def fnRefuteUptoCard : Claim7 := { stood := { row := fnRefuteUptoRow, standIns := [], harness := (true, "d5a70a720686569bacaf142bce8378f2e807df1a29b328152470491d62721dc8"), looks := false }, kinds := [], alts := [], laidByText := true, laidKinds := [.data], laidTests := true, laidLooks := .later }
def FnRefuteUptoCardSaid : Prop := Claim7.holds Tryd.pinned (.plain (OpenSpec.upto fnRefuteSpec)) fnRefuteUptoCard

/-- THE SECOND FORM's CARD OF 'laws.FnCheck'. -/
def fnCheckUptoCard : Claim7 := { stood := { row := fnCheckUptoRow, standIns := [], harness := (true, "d5a70a720686569bacaf142bce8378f2e807df1a29b328152470491d62721dc8"), looks := false }, kinds := [], alts := [], laidByText := true, laidKinds := [.data], laidTests := true, laidLooks := .later }
def FnCheckUptoCardSaid : Prop := Claim7.holds Tryd.pinned (.plain (OpenSpec.upto fnCheckSpec)) fnCheckUptoCard

/-- THE SECOND FORM's CARD OF 'laws.FnCertText'. -/
def fnCertTextUptoCard : Claim7 := { stood := { row := fnCertTextUptoRow, standIns := [], harness := (true, "d5a70a720686569bacaf142bce8378f2e807df1a29b328152470491d62721dc8"), looks := false }, kinds := [], alts := [], laidByText := true, laidKinds := [.data, .pinned], laidTests := true, laidLooks := .later }
def FnCertTextUptoCardSaid : Prop := Claim7.holds Tryd.pinned (.plain (OpenSpec.upto fnCertTextSpec)) fnCertTextUptoCard

/-- THE SECOND FORM's CARD OF 'laws.FnExactRefute'. -/
def fnExactRefuteUptoCard : Claim7 := { stood := { row := fnExactRefuteUptoRow, standIns := [], harness := (true, "d5a70a720686569bacaf142bce8378f2e807df1a29b328152470491d62721dc8"), looks := false }, kinds := [], alts := [], laidByText := true, laidKinds := [.data], laidTests := true, laidLooks := .later }
def FnExactRefuteUptoCardSaid : Prop := Claim7.holds Tryd.pinned (.plain (OpenSpec.upto fnExactRefuteSpec)) fnExactRefuteUptoCard

/-- THE SECOND FORM's CARD OF 'laws.FnExactCheck'. -/
def fnExactCheckUptoCard : Claim7 := { stood := { row := fnExactCheckUptoRow, standIns := [], harness := (true, "d5a70a720686569bacaf142bce8378f2e807df1a29b328152470491d62721dc8"), looks := false }, kinds := [], alts := [], laidByText := true, laidKinds := [.data], laidTests := true, laidLooks := .later }
def FnExactCheckUptoCardSaid : Prop := Claim7.holds Tryd.pinned (.plain (OpenSpec.upto fnExactCheckSpec)) fnExactCheckUptoCard

/-- THE SECOND FORM's CARD OF 'laws.FnExactTrim'. -/
def fnExactTrimUptoCard : Claim7 := { stood := { row := fnExactTrimUptoRow, standIns := [], harness := (true, "d5a70a720686569bacaf142bce8378f2e807df1a29b328152470491d62721dc8"), looks := false }, kinds := [], alts := [], laidByText := true, laidKinds := [.data], laidTests := true, laidLooks := .later }
def FnExactTrimUptoCardSaid : Prop := Claim7.holds Tryd.pinned (.plain (OpenSpec.upto fnExactTrimSpec)) fnExactTrimUptoCard

/-- THE SECOND FORM's CARD OF 'laws.FnExactFirstBad'. -/
def fnExactFirstBadUptoCard : Claim7 := { stood := { row := fnExactFirstBadUptoRow, standIns := [], harness := (true, "d5a70a720686569bacaf142bce8378f2e807df1a29b328152470491d62721dc8"), looks := false }, kinds := [], alts := [], laidByText := true, laidKinds := [.data], laidTests := true, laidLooks := .later }
def FnExactFirstBadUptoCardSaid : Prop := Claim7.holds Tryd.pinned (.plain (OpenSpec.upto fnExactFirstBadSpec)) fnExactFirstBadUptoCard

/-- THE SECOND FORM's CARD OF 'laws.FnExactDigest'. -/
def fnExactDigestUptoCard : Claim7 := { stood := { row := fnExactDigestUptoRow, standIns := [], harness := (true, "d5a70a720686569bacaf142bce8378f2e807df1a29b328152470491d62721dc8"), looks := false }, kinds := [], alts := [], laidByText := true, laidKinds := [.data, .data, .data, .data, .data], laidTests := true, laidLooks := .later }
def FnExactDigestUptoCardSaid : Prop := Claim7.holds Tryd.pinned (.plain (OpenSpec.upto fnExactDigestSpec)) fnExactDigestUptoCard

/-- THE SECOND FORM's CARD OF 'laws.FnExactReadCert'. -/
def fnExactReadCertUptoCard : Claim7 := { stood := { row := fnExactReadCertUptoRow, standIns := [], harness := (true, "d5a70a720686569bacaf142bce8378f2e807df1a29b328152470491d62721dc8"), looks := false }, kinds := [], alts := [], laidByText := true, laidKinds := [.data, .pinned], laidTests := true, laidLooks := .later }
def FnExactReadCertUptoCardSaid : Prop := Claim7.holds Tryd.pinned (.plain (OpenSpec.upto fnExactReadCertSpec)) fnExactReadCertUptoCard
end Rows
end Go.Proofs.YtheigbmkldlicaaDoor
