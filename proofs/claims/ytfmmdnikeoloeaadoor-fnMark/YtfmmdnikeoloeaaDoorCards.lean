/-
  DERIVED. GIVEN WITH THE SEED: THE CARDS: each row of YtfmmdnikeoloeaaDoorRows.lean that lists a variable, with what it lists TIED to the program's text (the seventh form; the later family's looks); each row that meets fmt, with fmt's text TOLD by the authors' own Lean function (tested against real Go, not proved from fmt's source: count such statements apart). THE CARD IS WHAT COUNTS. Prove the row's statement (the work); the ties are given (YtfmmdnikeoloeaaDoorTie.lean); close each card by the builder's one call (the guide's Derived/Test/ToyasCard.lean, 'card_holds'). Laid BY PROGRAM, IN A SANDBOX (cutbox-door.mjs). By AI agents, Wed Nov 11 2026. No macro, syntax, notation, axiom, sorry.
-/
import Derived.Test.YtfmmdnikeoloeaaDoorRows
import GoSem.ClaimSeven
namespace Go.Proofs.YtfmmdnikeoloeaaDoor
namespace Rows

/-- THE TIED CARD OF 'laws.FnSum'. -/
def fnSumCard : Claim7 := { stood := { row := fnSumRow, standIns := [], harness := (true, "0d4e1bc30f88072bbe78b743eb8f1768af94ac74286f9ba1f9b9d774db56c6d2"), looks := false }, kinds := [], alts := [], laidByText := true, laidKinds := [.data, .data], laidTests := true, laidLooks := .later }
def FnSumCardSaid : Prop := Claim7.holds Tryd.pinned (.plain (OpenSpec.ofChange fnSumSpec)) fnSumCard

/-- THE TIED CARD OF 'laws.FnMark'. -/
def fnMarkCard : Claim7 := { stood := { row := fnMarkRow, standIns := [], harness := (true, "0d4e1bc30f88072bbe78b743eb8f1768af94ac74286f9ba1f9b9d774db56c6d2"), looks := false }, kinds := [], alts := [], laidByText := true, laidKinds := [.data, .data], laidTests := true, laidLooks := .later }
def FnMarkCardSaid : Prop := Claim7.holds Tryd.pinned (.plain (OpenSpec.ofChange fnMarkSpec)) fnMarkCard

/-- THE TIED CARD OF 'laws.FnExactSumConst'. -/
def fnExactSumConstCard : Claim7 := { stood := { row := fnExactSumConstRow, standIns := [], harness := (true, "0d4e1bc30f88072bbe78b743eb8f1768af94ac74286f9ba1f9b9d774db56c6d2"), looks := false }, kinds := [], alts := [], laidByText := true, laidKinds := [.data], laidTests := true, laidLooks := .later }
def FnExactSumConstCardSaid : Prop := Claim7.holds Tryd.pinned (.plain (OpenSpec.ofChange fnExactSumConstSpec)) fnExactSumConstCard

/-- THE TIED CARD OF 'laws.FnExactSumStart'. -/
def fnExactSumStartCard : Claim7 := { stood := { row := fnExactSumStartRow, standIns := [], harness := (true, "0d4e1bc30f88072bbe78b743eb8f1768af94ac74286f9ba1f9b9d774db56c6d2"), looks := false }, kinds := [], alts := [], laidByText := true, laidKinds := [.data], laidTests := true, laidLooks := .later }
def FnExactSumStartCardSaid : Prop := Claim7.holds Tryd.pinned (.plain (OpenSpec.ofChange fnExactSumStartSpec)) fnExactSumStartCard

/-- THE TIED CARD OF 'laws.FnExactSumBlock'. -/
def fnExactSumBlockCard : Claim7 := { stood := { row := fnExactSumBlockRow, standIns := [], harness := (true, "0d4e1bc30f88072bbe78b743eb8f1768af94ac74286f9ba1f9b9d774db56c6d2"), looks := false }, kinds := [], alts := [], laidByText := true, laidKinds := [.data], laidTests := true, laidLooks := .later }
def FnExactSumBlockCardSaid : Prop := Claim7.holds Tryd.pinned (.plain (OpenSpec.ofChange fnExactSumBlockSpec)) fnExactSumBlockCard

/-- THE TIED CARD OF 'laws.FnExactSum'. -/
def fnExactSumCard : Claim7 := { stood := { row := fnExactSumRow, standIns := [], harness := (true, "0d4e1bc30f88072bbe78b743eb8f1768af94ac74286f9ba1f9b9d774db56c6d2"), looks := false }, kinds := [], alts := [], laidByText := true, laidKinds := [.data, .data], laidTests := true, laidLooks := .later }
def FnExactSumCardSaid : Prop := Claim7.holds Tryd.pinned (.plain (OpenSpec.ofChange fnExactSumSpec)) fnExactSumCard

/-- THE TIED CARD OF 'laws.FnExactMac'. -/
def fnExactMacCard : Claim7 := { stood := { row := fnExactMacRow, standIns := [], harness := (true, "0d4e1bc30f88072bbe78b743eb8f1768af94ac74286f9ba1f9b9d774db56c6d2"), looks := false }, kinds := [], alts := [], laidByText := true, laidKinds := [.data, .data], laidTests := true, laidLooks := .later }
def FnExactMacCardSaid : Prop := Claim7.holds Tryd.pinned (.plain (OpenSpec.ofChange fnExactMacSpec)) fnExactMacCard

/-- THE TIED CARD OF 'laws.FnExactMacOk'. -/
def fnExactMacOkCard : Claim7 := { stood := { row := fnExactMacOkRow, standIns := [], harness := (true, "0d4e1bc30f88072bbe78b743eb8f1768af94ac74286f9ba1f9b9d774db56c6d2"), looks := false }, kinds := [], alts := [], laidByText := true, laidKinds := [.data, .data], laidTests := true, laidLooks := .later }
def FnExactMacOkCardSaid : Prop := Claim7.holds Tryd.pinned (.plain (OpenSpec.ofChange fnExactMacOkSpec)) fnExactMacOkCard

/-- THE SECOND FORM's CARD OF 'laws.FnSum'. -/
def fnSumUptoCard : Claim7 := { stood := { row := fnSumUptoRow, standIns := [], harness := (true, "0d4e1bc30f88072bbe78b743eb8f1768af94ac74286f9ba1f9b9d774db56c6d2"), looks := false }, kinds := [], alts := [], laidByText := true, laidKinds := [.data, .data], laidTests := true, laidLooks := .later }
def FnSumUptoCardSaid : Prop := Claim7.holds Tryd.pinned (.plain (OpenSpec.upto fnSumSpec)) fnSumUptoCard

/-- THE SECOND FORM's CARD OF 'laws.FnMark'. -/
def fnMarkUptoCard : Claim7 := { stood := { row := fnMarkUptoRow, standIns := [], harness := (true, "0d4e1bc30f88072bbe78b743eb8f1768af94ac74286f9ba1f9b9d774db56c6d2"), looks := false }, kinds := [], alts := [], laidByText := true, laidKinds := [.data, .data], laidTests := true, laidLooks := .later }
def FnMarkUptoCardSaid : Prop := Claim7.holds Tryd.pinned (.plain (OpenSpec.upto fnMarkSpec)) fnMarkUptoCard

/-- THE SECOND FORM's CARD OF 'laws.FnExactSumConst'. -/
def fnExactSumConstUptoCard : Claim7 := { stood := { row := fnExactSumConstUptoRow, standIns := [], harness := (true, "0d4e1bc30f88072bbe78b743eb8f1768af94ac74286f9ba1f9b9d774db56c6d2"), looks := false }, kinds := [], alts := [], laidByText := true, laidKinds := [.data], laidTests := true, laidLooks := .later }
def FnExactSumConstUptoCardSaid : Prop := Claim7.holds Tryd.pinned (.plain (OpenSpec.upto fnExactSumConstSpec)) fnExactSumConstUptoCard

/-- THE SECOND FORM's CARD OF 'laws.FnExactSumStart'. -/
def fnExactSumStartUptoCard : Claim7 := { stood := { row := fnExactSumStartUptoRow, standIns := [], harness := (true, "0d4e1bc30f88072bbe78b743eb8f1768af94ac74286f9ba1f9b9d774db56c6d2"), looks := false }, kinds := [], alts := [], laidByText := true, laidKinds := [.data], laidTests := true, laidLooks := .later }
def FnExactSumStartUptoCardSaid : Prop := Claim7.holds Tryd.pinned (.plain (OpenSpec.upto fnExactSumStartSpec)) fnExactSumStartUptoCard

/-- THE SECOND FORM's CARD OF 'laws.FnExactSumBlock'. -/
def fnExactSumBlockUptoCard : Claim7 := { stood := { row := fnExactSumBlockUptoRow, standIns := [], harness := (true, "0d4e1bc30f88072bbe78b743eb8f1768af94ac74286f9ba1f9b9d774db56c6d2"), looks := false }, kinds := [], alts := [], laidByText := true, laidKinds := [.data], laidTests := true, laidLooks := .later }
def FnExactSumBlockUptoCardSaid : Prop := Claim7.holds Tryd.pinned (.plain (OpenSpec.upto fnExactSumBlockSpec)) fnExactSumBlockUptoCard

/-- THE SECOND FORM's CARD OF 'laws.FnExactSum'. -/
def fnExactSumUptoCard : Claim7 := { stood := { row := fnExactSumUptoRow, standIns := [], harness := (true, "0d4e1bc30f88072bbe78b743eb8f1768af94ac74286f9ba1f9b9d774db56c6d2"), looks := false }, kinds := [], alts := [], laidByText := true, laidKinds := [.data, .data], laidTests := true, laidLooks := .later }
def FnExactSumUptoCardSaid : Prop := Claim7.holds Tryd.pinned (.plain (OpenSpec.upto fnExactSumSpec)) fnExactSumUptoCard

/-- THE SECOND FORM's CARD OF 'laws.FnExactMac'. -/
def fnExactMacUptoCard : Claim7 := { stood := { row := fnExactMacUptoRow, standIns := [], harness := (true, "0d4e1bc30f88072bbe78b743eb8f1768af94ac74286f9ba1f9b9d774db56c6d2"), looks := false }, kinds := [], alts := [], laidByText := true, laidKinds := [.data, .data], laidTests := true, laidLooks := .later }
def FnExactMacUptoCardSaid : Prop := Claim7.holds Tryd.pinned (.plain (OpenSpec.upto fnExactMacSpec)) fnExactMacUptoCard

/-- THE SECOND FORM's CARD OF 'laws.FnExactMacOk'. -/
def fnExactMacOkUptoCard : Claim7 := { stood := { row := fnExactMacOkUptoRow, standIns := [], harness := (true, "0d4e1bc30f88072bbe78b743eb8f1768af94ac74286f9ba1f9b9d774db56c6d2"), looks := false }, kinds := [], alts := [], laidByText := true, laidKinds := [.data, .data], laidTests := true, laidLooks := .later }
def FnExactMacOkUptoCardSaid : Prop := Claim7.holds Tryd.pinned (.plain (OpenSpec.upto fnExactMacOkSpec)) fnExactMacOkUptoCard
end Rows
end Go.Proofs.YtfmmdnikeoloeaaDoor
