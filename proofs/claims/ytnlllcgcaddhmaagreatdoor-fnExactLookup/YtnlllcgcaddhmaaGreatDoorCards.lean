/-
  DERIVED. GIVEN WITH THE SEED: THE CARDS: each row of YtnlllcgcaddhmaaGreatDoorRows.lean that lists a variable, with what it lists TIED to the program's text (the seventh form; the later family's looks); each row that meets fmt, with fmt's text TOLD by the authors' own Lean function (tested against real Go, not proved from fmt's source: count such statements apart). THE CARD IS WHAT COUNTS. Prove the row's statement (the work); the ties are given (YtnlllcgcaddhmaaGreatDoorTie.lean); close each card by the builder's one call (the guide's Derived/Test/ToyasCard.lean, 'card_holds'). Laid BY PROGRAM, IN A SANDBOX (cutbox-door.mjs). By AI agents, Wed Nov 11 2026. No macro, syntax, notation, axiom, sorry.
-/
import Derived.Test.YtnlllcgcaddhmaaGreatDoorRows
import GoSem.ClaimSeven
namespace Go.Proofs.YtnlllcgcaddhmaaGreatDoor
namespace Rows

/-- THE TIED CARD OF 'laws.FnLookup'. -/
def fnLookupCard : Claim7 := { stood := { row := fnLookupRow, standIns := [], harness := (true, "39ede4051fdb8b81c74afb0a5eea5c83b539b99bf2a483b0ebfc6c4257058c98"), looks := false }, kinds := [], alts := [], laidByText := true, laidKinds := [.data, .data, .data, .data, .data], laidTests := true, laidLooks := .later }
def FnLookupCardSaid : Prop := Claim7.holds Tryz.pinned (.plain (OpenSpec.ofChange fnLookupSpec)) fnLookupCard

/-- THE TIED CARD OF 'laws.FnExactLookup'. -/
def fnExactLookupCard : Claim7 := { stood := { row := fnExactLookupRow, standIns := [], harness := (true, "39ede4051fdb8b81c74afb0a5eea5c83b539b99bf2a483b0ebfc6c4257058c98"), looks := false }, kinds := [], alts := [], laidByText := true, laidKinds := [.data, .data, .data, .data, .data], laidTests := true, laidLooks := .later }
def FnExactLookupCardSaid : Prop := Claim7.holds Tryz.pinned (.plain (OpenSpec.ofChange fnExactLookupSpec)) fnExactLookupCard

/-- THE SECOND FORM's CARD OF 'laws.FnLookup'. -/
def fnLookupUptoCard : Claim7 := { stood := { row := fnLookupUptoRow, standIns := [], harness := (true, "39ede4051fdb8b81c74afb0a5eea5c83b539b99bf2a483b0ebfc6c4257058c98"), looks := false }, kinds := [], alts := [], laidByText := true, laidKinds := [.data, .data, .data, .data, .data], laidTests := true, laidLooks := .later }
def FnLookupUptoCardSaid : Prop := Claim7.holds Tryz.pinned (.plain (OpenSpec.upto fnLookupSpec)) fnLookupUptoCard

/-- THE SECOND FORM's CARD OF 'laws.FnExactLookup'. -/
def fnExactLookupUptoCard : Claim7 := { stood := { row := fnExactLookupUptoRow, standIns := [], harness := (true, "39ede4051fdb8b81c74afb0a5eea5c83b539b99bf2a483b0ebfc6c4257058c98"), looks := false }, kinds := [], alts := [], laidByText := true, laidKinds := [.data, .data, .data, .data, .data], laidTests := true, laidLooks := .later }
def FnExactLookupUptoCardSaid : Prop := Claim7.holds Tryz.pinned (.plain (OpenSpec.upto fnExactLookupSpec)) fnExactLookupUptoCard
end Rows
end Go.Proofs.YtnlllcgcaddhmaaGreatDoor
