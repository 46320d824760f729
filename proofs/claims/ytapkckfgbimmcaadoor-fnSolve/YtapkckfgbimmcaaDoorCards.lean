/-
  DERIVED. GIVEN WITH THE SEED: THE CARDS: each row of YtapkckfgbimmcaaDoorRows.lean that lists a variable, with what it lists TIED to the program's text (the seventh form; the later family's looks); each row that meets fmt, with fmt's text TOLD by the authors' own Lean function (tested against real Go, not proved from fmt's source: count such statements apart). THE CARD IS WHAT COUNTS. Prove the row's statement (the work); the ties are given (YtapkckfgbimmcaaDoorTie.lean); close each card by the builder's one call (the guide's Derived/Test/ToyasCard.lean, 'card_holds'). Laid BY PROGRAM, IN A SANDBOX (cutbox-door.mjs). By AI agents, Wed Nov 11 2026. No macro, syntax, notation, axiom, sorry.
-/
import Derived.Test.YtapkckfgbimmcaaDoorRows
import GoSem.ClaimSeven
namespace Go.Proofs.YtapkckfgbimmcaaDoor
namespace Rows

/-- THE TIED CARD OF 'laws.FnSolve'. -/
def fnSolveCard : Claim7 := { stood := { row := fnSolveRow, standIns := [], harness := (true, "eae5526dfa5af3dafae0cb0b784d4400a13c6eded501a98560cee00a5ba22485"), looks := false }, kinds := [], alts := [], laidByText := true, laidKinds := [.data], laidTests := true, laidLooks := .later }
def FnSolveCardSaid : Prop := Claim7.holds Tryd.pinned (.plain (OpenSpec.ofChange fnSolveSpec)) fnSolveCard

/-- THE TIED CARD OF 'laws.FnAll'. -/
def fnAllCard : Claim7 := { stood := { row := fnAllRow, standIns := [], harness := (true, "eae5526dfa5af3dafae0cb0b784d4400a13c6eded501a98560cee00a5ba22485"), looks := false }, kinds := [], alts := [], laidByText := true, laidKinds := [.data], laidTests := true, laidLooks := .later }
def FnAllCardSaid : Prop := Claim7.holds Tryd.pinned (.plain (OpenSpec.ofChange fnAllSpec)) fnAllCard

/-- THE TIED CARD OF 'laws.FnCore'. -/
def fnCoreCard : Claim7 := { stood := { row := fnCoreRow, standIns := [], harness := (true, "eae5526dfa5af3dafae0cb0b784d4400a13c6eded501a98560cee00a5ba22485"), looks := false }, kinds := [], alts := [], laidByText := true, laidKinds := [.data], laidTests := true, laidLooks := .later }
def FnCoreCardSaid : Prop := Claim7.holds Tryd.pinned (.plain (OpenSpec.ofChange fnCoreSpec)) fnCoreCard

/-- THE TIED CARD OF 'laws.FnBackbone'. -/
def fnBackboneCard : Claim7 := { stood := { row := fnBackboneRow, standIns := [], harness := (true, "eae5526dfa5af3dafae0cb0b784d4400a13c6eded501a98560cee00a5ba22485"), looks := false }, kinds := [], alts := [], laidByText := true, laidKinds := [.data], laidTests := true, laidLooks := .later }
def FnBackboneCardSaid : Prop := Claim7.holds Tryd.pinned (.plain (OpenSpec.ofChange fnBackboneSpec)) fnBackboneCard

/-- THE TIED CARD OF 'laws.FnExactSolve'. -/
def fnExactSolveCard : Claim7 := { stood := { row := fnExactSolveRow, standIns := [], harness := (true, "eae5526dfa5af3dafae0cb0b784d4400a13c6eded501a98560cee00a5ba22485"), looks := false }, kinds := [], alts := [], laidByText := true, laidKinds := [.data], laidTests := true, laidLooks := .later }
def FnExactSolveCardSaid : Prop := Claim7.holds Tryd.pinned (.plain (OpenSpec.ofChange fnExactSolveSpec)) fnExactSolveCard

/-- THE TIED CARD OF 'laws.FnExactSolveWith'. -/
def fnExactSolveWithCard : Claim7 := { stood := { row := fnExactSolveWithRow, standIns := [], harness := (true, "eae5526dfa5af3dafae0cb0b784d4400a13c6eded501a98560cee00a5ba22485"), looks := false }, kinds := [], alts := [], laidByText := true, laidKinds := [.data], laidTests := true, laidLooks := .later }
def FnExactSolveWithCardSaid : Prop := Claim7.holds Tryd.pinned (.plain (OpenSpec.ofChange fnExactSolveWithSpec)) fnExactSolveWithCard

/-- THE TIED CARD OF 'laws.FnExactCore'. -/
def fnExactCoreCard : Claim7 := { stood := { row := fnExactCoreRow, standIns := [], harness := (true, "eae5526dfa5af3dafae0cb0b784d4400a13c6eded501a98560cee00a5ba22485"), looks := false }, kinds := [], alts := [], laidByText := true, laidKinds := [.data], laidTests := true, laidLooks := .later }
def FnExactCoreCardSaid : Prop := Claim7.holds Tryd.pinned (.plain (OpenSpec.ofChange fnExactCoreSpec)) fnExactCoreCard

/-- THE TIED CARD OF 'laws.FnExactNext'. -/
def fnExactNextCard : Claim7 := { stood := { row := fnExactNextRow, standIns := [], harness := (true, "eae5526dfa5af3dafae0cb0b784d4400a13c6eded501a98560cee00a5ba22485"), looks := false }, kinds := [], alts := [], laidByText := true, laidKinds := [.data], laidTests := true, laidLooks := .later }
def FnExactNextCardSaid : Prop := Claim7.holds Tryd.pinned (.plain (OpenSpec.ofChange fnExactNextSpec)) fnExactNextCard

/-- THE TIED CARD OF 'laws.FnExactBackbone'. -/
def fnExactBackboneCard : Claim7 := { stood := { row := fnExactBackboneRow, standIns := [], harness := (true, "eae5526dfa5af3dafae0cb0b784d4400a13c6eded501a98560cee00a5ba22485"), looks := false }, kinds := [], alts := [], laidByText := true, laidKinds := [.data], laidTests := true, laidLooks := .later }
def FnExactBackboneCardSaid : Prop := Claim7.holds Tryd.pinned (.plain (OpenSpec.ofChange fnExactBackboneSpec)) fnExactBackboneCard

/-- THE SECOND FORM's CARD OF 'laws.FnSolve'. -/
def fnSolveUptoCard : Claim7 := { stood := { row := fnSolveUptoRow, standIns := [], harness := (true, "eae5526dfa5af3dafae0cb0b784d4400a13c6eded501a98560cee00a5ba22485"), looks := false }, kinds := [], alts := [], laidByText := true, laidKinds := [.data], laidTests := true, laidLooks := .later }
def FnSolveUptoCardSaid : Prop := Claim7.holds Tryd.pinned (.plain (OpenSpec.upto fnSolveSpec)) fnSolveUptoCard

/-- THE SECOND FORM's CARD OF 'laws.FnAll'. -/
def fnAllUptoCard : Claim7 := { stood := { row := fnAllUptoRow, standIns := [], harness := (true, "eae5526dfa5af3dafae0cb0b784d4400a13c6eded501a98560cee00a5ba22485"), looks := false }, kinds := [], alts := [], laidByText := true, laidKinds := [.data], laidTests := true, laidLooks := .later }
def FnAllUptoCardSaid : Prop := Claim7.holds Tryd.pinned (.plain (OpenSpec.upto fnAllSpec)) fnAllUptoCard

/-- THE SECOND FORM's CARD OF 'laws.FnCore'. -/
def fnCoreUptoCard : Claim7 := { stood := { row := fnCoreUptoRow, standIns := [], harness := (true, "eae5526dfa5af3dafae0cb0b784d4400a13c6eded501a98560cee00a5ba22485"), looks := false }, kinds := [], alts := [], laidByText := true, laidKinds := [.data], laidTests := true, laidLooks := .later }
def FnCoreUptoCardSaid : Prop := Claim7.holds Tryd.pinned (.plain (OpenSpec.upto fnCoreSpec)) fnCoreUptoCard

/-- THE SECOND FORM's CARD OF 'laws.FnBackbone'. -/
def fnBackboneUptoCard : Claim7 := { stood := { row := fnBackboneUptoRow, standIns := [], harness := (true, "eae5526dfa5af3dafae0cb0b784d4400a13c6eded501a98560cee00a5ba22485"), looks := false }, kinds := [], alts := [], laidByText := true, laidKinds := [.data], laidTests := true, laidLooks := .later }
def FnBackboneUptoCardSaid : Prop := Claim7.holds Tryd.pinned (.plain (OpenSpec.upto fnBackboneSpec)) fnBackboneUptoCard

/-- THE SECOND FORM's CARD OF 'laws.FnExactSolve'. -/
def fnExactSolveUptoCard : Claim7 := { stood := { row := fnExactSolveUptoRow, standIns := [], harness := (true, "eae5526dfa5af3dafae0cb0b784d4400a13c6eded501a98560cee00a5ba22485"), looks := false }, kinds := [], alts := [], laidByText := true, laidKinds := [.data], laidTests := true, laidLooks := .later }
def FnExactSolveUptoCardSaid : Prop := Claim7.holds Tryd.pinned (.plain (OpenSpec.upto fnExactSolveSpec)) fnExactSolveUptoCard

/-- THE SECOND FORM's CARD OF 'laws.FnExactSolveWith'. -/
def fnExactSolveWithUptoCard : Claim7 := { stood := { row := fnExactSolveWithUptoRow, standIns := [], harness := (true, "eae5526dfa5af3dafae0cb0b784d4400a13c6eded501a98560cee00a5ba22485"), looks := false }, kinds := [], alts := [], laidByText := true, laidKinds := [.data], laidTests := true, laidLooks := .later }
def FnExactSolveWithUptoCardSaid : Prop := Claim7.holds Tryd.pinned (.plain (OpenSpec.upto fnExactSolveWithSpec)) fnExactSolveWithUptoCard

/-- THE SECOND FORM's CARD OF 'laws.FnExactCore'. -/
def fnExactCoreUptoCard : Claim7 := { stood := { row := fnExactCoreUptoRow, standIns := [], harness := (true, "eae5526dfa5af3dafae0cb0b784d4400a13c6eded501a98560cee00a5ba22485"), looks := false }, kinds := [], alts := [], laidByText := true, laidKinds := [.data], laidTests := true, laidLooks := .later }
def FnExactCoreUptoCardSaid : Prop := Claim7.holds Tryd.pinned (.plain (OpenSpec.upto fnExactCoreSpec)) fnExactCoreUptoCard

/-- THE SECOND FORM's CARD OF 'laws.FnExactNext'. -/
def fnExactNextUptoCard : Claim7 := { stood := { row := fnExactNextUptoRow, standIns := [], harness := (true, "eae5526dfa5af3dafae0cb0b784d4400a13c6eded501a98560cee00a5ba22485"), looks := false }, kinds := [], alts := [], laidByText := true, laidKinds := [.data], laidTests := true, laidLooks := .later }
def FnExactNextUptoCardSaid : Prop := Claim7.holds Tryd.pinned (.plain (OpenSpec.upto fnExactNextSpec)) fnExactNextUptoCard

/-- THE SECOND FORM's CARD OF 'laws.FnExactBackbone'. -/
def fnExactBackboneUptoCard : Claim7 := { stood := { row := fnExactBackboneUptoRow, standIns := [], harness := (true, "eae5526dfa5af3dafae0cb0b784d4400a13c6eded501a98560cee00a5ba22485"), looks := false }, kinds := [], alts := [], laidByText := true, laidKinds := [.data], laidTests := true, laidLooks := .later }
def FnExactBackboneUptoCardSaid : Prop := Claim7.holds Tryd.pinned (.plain (OpenSpec.upto fnExactBackboneSpec)) fnExactBackboneUptoCard
end Rows
end Go.Proofs.YtapkckfgbimmcaaDoor
