/- The constants of sums: the program's tables (package-level variables) and the model's; no condition but that the variables lie as their text lays them. -/
import Derived.Test.YtheigbmkldlicaaDoorZs
import Derived.Test.YtheigbmkldlicaaDoorZa
import Derived.Lib.LaidTab
namespace Go.Proofs.YtheigbmkldlicaaDoor.zk
open Go.ChangeShapes Go.WideShapes Go.ChangeAt Go.RowKit
open Go.Proofs.YtheigbmkldlicaaDoor.sl (hide unhide ret_int ret_bool grown_refl grown_trans grown_drewN)
open Go.Proofs.YtheigbmkldlicaaDoor.zs (ints Made)
set_option linter.unusedVariables false

def kL : List Int := [1116352408, 1899447441, 3049323471, 3921009573, 961987163, 1508970993, 2453635748, 2870763221, 3624381080, 310598401, 607225278, 1426881987, 1925078388, 2162078206, 2614888103, 3248222580, 3835390401, 4022224774, 264347078, 604807628, 770255983, 1249150122, 1555081692, 1996064986, 2554220882, 2821834349, 2952996808, 3210313671, 3336571891, 3584528711, 113926993, 338241895, 666307205, 773529912, 1294757372, 1396182291, 1695183700, 1986661051, 2177026350, 2456956037, 2730485921, 2820302411, 3259730800, 3345764771, 3516065817, 3600352804, 4094571909, 275423344, 430227734, 506948616, 659060556, 883997877, 958139571, 1322822218, 1537002063, 1747873779, 1955562222, 2024104815, 2227730452, 2361852424, 2428436474, 2756734187, 3204031479, 3329325298]
def sL : List Int := [1779033703, 3144134277, 1013904242, 2773480762, 1359893119, 2600822924, 528734635, 1541459225]
theorem kL_wd : ∀ x ∈ kL, za.Wd x := by unfold za.Wd; decide +kernel
theorem sL_wd : ∀ x ∈ sL, za.Wd x := by unfold za.Wd; decide +kernel
/-- what SumConst and SumStart answer -/
def kc (i : Int) : Int := if 0 ≤ i ∧ i ≤ 63 then kL.getD i.toNat 0 else 0
def sc (i : Int) : Int := if 0 ≤ i ∧ i ≤ 7 then sL.getD i.toNat 0 else 0
/-- the program's tables as they lie -/
def TabK (w : World) : Prop := ∀ j, j < 64 → w.cell? ⟨3, j, none⟩ = some (.int .u32 (kL.getD j 0))
def TabS (w : World) : Prop := ∀ j, j < 8 → w.cell? ⟨0, j, none⟩ = some (.int .u32 (sL.getD j 0))
theorem TabK.kept {w w' : World} (h : TabK w) (g : w.grownBy w' none) : TabK w' := fun j hj => g.cell (h j hj) (fun e => by cases e)
theorem TabS.kept {w w' : World} (h : TabS w) (g : w.grownBy w' none) : TabS w' := fun j hj => g.cell (h j hj) (fun e => by cases e)

theorem implSumConst (i : Int) (w : World) (h : TabK w) : Calls Tryd.prog 178 #[.int .i64 i] w fun e w' => e = .returned (.int .u32 (kc i)) ∧ w' = w := by
  by_cases h0 : i < 0
  · rw [show kc i = 0 by unfold kc; rw [if_neg (by omega)]]
    go_enter Tryd.func178, Tryd.ntmps178
    go_wp2
    go_ret
    exact ⟨rfl, rfl⟩
  · by_cases h1 : 64 ≤ i
    · rw [show kc i = 0 by unfold kc; rw [if_neg (by omega)]]
      go_enter Tryd.func178, Tryd.ntmps178
      go_wp2
      go_ret
      exact ⟨rfl, rfl⟩
    · obtain ⟨j, rfl⟩ := Int.eq_ofNat_of_zero_le (show 0 ≤ i by omega)
      rw [show kc (j : Int) = kL.getD j 0 by unfold kc; rw [if_pos (by omega)]; rfl]
      have c := h j (by omega)
      generalize kL.getD j 0 = x at *
      have i0 : (j : Int) < 64 := by omega
      clear h
      go_enter Tryd.func178, Tryd.ntmps178
      go_wp2
      go_ret
      exact ⟨rfl, rfl⟩
theorem implSumStart (i : Int) (w : World) (h : TabS w) : Calls Tryd.prog 134 #[.int .i64 i] w fun e w' => e = .returned (.int .u32 (sc i)) ∧ w' = w := by
  by_cases h0 : i < 0
  · rw [show sc i = 0 by unfold sc; rw [if_neg (by omega)]]
    go_enter Tryd.func134, Tryd.ntmps134
    go_wp2
    go_ret
    exact ⟨rfl, rfl⟩
  · by_cases h1 : 8 ≤ i
    · rw [show sc i = 0 by unfold sc; rw [if_neg (by omega)]]
      go_enter Tryd.func134, Tryd.ntmps134
      go_wp2
      go_ret
      exact ⟨rfl, rfl⟩
    · obtain ⟨j, rfl⟩ := Int.eq_ofNat_of_zero_le (show 0 ≤ i by omega)
      rw [show sc (j : Int) = sL.getD j 0 by unfold sc; rw [if_pos (by omega)]; rfl]
      have c := h j (by omega)
      generalize sL.getD j 0 = x at *
      have i0 : (j : Int) < 8 := by omega
      clear h
      go_enter Tryd.func134, Tryd.ntmps134
      go_wp2
      go_ret
      exact ⟨rfl, rfl⟩
theorem inR (x a b : Int) (w : World) : Calls Tryd.prog 94 #[.int .i64 x, .int .i64 a, .int .i64 b] w fun e w' => e = .returned (.bool (decide (a ≤ x ∧ x ≤ b))) ∧ w' = w := by
  by_cases h1 : a ≤ x
  · by_cases h2 : x ≤ b
    · rw [decide_eq_true (And.intro h1 h2)]
      go_enter Tryd.func94, Tryd.ntmps94
      go_wp2
      go_ret
      exact ⟨rfl, rfl⟩
    · rw [decide_eq_false (fun h => h2 h.2)]
      go_enter Tryd.func94, Tryd.ntmps94
      go_wp2
      go_ret
      exact ⟨rfl, rfl⟩
  · rw [decide_eq_false (fun h => h1 h.1)]
    go_enter Tryd.func94, Tryd.ntmps94
    go_wp2
    go_ret
    exact ⟨rfl, rfl⟩
set_option maxRecDepth 100000 in
set_option maxHeartbeats 4000000 in
theorem specTable (w : World) : Calls Tryd.prog 167 #[] w fun e w' => e = .returned (.slice (some ⟨w.heap.size, 0, none⟩) 64 64) ∧ w' = w.alloc (.cells (ints kL).toArray 137) := by
  go_enter Tryd.func167, Tryd.ntmps167
  go_wp2
  go_ret
  exact ⟨rfl, rfl⟩
theorem cell_k (w : World) (j : Nat) (h : j < 64) : (w.alloc (.cells (ints kL).toArray 137)).cell? ⟨w.heap.size, j, none⟩ = some (.int .u32 (kL.getD j 0)) := by
  have e := Go.heap_alloc_new w (.cells (ints kL).toArray 137)
  have hj : j < kL.length := h
  simp only [World.cell?, e]
  show (ints kL).toArray[j]? = _
  rw [List.getElem?_toArray, zs.ints, List.getElem?_map, List.getElem?_eq_getElem hj, List.getD, List.getElem?_eq_getElem hj]
  rfl
theorem cell_s (w : World) (j : Nat) (h : j < 8) : (w.alloc (.cells #[.int .u32 1779033703, .int .u32 3144134277, .int .u32 1013904242, .int .u32 2773480762, .int .u32 1359893119, .int .u32 2600822924, .int .u32 528734635, .int .u32 1541459225] 137)).cell? ⟨w.heap.size, j, none⟩ = some (.int .u32 (sL.getD j 0)) := by
  have e := Go.heap_alloc_new w (.cells (ints sL).toArray 137)
  have hj : j < sL.length := h
  show (w.alloc (.cells (ints sL).toArray 137)).cell? ⟨w.heap.size, j, none⟩ = some (.int .u32 (sL.getD j 0))
  simp only [World.cell?, e]
  show (ints sL).toArray[j]? = _
  rw [List.getElem?_toArray, zs.ints, List.getElem?_map, List.getElem?_eq_getElem hj, List.getD, List.getElem?_eq_getElem hj]
  rfl
theorem specSumStart (i : Int) (w : World) : Calls Tryd.prog 120 #[.int .i64 i] w fun e w' => e = .returned (.int .u32 (sc i)) ∧ w.grownBy w' none := by
  have C := hide (inR i 0 7)
  by_cases h : 0 ≤ i ∧ i ≤ 7
  · rw [decide_eq_true h] at C
    obtain ⟨j, rfl⟩ := Int.eq_ofNat_of_zero_le h.1
    rw [show sc (j : Int) = sL.getD j 0 by unfold sc; rw [if_pos h]; rfl]
    have c := cell_s w j (by omega)
    have i0 : (j : Int) < 8 := by omega
    generalize sL.getD j 0 = x at *
    clear h
    go_enter Tryd.func120, Tryd.ntmps120
    go_wp2_with fail
    refine (unhide C _).mono ?_; rintro e w' ⟨rfl, rfl⟩
    go_wp2_with fail
    go_ret
    exact ⟨rfl, World.grownBy_alloc _ _ _⟩
  · rw [decide_eq_false h] at C
    rw [show sc i = 0 by unfold sc; rw [if_neg h]]
    clear h
    go_enter Tryd.func120, Tryd.ntmps120
    go_wp2_with fail
    refine (unhide C _).mono ?_; rintro e w' ⟨rfl, rfl⟩
    go_wp2_with fail
    go_ret
    exact ⟨rfl, World.grownBy_alloc _ _ _⟩
end Go.Proofs.YtheigbmkldlicaaDoor.zk
