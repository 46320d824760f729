/- What unit of the program's watcher answers and does; no condition but on the words, the literals and the sizes. -/
import Derived.Test.YtheigbmkldlicaaDoorWt
import Derived.Test.YtheigbmkldlicaaDoorWg
namespace Go.Proofs.YtheigbmkldlicaaDoor.wm
open Go.ChangeShapes Go.WideShapes Go.ChangeAt Go.RowKit
open Go.Proofs.YtheigbmkldlicaaDoor.wm0 (end0 ret0 stepW listW listB)
open Go.Proofs.YtheigbmkldlicaaDoor.lits (okB okB_iff)
open Go.Proofs.YtheigbmkldlicaaDoor.bset (placeN placeN_le placeC)
open Go.Proofs.YtheigbmkldlicaaDoor.srt (Tab woN woN_lt fstI oppN oppN_lt andN andN_lt orN_eq or_lt)
open Go.Proofs.YtheigbmkldlicaaDoor.sl (Sl Own ints hide unhide ret_int ret_bool grown_refl grown_trans grown_drewN)
set_option linter.unusedVariables false

/-- what waits is written in its own row -/
theorem Wat.row0 {w w0 : World} {c g n cap k : Nat} {s : WS} {C C' : List Int} {u : Value} (h : Wat w c s) (e : s.A.getD 0 nil_ = (.slice (some ⟨g, 0, none⟩) n cap, C)) (g0 : w.grownBy w0 none) (hn : C.length = n) (hC : C'.length = n) (hset : (ints C).set k u = ints C') :
    Wat (w0.setCell ⟨g, k, none⟩ u) c { s with A := s.A.set 0 (.slice (some ⟨g, 0, none⟩) n cap, C') } ∧ Stp c s { s with A := s.A.set 0 (.slice (some ⟨g, 0, none⟩) n cap, C') } w (w0.setCell ⟨g, k, none⟩ u) :=
  h.rowj (by decide) e g0 hn hC hset

/-- whether what waits may still be single -/
def live (P : PS) (x : Int) : Bool := !clsd (P.K.getD x.toNat zk).1 P.tk
def still (P : PS) : List Int := (P.A.getD 0 []).filter (live P)
def least (P : PS) (F : List Int) : Nat := F.foldl (fun a x => min a x.toNat) P.K.length
def PS.uni (P : PS) : PS := if P.em then P else { P with A := P.A.set 0 (still P) }
def PS.uniX (P : PS) : Int := if P.em then 0 else if least P (still P) = P.K.length then 0 else fstI (opn (P.K.getD (least P (still P)) zk).1 P.tk)
theorem least_snoc (P : PS) (F : List Int) (x : Int) : least P (F ++ [x]) = min (least P F) x.toNat := by unfold least; rw [List.foldl_append]; rfl
theorem least_le (P : PS) (F : List Int) : least P F ≤ P.K.length := by
  unfold least
  suffices H : ∀ (F : List Int) (a : Nat), F.foldl (fun a x => min a x.toNat) a ≤ a from H F _
  intro F
  induction F with
  | nil => intro a; exact Nat.le_refl _
  | cons x l ih => intro a; exact Nat.le_trans (ih _) (Nat.min_le_left _ _)
theorem least_mem (P : PS) (F : List Int) : least P F = P.K.length ∨ ∃ x ∈ F, x.toNat = least P F := by
  unfold least
  suffices H : ∀ (F : List Int) (a : Nat), F.foldl (fun a x => min a x.toNat) a = a ∨ ∃ x ∈ F, x.toNat = F.foldl (fun a x => min a x.toNat) a from H F _
  intro F
  induction F with
  | nil => intro a; exact .inl rfl
  | cons x l ih =>
    intro a
    rw [List.foldl_cons]
    rcases ih (min a x.toNat) with q | ⟨y, hy, q⟩
    · rcases Nat.le_total a x.toNat with hle | hle
      · rw [q, Nat.min_eq_left hle]
        exact .inl rfl
      · exact .inr ⟨x, by simp, by rw [q, Nat.min_eq_right hle]⟩
    · exact .inr ⟨y, by simp [hy], q⟩
theorem least_all (P : PS) (F : List Int) : ∀ x ∈ F, least P F ≤ x.toNat := by
  unfold least
  suffices H : ∀ (F : List Int) (a : Nat), F.foldl (fun a x => min a x.toNat) a ≤ a ∧ ∀ x ∈ F, F.foldl (fun a x => min a x.toNat) a ≤ x.toNat from (H F _).2
  intro F
  induction F with
  | nil => intro a; exact ⟨Nat.le_refl _, fun x hx => by cases hx⟩
  | cons y l ih =>
    intro a
    rw [List.foldl_cons]
    have k := ih (min a y.toNat)
    refine ⟨Nat.le_trans k.1 (Nat.min_le_left _ _), fun x hx => ?_⟩
    rcases List.mem_cons.1 hx with rfl | hx
    · exact Nat.le_trans k.1 (Nat.min_le_right _ _)
    · exact k.2 x hx
end Go.Proofs.YtheigbmkldlicaaDoor.wm
