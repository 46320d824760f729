/- ReadCnf of both sides, as one; the bound on what it answers; what the listed variables give. -/
import Derived.Test.YtfokbkaommfnoaaGreatDoorRe
namespace Go.Proofs.YtfokbkaommfnoaaGreatDoor.ln
open Go.ChangeShapes Go.WideShapes Go.ChangeAt Go.RowKit
open Go.Proofs.YtfokbkaommfnoaaGreatDoor.sl (hide unhide)
open Go.Proofs.YtfokbkaommfnoaaGreatDoor.css (OwnS tot)
set_option linter.unusedVariables false
/-- what the program's ReadCnf finds laid -/
structure EnvE (w : World) : Prop where
  env : rd.Env w
  cell : w.cell? ⟨0, 0, none⟩ = some (.iface 118 (.agg #[.pointer (some ⟨9, 44, none⟩)]))
  lt : 0 < w.heap.size
theorem EnvE.below {w w' : World} (h : EnvE w) (b : Below w.heap.size w w') : EnvE w' :=
  ⟨h.env.below b, (b.cell (p := ⟨0, 0, none⟩) h.lt).trans h.cell, Nat.lt_of_lt_of_le h.lt b.size⟩
theorem EnvE.kept {w w' : World} (h : EnvE w) (g : w.grownBy w' none) : EnvE w' := h.below (sl.below_of g)
theorem body_bd (n m : Int) (hm : m ≤ 120) (ls : List (List UInt8)) : ∀ (i : Nat) (cs : List (List Int)), (cs.length : Int) ≤ m → (∀ L ∈ cs, L.length ≤ 48) → (body n m ls i cs).cs.length ≤ 120 ∧ ∀ L ∈ (body n m ls i cs).cs, L.length ≤ 48 := by
  induction ls with
  | nil =>
    intro i cs h1 h2
    unfold body
    split
    · exact ⟨Nat.zero_le _, fun L h => (by cases h)⟩
    · exact ⟨(by show cs.length ≤ 120; omega), h2⟩
  | cons l r ih =>
    intro i cs h1 h2
    unfold body
    split
    · exact ih _ _ h1 h2
    · split
      · split
        · exact ⟨Nat.zero_le _, fun L h => (by cases h)⟩
        · refine ih _ _ (by rw [List.length_append, List.length_singleton]; omega) ?_
          intro L hL
          rcases List.mem_append.1 hL with h | h
          · exact h2 L h
          · rw [List.mem_singleton] at h
            rw [h]
            exact readL_len l
      · exact ⟨Nat.zero_le _, fun L h => (by cases h)⟩
theorem front_bd (ls : List (List UInt8)) : ∀ i, (front ls i).cs.length ≤ 120 ∧ ∀ L ∈ (front ls i).cs, L.length ≤ 48 := by
  induction ls with
  | nil => intro i; exact ⟨Nat.zero_le _, fun L h => (by cases h)⟩
  | cons l r ih =>
    intro i
    unfold front
    split
    · exact ih _
    · split
      · exact ⟨Nat.zero_le _, fun L h => (by cases h)⟩
      · rename_i n m hh
        obtain ⟨_, _, c0, c1⟩ := (head_iff _ _ _).1 hh
        exact body_bd n m c1 r _ _ c0 (fun L h => (by cases h))
theorem readC_bd (s : List UInt8) : (readC s).cs.length ≤ 120 ∧ ∀ L ∈ (readC s).cs, L.length ≤ 48 := by
  unfold readC
  split
  · exact ⟨Nat.zero_le _, fun L h => (by cases h)⟩
  · exact front_bd _ _
theorem sum_bd (LL : List (List Int)) (h : ∀ L ∈ LL, L.length ≤ 48) : (LL.map List.length).sum ≤ 48 * LL.length := by
  induction LL with
  | nil => exact Nat.le_refl _
  | cons L r ih =>
    have h1 := h L List.mem_cons_self
    have h2 := ih (fun x hx => h x (List.mem_cons_of_mem _ hx))
    rw [List.map_cons, List.sum_cons, List.length_cons]
    omega
theorem readC_tot (s : List UInt8) : tot (readC s).cs ≤ 5880 := by
  have h := readC_bd s
  have h2 := sum_bd _ h.2
  unfold css.tot
  omega
theorem bothR (s : ByteArray) (hs : s.size ≤ 1048576) : ∃ (N : Int) (R : List (List Int)) (cd li : Int), tot R ≤ 1048576 ∧
    (∀ w, Calls Tryz.prog 12 #[.string s] w fun e w' => ∃ u, e = .returned (.tuple #[.agg #[.int .i64 N, u], .int .i64 cd, .int .i64 li]) ∧ OwnS w.heap.size w'.heap.size w' u R ∧ w.grownBy w' none) ∧
    (∀ w, EnvE w → Calls Tryz.prog 9 #[.string s] w fun e w' => ∃ u, e = .returned (.tuple #[.agg #[.int .i64 N, u], .int .i64 cd, .int .i64 li]) ∧ OwnS w.heap.size w'.heap.size w' u R ∧ w.grownBy w' none) :=
  ⟨(readC (rd.bytes s)).n, (readC (rd.bytes s)).cs, (readC (rd.bytes s)).code, (readC (rd.bytes s)).line, Nat.le_trans (readC_tot _) (by decide), fun w => specReadCnf s w hs, fun w h => implReadCnf s w h.env h.cell h.lt⟩
end Go.Proofs.YtfokbkaommfnoaaGreatDoor.ln
