/- Colourings as numbers, counted: plain mathematics; condition: at most three colours. -/
import Derived.Test.YtfhmdpbnnieohaaDoorJPv
import Derived.Test.YtfhmdpbnnieohaaDoorJPn
import Derived.Deep.RegionHeld3
import Derived.Test.YtfhmdpbnnieohaaDoorJPc
namespace Go.Proofs.YtfhmdpbnnieohaaDoor.pz
open Go.RowKit
open lits (okB varI okB_iff)
open tr (litT clT cnfT)
open cnt (C cntR cntR_succ)
open t1 (cntL)
open t2 (rowL rowL_len vertC vertsT vertsT_step edgeC edgesT edgesT_step colC edB edsB edsB_step edsB_at leastC mostC just_true most_true lit_neg)
set_option linter.unusedVariables false
def sm : Nat → (Nat → Nat) → Nat
 | 0, _ => 0
 | k + 1, h => sm k h + h k
theorem sm_add (k : Nat) (a b : Nat → Nat) : sm k (fun r => a r + b r) = sm k a + sm k b := by
 induction k with
 | zero => rfl
 | succ k ih =>
  show sm k (fun r => a r + b r) + (a k + b k) = (sm k a + a k) + (sm k b + b k)
  omega
theorem sm_congr {k : Nat} {a b : Nat → Nat} (h : ∀ r, r < k → a r = b r) : sm k a = sm k b := by
 induction k with
 | zero => rfl
 | succ k ih =>
  show sm k a + a k = sm k b + b k
  rw [ih fun r hr => h r (by omega), h k (by omega)]
theorem sm_zero (k : Nat) : sm k (fun _ => 0) = 0 := by
 induction k with
 | zero => rfl
 | succ k ih => show sm k _ + 0 = 0; rw [ih]
theorem cntR_add (a b : Nat) (g : Nat → Bool) : cntR (a + b) g = cntR a g + cntR b (fun i => g (a + i)) := by
 induction b with
 | zero => rfl
 | succ b ih =>
  rw [← Nat.add_assoc, cntR_succ, ih, cntR_succ]
  omega
theorem cntR_sm (k : Nat) (g : Nat → Bool) : cntR k g = sm k (fun r => if g r then 1 else 0) := by
 induction k with
 | zero => rfl
 | succ k ih => rw [cntR_succ, ih]; rfl
theorem cntR_mul (k M : Nat) (g : Nat → Bool) : cntR (k * M) g = sm k (fun r => cntR M (fun q => g (k * q + r))) := by
 induction M with
 | zero =>
  rw [Nat.mul_zero]
  exact (sm_zero k).symm
 | succ M ih =>
  rw [Nat.mul_succ, cntR_add, ih, cntR_sm k, ← sm_add]
  exact sm_congr fun r _ => (cntR_succ M _).symm
def D : Nat → Nat → (List Nat → Bool) → Nat
 | 0, _, P => if P [] then 1 else 0
 | m + 1, k, P => sm k (fun j => D m k (fun l => P (j :: l)))
theorem D_congr {k : Nat} : ∀ {m : Nat} {P Q : List Nat → Bool}, (∀ l, l.length = m → (∀ j ∈ l, j < k) → P l = Q l) → D m k P = D m k Q
 | 0, P, Q, h => by
  show (if P [] then 1 else 0) = (if Q [] then 1 else 0)
  rw [h [] rfl (fun j hj => by cases hj)]
 | m + 1, P, Q, h => sm_congr fun j hj => D_congr fun l hl hk => h (j :: l) (by rw [List.length_cons, hl]) (fun i hi => by
   rcases List.mem_cons.1 hi with rfl | hi
   ·exact hj
   ·exact hk i hi)
def dg (k : Nat) : Nat → Nat → List Nat
 | 0, _ => []
 | m + 1, c => c % k :: dg k m (c / k)
theorem dg_len (k : Nat) : ∀ m c, (dg k m c).length = m
 | 0, _ => rfl
 | m + 1, c => by rw [dg, List.length_cons, dg_len k m]
theorem cnt_dg {k : Nat} (hk : 0 < k) : ∀ (m : Nat) (P : List Nat → Bool), cntR (k ^ m) (fun c => P (dg k m c)) = D m k P
 | 0, P => by
  show cntR 1 _ = _
  rw [cntR_succ]
  exact Nat.zero_add _
 | m + 1, P => by
  rw [Nat.pow_succ, Nat.mul_comm, cntR_mul]
  refine sm_congr fun j hj => ?_
  rw [← cnt_dg hk m (fun l => P (j :: l))]
  congr 1
  funext q
  show P ((k * q + j) % k :: dg k m ((k * q + j) / k)) = _
  rw [Nat.mul_add_mod, Nat.mod_eq_of_lt hj, Nat.mul_add_div hk, Nat.div_eq_of_lt hj, Nat.add_zero]
def bits (l : List Int) : Prop := ∀ x ∈ l, x = 0 ∨ x = 1
theorem bits_cons {x : Int} {l : List Int} (hx : x = 0 ∨ x = 1) (h : bits l) : bits (x :: l) := fun y hy => by
 rcases List.mem_cons.1 hy with rfl | hy
 ·exact hx
 ·exact h y hy
theorem C_zero : ∀ {n : Nat} {f : List Int → Bool}, (∀ l, l.length = n → bits l → f l = false) → C n f = 0
 | 0, f, h => by
  show (if f [] then 1 else 0) = 0
  rw [h [] rfl (fun x hx => by cases hx)]
  rfl
 | n + 1, f, h => by
  show C n _ + C n _ = 0
  rw [C_zero (f := fun l => f (0 :: l)) fun l hl hb => h _ (by rw [List.length_cons, hl]) (bits_cons (.inl rfl) hb), C_zero (f := fun l => f (1 :: l)) fun l hl hb => h _ (by rw [List.length_cons, hl]) (bits_cons (.inr rfl) hb)]
def hot (k j : Nat) : List Int := (List.range k).map fun i => if i = j then 1 else 0
theorem hot_len (k j : Nat) : (hot k j).length = k := by simp [hot]
theorem hot_at {k j c : Nat} (h : c < k) : (hot k j).getD c 0 = if c = j then 1 else 0 := by
 unfold hot
 simp [h]
def enc (k : Nat) : List Nat → List Int
 | [] => []
 | j :: l => hot k j ++ enc k l
theorem enc_len (k : Nat) : ∀ l, (enc k l).length = l.length * k
 | [] => by simp [enc]
 | j :: l => by rw [enc, List.length_append, hot_len, enc_len k l, List.length_cons, Nat.succ_mul, Nat.add_comm]
theorem enc_at {k c : Nat} (hc : c < k) : ∀ {l : List Nat} {i : Nat}, i < l.length → (enc k l).getD (i * k + c) 0 = if c = l.getD i 0 then 1 else 0
 | [], i, h => by simp at h
 | j :: l, 0, h => by
  rw [enc, Nat.zero_mul, Nat.zero_add]
  have := hot_at (j := j) hc
  simp only [List.getD_eq_getElem?_getD] at *
  rw [List.getElem?_append_left (by rw [hot_len]; exact hc), this]
  simp
 | j :: l, i + 1, h => by
  rw [List.length_cons] at h
  have ih := enc_at hc (l := l) (i := i) (by omega)
  have e : (i + 1) * k + c = k + (i * k + c) := by rw [Nat.succ_mul]; omega
  rw [enc, e]
  simp only [List.getD_eq_getElem?_getD] at *
  rw [List.getElem?_append_right (by rw [hot_len]; omega), hot_len, show k + (i * k + c) - k = i * k + c by omega, ih]
  simp
theorem zero_of {n k : Nat} {F : List Int → Bool} (R : List Int) (hR : R.length = k) (hb : bits R) (h : ∀ R S, R.length = k → S.length = n → bits (R ++ S) → F (R ++ S) = true → ∃ j, j < k ∧ R = hot k j) (hn : ∀ j, j < k → R ≠ hot k j) : C n (fun S => F (R ++ S)) = 0 :=
 C_zero fun S hS bS => by
  cases hF : F (R ++ S)
  ·rfl
  ·exfalso
   obtain ⟨j, hj, e⟩ := h R S hR hS (fun x hx => (List.mem_append.1 hx).elim (hb x) (bS x)) hF
   exact hn j hj e
theorem C_hot {n k : Nat} (hk : k = 1 ∨ k = 2 ∨ k = 3) {F : List Int → Bool} (h : ∀ R S, R.length = k → S.length = n → bits (R ++ S) → F (R ++ S) = true → ∃ j, j < k ∧ R = hot k j) : C (n + k) F = sm k (fun j => C n (fun S => F (hot k j ++ S))) := by
 rcases hk with rfl | rfl | rfl
 ·have a := zero_of [0] rfl (by unfold bits; decide) h (by decide)
  show C n (fun S => F ([0] ++ S)) + C n (fun S => F ([1] ++ S)) = 0 + C n (fun S => F ([1] ++ S))
  rw [a]
 ·have a := zero_of [0, 0] rfl (by unfold bits; decide) h (by decide)
  have b := zero_of [1, 1] rfl (by unfold bits; decide) h (by decide)
  show (C n (fun S => F ([0, 0] ++ S)) + C n (fun S => F ([0, 1] ++ S))) + (C n (fun S => F ([1, 0] ++ S)) + C n (fun S => F ([1, 1] ++ S))) = 0 + C n (fun S => F ([1, 0] ++ S)) + C n (fun S => F ([0, 1] ++ S))
  rw [a, b]
  omega
 ·have a := zero_of [0, 0, 0] rfl (by unfold bits; decide) h (by decide)
  have b := zero_of [0, 1, 1] rfl (by unfold bits; decide) h (by decide)
  have c := zero_of [1, 0, 1] rfl (by unfold bits; decide) h (by decide)
  have d := zero_of [1, 1, 0] rfl (by unfold bits; decide) h (by decide)
  have e := zero_of [1, 1, 1] rfl (by unfold bits; decide) h (by decide)
  show ((C n (fun S => F ([0, 0, 0] ++ S)) + C n (fun S => F ([0, 0, 1] ++ S))) + (C n (fun S => F ([0, 1, 0] ++ S)) + C n (fun S => F ([0, 1, 1] ++ S)))) + ((C n (fun S => F ([1, 0, 0] ++ S)) + C n (fun S => F ([1, 0, 1] ++ S))) + (C n (fun S => F ([1, 1, 0] ++ S)) + C n (fun S => F ([1, 1, 1] ++ S)))) = 0 + C n (fun S => F ([1, 0, 0] ++ S)) + C n (fun S => F ([0, 1, 0] ++ S)) + C n (fun S => F ([0, 0, 1] ++ S))
  rw [a, b, c, d, e]
  omega
theorem hot_bits (k j : Nat) : bits (hot k j) := fun x hx => by
 unfold hot at hx
 rw [List.mem_map] at hx
 obtain ⟨i, _, rfl⟩ := hx
 split
 ·exact .inr rfl
 ·exact .inl rfl
theorem C_rows {k : Nat} (hk : k = 1 ∨ k = 2 ∨ k = 3) : ∀ {m : Nat} {F : List Int → Bool}, (∀ A, A.length = m * k → bits A → F A = true → ∃ l, l.length = m ∧ (∀ j ∈ l, j < k) ∧ A = enc k l) → C (m * k) F = D m k (fun l => F (enc k l))
 | 0, F, h => by
  rw [Nat.zero_mul]
  rfl
 | m + 1, F, h => by
  rw [Nat.succ_mul, C_hot hk]
  ·refine sm_congr fun j hj => C_rows hk fun S hS bS hF => ?_
   obtain ⟨l, hl, hlk, e⟩ := h (hot k j ++ S) (by rw [List.length_append, hot_len, hS, Nat.succ_mul, Nat.add_comm]) (fun x hx => (List.mem_append.1 hx).elim (hot_bits k j x) (bS x)) hF
   cases l with
   | nil => simp at hl
   | cons i l =>
    rw [enc] at e
    have e2 := List.append_inj e (by rw [hot_len, hot_len])
    rw [List.length_cons] at hl
    exact ⟨l, by omega, fun x hx => hlk x (List.mem_cons_of_mem _ hx), e2.2⟩
  ·intro R S hR hS hb hF
   obtain ⟨l, hl, hlk, e⟩ := h (R ++ S) (by rw [List.length_append, hR, hS, Nat.succ_mul, Nat.add_comm]) hb hF
   cases l with
   | nil => simp at hl
   | cons i l =>
    rw [enc] at e
    have e2 := List.append_inj e (by rw [hR, hot_len])
    exact ⟨i, hlk i (List.mem_cons_self ..), e2.1⟩
theorem lit_at {A : List Int} {p : Nat} (h : p < A.length) (h24 : p < 24) : litT A ((p + 1 : Nat) : Int) = decide (A.getD p 0 = 1) := by
 have hv : varI ((p + 1 : Nat) : Int) = (p : Int) + 1 := by
  rw [lits.varI_yes ⟨by omega, by omega, by omega⟩]
  split <;> omega
 rw [tr.litT_near hv h, decide_eq_true (show (0 : Int) < ((p + 1 : Nat) : Int) by omega)]
 cases decide (A.getD p 0 = 1) <;> rfl
theorem row_cnt {A : List Int} {i k : Nat} (h : i * k + k ≤ A.length) (h24 : i * k + k ≤ 24) : cntL A (rowL i k) = cntR k (fun j => decide (A.getD (i * k + j) 0 = 1)) := by
 unfold t1.cntL t2.rowL cntR
 rw [List.countP_map, List.countP_eq_length_filter]
 congr 1
 refine List.filter_congr fun j hj => ?_
 rw [List.mem_range] at hj
 exact lit_at (A := A) (p := i * k + j) (by omega) (by omega)
theorem one_hot {k : Nat} (hk : k = 1 ∨ k = 2 ∨ k = 3) {g : Nat → Int} (hb : ∀ j, j < k → g j = 0 ∨ g j = 1) (h : cntR k (fun j => decide (g j = 1)) = 1) : ∃ j, j < k ∧ ∀ c, c < k → g c = if c = j then 1 else 0 := by
 rw [cntR_sm] at h
 rcases hk with rfl | rfl | rfl
 ·have b0 := hb 0 (by omega)
  refine ⟨0, by omega, fun c hc => ?_⟩
  have : c = 0 := by omega
  subst this
  rcases b0 with e | e
  ·simp [sm, e] at h
  ·simp [e]
 ·have b0 := hb 0 (by omega)
  have b1 := hb 1 (by omega)
  rcases b0 with e0 | e0 <;> rcases b1 with e1 | e1 <;> simp [sm, e0, e1] at h
  ·exact ⟨1, by omega, fun c hc => by rcases (show c = 0 ∨ c = 1 by omega) with rfl | rfl <;> simp [e0, e1]⟩
  ·exact ⟨0, by omega, fun c hc => by rcases (show c = 0 ∨ c = 1 by omega) with rfl | rfl <;> simp [e0, e1]⟩
 ·have b0 := hb 0 (by omega)
  have b1 := hb 1 (by omega)
  have b2 := hb 2 (by omega)
  rcases b0 with e0 | e0 <;> rcases b1 with e1 | e1 <;> rcases b2 with e2 | e2 <;> simp [sm, e0, e1, e2] at h
  ·exact ⟨2, by omega, fun c hc => by rcases (show c = 0 ∨ c = 1 ∨ c = 2 by omega) with rfl | rfl | rfl <;> simp [e0, e1, e2]⟩
  ·exact ⟨1, by omega, fun c hc => by rcases (show c = 0 ∨ c = 1 ∨ c = 2 by omega) with rfl | rfl | rfl <;> simp [e0, e1, e2]⟩
  ·exact ⟨0, by omega, fun c hc => by rcases (show c = 0 ∨ c = 1 ∨ c = 2 by omega) with rfl | rfl | rfl <;> simp [e0, e1, e2]⟩
theorem hot_one {k a : Nat} (hk : k = 1 ∨ k = 2 ∨ k = 3) (ha : a < k) : cntR k (fun j => decide (j = a)) = 1 := by
 rw [cntR_sm]
 rcases hk with rfl | rfl | rfl
 ·have : a = 0 := by omega
  subst this
  decide
 ·rcases (show a = 0 ∨ a = 1 by omega) with rfl | rfl <;> decide
 ·rcases (show a = 0 ∨ a = 1 ∨ a = 2 by omega) with rfl | rfl | rfl <;> decide
theorem rows_enc {k : Nat} : ∀ {m : Nat} {A : List Int}, A.length = m * k → (∀ i, i < m → ∃ j, j < k ∧ ∀ c, c < k → A.getD (i * k + c) 0 = if c = j then 1 else 0) → ∃ l, l.length = m ∧ (∀ j ∈ l, j < k) ∧ A = enc k l
 | 0, A, hl, _ => ⟨[], rfl, fun j hj => (by cases hj), List.eq_nil_of_length_eq_zero (by omega)⟩
 | m + 1, A, hl, h => by
  rw [Nat.succ_mul] at hl
  obtain ⟨j, hj, h0⟩ := h 0 (by omega)
  have e1 : A.take k = hot k j := by
   refine List.ext_getElem (by rw [List.length_take, hot_len]; omega) fun c h1 h2 => ?_
   rw [hot_len] at h2
   have a := h0 c h2
   have b := hot_at (j := j) h2
   rw [Nat.zero_mul, Nat.zero_add] at a
   rw [List.getElem_take]
   rw [List.getD_eq_getElem?_getD, List.getElem?_eq_getElem (by omega)] at a
   rw [List.getD_eq_getElem?_getD, List.getElem?_eq_getElem (by rw [hot_len]; omega)] at b
   exact (show A[c] = _ from a).trans (show (hot k j)[c] = _ from b).symm
  obtain ⟨l, l1, l2, l3⟩ := rows_enc (k := k) (m := m) (A := A.drop k) (by rw [List.length_drop]; omega) fun i hi => by
   obtain ⟨x, hx, hc⟩ := h (i + 1) (by omega)
   refine ⟨x, hx, fun c hck => ?_⟩
   have := hc c hck
   have e : (i + 1) * k + c = k + (i * k + c) := by rw [Nat.succ_mul]; omega
   rw [e] at this
   rw [← this]
   simp [List.getElem?_drop]
  refine ⟨j :: l, by rw [List.length_cons, l1], fun x hx => ?_, ?_⟩
  ·rcases List.mem_cons.1 hx with rfl | hx
   ·exact hj
   ·exact l2 x hx
  ·rw [enc, ← e1, ← l3, List.take_append_drop]
def goodB (f : Nat → Int) (E : Nat) (l : List Nat) : Bool := (List.range E).all fun i => !(decide ((0 :: l).getD (f (i * 2)).toNat 0 = (0 :: l).getD (f (i * 2 + 1)).toNat 0))
theorem goodB_step (f : Nat → Int) (E : Nat) (l : List Nat) : goodB f (E + 1) l = (goodB f E l && !(decide ((0 :: l).getD (f (E * 2)).toNat 0 = (0 :: l).getD (f (E * 2 + 1)).toNat 0))) := by
 unfold goodB
 rw [List.range_succ, List.all_append]
 simp
theorem cnf_app (A : List Int) (X Y : List (List Int)) : cnfT A (X ++ Y) = (cnfT A X && cnfT A Y) := by unfold tr.cnfT; rw [List.all_append]
theorem row_ok {m k i : Nat} (hi : i < m) (h24 : m * k ≤ 24) : ∀ y ∈ rowL i k, okB y = true := by
 intro y h
 unfold t2.rowL at h
 rw [List.mem_map] at h
 obtain ⟨j, hj, rfl⟩ := h
 rw [List.mem_range] at hj
 have h1 := Nat.mul_le_mul (show i + 1 ≤ m by omega) (Nat.le_refl k)
 rw [Nat.add_mul, Nat.one_mul] at h1
 exact okB_iff.2 ⟨by omega, by omega, by omega⟩
theorem verts_iff {A : List Int} {m k : Nat} (h24 : m * k ≤ 24) : ∀ i, i ≤ m → (cnfT A (vertsT k i) = true ↔ ∀ q, q < i → cntL A (rowL q k) = 1)
 | 0, _ => by
  constructor
  ·intro _ q hq
   omega
  ·intro _
   rfl
 | i + 1, hi => by
  have ih := verts_iff (A := A) h24 i (by omega)
  rw [vertsT_step, cnf_app, Bool.and_eq_true, ih]
  unfold t2.vertC
  rw [just_true (row_ok (show i < m by omega) h24) (by decide), decide_eq_true_eq]
  constructor
  ·rintro ⟨h1, h2⟩ q hq
   by_cases e : q = i
   ·subst e
    omega
   ·exact h1 q (by omega)
  ·intro h
   exact ⟨fun q hq => h q (by omega), by rw [h i (by omega)]; rfl⟩
theorem row_in {m k i : Nat} (hi : i < m) : i * k + k ≤ m * k := by
 have h1 := Nat.mul_le_mul (show i + 1 ≤ m by omega) (Nat.le_refl k)
 rw [Nat.add_mul, Nat.one_mul] at h1
 exact h1
theorem rows_of {m k E : Nat} {f : Nat → Int} (hk : k = 1 ∨ k = 2 ∨ k = 3) (h24 : m * k ≤ 24) {A : List Int} (hl : A.length = m * k) (hb : bits A) (h : cnfT A (colC m k E f) = true) : ∃ l, l.length = m ∧ (∀ j ∈ l, j < k) ∧ A = enc k l := by
 unfold t2.colC at h
 rw [cnf_app, Bool.and_eq_true] at h
 refine rows_enc hl fun i hi => ?_
 have h1 := (verts_iff h24 m (Nat.le_refl m)).1 h.1 i hi
 have hr := row_in (k := k) hi
 rw [row_cnt (by omega) (by omega)] at h1
 exact one_hot hk (g := fun j => A.getD (i * k + j) 0) (fun j hj => by
  show A.getD (i * k + j) 0 = 0 ∨ A.getD (i * k + j) 0 = 1
  rw [List.getD_eq_getElem?_getD, List.getElem?_eq_getElem (by omega)]
  exact hb _ (List.getElem_mem _)) h1
theorem enc_verts {m k : Nat} (hk : k = 1 ∨ k = 2 ∨ k = 3) (h24 : m * k ≤ 24) {l : List Nat} (hl : l.length = m) (hlk : ∀ j ∈ l, j < k) : cnfT (enc k l) (vertsT k m) = true := by
 refine (verts_iff h24 m (Nat.le_refl m)).2 fun i hi => ?_
 have hr := row_in (k := k) hi
 have he := enc_len k l
 rw [hl] at he
 rw [row_cnt (by omega) (by omega)]
 have hm : l.getD i 0 < k := by
  rw [List.getD_eq_getElem?_getD, List.getElem?_eq_getElem (by omega)]
  exact hlk _ (List.getElem_mem _)
 rw [← hot_one hk hm]
 unfold cntR
 congr 1
 refine List.filter_congr fun j hj => ?_
 rw [List.mem_range] at hj
 rw [enc_at hj (by omega)]
 by_cases e : j = l.getD i 0
 ·rw [if_pos e, decide_eq_true rfl, decide_eq_true e]
 ·rw [if_neg e, decide_eq_false (by omega), decide_eq_false e]
theorem edge_true {m k : Nat} (h24 : m * k ≤ 24) {l : List Nat} (hl : l.length = m) (hlk : ∀ j ∈ l, j < k) {a b : Int} (h : edB m a b = true) : cnfT (enc k l) (edgeC k a b k) = !(decide ((0 :: l).getD a.toNat 0 = (0 :: l).getD b.toNat 0)) := by
 unfold t2.edB at h
 obtain ⟨a0, a1, b0, b1, _⟩ := of_decide_eq_true h
 obtain ⟨x, hx⟩ := Int.eq_ofNat_of_zero_le (show 0 ≤ a - 1 by omega)
 obtain ⟨y, hy⟩ := Int.eq_ofNat_of_zero_le (show 0 ≤ b - 1 by omega)
 have he := enc_len k l
 rw [hl] at he
 rw [show a.toNat = x + 1 by omega, show b.toNat = y + 1 by omega, List.getD_cons_succ, List.getD_cons_succ]
 have at_ : ∀ {i c : Nat}, i < m → c < k → okB (((i * k + c + 1 : Nat) : Int)) = true ∧ litT (enc k l) ((i * k + c + 1 : Nat) : Int) = decide (c = l.getD i 0) := by
  intro i c hi hc
  have hr := row_in (k := k) hi
  refine ⟨okB_iff.2 ⟨by omega, by omega, by omega⟩, ?_⟩
  rw [lit_at (by omega) (by omega), enc_at hc (by omega)]
  by_cases e : c = l.getD i 0
  ·rw [if_pos e, decide_eq_true rfl, decide_eq_true e]
  ·rw [if_neg e, decide_eq_false (by omega), decide_eq_false e]
 have lt_ : ∀ {i : Nat}, i < m → l.getD i 0 < k := by
  intro i hi
  rw [List.getD_eq_getElem?_getD, List.getElem?_eq_getElem (by omega)]
  exact hlk _ (List.getElem_mem _)
 have cl : ∀ c, c < k → clT (enc k l) [-((a - 1) * (k : Int) + ((c : Int) + 1)), -((b - 1) * (k : Int) + ((c : Int) + 1))] = !(decide (c = l.getD x 0) && decide (c = l.getD y 0)) := by
  intro c hc
  have p := at_ (i := x) (c := c) (by omega) hc
  have q := at_ (i := y) (c := c) (by omega) hc
  rw [hx, hy, show (x : Int) * (k : Int) + ((c : Int) + 1) = ((x * k + c + 1 : Nat) : Int) by rw [← Int.natCast_mul]; omega, show (y : Int) * (k : Int) + ((c : Int) + 1) = ((y * k + c + 1 : Nat) : Int) by rw [← Int.natCast_mul]; omega]
  unfold tr.clT
  rw [List.any_cons, List.any_cons, List.any_nil, lit_neg p.1, lit_neg q.1, p.2, q.2]
  cases decide (c = l.getD x 0) <;> cases decide (c = l.getD y 0) <;> rfl
 rw [Bool.eq_iff_iff]
 unfold tr.cnfT t2.edgeC
 rw [List.all_eq_true, Bool.not_eq_true', decide_eq_false_iff_not]
 constructor
 ·intro h e
  have := h _ (List.mem_map.2 ⟨l.getD x 0, List.mem_range.2 (lt_ (by omega)), rfl⟩)
  rw [cl _ (lt_ (by omega)), decide_eq_true rfl, decide_eq_true e] at this
  cases this
 ·intro h L hL
  rw [List.mem_map] at hL
  obtain ⟨c, hc, rfl⟩ := hL
  rw [cl c (List.mem_range.1 hc), Bool.not_eq_true', Bool.and_eq_false_iff, decide_eq_false_iff_not, decide_eq_false_iff_not]
  by_cases e : c = l.getD x 0
  ·exact .inr fun e2 => h (e ▸ e2)
  ·exact .inl e
theorem edges_true {m k : Nat} (h24 : m * k ≤ 24) {l : List Nat} (hl : l.length = m) (hlk : ∀ j ∈ l, j < k) {f : Nat → Int} : ∀ E, edsB m f E = true → cnfT (enc k l) (edgesT k f E) = goodB f E l
 | 0, _ => rfl
 | E + 1, h => by
  rw [edsB_step, Bool.and_eq_true] at h
  rw [edgesT_step, cnf_app, goodB_step, edges_true h24 hl hlk E h.1, edge_true h24 hl hlk h.2]
theorem count_col {m k E : Nat} {f : Nat → Int} (hk : k = 1 ∨ k = 2 ∨ k = 3) (h24 : m * k ≤ 24) (he : edsB m f E = true) : C (m * k) (fun A => cnfT A (colC m k E f)) = cntR (k ^ m) (fun c => goodB f E (dg k m c)) := by
 rw [C_rows hk (fun A hl hb h => rows_of hk h24 hl hb h), cnt_dg (by omega) m (goodB f E)]
 refine D_congr fun l hl hlk => ?_
 show cnfT (enc k l) (vertsT k m ++ edgesT k f E) = _
 rw [cnf_app, enc_verts hk h24 hl hlk, edges_true h24 hl hlk E he]
 rfl
end Go.Proofs.YtfhmdpbnnieohaaDoor.pz
