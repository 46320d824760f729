/- Structs in memory while others are written, and what lay in an elder world; no condition. -/
import Derived.Test.YtnlllcgcaddhmaaGreatDoorJOn
import Derived.Test.YtnlllcgcaddhmaaGreatDoorJXYb
import Derived.Deep.RegionHeld3
import Derived.Deep.DeepCutAuto
import Derived.Laws.IdiomStrings
import Derived.Laws.NewBlocks
import Derived.Test.YtnlllcgcaddhmaaGreatDoorJUe
namespace Go.Proofs.YtnlllcgcaddhmaaGreatDoor.ua
open Go.ChangeShapes Go.WideShapes Go.ChangeAt Go.RowKit
open css (Outs)
open yb (Box4)
open cf (Box)
set_option linter.unusedVariables false
theorem box_outs {t : TypeId} {w w' : World} {c lo hi : Nat} {x y : Value} (h : Box t w c x y) (o : Outs lo hi w w') (d : c < lo ∨ hi ≤ c) : Box t w' c x y := (o.block c h.lt d).trans h
theorem box4_outs {t : TypeId} {w w' : World} {c lo hi : Nat} {x y z q : Value} (h : Box4 t w c x y z q) (o : Outs lo hi w w') (d : c < lo ∨ hi ≤ c) : Box4 t w' c x y z q := (o.block c h.lt d).trans h
def Old (m : Nat) (a w : World) : Prop := a.heap.size = m ∧ Below m a w
theorem Old.start (w : World) : Old w.heap.size w w := ⟨rfl, Below.refl _ _⟩
theorem Old.none {m : Nat} {a w w' : World} (h : Old m a w) (g : w.grownBy w' none) : Old m a w' := by
 obtain ⟨rfl, b⟩ := h
 exact ⟨rfl, sl.below_none b g⟩
theorem Old.outs {m lo hi : Nat} {a w w' : World} (h : Old m a w) (hlo : m ≤ lo) (o : Outs lo hi w w') : Old m a w' := by
 obtain ⟨rfl, b⟩ := h
 exact ⟨rfl, css.below_outs b hlo o⟩
theorem Old.grown {m : Nat} {a w : World} (h : Old m a w) : a.grownBy w Option.none := by
 obtain ⟨rfl, b⟩ := h
 exact sl.of_below b
end Go.Proofs.YtnlllcgcaddhmaaGreatDoor.ua
namespace Go.Proofs.YtnlllcgcaddhmaaGreatDoor.ua
open Go.ChangeShapes Go.WideShapes Go.ChangeAt Go.RowKit
open sl (Sl Own ints marks hide unhide ret_int ret_bool grown_refl grown_trans grown_drewN below_of of_below)
set_option linter.unusedVariables false
def mtd : Nat → Nat → List UInt8
 | 0, _ => []
 | f + 1, k => if k = 0 then [] else mtd f (k / 10) ++ [UInt8.ofNat (48 + k % 10)]
def mtB (k : Int) : ByteArray := if k ≤ 0 then ⟨#[109, 48]⟩ else ⟨(109 :: mtd 20 k.toNat).toArray⟩
theorem one_back (wr : World) (x : UInt8) (k : Nat) (hk : wr.heap.size = k) : (convert 22 9 (.slice (some ⟨k, 0, none⟩) 1 1)).run Tryz.prog (wr.alloc (.cells #[.int .u8 x.toNat] 5)) = .ok (.string ⟨#[x]⟩) (wr.alloc (.cells #[.int .u8 x.toNat] 5)) := by
 subst hk
 refine run_convert_bytes_back (P := Tryz.prog) _ 22 9 5 ⟨wr.heap.size, 0, none⟩ 1 [x] Tryz.underlying22 Tryz.underlying5 Tryz.underlying9 fun j hj => ?_
 obtain rfl : j = 0 := by simp only [List.length_cons, List.length_nil] at hj; omega
 have hb := Go.heap_alloc_new wr (.cells #[.int .u8 x.toNat] 5)
 show (wr.alloc (.cells #[.int .u8 x.toNat] 5)).cell? ⟨wr.heap.size, 0 + 0, none⟩ = _
 unfold World.cell?
 rw [hb]
 rfl
theorem digit (j : Nat) : ((UInt8.ofNat (48 + j % 10)).toNat : Int) = 48 + (j : Int) % 10 := by
 have : (UInt8.ofNat (48 + j % 10)).toNat = 48 + j % 10 := by
  rw [UInt8.toNat_ofNat']
  omega
 rw [this]
 omega
theorem cat1 (a : UInt8) (X : List UInt8) : (⟨#[a]⟩ : ByteArray) ++ ⟨X.toArray⟩ = ⟨(a :: X).toArray⟩ := by
 apply ByteArray.ext
 rw [ByteArray.data_append]
 simp
theorem cat2 (a : UInt8) (X : List UInt8) : (⟨#[a]⟩ : ByteArray) ++ ⟨#[]⟩ ++ ⟨X.toArray⟩ = ⟨(a :: X).toArray⟩ := by
 apply ByteArray.ext
 rw [ByteArray.data_append, ByteArray.data_append]
 simp
set_option maxHeartbeats 800000 in
theorem markText (k : Int) (w : World) (h0 : 0 ≤ k) (h1 : k ≤ 9223372036854775807) :
  Calls Tryz.prog 97 #[.int .i64 k] w fun e w' => e = .returned (.string (mtB k)) ∧ w.grownBy w' none := by
 by_cases hk : k ≤ 0
 ·obtain rfl : k = 0 := by omega
  have e : Hid (mtB 0 = ⟨#[109, 48]⟩) := if_pos hk
  clear hk h0 h1
  go_enter Tryz.func97, Tryz.ntmps97
  go_wp2
  go_ret
  exact ⟨by rw [unhide e]; rfl, grown_refl _⟩
 ·obtain ⟨q, rfl⟩ := Int.eq_ofNat_of_zero_le h0
  have e : Hid (mtB (q : Int) = ⟨(109 :: mtd 20 q).toArray⟩) := if_neg hk
  go_enter Tryz.func97, Tryz.ntmps97
  go_wp2
  go_loopw [0, 3] (fun i s wr => ∃ (f j : Nat) (X : List UInt8), i = .int .i64 j ∧ s = .string ⟨X.toArray⟩ ∧ j < 10 ^ f ∧ (j : Int) ≤ 9223372036854775807 ∧ X.length + f = 20 ∧ Hid (mtd 20 q = mtd f j ++ X) ∧ Hid (w.grownBy wr none)) (fun i _ _ => (intOf i).toNat)
  case atStart => exact ⟨20, q, [], rfl, rfl, by omega, h1, rfl, (List.append_nil _).symm, grown_refl _⟩
  case round =>
   obtain ⟨f, j, X, rfl, rfl, hj, hj2, hX, he, hg⟩ := hrel
   by_cases hz : 0 < j
   ·have hi : (0 : Int) < (j : Int) := by omega
    obtain ⟨g, rfl⟩ : ∃ g, f = g + 1 := by
     cases f with
     | zero => rw [Nat.pow_zero] at hj; omega
     | succ g => exact ⟨g, rfl⟩
    have hj' : j / 10 < 10 ^ g := by rw [Nat.pow_succ] at hj; omega
    have cv := one_back wr (UInt8.ofNat (48 + j % 10)) wr.heap.size rfl
    rw [digit j] at cv
    have hm : (j : Int).tmod 10 = (j : Int) % 10 := Int.tmod_eq_emod_of_nonneg (by omega)
    have hd : (j : Int).tdiv 10 = ((j / 10 : Nat) : Int) := by rw [Int.tdiv_eq_ediv_of_nonneg (by omega)]; omega
    have HE : Hid (mtd 20 q = mtd g (j / 10) ++ (UInt8.ofNat (48 + j % 10) :: X)) := by
     show _ = _
     rw [unhide he, mtd, if_neg (by omega), List.append_assoc]
     rfl
    have HG := hide (grown_trans (r := none) (unhide hg) (World.grownBy_alloc wr (.cells #[.int .u8 (48 + (j : Int) % 10)] 5) none))
    clear he hg hj
    generalize UInt8.ofNat (48 + j % 10) = x at *
    go_wp2
    go_roundw
    case rel => exact ⟨g, j / 10, x :: X, by rw [← hd]; rfl, by first | (rw [← cat2]; rfl) | (rw [← cat1]; rfl), hj', by omega, by rw [List.length_cons]; omega, HE, HG⟩
    case measure => simp [intOf]; omega
   ·obtain rfl : j = 0 := by omega
    clear hz hj
    have HE : Hid (mtd 20 q = X) := by
     show _ = _
     rw [unhide he]
     cases f <;> rfl
    go_wp2
    go_ret
    exact ⟨by rw [unhide e, unhide HE, ← cat1]; rfl, unhide hg⟩
end Go.Proofs.YtnlllcgcaddhmaaGreatDoor.ua
namespace Go.Proofs.YtnlllcgcaddhmaaGreatDoor.ua
open Go.ChangeShapes Go.WideShapes Go.ChangeAt Go.RowKit
open sl (Sl Own ints marks hide unhide ret_int ret_bool grown_refl grown_trans grown_drewN below_of of_below)
open css (Outs outs_trans outs_none outs_by outs_refl own_mono own_sub own_outs own_kind)
open yb (Box4)
open cf (Box)
set_option linter.unusedVariables false
def mk1 (k : Int) (x : Kn) : Kn := ⟨mtB k, ((k + 1) % 3 == 0), marks (k + 1 + 1) x.vals.length, k + 1 + 1 + (x.vals.length : Int)⟩
def marksK (k : Int) : List Kn → List Kn
 | [] => []
 | x :: l => mk1 k x :: marksK (k + 3 + (x.vals.length : Int)) l
def sumK (KK : List Kn) : Nat := (KK.map fun x => 3 + x.vals.length).sum
theorem marksK_length (k : Int) (KK : List Kn) : (marksK k KK).length = KK.length := by
 induction KK generalizing k with
 | nil => rfl
 | cons L l ih => simp [marksK, ih]
theorem marksK_append (k : Int) (A B : List Kn) : marksK k (A ++ B) = marksK k A ++ marksK (k + (sumK A : Int)) B := by
 induction A generalizing k with
 | nil => simp [marksK, sumK]
 | cons L l ih =>
  rw [List.cons_append, marksK, marksK, ih, List.cons_append]
  congr 3
  simp only [sumK, List.map_cons, List.sum_cons]
  omega
theorem sumK_snoc (A : List Kn) (x : Kn) : sumK (A ++ [x]) = sumK A + (3 + x.vals.length) := by simp [sumK]
theorem sumK_le (KK : List Kn) : sumK KK ≤ 3 * tot KK := by
 induction KK with
 | nil => exact Nat.zero_le _
 | cons x l ih =>
  unfold sumK tot at *
  simp only [List.map_cons, List.sum_cons, List.length_cons]
  have : x.vals.length ≤ wt x := Nat.le_add_left _ _
  omega
theorem sumK_take (KK : List Kn) (k : Nat) : sumK (KK.take k) ≤ sumK KK := by
 have e : sumK KK = sumK (KK.take k) + sumK (KK.drop k) := by
  conv => lhs; rw [← List.take_append_drop k KK]
  unfold sumK
  rw [List.map_append, List.sum_append]
 omega
theorem marksK_getD (k : Int) (KK : List Kn) (i : Nat) (h : i < KK.length) : (marksK k KK).getD i kz = mk1 (k + (sumK (KK.take i) : Int)) (KK.getD i kz) := by
 induction KK generalizing k i with
 | nil => simp at h
 | cons L l ih =>
  cases i with
  | zero => simp [marksK, sumK]
  | succ i =>
   have := ih (k + 3 + (L.vals.length : Int)) i (by simpa using h)
   rw [marksK, List.getD_cons_succ, this, List.getD_cons_succ, List.take_succ_cons]
   congr 1
   simp only [sumK, List.map_cons, List.sum_cons]
   omega
theorem cells4_set3 (A B : List (Value × Kn)) (u : Value) (x y : Kn) (n : Nat) (hn : A.length = n) : (((cells4 (A ++ (u, x) :: B)).set (n * 4) (.string y.dg)).set (n * 4 + 1) (.bool y.sat)).set (n * 4 + 3) (.int .i64 y.cost) = cells4 (A ++ (u, y) :: B) := by
 have l := cells4_len A
 rw [hn] at l
 rw [cells4_append, cells4_append, cells4_cons, cells4_cons]
 rw [List.set_append_right _ _ (by omega), List.set_append_right _ _ (by omega), List.set_append_right _ _ (by omega), l]
 rw [show n * 4 - n * 4 = 0 by omega, show n * 4 + 1 - n * 4 = 1 by omega, show n * 4 + 3 - n * 4 = 3 by omega]
 rfl
def MarkK (lo hi : Nat) (w wr : World) (v : Value) (k : Int) (KK : List Kn) (j : Nat) : Prop :=
 ∃ D E : List (Value × Kn), D.length = j ∧ (D ++ E).map (·.2) = marksK k (KK.take j) ++ KK.drop j ∧ wr.ownsRow lo 36 4 v (D ++ E).length (cells4 (D ++ E)) ∧ (∀ p ∈ D ++ E, Own lo hi wr p.1 p.2.vals) ∧ (D ++ E).Pairwise Apart ∧ Outs lo hi w wr
theorem MarkK.start {lo hi : Nat} {w : World} {v : Value} {KK : List Kn} (k : Int) (h : OwnK lo hi w v KK) : MarkK lo hi w w v k KK 0 := by
 obtain ⟨D, e, ho, hb, hi, hp⟩ := h
 exact ⟨[], D, rfl, by simpa [marksK] using e, by simpa using ho, by simpa using hi, by simpa using hp, outs_refl _ _ _⟩
theorem MarkK.done {lo hi : Nat} {w wr : World} {v : Value} {KK : List Kn} {k : Int} {j : Nat} (h : MarkK lo hi w wr v k KK j) (hb : ∀ k, v.ownBlock = some k → k < hi) (hj : KK.length ≤ j) : OwnK lo hi wr v (marksK k KK) ∧ Outs lo hi w wr := by
 obtain ⟨D, E, hl, he, ho, hi, hp, g⟩ := h
 rw [List.take_of_length_le hj, List.drop_eq_nil_of_le hj, List.append_nil] at he
 exact ⟨⟨D ++ E, he, ho, hb, hi, hp⟩, g⟩
theorem MarkK.next {lo hi : Nat} {w wr w1 : World} {v : Value} {KK : List Kn} {k : Int} {j : Nat} (h : MarkK lo hi w wr v k KK j) (hj : j < KK.length) (hb : ∀ k, v.ownBlock = some k → k < hi) (g1 : wr.grownBy w1 none) :
  ∃ g cap a n c, v = .slice (some ⟨g, 0, none⟩) KK.length cap ∧ (∀ i, i < 4 → (∃ x, w1.cell? ⟨g, j * 4 + i, none⟩ = some x) ∧ w1.frozen? ⟨g, j * 4 + i, none⟩ = false) ∧ w1.cell? ⟨g, j * 4 + 2, none⟩ = some (.slice a n c) ∧
   ∀ W, W = (w1.setCell ⟨g, j * 4, none⟩ (.string (mk1 (k + (sumK (KK.take j) : Int)) (KK.getD j kz)).dg)).setCell ⟨g, j * 4 + 1, none⟩ (.bool (mk1 (k + (sumK (KK.take j) : Int)) (KK.getD j kz)).sat) →
    W.ownsRow lo 3 1 (.slice a n c) (KK.getD j kz).vals.length (ints (KK.getD j kz).vals) ∧
    ∀ w4, W.grownBy w4 (Value.slice a n c).ownBlock → w4.ownsRow lo 3 1 (.slice a n c) (KK.getD j kz).vals.length (ints (marks (k + (sumK (KK.take j) : Int) + 1 + 1) (KK.getD j kz).vals.length)) →
     (∃ x, w4.cell? ⟨g, j * 4 + 3, none⟩ = some x) ∧ w4.frozen? ⟨g, j * 4 + 3, none⟩ = false ∧
     MarkK lo hi w (w4.setCell ⟨g, j * 4 + 3, none⟩ (.int .i64 (mk1 (k + (sumK (KK.take j) : Int)) (KK.getD j kz)).cost)) v k KK (j + 1) := by
 obtain ⟨D, E, hl, he, ho, hin, hp, gO⟩ := h
 have ln : (D ++ E).length = KK.length := by
  have := congrArg List.length he
  rw [List.length_map, List.length_append, List.length_append, marksK_length, List.length_take, List.length_drop] at this
  rw [List.length_append, this]
  omega
 have eE : E.map (·.2) = KK.drop j := by
  have := congrArg (List.drop j) he
  rw [List.map_append, List.drop_append_of_le_length (by simp [hl]), List.drop_append_of_le_length (by rw [marksK_length, List.length_take]; omega)] at this
  rw [List.drop_eq_nil_of_le (by simp [hl]), List.drop_eq_nil_of_le (by rw [marksK_length, List.length_take]; omega)] at this
  simpa using this
 have eD : D.map (·.2) = marksK k (KK.take j) := by
  have := congrArg (List.take j) he
  rw [List.map_append, List.take_append_of_le_length (by simp [hl]), List.take_append_of_le_length (by rw [marksK_length, List.length_take]; omega)] at this
  rw [List.take_of_length_le (by simp [hl]), List.take_of_length_le (by rw [marksK_length, List.length_take]; omega)] at this
  exact this
 rw [List.drop_eq_getElem_cons hj] at eE
 have gd : KK.getD j kz = KK[j] := by simp [hj]
 have ts := take_snoc KK j hj
 rw [gd] at ts ⊢
 generalize hX : mk1 (k + (sumK (KK.take j) : Int)) KK[j] = y
 have hyv : y.vals = marks (k + (sumK (KK.take j) : Int) + 1 + 1) KK[j].vals.length := by rw [← hX]; rfl
 match E, eE with
 | (u, L) :: E', eE =>
  rw [List.map_cons, List.cons.injEq] at eE
  obtain ⟨eL, eE'⟩ := eE
  simp only at eL
  subst eL
  have hu : Own lo hi wr u KK[j].vals := hin (u, KK[j]) (by simp)
  rw [ln] at ho
  obtain ⟨hx, hf⟩ := ho
  rcases hf with ⟨rfl, h0⟩ | ⟨g', cap, cur, rfl, r⟩
  ·omega
  ·have ho' : wr.ownsRow lo 36 4 (.slice (some ⟨g', 0, none⟩) KK.length cap) KK.length (cells4 (D ++ (u, KK[j]) :: E')) := ⟨hx, .inr ⟨g', cap, cur, rfl, r⟩⟩
   have ho1 := row_kept ho' g1
   have hu1 : Own lo hi w1 u KK[j].vals := hu.kept g1
   have hat := own_at ho1 ln (i := j) (by rw [ln]; exact hj)
   have hget : (D ++ (u, KK[j]) :: E')[j]'(by rw [ln]; exact hj) = (u, KK[j]) := by
    rw [List.getElem_append_right (by omega)]
    simp [hl]
   rw [hget] at hat
   obtain ⟨a, c, rfl, _⟩ := hu1.sl
   refine ⟨g', cap, a, _, c, rfl, fun i hi4 => ⟨?_, ho1.frozenAt _⟩, hat.2.2.1, ?_⟩
   ·rw [ho1.cellAt _ (by omega)]
    exact ⟨_, List.getElem?_eq_getElem (by rw [cells4_len, ln]; omega)⟩
   ·rintro W rfl
    have s1 := (ho1.stored (j * 4) (.string y.dg)).1
    have s2 := (s1.stored (j * 4 + 1) (.bool y.sat)).1
    have g12 : w1.grownBy ((w1.setCell ⟨g', j * 4, none⟩ (.string y.dg)).setCell ⟨g', j * 4 + 1, none⟩ (.bool y.sat)) (some g') := sl.grown_trans' (sl.grown_setCell _ _ _ _) (sl.grown_setCell _ _ _ _)
    generalize (w1.setCell ⟨g', j * 4, none⟩ (.string y.dg)).setCell ⟨g', j * 4 + 1, none⟩ (.bool y.sat) = W at *
    have ku : ∀ p : Value × Kn, p ∈ D ∨ p ∈ E' ∨ p = (.slice a KK[j].vals.length c, KK[j]) → Own lo hi W p.1 p.2.vals := by
     intro p hp'
     have hp2 : p ∈ D ++ (.slice a KK[j].vals.length c, KK[j]) :: E' := by
      rw [List.mem_append, List.mem_cons]
      rcases hp' with q | q | q
      ·exact .inl q
      ·exact .inr (.inr q)
      ·exact .inr (.inl q)
     have q := (hin p hp2).kept g1
     exact ⟨q.1.kept g12 (own_ne' ho1 q.1), q.2⟩
    refine ⟨(ku _ (.inr (.inr rfl))).1, fun w4 g4 o4 => ?_⟩
    have nb : (Value.slice a KK[j].vals.length c).ownBlock ≠ some g' := fun e => own_ne s2 (ku _ (.inr (.inr rfl))).1 g' e rfl
    have s4 := s2.kept g4 (.inr (fun e => nb e.symm))
    refine ⟨?_, s4.frozenAt _, ?_⟩
    ·rw [s4.cellAt _ (by omega)]
     exact ⟨_, List.getElem?_eq_getElem (by rw [List.length_set, List.length_set, cells4_len, ln]; omega)⟩
    ·have s5 := (s4.stored (j * 4 + 3) (.int .i64 y.cost)).1
     rw [cells4_set3 D E' _ KK[j] y j hl] at s5
     have g5 := sl.grown_setCell w4 g' (j * 4 + 3) (.int .i64 y.cost)
     rw [List.pairwise_append, List.pairwise_cons] at hp
     obtain ⟨pD, ⟨pu, pE⟩, pc⟩ := hp
     have kp : ∀ p : Value × Kn, (p ∈ D ∨ p ∈ E') → p.1.ownBlock = none ∨ p.1.ownBlock ≠ (Value.slice a KK[j].vals.length c).ownBlock := by
      intro p hp
      cases e : p.1.ownBlock with
      | none => exact .inl rfl
      | some q =>
       refine .inr (fun e' => ?_)
       rcases hp with hp | hp
       ·exact pc p hp (.slice a KK[j].vals.length c, KK[j]) (by simp) q e e'.symm
       ·exact pu p hp q e'.symm e
     have kn : ∀ p : Value × Kn, (p ∈ D ∨ p ∈ E') → Own lo hi (w4.setCell ⟨g', j * 4 + 3, none⟩ (.int .i64 y.cost)) p.1 p.2.vals := by
      intro p hp'
      have q := ku p (by rcases hp' with q | q; exact .inl q; exact .inr (.inl q))
      have q4 := q.1.kept g4 (kp p hp')
      exact ⟨q4.kept g5 (own_ne' s4 q4), q.2⟩
     refine ⟨D ++ [(.slice a KK[j].vals.length c, y)], E', by simp [hl], ?_, ?_, ?_, ?_, ?_⟩
     ·rw [List.append_assoc, List.map_append, eD, ts, marksK_append]
      simp [eE', marksK, hX]
     ·have e1 : ((D ++ [(Value.slice a KK[j].vals.length c, y)]) ++ E').length = KK.length := by rw [← ln]; simp
      rw [e1, List.append_assoc, List.singleton_append]
      exact s5
     ·intro p hp'
      rw [List.append_assoc, List.mem_append, List.singleton_append, List.mem_cons] at hp'
      rcases hp' with hp' | rfl | hp'
      ·exact kn p (.inl hp')
      ·refine ⟨?_, hu.2⟩
       dsimp only
       rw [hyv, sl.marks_length]
       exact o4.kept g5 (own_ne' s4 o4)
      ·exact kn p (.inr hp')
     ·rw [List.append_assoc, List.pairwise_append, List.singleton_append, List.pairwise_cons]
      refine ⟨pD, ⟨fun p hp => pu p hp, pE⟩, fun a' ha b hb => ?_⟩
      rw [List.mem_cons] at hb
      rcases hb with rfl | hb
      ·exact pc a' ha (Value.slice a KK[j].vals.length c, KK[j]) (by simp)
      ·exact pc a' ha b (by simp [hb])
     ·have r1 := (ho1.lt g' rfl).1
      have r2 := hb g' rfl
      exact outs_trans (outs_trans (outs_trans gO (outs_none g1)) (outs_by g12 (fun q e => by cases e; exact ⟨r1, r2⟩))) (outs_trans (outs_by g4 (fun q e => ⟨(hu.1.lt q e).1, hu.2 q e⟩)) (outs_by g5 (fun q e => by cases e; exact ⟨r1, r2⟩)))
set_option maxHeartbeats 800000 in
theorem markKnownS (v : Value) (KK : List Kn) (k : Int) (lo hi : Nat) (w : World) (hn : tot KK ≤ 1049600) (hin : ∀ i, (KK.getD i kz).vals.length ≤ 1048576) (k0 : 0 ≤ k) (k1 : k ≤ 1073741824) (ho : OwnK lo hi w v KK) :
  Calls Tryz.prog 55 #[v, .int .i64 k] w fun e w' => e = .returned (.int .i64 (k + (sumK KK : Int))) ∧ OwnK lo hi w' v (marksK k KK) ∧ Outs lo hi w w' := by
 obtain ⟨a, cap, rfl⟩ := ho.len
 have hnl := Nat.le_trans (tot_len KK) hn
 have st := hide (MarkK.start k ho)
 have hb := hide ho.hi
 clear ho
 go_enter Tryz.func55, Tryz.ntmps55
 go_wp2
 go_loopw [1, 5] (fun q i wr => ∃ j : Nat, j ≤ KK.length ∧ i = .int .i64 j ∧ q = .int .i64 (k + (sumK (KK.take j) : Int)) ∧ Hid (MarkK lo hi w wr (.slice a KK.length cap) k KK j)) (fun _ i _ => KK.length - (intOf i).toNat)
 case atStart => exact ⟨0, Nat.zero_le _, rfl, by simp [sumK], st⟩
 case round =>
  obtain ⟨j, hj, rfl, rfl, hm⟩ := hrel
  clear st
  by_cases hlt : j < KK.length
  ·have hL := hin j
   have sn := sumK_snoc (KK.take j) (KK.getD j kz)
   rw [← take_snoc KK j hlt] at sn
   have sb := Nat.le_trans (sumK_take KK j) (Nat.le_trans (sumK_le KK) (Nat.mul_le_mul_left 3 hn))
   have hi' : (j : Int) < (KK.length : Int) := by omega
   have NX := hide (fun w1 g => (unhide hm).next (w1 := w1) hlt (unhide hb) g)
   generalize KK.getD j kz = L at *
   generalize sumK (KK.take j) = s at *
   obtain ⟨ks, hks⟩ : ∃ ks, ks = k + (s : Int) := ⟨_, rfl⟩
   rw [← hks] at NX ⊢
   have b0 : 0 ≤ ks := by omega
   have b1 : ks ≤ 1099511000000 := by omega
   have SL : Hid (ks + 3 + (L.vals.length : Int) = k + (sumK (KK.take (j + 1)) : Int)) := by show _ = _; omega
   have CT := hide (markText ks wr b0 (by omega))
   clear sn hks sb hm
   go_wp2_with fail
   refine (unhide CT).mono ?_; rintro e w1 ⟨rfl, g1⟩
   obtain ⟨g, cap', a', n', c', e, hcc, c2, hW⟩ := unhide NX w1 g1
   simp only [Value.slice.injEq] at e
   obtain ⟨rfl, _, rfl⟩ := e
   obtain ⟨⟨x0, hx0⟩, hf0⟩ := hcc 0 (by decide)
   obtain ⟨⟨x1, hx1⟩, hf1⟩ := hcc 1 (by decide)
   rw [Nat.add_zero] at hx0 hf0
   have HW := hide (hW _ rfl)
   clear CT NX hcc hW g1
   have CM := hide (sl.markIntS (.slice a' n' c') L.vals (ks + 1 + 1) lo _ hL (by omega) (by omega) (unhide HW).1)
   go_wp2_with fail
   refine (unhide CM).mono ?_; rintro e w4 ⟨rfl, o4, g4⟩
   obtain ⟨⟨x3, hx3⟩, hf3, M4⟩ := (unhide HW).2 w4 g4 o4
   have M := hide M4
   clear o4 g4 HW CM M4
   go_wp2_with fail
   go_roundw
   case rel => exact ⟨j + 1, by omega, by go_num, by rw [← unhide SL]; congr 1; omega, M⟩
   case measure => simp [intOf]; omega
  ·have hi' : ¬ (j : Int) < (KK.length : Int) := by omega
   have R := hide ((unhide hm).done (unhide hb) (by omega))
   have e : Hid (KK.take j = KK) := by show _ = _; exact List.take_of_length_le (by omega)
   clear hm
   go_wp2
   go_ret
   exact ⟨ret_int (by rw [unhide e]), unhide R⟩
theorem getD_marks {KK : List Kn} {k : Int} {j : Nat} (h : j < KK.length) : (marksK k KK).getD j kz = mk1 (k + (sumK (KK.take j) : Int)) (KK.getD j kz) := marksK_getD k KK j h
set_option maxHeartbeats 1600000 in
theorem heldKnownS (v : Value) (KK : List Kn) (k : Int) (w : World) (hn : tot KK ≤ 1049600) (hin : ∀ i, (KK.getD i kz).vals.length ≤ 1048576) (k0 : 0 ≤ k) (k1 : k ≤ 1073741824) (hv : Kns w v (marksK k KK)) :
  Calls Tryz.prog 58 #[v, .int .i64 k] w fun e w' => e = .returned (.int .i64 (k + (sumK KK : Int))) ∧ w.grownBy w' none := by
 obtain ⟨a, cap, rfl, ha⟩ := hv
 rw [marksK_length] at ha ⊢
 have hnl := Nat.le_trans (tot_len KK) hn
 have HA := hide ha
 clear ha
 go_enter Tryz.func58, Tryz.ntmps58
 go_wp2
 go_loopw [1, 5] (fun q i wr => ∃ j : Nat, j ≤ KK.length ∧ i = .int .i64 j ∧ q = .int .i64 (k + (sumK (KK.take j) : Int)) ∧ Hid (w.grownBy wr none)) (fun _ i _ => KK.length - (intOf i).toNat)
 case atStart => exact ⟨0, Nat.zero_le _, rfl, by simp [sumK], grown_refl _⟩
 case round =>
  obtain ⟨j, hj, rfl, rfl, hg⟩ := hrel
  by_cases hlt : j < KK.length
  ·rcases unhide HA with h | ⟨b, off, rfl, hb, hcb⟩
   ·have := congrArg List.length h
    rw [marksK_length, List.length_nil] at this
    omega
   ·obtain ⟨u, hu⟩ := hcb j hlt
    rw [getD_marks hlt] at hu
    have hL := hin j
    have sn := sumK_snoc (KK.take j) (KK.getD j kz)
    rw [← take_snoc KK j hlt] at sn
    have sb := Nat.le_trans (sumK_take KK j) (Nat.le_trans (sumK_le KK) (Nat.mul_le_mul_left 3 hn))
    have hi' : (j : Int) < (KK.length : Int) := by omega
    generalize KK.getD j kz = L at *
    generalize sumK (KK.take j) = s at *
    obtain ⟨ks, hks⟩ : ∃ ks, ks = k + (s : Int) := ⟨_, rfl⟩
    rw [← hks] at hu ⊢
    have b0 : 0 ≤ ks := by omega
    have b1 : ks ≤ 1099511000000 := by omega
    have SL : Hid (ks + 3 + (L.vals.length : Int) = k + (sumK (KK.take (j + 1)) : Int)) := by show _ = _; omega
    unfold mk1 at hu
    have HU := hide (hu.kept (unhide hg))
    generalize hmt : mtB ks = T at HU
    have CT : Hid (∀ w1, Calls Tryz.prog 97 #[.int .i64 ks] w1 fun e w' => e = .returned (.string T) ∧ w1.grownBy w' none) := by
     intro w1
     rw [← hmt]
     exact markText ks w1 b0 (by omega)
    obtain ⟨c0, c1, c2, c3, hs⟩ := unhide HU
    dsimp only at c0 c1 c2 c3
    obtain ⟨ua, uc, rfl, _⟩ := hs
    rw [sl.marks_length] at c2
    clear hu hcb HA hks sn sb hmt
    have CK : Hid (∀ w', wr.grownBy w' none → w'.cell? ⟨b, off + j * 4, none⟩ = some (.string T)) := fun w' g => g.cell c0 (fun e => by cases e)
    go_wp2_with fail
    have GX := hide (cf.grown_drew wr none)
    go_region_held3 (fun w' => w'.cell? ⟨b, off + j * 4, none⟩ = some (.string T)) (go_keep) (first
     | (go_at_call 97; refine (unhide CT _).mono ?_; rintro e w9 ⟨rfl, g9⟩; replace GX := hide (grown_trans (r := none) (unhide GX) g9); have k1 := unhide CK _ (unhide GX); clear g9))
    all_goals
     obtain ⟨z0, z1, z2, z3, zs⟩ := (unhide HU).kept (unhide GX)
     dsimp only at z0 z1 z2 z3 zs
     rw [sl.marks_length] at z2 zs
     have CH := hide (sl.heldIntS _ L.vals.length (ks + 1 + 1) _ hL (by omega) (by omega) zs)
     have hq : ¬ ks + 1 + 1 + (L.vals.length : Int) < 0 := by omega
     have G2 := hide (grown_trans (r := none) (unhide hg) (unhide GX))
     clear zs HU CK CT hg GX c0 c1 c2 c3
     go_wp2_with fail
     refine (unhide CH).mono ?_; rintro e w5 ⟨rfl, hw⟩; have hw' := hw.symm; clear hw; subst hw'
     clear CH
     go_wp2_with fail
     go_roundw
     case rel => exact ⟨j + 1, by omega, by go_num, by rw [← unhide SL]; congr 1; omega, G2⟩
     case measure => simp [intOf]; omega
  ·have hi' : ¬ (j : Int) < (KK.length : Int) := by omega
   have e : Hid (KK.take j = KK) := by show _ = _; exact List.take_of_length_le (by omega)
   clear HA
   go_wp2
   go_ret
   exact ⟨ret_int (by rw [unhide e]), unhide hg⟩
theorem markCache (v : Value) (n : Int) (KK : List Kn) (k : Int) (lo hi : Nat) (w : World) (hn : tot KK ≤ 1049600) (hin : ∀ i, (KK.getD i kz).vals.length ≤ 1048576) (k0 : 0 ≤ k) (k1 : k ≤ 1073741824) (ho : OwnK lo hi w v KK) :
  Calls Tryz.prog 23 #[.agg #[.int .i64 n, v], .int .i64 k] w fun e w' => e = .returned (.int .i64 (k + (sumK KK : Int))) ∧ OwnK lo hi w' v (marksK k KK) ∧ Outs lo hi w w' := by
 have C := hide (markKnownS v KK k lo hi _ hn hin k0 k1 (ho.kept (World.grownBy_alloc w (.cells #[.int .i64 n, v] 30) none)))
 have G := hide (outs_none (lo := lo) (hi := hi) (World.grownBy_alloc w (.cells #[.int .i64 n, v] 30) none))
 clear ho
 go_enter Tryz.func23, Tryz.ntmps23
 go_wp2_with fail
 refine (unhide C).mono ?_; rintro e w1 ⟨rfl, o1, g1⟩
 have R := hide (And.intro o1 (outs_trans (unhide G) g1))
 clear o1 g1 G C
 go_wp2_with fail
 go_ret
 exact ⟨rfl, unhide R⟩
theorem heldCache (v : Value) (n : Int) (KK : List Kn) (k : Int) (w : World) (hn : tot KK ≤ 1049600) (hin : ∀ i, (KK.getD i kz).vals.length ≤ 1048576) (k0 : 0 ≤ k) (k1 : k ≤ 1073741824) (hv : Kns w v (marksK k KK)) :
  Calls Tryz.prog 26 #[.agg #[.int .i64 n, v], .int .i64 k] w fun e w' => e = .returned (.int .i64 (k + (sumK KK : Int))) ∧ w.grownBy w' none := by
 have C := hide (heldKnownS v KK k _ hn hin k0 k1 (hv.kept (World.grownBy_alloc w (.cells #[.int .i64 n, v] 30) none)))
 have G := hide (World.grownBy_alloc w (.cells #[.int .i64 n, v] 30) none)
 have hq : ¬ k + (sumK KK : Int) < 0 := by omega
 clear hv
 go_enter Tryz.func26, Tryz.ntmps26
 go_wp2_with fail
 refine (unhide C).mono ?_; rintro e w1 ⟨rfl, g1⟩
 have R := hide (grown_trans (r := none) (unhide G) g1)
 clear g1 G C
 go_wp2_with fail
 go_ret
 exact ⟨rfl, unhide R⟩
theorem markKnown (u : Value) (x : Kn) (k : Int) (lo hi : Nat) (w : World) (hL : x.vals.length ≤ 1048576) (k0 : 0 ≤ k) (k1 : k ≤ 1099511627776) (ho : Own lo hi w u x.vals) :
  Calls Tryz.prog 25 #[.agg #[.string x.dg, .bool x.sat, u, .int .i64 x.cost], .int .i64 k] w fun e w' => e = .returned (.int .i64 (k + (x.vals.length : Int))) ∧ Own lo hi w' u (marks k x.vals.length) ∧ Outs lo hi w w' := by
 have ga := World.grownBy_alloc w (.cells #[.string x.dg, .bool x.sat, u, .int .i64 x.cost] 36) none
 have C := hide (sl.markIntS u x.vals k lo _ hL k0 k1 (ho.kept ga).1)
 have G := hide (outs_none (lo := lo) (hi := hi) ga)
 have HB := hide (fun q (e : u.ownBlock = some q) => And.intro (ho.1.lt q e).1 (ho.2 q e))
 clear ho ga
 go_enter Tryz.func25, Tryz.ntmps25
 go_wp2_with fail
 refine (unhide C).mono ?_; rintro e w1 ⟨rfl, o1, g1⟩
 have R : Hid (Own lo hi w1 u (marks k x.vals.length) ∧ Outs lo hi w w1) := ⟨⟨by rw [sl.marks_length]; exact o1, fun q e => (unhide HB q e).2⟩, outs_trans (unhide G) (outs_by g1 (unhide HB))⟩
 clear o1 g1 G C HB
 go_wp2_with fail
 go_ret
 exact ⟨rfl, unhide R⟩
theorem heldKnown (u : Value) (d : ByteArray) (sat : Bool) (n : Nat) (cost : Int) (k : Int) (w : World) (hn : n ≤ 1048576) (k0 : 0 ≤ k) (k1 : k ≤ 1099511627776) (hv : Sl w u (marks k n)) :
  Calls Tryz.prog 27 #[.agg #[.string d, .bool sat, u, .int .i64 cost], .int .i64 k] w fun e w' => e = .returned (.int .i64 (k + (n : Int))) ∧ w.grownBy w' none := by
 have ga := World.grownBy_alloc w (.cells #[.string d, .bool sat, u, .int .i64 cost] 36) none
 have C := hide (sl.heldIntS u n k _ hn k0 k1 (hv.kept ga (.inl rfl)))
 have G := hide ga
 have hq : ¬ k + (n : Int) < 0 := by omega
 clear hv ga
 go_enter Tryz.func27, Tryz.ntmps27
 go_wp2_with fail
 refine (unhide C).mono ?_; rintro e w1 ⟨rfl, hw⟩; have hw' := hw.symm; clear hw; subst hw'
 go_wp2_with fail
 go_ret
 exact ⟨rfl, unhide G⟩
end Go.Proofs.YtnlllcgcaddhmaaGreatDoor.ua
