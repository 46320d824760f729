/- What the laws on caches need besides: sizes of what is found or put, structs while others are written; no condition. -/
import Derived.Test.YtgjakiliepfjiaaUy
import Derived.Test.YtgjakiliepfjiaaUd
namespace Go.Proofs.Ytgjakiliepfjiaa.ua
open Go.ChangeShapes Go.WideShapes Go.ChangeAt Go.RowKit
open Go.Proofs.Ytgjakiliepfjiaa.sl (Sl Own ints marks hide unhide)
open Go.Proofs.Ytgjakiliepfjiaa.css (Outs)
open Go.Proofs.Ytgjakiliepfjiaa.yb (Box4)
open Go.Proofs.Ytgjakiliepfjiaa.cf (Box)
set_option linter.unusedVariables false
theorem box_outs {t : TypeId} {w w' : World} {c lo hi : Nat} {x y : Value} (h : Box t w c x y) (o : Outs lo hi w w') (d : c < lo ∨ hi ≤ c) : Box t w' c x y := (o.block c h.lt d).trans h
theorem box4_outs {t : TypeId} {w w' : World} {c lo hi : Nat} {x y z q : Value} (h : Box4 t w c x y z q) (o : Outs lo hi w w') (d : c < lo ∨ hi ≤ c) : Box4 t w' c x y z q := (o.block c h.lt d).trans h
theorem tot_append (A B : List Kn) : tot (A ++ B) = tot A + tot B := by
  unfold tot
  rw [List.length_append, List.map_append, List.sum_append]
  omega
theorem tot_one (k : Kn) : tot [k] = 1 + wt k := by simp [tot]
theorem tot_part (KK : List Kn) (j : Nat) (hj : j < KK.length) : tot ((KK.take j ++ KK.drop (j + 1)) ++ [KK.getD j kz]) = tot KK := by
  have e : KK = KK.take j ++ KK.getD j kz :: KK.drop (j + 1) := by
    conv => lhs; rw [← List.take_append_drop j KK, List.drop_eq_getElem_cons hj]
    simp [hj]
  have q : tot KK = tot (KK.take j ++ ([KK.getD j kz] ++ KK.drop (j + 1))) := by rw [List.singleton_append, ← e]
  rw [q, tot_append, tot_append, tot_append, tot_append]
  omega
theorem fnd_parts {room : Int} {KK : List Kn} {d : ByteArray} (hb : fndB room KK d = true) : ∃ j, j < KK.length ∧ fndK room KK d = KK.getD j kz ∧ fndL room KK d = (KK.take j ++ KK.drop (j + 1)) ++ [KK.getD j kz] := by
  have hok : okC room KK = true := by unfold fndB at hb; rw [Bool.and_eq_true] at hb; exact hb.1
  obtain ⟨_, _, _, hdist⟩ := okC_parts hok
  have hnw : newTo KK d KK.length = false := by unfold fndB at hb; rw [Bool.and_eq_true] at hb; simpa using hb.2
  obtain ⟨j, hj, ej⟩ : ∃ j, j < KK.length ∧ (KK.getD j kz).dg = d := by
    refine (has_dm KK d KK.length).1 ?_
    rw [newTo_dm, hnw]
    rfl
  have eK := ent_at hdist j hj ej
  refine ⟨j, hj, ?_, ?_⟩
  · unfold fndK; rw [hb, ← eK]; rfl
  · unfold fndL; rw [hb, ← eK, erase_filter hdist j hj ej]; rfl
theorem tot_fnd (room : Int) (KK : List Kn) (d : ByteArray) : tot (fndL room KK d) ≤ tot KK := by
  cases hb : fndB room KK d
  · unfold fndL; rw [hb]; exact Nat.le_refl _
  · obtain ⟨j, hj, _, e⟩ := fnd_parts hb
    rw [e, tot_part KK j hj]
    exact Nat.le_refl _
theorem vals_fnd (room : Int) (KK : List Kn) (d : ByteArray) : (fndK room KK d).vals.length ≤ tot KK := by
  cases hb : fndB room KK d
  · unfold fndK; rw [hb]; exact Nat.zero_le _
  · obtain ⟨j, hj, e, _⟩ := fnd_parts hb
    rw [e]
    exact tot_vals KK j
theorem tot_filter (p : Kn → Bool) (KK : List Kn) : tot (KK.filter p) ≤ tot KK := by
  induction KK with
  | nil => exact Nat.le_refl _
  | cons x l ih =>
    rw [List.filter_cons]
    have e : tot (x :: l) = tot [x] + tot l := by rw [← List.singleton_append, tot_append]
    split
    · have e2 : tot (x :: l.filter p) = tot [x] + tot (l.filter p) := by rw [← List.singleton_append, tot_append]
      omega
    · omega
theorem tot_drop1 (L : List Kn) : tot (L.drop 1) ≤ tot L := by
  cases L with
  | nil => exact Nat.le_refl _
  | cons x l =>
    have e : tot (x :: l) = tot [x] + tot l := by rw [← List.singleton_append, tot_append]
    show tot l ≤ _
    omega
theorem tot_put (room : Int) (KK : List Kn) (k : Kn) : tot (putK room KK k) ≤ tot KK + 1 + wt k := by
  unfold putK
  split
  · unfold putL
    have h1 := tot_filter (oth k.dg) KK
    have h2 : tot (rest KK k.dg ++ [k]) ≤ tot KK + 1 + wt k := by
      rw [tot_append, tot_one]
      unfold rest
      omega
    split
    · exact Nat.le_trans (tot_drop1 _) h2
    · exact h2
  · omega
theorem mem_put {room : Int} {KK : List Kn} {k x : Kn} (h : x ∈ putK room KK k) : x = k ∨ x ∈ KK := by
  have h2 : x ∈ rest KK k.dg ++ [k] → x = k ∨ x ∈ KK := by
    intro q
    rw [List.mem_append, List.mem_singleton] at q
    rcases q with q | q
    · exact .inr (List.mem_filter.1 q).1
    · exact .inl q
  unfold putK at h
  split at h
  · unfold putL at h
    split at h
    · exact h2 (List.mem_of_mem_drop h)
    · exact h2 h
  · exact .inr h
theorem vals_mem {KK : List Kn} {x : Kn} (h : x ∈ KK) : x.vals.length ≤ tot KK := by
  obtain ⟨i, hi, rfl⟩ := List.getElem_of_mem h
  have := tot_vals KK i
  rwa [show KK.getD i kz = KK[i] by simp [hi]] at this
theorem vals_put (room : Int) (KK : List Kn) (k : Kn) (i : Nat) : ((putK room KK k).getD i kz).vals.length ≤ tot KK + k.vals.length := by
  by_cases h : i < (putK room KK k).length
  · rw [show (putK room KK k).getD i kz = (putK room KK k)[i] by simp [h]]
    rcases mem_put (List.getElem_mem h) with e | e
    · rw [e]; omega
    · have := vals_mem e; omega
  · rw [getD_out _ _ (by omega)]
    exact Nat.zero_le _
/-- all that lay in the world a, whose size was m, is there still -/
def Old (m : Nat) (a w : World) : Prop := a.heap.size = m ∧ Below m a w
theorem Old.start (w : World) : Old w.heap.size w w := ⟨rfl, Below.refl _ _⟩
theorem Old.none {m : Nat} {a w w' : World} (h : Old m a w) (g : w.grownBy w' none) : Old m a w' := by
  obtain ⟨rfl, b⟩ := h
  exact ⟨rfl, sl.below_none b g⟩
theorem Old.outs {m lo hi : Nat} {a w w' : World} (h : Old m a w) (hlo : m ≤ lo) (o : Outs lo hi w w') : Old m a w' := by
  obtain ⟨rfl, b⟩ := h
  exact ⟨rfl, css.below_outs b hlo o⟩
theorem Old.grown {m : Nat} {a w : World} (h : Old m a w) : a.grownBy w Option.none := by
  obtain ⟨rfl, b⟩ := h
  exact sl.of_below b
theorem eqCacheB (v u : Value) (n : Int) (KK : List Kn) (w : World) (h1 : KK.length ≤ 1048576) (h2 : ∀ i, (KK.getD i kz).vals.length ≤ 1048576) (hv : Kns w v KK) (hu : Kns w u KK) :
    Calls Try.prog 16 #[.agg #[.int .i64 n, v], .agg #[.int .i64 n, u]] w fun e w' => e = .returned (.bool true) ∧ w.grownBy w' none := by
  have g0 : w.grownBy ((w.alloc (.cells #[.int .i64 n, v] 26)).alloc (.cells #[.int .i64 n, u] 26)) none := sl.grown_trans (World.grownBy_alloc _ _ _) (World.grownBy_alloc _ _ _)
  have C := hide (eqKnownS v u KK _ h1 h2 (hv.kept g0) (hu.kept g0))
  have G := hide g0
  clear hv hu h1 h2 g0
  go_enter Try.func16, Try.ntmps16
  go_wp2_with fail
  refine (unhide C).mono ?_; rintro e w1 ⟨rfl, g1⟩
  have R := hide (sl.grown_trans (r := none) (unhide G) g1)
  clear g1 G C
  go_wp2_with fail
  go_ret
  exact ⟨rfl, unhide R⟩
/-- the model's answer, or one that is only read: in a variable of its own -/
def Fin (W wx : World) (n : Int) (c : Nat) (u : Value) (L : List Kn) : Prop := Box 26 wx c (.int .i64 n) u ∧ Kns wx u L ∧ W.grownBy wx none ∧ W.heap.size ≤ c
theorem finB {W w8 : World} {n : Int} {u : Value} {L : List Kn} {lo : Nat} (h : RwK lo w8 u L) (g : W.grownBy w8 none) : Fin W (w8.alloc (.cells #[.int .i64 n, u] 26)) n w8.heap.size u L :=
  ⟨Box.new _ _ _ _, (h.kept (World.grownBy_alloc _ _ _)).vkns.kns, sl.grown_trans g (World.grownBy_alloc _ _ _), g.size⟩
theorem finA {W w8 : World} {n : Int} {u x y : Value} {L : List Kn} {lo c : Nat} (b : Box 26 w8 c x y) (h : RwK lo w8 u L) (g : W.grownBy w8 none) (hc : W.heap.size ≤ c) : Fin W ((w8.setCell ⟨c, 0, none⟩ (.int .i64 n)).setCell ⟨c, 1, none⟩ u) n c u L :=
  ⟨(b.set0 _).set1 _, ((h.by (sl.grown_setCell _ _ _ _) b cache_ty.1 cache_ty.2).by (sl.grown_setCell _ _ _ _) (b.set0 _) cache_ty.1 cache_ty.2).vkns.kns, cf.grown_set (cf.grown_set g hc) hc, hc⟩
end Go.Proofs.Ytgjakiliepfjiaa.ua
