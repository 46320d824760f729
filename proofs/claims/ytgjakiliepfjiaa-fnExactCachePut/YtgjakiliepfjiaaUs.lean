/- The model's side of caches: copies, places; lists of one's own over values of somebody's own; no condition but on sizes. -/
import Derived.Test.YtgjakiliepfjiaaUq
namespace Go.Proofs.Ytgjakiliepfjiaa.ua
open Go.ChangeShapes Go.WideShapes Go.ChangeAt Go.RowKit
open Go.Proofs.Ytgjakiliepfjiaa.sl (Sl Own ints marks hide unhide ret_int ret_bool grown_refl grown_trans grown_drewN below_of of_below)
open Go.Proofs.Ytgjakiliepfjiaa.css (Outs outs_trans outs_none outs_by outs_refl own_mono own_sub own_outs own_kind)
open Go.Proofs.Ytgjakiliepfjiaa.yb (Box4)
open Go.Proofs.Ytgjakiliepfjiaa.cf (Box)
set_option linter.unusedVariables false
/-- a copy in the making: the argument, the answer, the copy and its entries -/
structure MidC (w wr : World) (room : Int) (v u : Value) (M : List Kn) : Prop where
  g : w.grownBy wr none
  b : Box 26 wr w.heap.size (.int .i64 room) v
  r : Box 26 wr (w.heap.size + 1) (.int .i64 0) (.slice none 0 0)
  o : Box 26 wr (w.heap.size + 1 + 1) (.int .i64 room) u
  e : OwnK (w.heap.size + 3) wr.heap.size wr u M
theorem MidC.kept {w wr w1 : World} {room : Int} {v u : Value} {M : List Kn} (h : MidC w wr room v u M) (g : wr.grownBy w1 none) : MidC w w1 room v u M :=
  ⟨grown_trans h.g g, h.b.kept g, h.r.kept g, h.o.kept g, (h.e.kept g).sub (Nat.le_refl _) g.size⟩
theorem cache_ty : (29 : Nat) ≠ 26 ∧ (3 : Nat) ≠ 26 := by decide
theorem Box.lt' {t : TypeId} {w : World} {c : Nat} {x y : Value} (h : Box t w c x y) : c < w.heap.size := (Array.getElem?_eq_some_iff.1 h).1
/-- one more, and the copy's entries stored -/
theorem MidC.grow {w wr w1 : World} {room : Int} {v u u' : Value} {M : List Kn} {k : Kn} {o : Obj} (h : MidC w wr room v u M) (g : (wr.alloc o).grownBy w1 u.ownBlock) (e : OwnK (w.heap.size + 3) w1.heap.size w1 u' (M ++ [k])) :
    Box 26 w1 (w.heap.size + 1 + 1) (.int .i64 room) u ∧ MidC w (w1.setCell ⟨w.heap.size + 1 + 1, 1, none⟩ u') room v u' (M ++ [k]) ∧ ∀ c i x, c < w.heap.size + 3 → wr.cell? ⟨c, i, none⟩ = some x → w1.cell? ⟨c, i, none⟩ = some x := by
  have ga := World.grownBy_alloc wr o none
  have hlo : ∀ q, u.ownBlock = some q → w.heap.size + 3 ≤ q := by
    obtain ⟨D, _, ho, _⟩ := h.e
    exact fun q e => (ho.lt q e).1
  have n0 : u.ownBlock ≠ some w.heap.size := fun e => by have := hlo _ e; omega
  have n1 : u.ownBlock ≠ some (w.heap.size + 1) := fun e => by have := hlo _ e; omega
  have n2 : u.ownBlock ≠ some (w.heap.size + 1 + 1) := fun e => by have := hlo _ e; omega
  have b1 := (h.b.kept ga).by g n0
  have r1 := (h.r.kept ga).by g n1
  have o1 := (h.o.kept ga).by g n2
  refine ⟨o1, ⟨?_, b1.setO (by omega), r1.setO (by omega), o1.set1 u', ?_⟩, fun c i x hc hx => g.cell (ga.cell hx (fun e => by cases e)) (fun e => by have := hlo c e.symm; omega)⟩
  · refine cf.grown_set ?_ (by omega)
    have hg := grown_trans (r := none) h.g ga
    exact ⟨g.os.trans hg.os, g.tape.trans hg.tape, g.output.trans hg.output, Nat.le_trans hg.size g.size, fun k hk _ => by
      rw [g.block k (Nat.lt_of_lt_of_le hk hg.size) (fun e => by have := hlo k e.symm; omega)]
      exact hg.block k hk (fun e => by cases e)⟩
  · rw [cf.size_set]
    exact ownK_set e (by omega)
set_option maxRecDepth 10000 in
set_option maxHeartbeats 4000000 in
theorem l10Copy (v : Value) (room : Int) (KK : List Kn) (w : World) (hn : KK.length ≤ 1048576) (hin : ∀ i, (KK.getD i kz).vals.length ≤ 1048576) (hv : VKns w v KK) :
    Calls Try.prog 32 #[.agg #[.int .i64 room, v]] w fun e w' => CacheE w room KK e w' := by
  obtain ⟨a, cap, rfl⟩ := hv.len
  obtain ⟨W1, hW1⟩ : ∃ W1, W1 = ((w.alloc (.cells #[.int .i64 room, .slice a KK.length cap] 26)).alloc (.cells #[.int .i64 0, .slice none 0 0] 26)).alloc (.cells #[.int .i64 room, .slice none 0 0] 26) := ⟨_, rfl⟩
  have g1 : w.grownBy W1 none := by rw [hW1]; exact grown_trans (grown_trans (World.grownBy_alloc _ _ _) (World.grownBy_alloc _ _ _)) (World.grownBy_alloc _ _ _)
  have M1 : MidC w W1 room (.slice a KK.length cap) (.slice none 0 0) (KK.take 0) := by
    refine ⟨g1, ?_, ?_, ?_, OwnK.none _ _ _⟩
    · rw [hW1]; exact ((Box.new _ _ _ _).kept (World.grownBy_alloc _ _ none)).kept (World.grownBy_alloc _ _ none)
    · rw [hW1]
      have := (Box.new 26 (w.alloc (.cells #[.int .i64 room, .slice a KK.length cap] 26)) (.int .i64 0) (.slice none 0 0)).kept (World.grownBy_alloc _ (.cells #[.int .i64 room, .slice none 0 0] 26) none)
      rw [World.size_alloc] at this
      exact this
    · rw [hW1]
      have := Box.new 26 ((w.alloc (.cells #[.int .i64 room, .slice a KK.length cap] 26)).alloc (.cells #[.int .i64 0, .slice none 0 0] 26)) (.int .i64 room) (.slice none 0 0)
      rw [World.size_alloc, World.size_alloc] at this
      exact this
  have ST := hide M1
  have HV := hide hv
  clear g1 M1 hv
  go_enter Try.func32, Try.ntmps32
  go_upto_region 2 with fail
  rw [← hW1]
  clear hW1
  go_wp2_with fail
  go_loopw [4] (fun i wr => ∃ j : Nat, j ≤ KK.length ∧ i = .int .i64 j ∧ ∃ u, Hid (MidC w wr room (.slice a KK.length cap) u (KK.take j))) (fun i _ => KK.length - (intOf i).toNat)
  case atStart => exact ⟨0, Nat.zero_le _, rfl, _, ST⟩
  case round =>
    obtain ⟨j, hj, rfl, u, hm⟩ := hrel
    clear ST
    have b1 := (unhide hm).b.c1
    by_cases hlt : j < KK.length
    · obtain ⟨a', cap', e, hh⟩ := unhide HV
      simp only [Value.slice.injEq] at e
      obtain ⟨rfl, _, rfl⟩ := e
      rcases hh with h | ⟨b, off, rfl, hb, hcb⟩
      · rw [h] at hlt
        simp at hlt
      · obtain ⟨y, hy, hvl⟩ := hcb j hlt
        obtain ⟨c0, c1, c2, c3, _⟩ := hy.kept (unhide hm).g
        have HVL := hide (hvl.kept (unhide hm).g)
        have HTK := hide (take_snoc KK j hlt)
        have hL := hin j
        have hi' : (j : Int) < (KK.length : Int) := by omega
        generalize KK.getD j kz = x at *
        obtain ⟨dg, sat, vals, cost⟩ := x
        dsimp only at *
        obtain ⟨ya, yc, rfl, _⟩ := hvl.sl
        have HJE : Hid ((KK.take j).length = j) := by show _ = _; rw [List.length_take]; omega
        have HJL : Hid ((KK.take j).length ≤ 1048576) := by show _ ≤ _; rw [List.length_take]; omega
        obtain ⟨xa, xc, hxv⟩ := (unhide hm).e.len
        generalize hfn : (KK.take j).length = fn at hxv
        clear hfn
        subst hxv
        have CC := hide (fun w1 (g : wr.grownBy w1 none) => l10CopyKnown (.slice ya vals.length yc) ⟨dg, sat, vals, cost⟩ w1 hL ((unhide HVL).kept g))
        dsimp only at CC
        have o1 := (unhide hm).o.c1
        have CK : Hid (∀ w', wr.grownBy w' none → w'.cell? ⟨w.heap.size, 1, none⟩ = some (.slice (some ⟨b, off, none⟩) KK.length cap) ∧ w'.cell? ⟨w.heap.size + 1 + 1, 1, none⟩ = some (.slice xa fn xc) ∧ w'.cell? ⟨b, off + j * 4, none⟩ = some (.string dg) ∧ w'.cell? ⟨b, off + j * 4 + 1, none⟩ = some (.bool sat) ∧ w'.cell? ⟨b, off + j * 4 + 2, none⟩ = some (.slice ya vals.length yc) ∧ w'.cell? ⟨b, off + j * 4 + 3, none⟩ = some (.int .i64 cost)) := fun w' g => ⟨g.cell b1 (fun e => by cases e), g.cell o1 (fun e => by cases e), g.cell c0 (fun e => by cases e), g.cell c1 (fun e => by cases e), g.cell c2 (fun e => by cases e), g.cell c3 (fun e => by cases e)⟩
        clear hcb hy hvl HV
        go_wp2_with fail
        have GX := hide (cf.grown_drew wr none)
        have of1 := (unhide hm).o.f 1
        go_region_law (first
          | (go_simp; go_at_call 36; refine (unhide CC _ (unhide GX)).mono ?_; rintro e w9 ⟨v9, rfl, o9, g9⟩; obtain ⟨v9a, v9c, rfl, _⟩ := Sl.of_own o9; have U9 := hide (Own.of o9); have G9 := hide (grown_trans (r := none) (unhide GX) g9); obtain ⟨k1, k2, k3, k4, k5, k6⟩ := unhide CK _ (unhide G9); have M9 := hide ((unhide hm).kept (unhide G9)); have E9 := hide ((unhide hm).e.kept (unhide G9)); have z9 := (unhide G9).size; have z8 := (unhide hm).o.lt; have k7 := (unhide M9).o.f 1; have k9 := ((unhide M9).o.kept (World.grownBy_alloc w9 (.cells #[.string dg, .bool sat, .slice v9a vals.length v9c, .int .i64 cost] 29) none)).c1; clear g9 o9)
          | (refine stepK (k := ⟨dg, sat, vals, cost⟩) (unhide E9) (unhide U9) (by omega) z9 (unhide HJL) (by rfl) _ _ (by rfl) (by rfl) (by rfl) ?_; intro g6 cap6 w6 o6 gg6; have R6 := hide ((unhide M9).grow gg6 o6); rw [unhide HJE] at R6; have p1 := (unhide R6).1.c1; have pf := (unhide R6).1.f 1; clear o6 gg6))
        all_goals
          go_wp2_with fail
          go_roundw
          case rel => exact ⟨j + 1, by omega, by go_num, _, by rw [unhide HTK]; exact (unhide R6).2.1⟩
          case measure => simp [intOf]; omega
    · have hi' : ¬ (j : Int) < (KK.length : Int) := by omega
      have hjj : KK.take j = KK := List.take_of_length_le (by omega)
      rw [hjj] at hm
      obtain ⟨xa, xc, rfl⟩ := (unhide hm).e.len
      have o0 := (unhide hm).o.c0
      have o1 := (unhide hm).o.c1
      have r0 := (unhide hm).r.c0
      have r1 := (unhide hm).r.c1
      have rf0 := (unhide hm).r.f 0
      have rf1 := (unhide hm).r.f 1
      have zz := (unhide hm).o.lt
      clear hjj HV
      go_wp2_with fail
      (try simp only [Exit.inBlock, Exit.then])
      refine bodyPost_ret (ret_cache rfl rfl (((unhide hm).r.set0 (.int .i64 room)).set1 (.slice xa KK.length xc))) rfl ⟨_, rfl, ?_, ?_⟩
      · rw [cf.size_set, cf.size_set]
        exact (ownK_set (ownK_set (unhide hm).e (by omega)) (by omega)).sub (by omega) (Nat.le_refl _)
      · exact cf.grown_set (cf.grown_set (unhide hm).g (by omega)) (by omega)
end Go.Proofs.Ytgjakiliepfjiaa.ua
