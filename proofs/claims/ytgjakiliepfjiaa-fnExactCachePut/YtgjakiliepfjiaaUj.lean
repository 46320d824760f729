/- Copies of what is known and of caches, both sides: each in memory of its own; no condition but on sizes. -/
import Derived.Test.YtgjakiliepfjiaaUf
import Derived.Test.YtgjakiliepfjiaaApp
namespace Go.Proofs.Ytgjakiliepfjiaa.ua
open Go.ChangeShapes Go.WideShapes Go.ChangeAt Go.RowKit
open Go.Proofs.Ytgjakiliepfjiaa.sl (Sl Own ints marks hide unhide ret_int ret_bool grown_refl grown_trans grown_drewN below_of of_below)
open Go.Proofs.Ytgjakiliepfjiaa.css (Outs outs_trans outs_none outs_by outs_refl own_mono own_sub own_outs own_kind)
open Go.Proofs.Ytgjakiliepfjiaa.yb (Box4)
open Go.Proofs.Ytgjakiliepfjiaa.cf (Box)
set_option linter.unusedVariables false
/-- a copy of what is known -/
def CopyE (w : World) (k : Kn) (e : Ending) (w' : World) : Prop := ∃ v, e = .returned (.agg #[.string k.dg, .bool k.sat, v, .int .i64 k.cost]) ∧ w'.ownsRow w.heap.size 3 1 v k.vals.length (ints k.vals) ∧ w.grownBy w' none
set_option maxHeartbeats 800000 in
theorem copyKnown (u : Value) (k : Kn) (w : World) (hL : k.vals.length ≤ 1048576) (hu : Vl w u k.vals) :
    Calls Try.prog 56 #[.agg #[.string k.dg, .bool k.sat, u, .int .i64 k.cost]] w fun e w' => CopyE w k e w' := by
  obtain ⟨ua, uc, rfl, _⟩ := hu.sl
  obtain ⟨dg, sat, vals, cost⟩ := k
  dsimp only at *
  obtain ⟨W1, hW1⟩ : ∃ W1, W1 = (w.alloc (.cells #[.string dg, .bool sat, .slice ua vals.length uc, .int .i64 cost] 29)).alloc (.cells #[.string ⟨#[]⟩, .bool false, .slice none 0 0, .int .i64 0] 29) := ⟨_, rfl⟩
  have g1 : w.grownBy W1 none := by rw [hW1]; exact grown_trans (World.grownBy_alloc _ _ _) (World.grownBy_alloc _ _ _)
  have s1 : W1.heap.size = w.heap.size + 1 + 1 := by rw [hW1]; simp only [World.size_alloc]
  have b0 : Box4 29 W1 w.heap.size (.string dg) (.bool sat) (.slice ua vals.length uc) (.int .i64 cost) := by rw [hW1]; exact (Box4.new _ w _ _ _ _).kept (World.grownBy_alloc _ _ none)
  have b1 : Box4 29 W1 (w.heap.size + 1) (.string ⟨#[]⟩) (.bool false) (.slice none 0 0) (.int .i64 0) := by
    rw [hW1]
    have := Box4.new 29 (w.alloc (.cells #[.string dg, .bool sat, .slice ua vals.length uc, .int .i64 cost] 29)) (.string ⟨#[]⟩) (.bool false) (.slice none 0 0) (.int .i64 0)
    rw [World.size_alloc] at this
    exact this
  have M2 := app.made_nil W1
  obtain ⟨W2, hW2⟩ : ∃ W2, W2 = W1.alloc (.cells #[] 3) := ⟨_, rfl⟩
  rw [← hW2, s1] at M2
  have b02 := b0.kept M2.2
  have b12 := b1.kept M2.2
  obtain ⟨lo, hi, hO⟩ := hu.kept (grown_trans (r := none) g1 M2.2)
  have sz2 := M2.2.size
  have HM := hide M2
  have B0 := hide b02
  have B1 := hide b12
  have HO := hide hO
  have HG := hide g1
  have x2 := b02.c2
  have hs1 : w.heap.size + 1 + 1 ≤ W1.heap.size := by omega
  rw [hW2, hW1] at x2
  clear M2 b0 b1 b02 b12 hO g1 hu
  go_enter Try.func56, Try.ntmps56
  subst hW2
  subst hW1
  go_wp2_with (at_builtin; refine app.appendI (unhide HM).2 (unhide HM).1 (unhide HO) (by simp; omega) rfl _ _ rfl rfl rfl ?_)
  intro v3 w3 m3 g3
  obtain ⟨va, vc, rfl, _⟩ := Sl.of_own m3.1
  have C0 := hide ((unhide B0).by g3 (fun e => by simp only [Value.ownBlock, Option.some.injEq] at e; omega))
  have C1 := hide ((unhide B1).by g3 (fun e => by simp only [Value.ownBlock, Option.some.injEq] at e; omega))
  have R := hide m3
  have y0 := (unhide C0).c0
  have y1 := (unhide C0).c1
  have y2 := (unhide C0).c2
  have y3 := (unhide C0).c3
  have yf := (unhide C0).f 2
  have z0 := (unhide C1).c0
  have z1 := (unhide C1).c1
  have z2 := (unhide C1).c2
  have z3 := (unhide C1).c3
  have zf0 := (unhide C1).f 0
  have zf1 := (unhide C1).f 1
  have zf2 := (unhide C1).f 2
  have zf3 := (unhide C1).f 3
  clear m3 g3 B0 B1 HM HO x2
  go_wp2_with fail
  (try simp only [Exit.inBlock, Exit.then])
  refine bodyPost_ret (ret_known rfl rfl (((unhide C1).setO (d := w.heap.size) (by omega)).setA _ _ _ _)) rfl ⟨_, rfl, ?_, ?_⟩
  · exact own_mono (row_set (row_set (row_set (row_set (row_set (unhide R).1 (by omega)) (by omega)) (by omega)) (by omega)) (by omega)) (by omega)
  · exact yb.grown_setA (yb.grown_set (grown_trans (r := none) (unhide HG) (unhide R).2) (by omega)) (by omega)
set_option maxHeartbeats 800000 in
theorem l10CopyKnown (u : Value) (k : Kn) (w : World) (hL : k.vals.length ≤ 1048576) (hu : Vl w u k.vals) :
    Calls Try.prog 36 #[.agg #[.string k.dg, .bool k.sat, u, .int .i64 k.cost]] w fun e w' => CopyE w k e w' := by
  obtain ⟨ua, uc, rfl, _⟩ := hu.sl
  obtain ⟨dg, sat, vals, cost⟩ := k
  dsimp only at *
  obtain ⟨W1, hW1⟩ : ∃ W1, W1 = (w.alloc (.cells #[.string dg, .bool sat, .slice ua vals.length uc, .int .i64 cost] 29)).alloc (.cells #[.string ⟨#[]⟩, .bool false, .slice none 0 0, .int .i64 0] 29) := ⟨_, rfl⟩
  have g1 : w.grownBy W1 none := by rw [hW1]; exact grown_trans (World.grownBy_alloc _ _ _) (World.grownBy_alloc _ _ _)
  have s1 : W1.heap.size = w.heap.size + 1 + 1 := by rw [hW1]; simp only [World.size_alloc]
  have b0 : Box4 29 W1 w.heap.size (.string dg) (.bool sat) (.slice ua vals.length uc) (.int .i64 cost) := by rw [hW1]; exact (Box4.new _ w _ _ _ _).kept (World.grownBy_alloc _ _ none)
  have b1 : Box4 29 W1 (w.heap.size + 1) (.string ⟨#[]⟩) (.bool false) (.slice none 0 0) (.int .i64 0) := by
    rw [hW1]
    have := Box4.new 29 (w.alloc (.cells #[.string dg, .bool sat, .slice ua vals.length uc, .int .i64 cost] 29)) (.string ⟨#[]⟩) (.bool false) (.slice none 0 0) (.int .i64 0)
    rw [World.size_alloc] at this
    exact this
  have M2 := app.made_nil W1
  obtain ⟨W2, hW2⟩ : ∃ W2, W2 = W1.alloc (.cells #[] 3) := ⟨_, rfl⟩
  rw [← hW2, s1] at M2
  have b02 := b0.kept M2.2
  have b12 := b1.kept M2.2
  obtain ⟨lo, hi, hO⟩ := hu.kept (grown_trans (r := none) g1 M2.2)
  have sz2 := M2.2.size
  have HM := hide M2
  have B0 := hide b02
  have B1 := hide b12
  have HO := hide hO
  have HG := hide g1
  have x2 := b02.c2
  have hs1 : w.heap.size + 1 + 1 ≤ W1.heap.size := by omega
  rw [hW2, hW1] at x2
  clear M2 b0 b1 b02 b12 hO g1 hu
  go_enter Try.func36, Try.ntmps36
  subst hW2
  subst hW1
  go_wp2_with (at_builtin; refine app.appendI (unhide HM).2 (unhide HM).1 (unhide HO) (by simp; omega) rfl _ _ rfl rfl rfl ?_)
  intro v3 w3 m3 g3
  obtain ⟨va, vc, rfl, _⟩ := Sl.of_own m3.1
  have C0 := hide ((unhide B0).by g3 (fun e => by simp only [Value.ownBlock, Option.some.injEq] at e; omega))
  have C1 := hide ((unhide B1).by g3 (fun e => by simp only [Value.ownBlock, Option.some.injEq] at e; omega))
  have R := hide m3
  have y0 := (unhide C0).c0
  have y1 := (unhide C0).c1
  have y2 := (unhide C0).c2
  have y3 := (unhide C0).c3
  have yf := (unhide C0).f 2
  have z0 := (unhide C1).c0
  have z1 := (unhide C1).c1
  have z2 := (unhide C1).c2
  have z3 := (unhide C1).c3
  have zf0 := (unhide C1).f 0
  have zf1 := (unhide C1).f 1
  have zf2 := (unhide C1).f 2
  have zf3 := (unhide C1).f 3
  clear m3 g3 B0 B1 HM HO x2
  go_wp2_with fail
  (try simp only [Exit.inBlock, Exit.then])
  refine bodyPost_ret (ret_known rfl rfl (((unhide C1).setO (d := w.heap.size) (by omega)).setA _ _ _ _)) rfl ⟨_, rfl, ?_, ?_⟩
  · exact own_mono (row_set (row_set (row_set (row_set (row_set (unhide R).1 (by omega)) (by omega)) (by omega)) (by omega)) (by omega)) (by omega)
  · exact yb.grown_setA (yb.grown_set (grown_trans (r := none) (unhide HG) (unhide R).2) (by omega)) (by omega)
/-- one more -/
theorem growK {lo mid : Nat} {wr w1 : World} {v v' u : Value} {D : List (Value × Kn)} {k : Kn} {o : Obj} (ho : wr.ownsRow lo 29 4 v D.length (cells4 D)) (hin : ∀ p ∈ D, Own lo mid wr p.1 p.2.vals) (hp : D.Pairwise Apart)
    (hu : Own mid wr.heap.size wr u k.vals) (hlo : lo ≤ mid) (hmid : mid ≤ wr.heap.size) (h1 : w1.ownsRow lo 29 4 v' (D.length + 1) (cells4 D ++ four u k)) (hg : (wr.alloc o).grownBy w1 v.ownBlock) :
    OwnK lo w1.heap.size w1 v' (D.map (·.2) ++ [k]) := by
  have sz := hg.size
  simp only [World.size_alloc] at sz
  have hoA := ho.alloc o
  have kp : ∀ (p : Value) (n : Nat) (xs : List Value), wr.ownsRow lo 3 1 p n xs → w1.ownsRow lo 3 1 p n xs := fun p n xs h => (h.alloc o).kept hg (own_ne' hoA (h.alloc o))
  refine ⟨D ++ [(u, k)], by simp, ?_, fun k e => (h1.lt k e).2, ?_, ?_⟩
  · rw [List.length_append, cells4_append]
    exact h1
  · intro p hp'
    rw [List.mem_append, List.mem_singleton] at hp'
    rcases hp' with hp' | rfl
    · exact ⟨kp _ _ _ (hin p hp').1, fun k e => by have := (hin p hp').2 k e; omega⟩
    · exact ⟨kp _ _ _ (own_mono hu.1 hlo), fun k e => by have := hu.2 k e; omega⟩
  · rw [List.pairwise_append]
    refine ⟨hp, List.pairwise_singleton _ _, fun a ha b hb => ?_⟩
    rw [List.mem_singleton] at hb
    subst hb
    intro k e e'
    have h1 := (hin a ha).2 k e
    have h2 := (hu.1.lt k e').1
    omega
theorem own_one {lo hi : Nat} {w : World} {u : Value} {L : List Int} (h : Own lo hi w u L) : u.oneCell' = true := by
  obtain ⟨_, h2⟩ := h.1
  rcases h2 with ⟨rfl, _⟩ | ⟨g, cap, cur, rfl, _⟩ <;> rfl
theorem four_at (wr : World) (u : Value) (k : Kn) : ∀ j y, (four u k)[j]? = some y → (wr.alloc (.cells #[.string k.dg, .bool k.sat, u, .int .i64 k.cost] 29)).cell? ((⟨wr.heap.size, 0, none⟩ : Addr).add j) = some y := by
  intro j y hj
  have hb := Go.heap_alloc_new wr (.cells #[.string k.dg, .bool k.sat, u, .int .i64 k.cost] 29)
  rw [Addr.add_lit, Nat.zero_add]
  unfold World.cell?
  rw [hb, ← hj]
  unfold four
  simp
theorem four_one {u : Value} (k : Kn) (h1 : u.oneCell' = true) : ∀ y ∈ four u k, y.oneCell' = true := by
  intro y hy
  simp only [four, List.mem_cons, List.not_mem_nil, or_false] at hy
  rcases hy with rfl | rfl | rfl | rfl
  · rfl
  · rfl
  · exact h1
  · rfl
/-- 'out = append(out, k)' -/
theorem appK {ops : Array Oper} {rest : List Oper} {o : Oper} {a : Act} {Q : Exit → Act → World → Prop} {lo mid : Nat} {wr : World} {v u : Value} {M : List Kn} {k : Kn}
    (h : OwnK lo mid wr v M) (hu : Own mid wr.heap.size wr u k.vals) (hlo : lo ≤ mid) (hmid : mid ≤ wr.heap.size) (hM : M.length ≤ 1048576) (hgd : o.guard = none) (s x : Operand)
    (ho : o.op = .call { callee := .builtin .append, args := #[s, x], argTypes := #[24, 24] }) (hs : a.eval s = v) (hx : a.eval x = .slice (some ⟨wr.heap.size, 0, none⟩) 1 1)
    (hK : ∀ g cap w1, OwnK lo w1.heap.size w1 (.slice (some ⟨g, 0, none⟩) (M.length + 1) cap) (M ++ [k]) → (wr.alloc (.cells #[.string k.dg, .bool k.sat, u, .int .i64 k.cost] 29)).grownBy w1 v.ownBlock → wpList Try.prog ops Q rest (a.put o.dst (.slice (some ⟨g, 0, none⟩) (M.length + 1) cap)) w1) :
    wpList Try.prog ops Q (o :: rest) a (wr.alloc (.cells #[.string k.dg, .bool k.sat, u, .int .i64 k.cost] 29)) := by
  obtain ⟨i0, hi, hz0, hz1, hz2⟩ := info_parts infoK
  obtain ⟨D, rfl, hw, hb, hin, hp⟩ := h
  rw [List.length_map] at *
  refine wpList_append_lies _ hgd s x 24 ho lo 29 i0 (.agg #[.string ⟨#[]⟩, .bool false, .slice none 0 0, .int .i64 0]) 4 56 Try.underlying24 hi hz0 hz1 hz2 rfl (by decide) v D.length (cells4 D) hs (hw.alloc _) ⟨wr.heap.size, 0, none⟩ 1 1 (four u k) hx rfl (four_at wr u k) (four_one k (own_one hu)) (by decide) ?_ ?_ ?_ (wr.heap.size + 1) (World.size_alloc ..) ?_
  · unfold maxLen; omega
  · omega
  · simp; omega
  · intro g cap w1 h1 hg _ _
    exact hK g cap w1 (growK hw hin hp hu hlo hmid h1 hg) hg
/-- .. a step of a region that draws its order -/
theorem stepK {ops : Array Oper} {o : Oper} {a : Act} {K : Act → World → Prop} {Q : Exit → Act → World → Prop} {X : Prop} {lo mid : Nat} {wr : World} {v u : Value} {M : List Kn} {k : Kn}
    (h : OwnK lo mid wr v M) (hu : Own mid wr.heap.size wr u k.vals) (hlo : lo ≤ mid) (hmid : mid ≤ wr.heap.size) (hM : M.length ≤ 1048576) (hgd : o.guard = none) (s x : Operand)
    (ho : o.op = .call { callee := .builtin .append, args := #[s, x], argTypes := #[24, 24] }) (hs : a.eval s = v) (hx : a.eval x = .slice (some ⟨wr.heap.size, 0, none⟩) 1 1)
    (hK : ∀ g cap w1, OwnK lo w1.heap.size w1 (.slice (some ⟨g, 0, none⟩) (M.length + 1) cap) (M ++ [k]) → (wr.alloc (.cells #[.string k.dg, .bool k.sat, u, .int .i64 k.cost] 29)).grownBy w1 v.ownBlock → K (a.put o.dst (.slice (some ⟨g, 0, none⟩) (M.length + 1) cap)) w1) :
    if Region.wanted o (yielded ops a.tmps) = true then Oper.wp Try.prog o a (wr.alloc (.cells #[.string k.dg, .bool k.sat, u, .int .i64 k.cost] 29)) K Q else X := by
  obtain ⟨i0, hi, hz0, hz1, hz2⟩ := info_parts infoK
  obtain ⟨D, rfl, hw, hb, hin, hp⟩ := h
  rw [List.length_map] at *
  refine step_append_lies _ hgd s x 24 ho lo 29 i0 (.agg #[.string ⟨#[]⟩, .bool false, .slice none 0 0, .int .i64 0]) 4 56 Try.underlying24 hi hz0 hz1 hz2 rfl (by decide) v D.length (cells4 D) hs (hw.alloc _) ⟨wr.heap.size, 0, none⟩ 1 1 (four u k) hx rfl (four_at wr u k) (four_one k (own_one hu)) (by decide) ?_ ?_ ?_ (wr.heap.size + 1) (World.size_alloc ..) ?_
  · unfold maxLen; omega
  · omega
  · simp; omega
  · intro g cap w1 h1 hg _ _
    exact hK g cap w1 (growK hw hin hp hu hlo hmid h1 hg) hg
/-- a cache that is answered -/
def CacheE (w : World) (room : Int) (KK : List Kn) (e : Ending) (w' : World) : Prop := ∃ u, e = .returned (.agg #[.int .i64 room, u]) ∧ OwnK w.heap.size w'.heap.size w' u KK ∧ w.grownBy w' none
theorem grown_app {lo mid : Nat} {w w1 w2 : World} {o : Obj} {v : Value} {M : List Kn} (g : w.grownBy w1 none) (h : OwnK w.heap.size mid w1 v M) (g1 : (w1.alloc o).grownBy w2 v.ownBlock) : w.grownBy w2 none := by
  obtain ⟨D, _, hw, _⟩ := h
  have hgA : w.grownBy (w1.alloc o) none := grown_trans g (World.grownBy_alloc w1 o none)
  exact ⟨g1.os.trans hgA.os, g1.tape.trans hgA.tape, g1.output.trans hgA.output, Nat.le_trans hgA.size g1.size, fun k hk _ => by
    rw [g1.block k (Nat.lt_of_lt_of_le hk hgA.size) (fun e => by have := (hw.lt k e.symm).1; omega)]
    exact hgA.block k hk (fun e => by cases e)⟩
end Go.Proofs.Ytgjakiliepfjiaa.ua
