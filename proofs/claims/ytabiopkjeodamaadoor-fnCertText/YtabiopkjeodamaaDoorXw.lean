/- What the model's l06Walk and Refute answer; no condition but on the sizes. -/
import Derived.Test.YtabiopkjeodamaaDoorSt
import Derived.Test.YtabiopkjeodamaaDoorOg
import Derived.Test.YtabiopkjeodamaaDoorNs
import Derived.Deep.RegionLaw
import Derived.Deep.DeepCutAuto
namespace Go.Proofs.YtabiopkjeodamaaDoor.xw
open Go.ChangeShapes Go.WideShapes Go.ChangeAt Go.RowKit
open Go.Proofs.YtabiopkjeodamaaDoor.lits (okB okB_iff)
open Go.Proofs.YtabiopkjeodamaaDoor.bset (setOf setOf_lt placeN)
open Go.Proofs.YtabiopkjeodamaaDoor.css (Sls OwnS tot own_mono)
open Go.Proofs.YtabiopkjeodamaaDoor.cf (Box)
open Go.Proofs.YtabiopkjeodamaaDoor.ok (cnfB litIn)
open Go.Proofs.YtabiopkjeodamaaDoor.fm (freeL freeN)
open Go.Proofs.YtabiopkjeodamaaDoor.wm (frc)
open Go.Proofs.YtabiopkjeodamaaDoor.wo (Made)
open Go.Proofs.YtabiopkjeodamaaDoor.sp (negL)
open Go.Proofs.YtabiopkjeodamaaDoor.rq (nilS sub_own)
open Go.Proofs.YtabiopkjeodamaaDoor.sl (Sl Own ints hide unhide ret_int ret_bool grown_refl grown_trans grown_drewN)
set_option linter.unusedVariables false
/-- the walk of the model: with m clauses left, d taken -/
def wlk (n : Int) (LL : List (List Int)) (m : Nat) (d : List Int) : List (List Int) × Bool :=
  match m with
  | 0 => ([], false)
  | m + 1 =>
    if (frc (LL.map setOf) 49 (setOf d) d).2 = false then ([negL d], true)
    else match freeL n LL (frc (LL.map setOf) 49 (setOf d) d).1 with
      | [] => ([], false)
      | x :: _ =>
        if (wlk n LL m (d ++ [-x])).2 = false then ([], false)
        else if (wlk n LL (m - (wlk n LL m (d ++ [-x])).1.length) (d ++ [x])).2 = false then ([], false)
        else ((wlk n LL m (d ++ [-x])).1 ++ (wlk n LL (m - (wlk n LL m (d ++ [-x])).1.length) (d ++ [x])).1 ++ [negL d], true)
theorem wlk_zero (n : Int) (LL : List (List Int)) (d : List Int) : wlk n LL 0 d = ([], false) := by rw [wlk]
theorem wlk_stop {n : Int} {LL : List (List Int)} {m : Nat} {d : List Int} (h : (frc (LL.map setOf) 49 (setOf d) d).2 = false) : wlk n LL (m + 1) d = ([negL d], true) := by
  rw [wlk, if_pos h]
theorem wlk_end {n : Int} {LL : List (List Int)} {m : Nat} {d : List Int} (h : (frc (LL.map setOf) 49 (setOf d) d).2 = true) (h0 : freeL n LL (frc (LL.map setOf) 49 (setOf d) d).1 = []) : wlk n LL (m + 1) d = ([], false) := by
  rw [wlk, if_neg (by rw [h]; simp), h0]
theorem wlk_more {n : Int} {LL : List (List Int)} {m : Nat} {d : List Int} {x : Int} {r : List Int} (h : (frc (LL.map setOf) 49 (setOf d) d).2 = true) (h0 : freeL n LL (frc (LL.map setOf) 49 (setOf d) d).1 = x :: r) :
    wlk n LL (m + 1) d = if (wlk n LL m (d ++ [-x])).2 = false then ([], false)
        else if (wlk n LL (m - (wlk n LL m (d ++ [-x])).1.length) (d ++ [x])).2 = false then ([], false)
        else ((wlk n LL m (d ++ [-x])).1 ++ (wlk n LL (m - (wlk n LL m (d ++ [-x])).1.length) (d ++ [x])).1 ++ [negL d], true) := by
  rw [wlk, if_neg (by rw [h]; simp), h0]
theorem wlk_len (n : Int) (LL : List (List Int)) : ∀ (K m : Nat) (d : List Int), m < K → (wlk n LL m d).1.length ≤ m := by
  intro K
  induction K with
  | zero => intro m d h; omega
  | succ K ih =>
    intro m d h
    cases m with
    | zero => rw [wlk_zero]; exact Nat.le_refl _
    | succ m =>
      cases hf : (frc (LL.map setOf) 49 (setOf d) d).2
      · rw [wlk_stop hf]; simp
      · cases h0 : freeL n LL (frc (LL.map setOf) 49 (setOf d) d).1 with
        | nil => rw [wlk_end hf h0]; simp
        | cons x r =>
          rw [wlk_more hf h0]
          have h1 := ih m (d ++ [-x]) (by omega)
          have h2 := ih (m - (wlk n LL m (d ++ [-x])).1.length) (d ++ [x]) (by omega)
          split
          · simp
          · split
            · simp
            · simp only [List.length_append, List.length_singleton]
              omega
theorem len_le (n : Int) (LL : List (List Int)) (m : Nat) (d : List Int) : (wlk n LL m d).1.length ≤ m := wlk_len n LL (m + 1) m d (Nat.lt_succ_self _)
theorem free_ok {n : Int} {LL : List (List Int)} {L r : List Int} {x : Int} (h : freeL n LL L = x :: r) : okB x = true ∧ okB (-x) = true := by
  have hx : x ∈ freeL n LL L := by rw [h]; exact List.mem_cons_self ..
  unfold fm.freeL at hx
  split at hx
  · unfold srt.srt at hx
    rw [List.mem_map] at hx
    obtain ⟨i, hi, rfl⟩ := hx
    rw [List.mem_filter, List.mem_range] at hi
    have := (wm.litI_spec hi.1).1
    exact ⟨this, wm.opp_ok this⟩
  · cases hx
/-- what the walk answers -/
def WalkE (w : World) (P : List (List Int) × Bool) (e : Ending) (w' : World) : Prop := ∃ r, e = .returned (.tuple #[r, .bool P.2]) ∧ OwnS w.heap.size w'.heap.size w' r P.1 ∧ w.grownBy w' none
theorem oneS {w w1 : World} {u : Value} {L : List Int} (h : Made w w1 u L) : OwnS w.heap.size (w1.alloc (.cells #[u] 31)).heap.size (w1.alloc (.cells #[u] 31)) (.slice (some ⟨w1.heap.size, 0, none⟩) 1 1) [L] ∧ w.grownBy (w1.alloc (.cells #[u] 31)) none := by
  have g := grown_trans (r := none) h.2 (World.grownBy_alloc w1 (.cells #[u] 31) none)
  have hu := (Own.of h.1).kept (World.grownBy_alloc w1 (.cells #[u] 31) none)
  refine ⟨⟨[(u, L)], rfl, World.ownsRow_lit w1 #[u] 1 h.2.size (by decide) rfl, (fun k e => by cases e; rw [World.size_alloc]; exact Nat.lt_succ_self _), ?_, List.pairwise_singleton _ _⟩, g⟩
  intro p hp
  rw [List.mem_singleton] at hp
  subst hp
  exact ⟨hu.1, fun k e => by rw [World.size_alloc]; exact Nat.lt_succ_of_lt (hu.2 k e)⟩
theorem made_sub {w w1 w2 : World} {v : Value} {L : List Int} (g : w.grownBy w1 none) (h : Made w1 w2 v L) : Made w w2 v L := ⟨own_mono h.1 g.size, grown_trans g h.2⟩
theorem made_nilD (w : World) : (w.alloc (.cells #[] 3)).drew.ownsRow w.heap.size 3 1 (.slice (some ⟨w.heap.size, 0, none⟩) ([] : List Int).length 0) ([] : List Int).length (ints []) := (app.made_nil w).1
theorem one_own (w : World) (x : Int) : Own w.heap.size (w.heap.size + 1) (w.alloc (.cells #[.int .i64 x] 3)) (.slice (some ⟨w.heap.size, 0, none⟩) 1 1) [x] :=
  ⟨World.ownsRow_lit w #[.int .i64 x] 1 (Nat.le_refl _) (by decide) rfl, fun k e => by cases e; exact Nat.lt_succ_self _⟩
theorem nil_one (w : World) (x : Int) : ((w.alloc (.cells #[] 3)).alloc (.cells #[.int .i64 x] 3)).drew.ownsRow w.heap.size 3 1 (.slice (some ⟨w.heap.size, 0, none⟩) ([] : List Int).length 0) ([] : List Int).length (ints []) ∧
    ∀ w2, ((w.alloc (.cells #[] 3)).alloc (.cells #[.int .i64 x] 3)).drew.grownBy w2 (Value.slice (some ⟨w.heap.size, 0, none⟩) ([] : List Int).length 0).ownBlock → Own (w.heap.size + 1) (w.heap.size + 1 + 1) w2 (.slice (some ⟨w.heap.size + 1, 0, none⟩) 1 1) [x] := by
  have h1 := (app.made_nil w).1.alloc (.cells #[.int .i64 x] 3)
  have h2 := one_own (w.alloc (.cells #[] 3)) x
  rw [World.size_alloc] at h2
  refine ⟨h1, fun w2 g => ?_⟩
  exact (h2.kept (cf.grown_drew _ none)).kept_by (lo' := w.heap.size) (hi' := w.heap.size + 1) (M := []) ⟨h1, fun k e => by cases e; exact Nat.lt_succ_self _⟩ (.inr (Nat.le_refl _)) g
theorem one_nil (w : World) (x : Int) : ((w.alloc (.cells #[.int .i64 x] 3)).alloc (.cells #[] 3)).drew.ownsRow w.heap.size 3 1 (.slice (some ⟨w.heap.size + 1, 0, none⟩) ([] : List Int).length 0) ([] : List Int).length (ints []) ∧
    ∀ w2, ((w.alloc (.cells #[.int .i64 x] 3)).alloc (.cells #[] 3)).drew.grownBy w2 (Value.slice (some ⟨w.heap.size + 1, 0, none⟩) ([] : List Int).length 0).ownBlock → Own w.heap.size (w.heap.size + 1) w2 (.slice (some ⟨w.heap.size, 0, none⟩) 1 1) [x] := by
  have h1 := (app.made_nil (w.alloc (.cells #[.int .i64 x] 3))).1
  rw [World.size_alloc] at h1
  have h2 := (one_own w x).kept (World.grownBy_alloc _ (.cells #[] 3) none)
  refine ⟨own_mono h1 (Nat.le_succ _), fun w2 g => ?_⟩
  exact (h2.kept (cf.grown_drew _ none)).kept_by (lo' := w.heap.size + 1) (hi' := w.heap.size + 1 + 1) (M := []) ⟨h1, fun k e => by cases e; exact Nat.lt_succ_self _⟩ (.inl (Nat.le_refl _)) g
theorem callA {n : Int} {K m : Nat} {LL : List (List Int)} {d : List Int} {x y z : Int} {vf v2 : Value} {w1 w3 : World} {A : List (List Int)} {ab : Bool}
    (ih : ∀ (m : Nat) (d : List Int) (v u : Value) (lo hi : Nat) (w : World), m < K → (∀ x ∈ d, okB x = true) → d.length + m ≤ 1000 → Sls w v LL → Own lo hi w u d →
      Calls Tryd.prog 129 #[.agg #[.int .i64 n, v], u, .int .i64 (m : Int)] w fun e w' => WalkE w (wlk n LL m d) e w')
    (hm : m < K) (hd : ∀ x ∈ d, okB x = true) (hx : okB x = true) (hy : y = x) (hz : z = (m : Int)) (hl : d.length + (m + 1) ≤ 1000) (hv : Sls w1 vf LL) (hP : wlk n LL m (d ++ [x]) = (A, ab)) (mm : Made w1 w3 v2 (d ++ [y])) :
    Calls Tryd.prog 129 #[.agg #[.int .i64 n, vf], v2, .int .i64 z] w3 fun e w' => ∃ a c, e = .returned (.tuple #[.slice a A.length c, .bool ab]) ∧ OwnS w1.heap.size w'.heap.size w' (.slice a A.length c) A ∧ w1.grownBy w' none := by
  subst hy hz
  have := ih m (d ++ [y]) vf v2 w1.heap.size w3.heap.size w3 hm (by intro q hq; rw [List.mem_append, List.mem_singleton] at hq; rcases hq with hq | rfl; exact hd q hq; exact hx) (by rw [List.length_append, List.length_singleton]; omega) (hv.kept mm.2) (Own.of mm.1)
  rw [hP] at this
  refine this.mono ?_
  rintro e w' ⟨r, rfl, o, g⟩
  obtain ⟨a, c, rfl⟩ := o.len
  exact ⟨a, c, rfl, o.sub mm.2.size (Nat.le_refl _), grown_trans mm.2 g⟩
theorem appendJ {ops : Array Oper} {rest : List Oper} {o : Oper} {a : Act} {Q : Exit → Act → World → Prop} {wr : World} {va vb : Value} {A B : List (List Int)} {lo mid mid' hi : Nat}
    (hA : OwnS lo mid wr va A) (hB : OwnS mid' hi wr vb B) (hm : mid ≤ mid') (hlo : lo ≤ mid') (hh : hi ≤ wr.heap.size) (hls : lo ≤ wr.heap.size) (hl : A.length + B.length ≤ 1048576) (hgd : o.guard = none) (s x : Operand)
    (ho : o.op = .call { callee := .builtin .append, args := #[s, x], argTypes := #[36, 36] }) (hs : a.eval s = va) (hx : a.eval x = vb)
    (h : ∀ v' w1, OwnS lo w1.heap.size w1 v' (A ++ B) → wr.grownBy w1 va.ownBlock → wpList Tryd.prog ops Q rest (a.put o.dst v') w1) : wpList Tryd.prog ops Q (o :: rest) a wr :=
  wpList_plain hgd fun K hK => app.wpJ hA hB hm hlo hh hls hl s x ho hs hx fun v' w1 o g => hK _ _ (h v' w1 o g)
theorem tyII : (31 : Nat) ≠ 3 := by decide
theorem outer_int {lo hi bD n : Nat} {w : World} {v u : Value} {LL : List (List Int)} {xs : List Value} (h : OwnS lo hi w v LL) (hD : w.ownsRow bD 3 1 u n xs) : u.ownBlock = none ∨ u.ownBlock ≠ v.ownBlock := by
  obtain ⟨D, e, ho, _⟩ := h
  exact rd.apart_types ho hD tyII
theorem wm_len (LL : List (List Int)) (d : List Int) : (frc (LL.map setOf) 49 (setOf d) d).1.length ≤ d.length + 49 := sp.frc_len _ _ _ _
theorem wrap_in {x : Int} (h1 : -9223372036854775808 ≤ x) (h2 : x < 9223372036854775808) : IntKind.i64.wrap x = x := by
  rw [IntKind.wrap_i64]
  omega
theorem lit_wrap {x : Int} (h : okB x = true) : IntKind.i64.wrap (-x) = -x := by
  have := okB_iff.1 h
  exact wrap_in (by omega) (by omega)
set_option maxRecDepth 100000 in
set_option maxHeartbeats 8000000 in
theorem walk (n : Int) (LL : List (List Int)) (hn : tot LL ≤ 1048576) (hc : cnfB n LL = true) (K : Nat) :
    ∀ (m : Nat) (d : List Int) (v u : Value) (lo hi : Nat) (w : World), m < K → (∀ x ∈ d, okB x = true) → d.length + m ≤ 1000 → Sls w v LL → Own lo hi w u d →
      Calls Tryd.prog 129 #[.agg #[.int .i64 n, v], u, .int .i64 (m : Int)] w fun e w' => WalkE w (wlk n LL m d) e w' := by
  have HC := hide (sp.okU_facts hc)
  induction K with
  | zero => intro m d v u lo hi w h; omega
  | succ K ih =>
    intro m d v u lo hi w hm hd hl hv hu
    have IH := hide ih
    clear ih
    have g0 := World.grownBy_alloc w (.cells #[.int .i64 n, v] 47) none
    have F0 := hide (Box.new 47 w (.int .i64 n) v)
    have G0 := hide g0
    have U0 := hide (hu.kept g0)
    have V0 := hide (hv.kept g0)
    have HD := hide hd
    have CF := hide (sp.l04Force v u n LL d lo hi _ hn (by omega) (unhide HC) (unhide V0) (unhide U0))
    obtain ⟨ua, uc, rfl⟩ : ∃ a c, u = .slice a d.length c := by
      obtain ⟨a, c, e, _⟩ := hu.sl
      exact ⟨a, c, e⟩
    clear g0 hd hv hu
    have x0 := (unhide F0).c0
    have x1 := (unhide F0).c1
    cases m with
    | zero =>
      have R := hide (sub_own (unhide G0) (nilS _) (World.grownBy_alloc _ _ none))
      rw [show (w.alloc (.cells #[.int .i64 n, v] 47)).heap.size = w.heap.size + 1 from World.size_alloc ..] at R
      have W := hide (wlk_zero n LL d)
      clear CF
      go_enter Tryd.func129, Tryd.ntmps129
      go_wp2_with fail
      go_ret2
      rw [unhide W]
      exact ⟨_, rfl, unhide R⟩
    | succ m =>
      have hi1 : ¬ ((m + 1 : Nat) : Int) < 1 := by omega
      have ST := hide (fun h => wlk_stop (n := n) (LL := LL) (m := m) (d := d) h)
      have EN := hide (fun h k => wlk_end (n := n) (LL := LL) (m := m) (d := d) h k)
      have MO := hide (fun h (x : Int) (r : List Int) k => wlk_more (n := n) (LL := LL) (m := m) (d := d) (x := x) (r := r) h k)
      have al := wm_len LL d
      generalize frc (LL.map setOf) 49 (setOf d) d = P at *
      obtain ⟨all, fine⟩ := P
      go_enter Tryd.func129, Tryd.ntmps129
      go_wp2_with fail
      refine (unhide CF).mono ?_; rintro e w1 ⟨r1, rfl, m1⟩
      clear CF x0 x1
      have G1 := hide (grown_trans (r := none) (unhide G0) m1.2)
      have F1 := hide ((unhide F0).kept m1.2)
      have U1 := hide ((unhide U0).kept m1.2)
      have V1 := hide ((unhide V0).kept m1.2)
      have CO := hide (sp.l04Opposite _ d w1 (by omega) (unhide HD) (unhide U1).sl)
      have CR := hide (ff.specFree v r1 n LL all w1 hn (by have : all.length ≤ d.length + 49 := al; omega) (unhide V1) (Own.of m1.1).sl)
      clear m1 F0 U0 V0 G0
      cases fine
      · have E := hide (unhide ST (by first | exact rfl | trivial))
        clear ST EN MO CR
        go_wp2_with fail
        refine (unhide CO).mono ?_; rintro e w2 ⟨r2, rfl, m2⟩
        have R := hide (oneS (⟨own_mono m2.1 (unhide G1).size, grown_trans (r := none) (unhide G1) m2.2⟩ : Made w w2 r2 (negL d)))
        obtain ⟨ra, rc, rfl⟩ : ∃ a c, r2 = .slice a (negL d).length c := by
          obtain ⟨a, c, e, _⟩ := sl.Sl.of_own m2.1
          exact ⟨a, c, e⟩
        clear m2 CO
        go_wp2_with fail
        go_ret2
        rw [unhide E]
        exact ⟨_, rfl, unhide R⟩
      · have y0 := (unhide F1).c0
        have y1 := (unhide F1).c1
        go_wp2_with fail
        refine (unhide CR).mono ?_; rintro e w2 ⟨r2, rfl, m2⟩
        clear CR y0 y1
        have G2 := hide (grown_trans (r := none) (unhide G1) m2.2)
        have F2 := hide ((unhide F1).kept m2.2)
        have U2 := hide ((unhide U1).kept m2.2)
        have V2 := hide ((unhide V1).kept m2.2)
        clear F1 U1 V1 G1 CO
        have EN' := hide (fun h => unhide EN (by first | exact rfl | trivial) h)
        have MO' := hide (fun x r h => unhide MO (by first | exact rfl | trivial) x r h)
        have FO := hide (fun x r => free_ok (n := n) (LL := LL) (L := all) (r := r) (x := x))
        have fl := fm.freeL_len n LL all
        clear EN MO ST
        generalize freeL n LL all = FR at *
        obtain ⟨fa, fc, rfl⟩ : ∃ a c, r2 = .slice a FR.length c := by
          obtain ⟨a, c, e, _⟩ := sl.Sl.of_own m2.1
          exact ⟨a, c, e⟩
        cases FR with
        | nil =>
          have R := hide (sub_own (unhide G2) (nilS _) (World.grownBy_alloc _ _ none))
          have E := hide (unhide EN' rfl)
          clear m2
          go_wp2_with fail
          go_ret2
          rw [unhide E]
          exact ⟨_, rfl, unhide R⟩
        | cons x fr =>
          have hxk := unhide FO x fr rfl
          have E := hide (unhide MO' x fr rfl)
          clear EN' MO' FO
          obtain ⟨g, rfl, cx⟩ : ∃ g, fa = some ⟨g, 0, none⟩ ∧ w2.cell? ⟨g, 0, none⟩ = some (.int .i64 x) := by
            rcases m2.1.2 with ⟨hv, h0⟩ | ⟨g, cap', cur, hv, _⟩
            · simp at h0
            · injection hv with h1 h2 h3
              subst h1 h3
              refine ⟨g, rfl, ?_⟩
              rw [m2.1.cellAt 0 (by simp)]
              simp [sl.ints]
          have hgl : g < w2.heap.size := World.block_lt_of_cell? w2 _ cx
          have CX := hide (fun (w' : World) (gg : w2.grownBy w' none) => gg.cell cx (fun e => by cases e))
          clear m2
          obtain ⟨q, hq⟩ : ∃ q, (x :: fr).length = q := ⟨_, rfl⟩
          have hq1 : 1 ≤ q := by rw [← hq]; simp
          rw [hq] at fl ⊢
          clear hq
          have hq0 : ((q : Int) == 0) = false := by rw [beq_eq_false_iff_ne]; omega
          have hq2 : 0 < q := hq1
          have HX := hide hxk
          clear hxk
          obtain ⟨A, ab, hA⟩ : ∃ A ab, wlk n LL m (d ++ [-x]) = (A, ab) := ⟨_, _, rfl⟩
          have hAl : A.length ≤ m := by have := len_le n LL m (d ++ [-x]); rw [hA] at this; exact this
          rw [hA] at E
          have HA := hide hA
          clear hA
          have z0 := (unhide F2).c0
          have z1 := (unhide F2).c1
          go_wp2_with fail
          go_upto_region 9 with fail
          go_cut [11, 12] (fun q b wx => ∃ a c, q = .slice a A.length c ∧ b = .bool ab ∧ Hid (OwnS w2.heap.size wx.heap.size wx (.slice a A.length c) A) ∧ Hid (w2.grownBy wx none))
          case first =>
            have hw1 : IntKind.i64.wrap (-x) = -x := lit_wrap (unhide HX).1
            have CI := hide (fun v2 w3 (mm : Made w2 w3 v2 (d ++ [-x])) => callA (z := IntKind.i64.wrap (m : Int)) (unhide IH) (by omega) (unhide HD) (unhide HX).2 rfl (wrap_in (by omega) (by omega)) (by omega) (unhide V2) (unhide HA) mm)
            have hA1 : Hid (w2.grownBy (w2.alloc (.cells #[] 3)).drew none) := hide (grown_trans (World.grownBy_alloc _ _ none) (cf.grown_drew _ none))
            have ho1 := hide (made_nilD w2)
            have hu1 := hide ((unhide U2).kept (unhide hA1))
            have hA2 : Hid (w2.grownBy ((w2.alloc (.cells #[] 3)).alloc (.cells #[.int .i64 (-x)] 3)).drew none) := hide (grown_trans (grown_trans (r := none) (World.grownBy_alloc _ _ none) (World.grownBy_alloc _ _ none)) (cf.grown_drew _ none))
            have ho2 := hide (nil_one w2 (-x))
            have hu2 := hide ((unhide U2).kept (unhide hA2))
            have hA3 : Hid (w2.grownBy ((w2.alloc (.cells #[.int .i64 (-x)] 3)).alloc (.cells #[] 3)).drew none) := hide (grown_trans (grown_trans (r := none) (World.grownBy_alloc _ _ none) (World.grownBy_alloc _ _ none)) (cf.grown_drew _ none))
            have ho3 := hide (one_nil w2 (-x))
            have hu3 := hide ((unhide U2).kept (unhide hA3))
            have hlw := (unhide F2).lt
            have CK := hide (fun (w' : World) (g' : w2.grownBy w' none) => And.intro ((unhide F2).kept g').c0 (And.intro ((unhide F2).kept g').c1 (unhide CX w' g')))
            have hne : ¬ w.heap.size = w2.heap.size := by omega
            have hne2 : ¬ w.heap.size = w2.heap.size + 1 := by omega
            have hgn : ¬ g = w2.heap.size := by omega
            have hgn2 : ¬ g = w2.heap.size + 1 := by omega
            have hab : Hid (d.length + 1 ≤ 4194304) := hide (by omega)
            have hab0 : Hid (0 + d.length ≤ 4194304) := hide (by omega)
            go_region_held3 (fun w' => w'.cell? ⟨w.heap.size, 0, none⟩ = some (.int .i64 n) ∧ w'.cell? ⟨w.heap.size, 1, none⟩ = some v ∧ w'.cell? ⟨g, 0, none⟩ = some (.int .i64 x)) (go_keep) (first
                | (go_at_call 129; refine (unhide CI _ _ (unhide M3)).mono ?_; rintro e w6 ⟨a6, c6, rfl, o6, g6⟩; have O6 := hide o6; have G6 := hide g6; obtain ⟨t1, t2, t3⟩ := unhide CK _ g6; clear o6 g6)
                | (refine app.stepI (A := []) (unhide hA1) (unhide ho1) (unhide hu1) (unhide hab0) (by rfl) _ _ (by rfl) (by rfl) (by rfl) ?_; intro v4 w4 m4 g4; have M2 : Hid (Made w2 w4 v4 d) := hide m4; obtain ⟨q1, q2, q3⟩ := unhide CK _ (unhide M2).2; have ne2 := World.new_ne w4 _ q1; have ne3 := World.new_ne w4 _ q3; clear m4 g4)
                | (refine app.stepI (A := []) (unhide hA2) (unhide ho2).1 (unhide hu2) (unhide hab0) (by rfl) _ _ (by rfl) (by rfl) (by rfl) ?_; intro v4 w4 m4 g4; have M2 : Hid (Made w2 w4 v4 d) := hide m4; have XB := hide ((unhide ho2).2 w4 g4); obtain ⟨q1, q2, q3⟩ := unhide CK _ (unhide M2).2; have ne2 := World.new_ne w4 _ q1; have ne3 := World.new_ne w4 _ q3; clear m4 g4)
                | (refine app.stepI (A := []) (unhide hA3) (unhide ho3).1 (unhide hu3) (unhide hab0) (by rfl) _ _ (by rfl) (by rfl) (by rfl) ?_; intro v4 w4 m4 g4; have M2 : Hid (Made w2 w4 v4 d) := hide m4; have XB := hide ((unhide ho3).2 w4 g4); obtain ⟨q1, q2, q3⟩ := unhide CK _ (unhide M2).2; have ne2 := World.new_ne w4 _ q1; have ne3 := World.new_ne w4 _ q3; clear m4 g4)
                | (refine app.stepI (unhide M2).2 (unhide M2).1 (unhide XB) (unhide hab) (by rfl) _ _ (by rfl) (by rfl) (by rfl) ?_; intro v5 w5 m5 g5; have M3 := hide m5; obtain ⟨p1, p2, p3⟩ := unhide CK _ m5.2; clear m5 g5)
                | (refine app.stepI (grown_trans (unhide M2).2 (World.grownBy_alloc w4 (.cells #[.int .i64 (-x)] 3) none)) ((unhide M2).1.alloc _) (one_own w4 (-x)) (unhide hab) (by rfl) _ _ (by rfl) (by rfl) (by rfl) ?_; intro v5 w5 m5 g5; have M3 := hide m5; obtain ⟨p1, p2, p3⟩ := unhide CK _ m5.2; clear m5 g5))
            all_goals (go_wp2_with fail; go_meet; exact ⟨a6, c6, rfl, rfl, O6, G6⟩)
          case rest =>
            obtain ⟨a6, c6, rfl, rfl, oo, gg⟩ := hcut
            cases ab
            · have E2 := unhide E
              rw [if_pos rfl] at E2
              have E3 := hide E2
              have R := hide (sub_own (grown_trans (r := none) (unhide G2) (unhide gg)) (nilS _) (World.grownBy_alloc _ _ none))
              clear E E2
              go_wp2_with fail
              go_ret2
              rw [unhide E3]
              exact ⟨_, rfl, unhide R⟩
            · have E2 := unhide E
              rw [if_neg (by simp)] at E2
              obtain ⟨B, bb, hB⟩ : ∃ B bb, wlk n LL (m - A.length) (d ++ [x]) = (B, bb) := ⟨_, _, rfl⟩
              have hBl : B.length ≤ m - A.length := by have := len_le n LL (m - A.length) (d ++ [x]); rw [hB] at this; exact this
              rw [show wlk n LL (m - ((A, true) : List (List Int) × Bool).1.length) (d ++ [x]) = (B, bb) from hB] at E2
              have E3 := hide E2
              have HB := hide hB
              clear E E2 hB z0 z1
              have U3 := hide ((unhide U2).kept (unhide gg))
              have V3 := hide ((unhide V2).kept (unhide gg))
              have F3 := hide ((unhide F2).kept (unhide gg))
              have G3 := hide (grown_trans (r := none) (unhide G2) (unhide gg))
              have z0 := (unhide F3).c0
              have z1 := (unhide F3).c1
              have cx3 := unhide CX _ (unhide gg)
              go_wp2_with fail
              go_upto_region 12 with fail
              go_cut [13, 14] (fun q b wx => ∃ a c, q = .slice a B.length c ∧ b = .bool bb ∧ Hid (OwnS wc.heap.size wx.heap.size wx (.slice a B.length c) B) ∧ Hid (wc.grownBy wx none))
              case first =>
                  have CI := hide (fun v2 w3 (mm : Made wc w3 v2 (d ++ [x])) => callA (z := IntKind.i64.wrap (IntKind.i64.wrap (m : Int) - (A.length : Int))) (unhide IH) (by omega) (unhide HD) (unhide HX).1 rfl (by rw [wrap_in (x := (m : Int)) (by omega) (by omega), wrap_in (by omega) (by omega)]; omega) (by omega) (unhide V3) (unhide HB) mm)
                  have hA1 : Hid (wc.grownBy (wc.alloc (.cells #[] 3)).drew none) := hide (grown_trans (World.grownBy_alloc _ _ none) (cf.grown_drew _ none))
                  have ho1 := hide (made_nilD wc)
                  have hu1 := hide ((unhide U3).kept (unhide hA1))
                  have hA2 : Hid (wc.grownBy ((wc.alloc (.cells #[] 3)).alloc (.cells #[.int .i64 x] 3)).drew none) := hide (grown_trans (grown_trans (r := none) (World.grownBy_alloc _ _ none) (World.grownBy_alloc _ _ none)) (cf.grown_drew _ none))
                  have ho2 := hide (nil_one wc x)
                  have hu2 := hide ((unhide U3).kept (unhide hA2))
                  have hA3 : Hid (wc.grownBy ((wc.alloc (.cells #[.int .i64 x] 3)).alloc (.cells #[] 3)).drew none) := hide (grown_trans (grown_trans (r := none) (World.grownBy_alloc _ _ none) (World.grownBy_alloc _ _ none)) (cf.grown_drew _ none))
                  have ho3 := hide (one_nil wc x)
                  have hu3 := hide ((unhide U3).kept (unhide hA3))
                  have hlw := (unhide F3).lt
                  have CK := hide (fun (w' : World) (g' : wc.grownBy w' none) => And.intro ((unhide F3).kept g').c0 (And.intro ((unhide F3).kept g').c1 (unhide CX w' (grown_trans (r := none) (unhide gg) g'))))
                  have hne : ¬ w.heap.size = wc.heap.size := by omega
                  have hne2 : ¬ w.heap.size = wc.heap.size + 1 := by omega
                  have hgc : g < wc.heap.size := World.block_lt_of_cell? wc _ (unhide CX wc (unhide gg))
                  have hgn : ¬ g = wc.heap.size := by omega
                  have hgn2 : ¬ g = wc.heap.size + 1 := by omega
                  have hab : Hid (d.length + 1 ≤ 4194304) := hide (by omega)
                  have hab0 : Hid (0 + d.length ≤ 4194304) := hide (by omega)
                  go_region_held3 (fun w' => w'.cell? ⟨w.heap.size, 0, none⟩ = some (.int .i64 n) ∧ w'.cell? ⟨w.heap.size, 1, none⟩ = some v ∧ w'.cell? ⟨g, 0, none⟩ = some (.int .i64 x)) (go_keep) (first
                      | (go_at_call 129; refine (unhide CI _ _ (unhide M3)).mono ?_; rintro e w6 ⟨a6, c6, rfl, o6, g6⟩; have O6 := hide o6; have G6 := hide g6; obtain ⟨t1, t2, t3⟩ := unhide CK _ g6; clear o6 g6)
                      | (refine app.stepI (A := []) (unhide hA1) (unhide ho1) (unhide hu1) (unhide hab0) (by rfl) _ _ (by rfl) (by rfl) (by rfl) ?_; intro v4 w4 m4 g4; have M2 : Hid (Made wc w4 v4 d) := hide m4; obtain ⟨q1, q2, q3⟩ := unhide CK _ (unhide M2).2; have ne2 := World.new_ne w4 _ q1; have ne3 := World.new_ne w4 _ q3; clear m4 g4)
                      | (refine app.stepI (A := []) (unhide hA2) (unhide ho2).1 (unhide hu2) (unhide hab0) (by rfl) _ _ (by rfl) (by rfl) (by rfl) ?_; intro v4 w4 m4 g4; have M2 : Hid (Made wc w4 v4 d) := hide m4; have XB := hide ((unhide ho2).2 w4 g4); obtain ⟨q1, q2, q3⟩ := unhide CK _ (unhide M2).2; have ne2 := World.new_ne w4 _ q1; have ne3 := World.new_ne w4 _ q3; clear m4 g4)
                      | (refine app.stepI (A := []) (unhide hA3) (unhide ho3).1 (unhide hu3) (unhide hab0) (by rfl) _ _ (by rfl) (by rfl) (by rfl) ?_; intro v4 w4 m4 g4; have M2 : Hid (Made wc w4 v4 d) := hide m4; have XB := hide ((unhide ho3).2 w4 g4); obtain ⟨q1, q2, q3⟩ := unhide CK _ (unhide M2).2; have ne2 := World.new_ne w4 _ q1; have ne3 := World.new_ne w4 _ q3; clear m4 g4)
                      | (refine app.stepI (unhide M2).2 (unhide M2).1 (unhide XB) (unhide hab) (by rfl) _ _ (by rfl) (by rfl) (by rfl) ?_; intro v5 w5 m5 g5; have M3 := hide m5; obtain ⟨p1, p2, p3⟩ := unhide CK _ m5.2; clear m5 g5)
                      | (refine app.stepI (grown_trans (unhide M2).2 (World.grownBy_alloc w4 (.cells #[.int .i64 x] 3) none)) ((unhide M2).1.alloc _) (one_own w4 x) (unhide hab) (by rfl) _ _ (by rfl) (by rfl) (by rfl) ?_; intro v5 w5 m5 g5; have M3 := hide m5; obtain ⟨p1, p2, p3⟩ := unhide CK _ m5.2; clear m5 g5))
                  all_goals (go_wp2_with fail; go_meet; exact ⟨a6, c6, rfl, rfl, O6, G6⟩)
              case rest =>
                obtain ⟨a7, c7, rfl, rfl, ob, gb⟩ := hcut
                cases bb
                · have E4 := unhide E3
                  rw [if_pos rfl] at E4
                  have E5 := hide E4
                  have R := hide (sub_own (grown_trans (r := none) (unhide G3) (unhide gb)) (nilS _) (World.grownBy_alloc _ _ none))
                  clear E3 E4
                  go_wp2_with fail
                  go_ret2
                  rw [unhide E5]
                  exact ⟨_, rfl, unhide R⟩
                · have E4 := unhide E3
                  rw [if_neg (by simp)] at E4
                  have E5 := hide E4
                  clear E3 E4
                  have O7 := hide (((unhide oo).kept (unhide gb)).sub (unhide G2).size (Nat.le_refl _))
                  have U4 := hide ((unhide U3).kept (unhide gb))
                  have hsz := hide (unhide gb).size
                  have hsc := hide (unhide G3).size
                  have G4 := hide (grown_trans (r := none) (unhide G3) (unhide gb))
                  have hab9 : Hid (A.length + B.length ≤ 1048576) := hide (by omega)
                  clear z0 z1 cx3 oo gg
                  go_wp2_with (at_builtin; refine appendJ (unhide O7) (unhide ob) (Nat.le_refl _) (unhide hsc) (Nat.le_refl _) (unhide G4).size (unhide hab9) rfl _ _ rfl rfl rfl ?_)
                  intro v8 w8 o8 g8
                  have O8 := hide o8
                  have G8 := hide (app.grown_joinS (unhide G4) (unhide O7) g8)
                  have U8 := hide (show Own lo hi w8 _ d from ⟨World.ownsRow.kept (unhide U4).1 g8 (outer_int (unhide O7) (unhide U4).1), (unhide U4).2⟩)
                  have CO := hide (sp.l04Opposite _ d w8 (by omega) (unhide HD) (unhide U8).sl)
                  have hML : Hid ((A ++ B).length ≤ 1048576) := hide (by rw [List.length_append]; omega)
                  generalize A ++ B = AB at *
                  obtain ⟨a8, c8, rfl⟩ := (unhide O8).len
                  clear o8 g8
                  go_wp2_with fail
                  refine (unhide CO).mono ?_; rintro e w9 ⟨r9, rfl, m9⟩
                  have Y9 := hide (Own.of m9.1)
                  have K9 := hide m9.2
                  have O9 := hide ((unhide O8).kept m9.2)
                  have G9 := hide (grown_trans (r := none) (unhide G8) m9.2)
                  obtain ⟨ra, rc, rfl⟩ : ∃ a c, r9 = .slice a (negL d).length c := by
                    obtain ⟨a, c, e, _⟩ := sl.Sl.of_own m9.1
                    exact ⟨a, c, e⟩
                  clear m9 CO
                  go_wp2_with (at_builtin; refine gr.appendR (unhide O9) (unhide Y9) (unhide G8).size (unhide K9).size (unhide hML) rfl _ _ rfl rfl rfl ?_)
                  intro g10 c10 w10 o10 gr10
                  have R := hide (And.intro o10 (app.grown_appS (lo := 0) (unhide G9) (unhide O9) gr10))
                  clear o10 gr10
                  go_wp2_with fail
                  go_ret2
                  rw [unhide E5]
                  exact ⟨_, rfl, unhide R⟩
theorem specRefute (v : Value) (n : Int) (LL : List (List Int)) (w : World) (hn : tot LL ≤ 1048576) (hv : Sls w v LL) :
    Calls Tryd.prog 101 #[.agg #[.int .i64 n, v]] w fun e w' => WalkE w (if cnfB n LL then wlk n LL 700 [] else ([], false)) e w' := by
  have g0 := World.grownBy_alloc w (.cells #[.int .i64 n, v] 47) none
  have F0 := hide (Box.new 47 w (.int .i64 n) v)
  have G0 := hide g0
  have V0 := hide (hv.kept g0)
  have cc := ok.specCnfOk v n LL _ hn (hv.kept g0)
  clear g0 hv
  have x0 := (unhide F0).c0
  have x1 := (unhide F0).c1
  cases hc : cnfB n LL
  · rw [hc] at cc
    have CC := hide cc
    clear cc hc
    go_enter Tryd.func101, Tryd.ntmps101
    go_wp2_with fail
    refine (unhide CC).mono ?_; rintro e w2 ⟨rfl, g2⟩
    have R := hide (sub_own (grown_trans (r := none) (unhide G0) g2) (nilS _) (World.grownBy_alloc _ _ none))
    clear g2 x0 x1
    go_wp2_with fail
    go_ret2
    exact ⟨_, rfl, unhide R⟩
  · rw [hc] at cc
    have CC := hide cc
    have WK := hide (walk n LL hn hc 701 700 [] v)
    clear cc hc
    go_enter Tryd.func101, Tryd.ntmps101
    go_wp2_with fail
    refine (unhide CC).mono ?_; rintro e w2 ⟨rfl, g2⟩
    have G2 := hide (grown_trans (r := none) (unhide G0) g2)
    have y0 := ((unhide F0).kept g2).c0
    have y1 := ((unhide F0).kept g2).c1
    have mn := app.made_nil w2
    have WW := hide (unhide WK _ _ _ _ (by omega) (by intro x hx; cases hx) (by show 0 + 700 ≤ 1000; omega) (((unhide V0).kept g2).kept mn.2) (Own.of mn.1))
    have GN := hide mn.2
    have hlt := ((unhide F0).kept g2).lt
    have hne : ¬ w.heap.size = w2.heap.size := by omega
    clear g2 x0 x1 mn CC
    go_wp2_with fail
    refine (unhide WW).mono ?_; rintro e w3 ⟨r3, rfl, o3, g3⟩
    have R := hide (sub_own (grown_trans (r := none) (unhide G2) (unhide GN)) o3 g3)
    clear o3 g3 y0 y1
    go_wp2_with fail
    go_ret2
    exact ⟨_, rfl, unhide R⟩
end Go.Proofs.YtabiopkjeodamaaDoor.xw
