/- What the laws draw of formulas, right or not (l02Any): a formula in memory of the call's own, whatever the bytes, within named bounds; nothing old but the cursor is written. -/
import Derived.Test.YtibpnocpafppaaaDoorDCn
import Derived.Deep.CutBlock
namespace Go.Proofs.YtibpnocpafppaaaDoor.dcn
open Go.ChangeShapes Go.WideShapes Go.ChangeAt Go.RowKit
open Go.Proofs.YtibpnocpafppaaaDoor.sl (Sl Own ints hide unhide grown_refl grown_trans grown_trans' of_below below_of grown_drewN)
open Go.Proofs.YtibpnocpafppaaaDoor.css (Sls OwnS tot)
open Go.Proofs.YtibpnocpafppaaaDoor.cf (Box)
open Go.Proofs.YtibpnocpafppaaaDoor.draw (Cur Bs I64 newCur grown_new)
open Go.Proofs.YtibpnocpafppaaaDoor.dcls (MadeC MadeC.start appendC)
set_option linter.unusedVariables false

/-- literals of seven variables at most -/
def Low (L : List Int) : Prop := ∀ x ∈ L, x ≠ 0 ∧ -7 ≤ x ∧ x ≤ 7
/-- the bounds of a drawn formula -/
def Bd (n : Int) (M : List (List Int)) (k : Nat) : Prop := (-1 ≤ n ∧ n ≤ 25) ∧ M.length ≤ k ∧ (∀ L ∈ M, L.length ≤ 49) ∧ (n ≤ 7 ∨ ∀ L ∈ M, Low L)
theorem low_good {n : Int} {M : List (List Int)} (hn : n ≤ 6) (h : M.all (good n) = true) : ∀ L ∈ M, Low L := by
  intro L hL x hx
  have := List.all_eq_true.1 h L hL
  unfold good at this
  rw [Bool.and_eq_true, List.all_eq_true] at this
  have := of_decide_eq_true (this.2 x hx)
  omega
theorem bd_good {n : Int} {M : List (List Int)} (hn : 1 ≤ n ∧ n ≤ 6) (hl : (M.length : Int) ≤ 4 * n + 2) (h : M.all (good n) = true) : Bd n M 26 := by
  refine ⟨by omega, by omega, fun L hL => ?_, .inl (by omega)⟩
  have := List.all_eq_true.1 h L hL
  unfold good at this
  rw [Bool.and_eq_true, decide_eq_true_iff] at this
  omega
theorem Bd.snoc {n : Int} {M : List (List Int)} {k : Nat} {L : List Int} (h : Bd n M k) (hL : L.length ≤ 49) (hf : n ≤ 7 ∨ Low L) : Bd n (M ++ [L]) (k + 1) := by
  refine ⟨h.1, by rw [List.length_append]; have := h.2.1; simp; omega, fun K hK => ?_, ?_⟩
  · rw [List.mem_append, List.mem_singleton] at hK
    rcases hK with hK | rfl
    · exact h.2.2.1 K hK
    · exact hL
  · rcases h.2.2.2 with q | q
    · exact .inl q
    · rcases hf with f | f
      · exact .inl f
      · refine .inr fun K hK => ?_
        rw [List.mem_append, List.mem_singleton] at hK
        rcases hK with hK | rfl
        · exact q K hK
        · exact f
theorem low_nil : Low [] := fun x hx => by cases hx
theorem low_one : Low [1] := fun x hx => by rw [List.mem_singleton] at hx; omega
theorem Bd.more {n : Int} {M : List (List Int)} {k k' : Nat} (h : Bd n M k) (hk : k ≤ k') : Bd n M k' := ⟨h.1, Nat.le_trans h.2.1 hk, h.2.2⟩
theorem Bd.setN {n n' : Int} {M : List (List Int)} {k : Nat} (h : Bd n M k) (hn : -1 ≤ n' ∧ n' ≤ 25) (hf : ∀ L ∈ M, Low L) : Bd n' M k := ⟨hn, h.2.1, h.2.2.1, .inr hf⟩
/-- the struct variable in the middle -/
def Any (c : Nat) (w wr : World) (b k : Nat) : Prop := ∃ n M hi, Bd n M k ∧ MidD c w wr b n M [(w.heap.size, .int .i64 0, .slice none 0 0)] hi
/-- what comes -/
def Came (c : Nat) (w w' : World) (n : Int) (v : Value) (M : List (List Int)) : Prop := Bd n M 121 ∧ Drawn c w w' v M
theorem midD_of {c : Nat} {w w1 : World} {n : Int} {a : Option Addr} {cap : Nat} {M : List (List Int)} (hlt : c < w.heap.size) (d : Drawn c (w.alloc (.cells #[.int .i64 0, .slice none 0 0] 26)) w1 (.slice a M.length cap) M) :
    MidD c w (w1.alloc (.cells #[.int .i64 n, .slice a M.length cap] 26)) w1.heap.size n M [(w.heap.size, .int .i64 0, .slice none 0 0)] w1.heap.size := by
  obtain ⟨ho, g1, hc1⟩ := d
  have g0 := World.grownBy_alloc w (.cells #[.int .i64 0, .slice none 0 0] 26) (some c)
  have hb := (Box.new 26 w (.int .i64 0) (.slice none 0 0)).by g1 (fun e => by cases e; omega)
  have gA := World.grownBy_alloc w1 (.cells #[.int .i64 n, .slice a M.length cap] 26)
  have hs := (grown_trans' g0 g1).size
  refine ⟨hs, hlt, grown_trans' (grown_trans' g0 g1) (gA _), hc1.kept (gA none) (fun r e => by cases e), by rw [World.size_alloc]; omega, fun p hp => ?_, a, cap, Box.new _ _ _ _, ?_⟩
  · rw [List.mem_singleton] at hp
    subst hp
    exact ⟨fun e => by have := hb.lt; have e' : w.heap.size = w1.heap.size := e; omega, fun e => by have e' : w.heap.size = c := e; omega, hb.kept (gA none)⟩
  · exact (ho.kept (gA none)).sub (by rw [World.size_alloc]; omega) (Nat.le_refl _)

theorem wr120 {x : Int} (h0 : 0 ≤ x) (h1 : x < 2) : IntKind.i64.wrap (120 + x) = 120 + x := by
  have : x = 0 ∨ x = 1 := by omega
  rcases this with rfl | rfl <;> rfl
/-- the formula stored into the result's variable -/
theorem Drawn.stored {c : Nat} {w wr : World} {hi : Nat} {a : Option Addr} {cap : Nat} {M : List (List Int)} {x y : Value} (hlt : c < w.heap.size) (qg : w.grownBy wr (some c)) (qcur : Cur wr c) (qh : hi ≤ wr.heap.size) (ho : OwnS w.heap.size hi wr (.slice a M.length cap) M) (br : Box 26 wr w.heap.size x y) (n : Int) :
    Drawn c w ((wr.setCell ⟨w.heap.size, 0, none⟩ (.int .i64 n)).setCell ⟨w.heap.size, 1, none⟩ (.slice a M.length cap)) (.slice a M.length cap) M := by
  have g1 := sl.grown_setCell wr w.heap.size 0 (.int .i64 n)
  have g2 := sl.grown_setCell (wr.setCell ⟨w.heap.size, 0, none⟩ (.int .i64 n)) w.heap.size 1 (.slice a M.length cap)
  refine ⟨?_, new_some (new_some qg g1 (Nat.le_refl _)) g2 (Nat.le_refl _), (qcur.kept g1 (fun r e => by cases e; exact hlt)).kept g2 (fun r e => by cases e; exact hlt)⟩
  have := gr.ownS_set (i := 1) (u := .slice a M.length cap) (gr.ownS_set (i := 0) (u := .int .i64 n) ho br) (br.set0 (.int .i64 n))
  exact this.sub (Nat.le_refl _) (by rw [cf.size_set, cf.size_set]; exact qh)

set_option maxRecDepth 100000 in
set_option maxHeartbeats 4000000 in
theorem any (c : Nat) (w : World) (hc : Cur w c) :
    Calls Tryd.prog 49 #[.pointer (some ⟨c, 0, none⟩)] w fun e w' => ∃ (n : Int) (v : Value) (M : List (List Int)), e = .returned (.agg #[.int .i64 n, v]) ∧ Came c w w' n v M := by
  have hlt := hc.lt
  have C0 := hide (cnf c 6 _ (hc.kept (World.grownBy_alloc w (.cells #[.int .i64 0, .slice none 0 0] 26) none) (fun r e => by cases e)) (by decide) (by decide))
  clear hc
  go_enter Tryd.func49, Tryd.ntmps49
  go_wp2_with fail
  refine (unhide C0).mono ?_; rintro e w1 ⟨n, v, M, rfl, hn, hl, hg, hd⟩
  obtain ⟨va, vc, rfl⟩ := hd.1.len
  have A1 : Hid (Any c w (w1.alloc (.cells #[.int .i64 n, .slice va M.length vc] 26)) w1.heap.size 26) := ⟨n, M, _, bd_good hn hl hg, midD_of hlt hd⟩
  have m1 := hide (midD_of (n := n) hlt hd)
  have B0 := hide (bd_good hn hl hg)
  have F0 := hide (low_good hn.2 hg)
  clear hl hg hd C0
  go_wp2_with fail
  refine (draw.below c _ _ (unhide m1).cur (by decide) (by decide)).mono ?_; rintro e w2 ⟨k, rfl, k0, k1, hc2, g2⟩
  have M2 := hide ((unhide m1).turn g2 hc2)
  have hb1 : w1.heap.size < w2.heap.size := by have := g2.size; rw [World.size_alloc] at this; omega
  clear hc2 g2 m1 A1
  generalize hb : w1.heap.size = b at *
  clear hb
  go_upto_block 0 with fail
  go_cut [8] (fun _ wx => Hid (Any c w wx b 27))
  case first =>
    have y0 := (unhide M2).c0
    by_cases k_0 : k = 0
    · subst k_0
      have P := hide (fun (w3 : World) (hl : w3 = w2.alloc (.cells #[.int .i64 (-1), .int .i64 0, .int .i64 25, .int .i64 24, .int .i64 (n + 1)] 3)) => draw.pickInt c (.slice (some ⟨w2.heap.size, 0, none⟩) 5 5) [-1, 0, 25, 24, n + 1] w3 (by rw [hl]; exact (unhide M2).cur.kept (World.grownBy_alloc w2 _ none) (fun r e => by cases e)) (by simp) (by simp) (by rw [hl]; exact Sl.of_own (draw.own_alloc w2 [-1, 0, 25, 24, n + 1] (by show 5 ≤ maxLen; decide))) (fun k e => by cases e; exact Nat.lt_of_lt_of_le hlt (unhide M2).grown.size))
      have TA := hide (fun (w4 : World) (hc4 : Cur w4 c) (g4 : (w2.alloc (.cells #[.int .i64 (-1), .int .i64 0, .int .i64 25, .int .i64 24, .int .i64 (n + 1)] 3)).grownBy w4 (some c)) => (unhide M2).turn (grown_trans' (World.grownBy_alloc w2 _ (some c)) g4) hc4)
      go_wp2_with fail
      refine (unhide P _ rfl).mono ?_; rintro e w4 ⟨x, rfl, hx, hc4, g4⟩
      have M4 := hide (unhide TA w4 hc4 g4)
      have hx' : -1 ≤ x ∧ x ≤ 25 := by
        simp at hx
        omega
      have y1 := (unhide M4).c0
      have y2 : w4.frozen? ⟨b, 0, none⟩ = false := by
        obtain ⟨_, _, _, _, _, _, a, cap, bx, _⟩ := unhide M4
        exact bx.f 0
      clear hx hc4 g4 P TA
      go_wp2_with fail
      go_meet
      exact ⟨x, M, _, ((unhide B0).setN hx' (unhide F0)).more (by decide), (unhide M4).setN x⟩
    · by_cases k_1 : k = 1
      · subst k_1
        have CL := hide (dcls.clause c 9 4 w2.drew ((unhide M2).cur.kept (cf.grown_drew w2 none) (fun r e => by cases e)) (by decide) (by decide) (by decide) (by decide))
        obtain ⟨qb, qc, qg, qcur, qh, qB, oa, ocap, bx, ho⟩ := unhide M2
        have hlo : w.heap.size ≤ w2.heap.size := qg.size
        have hMl : M.length ≤ 1048576 := by have := (unhide B0).2.1; omega
        have b1 := bx.c1
        have HT := hide (fun (w3 : World) (ua : Option Addr) (uc : Nat) (L : List Int) (m3 : MadeC c w2.drew w3 (.slice ua L.length uc) L) => And.intro ((bx.by (grown_trans' (cf.grown_drew w2 (some c)) m3.2.1) (fun e => by cases e; omega))) (And.intro ((ownS_turn ho qc (grown_trans' (cf.grown_drew w2 (some c)) m3.2.1)).sub (Nat.le_refl _) qh) (And.intro (sl.Own.of m3.1) m3.2.1.size)))
        have HS := hide (fun (w3 : World) (ua : Option Addr) (uc : Nat) (L : List Int) (m3 : MadeC c w2.drew w3 (.slice ua L.length uc) L) (g' cap' : Nat) (w1 : World) h1 g1 => MidD.step (u := .slice ua L.length uc) (L := L) (g := g') (cap' := cap') (w1 := w1) qb qc (grown_trans' qg (grown_trans' (cf.grown_drew w2 (some c)) m3.2.1)) m3.2.2 (fun p hp => ⟨(qB p hp).1, (qB p hp).2.1, (qB p hp).2.2.by (grown_trans' (cf.grown_drew w2 (some c)) m3.2.1) (fun e => (qB p hp).2.1 (by cases e; rfl))⟩) (unhide HT w3 ua uc L m3).1 (unhide HT w3 ua uc L m3).2.1 h1 g1)
        clear bx ho qg qcur qB
        go_upto_region 6 with fail
        go_region_law
          (first
            | (go_simp; go_at_call 110; refine (unhide CL).mono ?_; rintro e w3 ⟨u3, L, rfl, hL3, m3⟩; obtain ⟨ua, uc, rfl⟩ := m3.form; obtain ⟨bx3, oo3, ou3, sz3⟩ := unhide HT w3 ua uc L m3; have k1 := bx3.c1; have k2 := bx3.f 1; have k9 := (bx3.kept (World.grownBy_alloc w3 (.cells #[.slice ua L.length uc] 31) none)).c1; have OO3 := hide oo3; have OU3 := hide ou3; have SZ3 := hide sz3; have M3 := hide m3; clear oo3 ou3 sz3 m3 bx3)
            | (refine gr.stepR (unhide OO3) (unhide OU3) hlo (unhide SZ3) hMl (by rfl) _ _ (by rfl) (by rfl) (by rfl) ?_; intro g4 cap4 w4 h4 g4'; have R4 := hide (unhide HS w3 ua uc L (unhide M3) g4 cap4 w4 h4 g4'); have k3 := (unhide R4).1.1; have k4 := (unhide R4).1.2; clear h4 g4'))
        all_goals
          go_wp2_with fail
          go_meet
          exact ⟨n, _, _, (unhide B0).snoc hL3 (.inl (by omega)), (unhide R4).2⟩
      · by_cases k_2 : k = 2
        · subst k_2
          have ST := hide (MadeC.start c w2 (unhide M2).cur)
          have x1 : w2.cell? ⟨b, 1, none⟩ = w2.cell? ⟨b, 1, none⟩ := rfl
          obtain ⟨qb, qc, qg, qcur, qh, qB, oa, ocap, bx, ho⟩ := (unhide M2).turn (unhide ST).2.1 (unhide ST).2.2
          have ou := hide (sl.Own.of (L := []) (unhide ST).1)
          have ho' := hide (ho.sub (hi' := w2.heap.size) (Nat.le_refl _) (unhide M2).2.2.2.2.1)
          have HS := hide (fun (g' cap' : Nat) (w1 : World) h1 g1 => MidD.step (u := .slice (some ⟨w2.heap.size, 0, none⟩) 0 0) (L := []) (g := g') (cap' := cap') (w1 := w1) qb qc qg qcur qB bx (unhide ho') h1 g1)
          have hlo : w.heap.size ≤ w2.heap.size := (unhide M2).grown.size
          have hmd := (unhide ST).2.1.size
          have hMl : M.length ≤ 1048576 := by have := (unhide B0).2.1; omega
          have b1 : w2.cell? ⟨b, 1, none⟩ = some (.slice oa M.length ocap) := by
            have e : (w2.alloc (.cells #[] 3)).heap[b]? = w2.heap[b]? := Below.heap_alloc _ _ _ hb1
            rw [← World.cell?_of_block (a := ⟨b, 1, none⟩) e]
            exact bx.c1
          have HMD := hide hmd
          clear hmd qg qcur qB ho bx ST x1
          go_wp2_with (at_builtin; refine gr.appendR (unhide ho') (unhide ou) hlo (unhide HMD) hMl rfl _ _ rfl rfl (by rw [World.size_alloc]; rfl) ?_)
          intro g' cap' w9 h1 g1
          obtain ⟨⟨s1, s2⟩, m9⟩ := unhide HS g' cap' w9 h1 g1
          have M9 := hide m9
          clear h1 g1 m9 HS ho' ou
          go_wp2_with fail
          go_meet
          exact ⟨n, _, _, (unhide B0).snoc (by decide) (.inr low_nil), unhide M9⟩
        · have e0 : (k == 0) = false := beq_eq_false_iff_ne.2 k_0
          have e1 : (k == 1) = false := beq_eq_false_iff_ne.2 k_1
          have e2 : (k == 2) = false := beq_eq_false_iff_ne.2 k_2
          go_wp2_with fail
          go_meet
          exact ⟨n, M, _, (unhide B0).more (by decide), unhide M2⟩
  case rest =>
    clear M2 B0 F0 k0 k1 hn
    obtain ⟨n2, N, hi2, bd2, md2⟩ := unhide hcut
    have M2 := hide md2
    have B2 := hide bd2
    clear hcut bd2 md2
    go_wp2_with fail
    refine (draw.once c _ _ (unhide M2).cur (by decide) (by decide)).mono ?_; rintro e w3 ⟨bt, rfl, hc3, g3⟩
    have M3 := hide ((unhide M2).turn g3 hc3)
    clear hc3 g3 M2
    cases bt
    · obtain ⟨qb, qc, qg, qcur, qh, qB, oa, ocap, bx, ho⟩ := unhide M3
      have br := (qB _ (List.mem_singleton.2 rfl)).2.2
      have o0 := bx.c0
      have o1 := bx.c1
      have rc0 := br.c0
      have rc1 := br.c1
      have rf0 := br.f 0
      have rf1 := br.f 1
      have BR := hide br
      have DR := hide (Drawn.stored hlt qg qcur qh ho br n2)
      clear qg qcur qB bx ho M3 br
      go_wp2_with fail
      (try simp only [Exit.inBlock, Exit.then])
      refine bodyPost_ret (cf.ret_box rfl rfl (((unhide BR).set0 (.int .i64 n2)).set1 (.slice oa N.length ocap))) rfl ⟨_, _, N, rfl, (unhide B2).more (by decide), unhide DR⟩
    · go_wp2_with fail
      go_loopg [36] (121 - N.length) (fun gk _ wr => ∃ (M : List (List Int)) (hi : Nat), M.length ≤ 121 ∧ gk = 121 - M.length ∧ Hid (Bd n2 M 121) ∧ Hid (MidD c w wr b n2 M [(w.heap.size, .int .i64 0, .slice none 0 0)] hi))
      case atStart => exact ⟨N, _, by have := (unhide B2).2.1; omega, rfl, (unhide B2).more (by decide), unhide M3⟩
      case round =>
        obtain ⟨M, hi, hM, hgk, hbd, hmd⟩ := hrel
        clear M3 B2
        have CB := hide (draw.below c 2 wr.drew ((unhide hmd).cur.kept (cf.grown_drew wr none) (fun r e => by cases e)) (by decide) (by decide))
        have TM := hide (fun (w4 : World) (hc4 : Cur w4 c) (g4 : wr.drew.grownBy w4 (some c)) => (unhide hmd).turn (grown_trans' (cf.grown_drew wr (some c)) g4) hc4)
        obtain ⟨va, vc, hbx⟩ : ∃ va vc, Box 26 wr b (.int .i64 n2) (.slice va M.length vc) := by
          obtain ⟨_, _, _, _, _, _, a, cap, bx, _⟩ := unhide hmd
          exact ⟨a, cap, bx⟩
        have TB := hide (fun (w4 : World) (g4 : wr.drew.grownBy w4 (some c)) => hbx.by (grown_trans' (cf.grown_drew wr (some c)) g4) (fun e => by have := (unhide hmd).1; cases e; omega))
        have x1 := hbx.c1
        clear hbx
        go_upto_region 10 with fail
        go_cut [42] from 36 to 48 (fun q wx => ∃ x : Int, (0 ≤ x ∧ x < 2) ∧ q = .bool (decide ((M.length : Int) < 120 + x)) ∧ Hid (MidD c w wx b n2 M [(w.heap.size, .int .i64 0, .slice none 0 0)] hi))
        case first =>
          go_region_with (go_at_call 108; refine (unhide CB).mono ?_; rintro e w4 ⟨x, rfl, x0, x1', hc4, g4⟩; have M4 := hide (unhide TM w4 hc4 g4); have z1 := (unhide TB w4 g4).c1; clear hc4 g4)
          all_goals
            go_wp2_with fail
            go_meet
            exact ⟨x, ⟨x0, x1'⟩, by rw [wr120 x0 x1'], M4⟩
        case rest =>
          obtain ⟨x, hx, rfl, hm4⟩ := hcut
          clear hmd CB TM TB x1
          by_cases hl : (M.length : Int) < 120 + x
          · have hl' : decide ((M.length : Int) < 120 + x) = true := decide_eq_true hl
            have hbc : b < wc.heap.size := by
              obtain ⟨_, _, _, _, _, _, a, cap, bx, _⟩ := unhide hm4
              exact bx.lt
            have ST := hide (show wc.grownBy (wc.alloc (.cells #[.int .i64 1] 3)) (some c) ∧ Cur (wc.alloc (.cells #[.int .i64 1] 3)) c from ⟨World.grownBy_alloc _ _ _, (unhide hm4).cur.kept (World.grownBy_alloc wc (.cells #[.int .i64 1] 3) none) (fun r e => by cases e)⟩)
            obtain ⟨qb, qc, qg, qcur, qh, qB, oa, ocap, bx, ho⟩ := (unhide hm4).turn (unhide ST).1 (unhide ST).2
            have ou : Hid (Own wc.heap.size (wc.alloc (.cells #[.int .i64 1] 3)).heap.size (wc.alloc (.cells #[.int .i64 1] 3)) (.slice (some ⟨wc.heap.size, 0, none⟩) 1 1) [1]) := sl.Own.of (L := [1]) (draw.own_alloc wc [1] (by decide))
            have ho' := hide (ho.sub (hi' := wc.heap.size) (Nat.le_refl _) (unhide hm4).2.2.2.2.1)
            have HS := hide (fun (g' cap' : Nat) (w1 : World) h1 g1 => MidD.step (u := .slice (some ⟨wc.heap.size, 0, none⟩) 1 1) (L := [1]) (g := g') (cap' := cap') (w1 := w1) qb qc qg qcur qB bx (unhide ho') h1 g1)
            have hlo : w.heap.size ≤ wc.heap.size := (unhide hm4).grown.size
            have hmd := (unhide ST).1.size
            have b1 : wc.cell? ⟨b, 1, none⟩ = some (.slice oa M.length ocap) := by
              have e : (wc.alloc (.cells #[.int .i64 1] 3)).heap[b]? = wc.heap[b]? := Below.heap_alloc _ _ _ hbc
              rw [← World.cell?_of_block (a := ⟨b, 1, none⟩) e]
              exact bx.c1
            have HMD := hide hmd
            clear hmd qg qcur qB ho bx ST hm4
            have hMl : M.length ≤ 1048576 := by omega
            go_wp2_with (at_builtin; refine gr.appendR (unhide ho') (unhide ou) hlo (unhide HMD) hMl rfl _ _ rfl rfl (by rw [World.size_alloc]; rfl) ?_)
            intro g' cap' w9 h1 g1
            obtain ⟨⟨s1, s2⟩, m9⟩ := unhide HS g' cap' w9 h1 g1
            have M9 := hide m9
            have HB := hide (show Bd n2 (M ++ [[1]]) 121 from ⟨(unhide hbd).1, by rw [List.length_append]; simp; omega, ((unhide hbd).snoc (by decide) (.inr low_one)).2.2⟩)
            clear h1 g1 m9 HS ho' ou hbd
            go_wp2_with fail
            go_roundg (121 - (M.length + 1))
            case measure => omega
            case rel => exact ⟨_, _, by rw [List.length_append]; simp; omega, by rw [List.length_append]; rfl, HB, M9⟩
          · have hl' : decide ((M.length : Int) < 120 + x) = false := decide_eq_false hl
            obtain ⟨qb, qc, qg, qcur, qh, qB, oa, ocap, bx, ho⟩ := unhide hm4
            have br := (qB _ (List.mem_singleton.2 rfl)).2.2
            have o0 := bx.c0
            have o1 := bx.c1
            have rc0 := br.c0
            have rc1 := br.c1
            have rf0 := br.f 0
            have rf1 := br.f 1
            have BR := hide br
            have DR := hide (Drawn.stored hlt qg qcur qh ho br n2)
            clear qg qcur qB bx ho hm4 br
            go_wp2_with fail
            (try simp only [Exit.inBlock, Exit.then])
            refine bodyPost_ret (cf.ret_box rfl rfl (((unhide BR).set0 (.int .i64 n2)).set1 (.slice oa M.length ocap))) rfl ⟨_, _, rfl, M, unhide hbd, unhide DR⟩
end Go.Proofs.YtibpnocpafppaaaDoor.dcn
