/- What the shelf's cache does: the entries that stand, in memory of their own; no condition but on sizes. -/
import Derived.Test.YtgjakiliepfjiaaUk
namespace Go.Proofs.Ytgjakiliepfjiaa.ua
open Go.ChangeShapes Go.WideShapes Go.ChangeAt Go.RowKit Go.Maps Go.MuLone
open Go.Proofs.Ytgjakiliepfjiaa.sl (Sl Own ints marks hide unhide ret_int ret_bool grown_refl grown_trans grown_drewN below_of of_below)
open Go.Proofs.Ytgjakiliepfjiaa.css (Outs outs_trans outs_none outs_by outs_refl own_mono own_sub own_outs own_kind)
open Go.Proofs.Ytgjakiliepfjiaa.yb (Box4)
open Go.Proofs.Ytgjakiliepfjiaa.cf (Box)
set_option linter.unusedVariables false
/-- those of the first n that stand -/
def filt (S : Nat → Bool) (E : List Kn) : Nat → List Kn
  | 0 => []
  | n + 1 => filt S E n ++ (if S n then [E.getD n kz] else [])
theorem filt_len (S : Nat → Bool) (E : List Kn) : ∀ n, (filt S E n).length ≤ n
  | 0 => Nat.le_refl _
  | n + 1 => by
    have := filt_len S E n
    unfold filt
    rw [List.length_append]
    split <;> simp <;> omega
/-- what the shelf's cache answers -/
def OutE (wr : World) (s : Nat) (room : Int) (KK : List Kn) (e : Ending) (w' : World) : Prop := ∃ u, e = .returned (.agg #[.int .i64 room, u]) ∧ OwnK wr.heap.size w'.heap.size w' u KK ∧ wr.grownBy w' (some s)
theorem new_some {a b d : World} {c r : Nat} (h : a.grownBy b (some c)) (k : b.grownBy d (some r)) (hr : a.heap.size ≤ r) : a.grownBy d (some c) :=
  ⟨k.os.trans h.os, k.tape.trans h.tape, k.output.trans h.output, Nat.le_trans h.size k.size, fun i hi hn => (k.block i (Nat.lt_of_lt_of_le hi h.size) (fun e => by cases e; omega)).trans (h.block i hi hn)⟩
set_option maxRecDepth 10000 in
set_option maxHeartbeats 4000000 in
theorem cache (s bm : Nat) (room : Int) (v : Value) (E : List Kn) (D : DataW Unit) (w0 wq : World) (S : Nat → Bool) (h : Shf w0 wq s bm 0 room v E D) (hE : E.length ≤ 1048577) (hd : ∀ i, (E.getD i kz).dg.size ≤ maxLen) (hin : ∀ i, (E.getD i kz).vals.length ≤ 1048576)
    (hz : Maps.size D ≤ 1048577) (hS : ∀ i, i < E.length → ∃ c b, Told D (E.getD i kz).dg c b ∧ S i = (b && (c == (i : Int)))) :
    Calls Try.prog 31 #[.pointer (some ⟨s, 0, none⟩)] wq fun e w' => OutE wq s room (filt S E E.length) e w' := by
  obtain ⟨va, vc, rfl⟩ := h.own.len
  obtain ⟨i0, hi, hz0, hz1, hz2⟩ := info_parts infoK
  obtain ⟨W1, hW1⟩ : ∃ W1, W1 = wq.alloc (.cells #[.int .i64 0, .slice none 0 0] 26) := ⟨_, rfl⟩
  have g1 : wq.grownBy W1 none := by rw [hW1]; exact World.grownBy_alloc _ _ _
  have s1 : W1.heap.size = wq.heap.size + 1 := by rw [hW1, World.size_alloc]
  have R1 : Box 26 W1 wq.heap.size (.int .i64 0) (.slice none 0 0) := by rw [hW1]; exact Box.new _ _ _ _
  have S1 := h.kept g1
  have C1 := hide (lock_free Try.muLib ⟨s, 0, none⟩ W1 S1.cells.1 (S1.cells.2.2.2.2 0))
  have S2 := S1.lock 1
  have hsl := h.lt
  have R2 := R1.setO (d := s) (i := 0) (u := .int .i32 1) (by omega)
  have g2 : wq.grownBy (W1.setCell ⟨s, 0, none⟩ (.int .i32 1)) (some s) := sl.grown_trans' (grown_trans (r := some s) (grown_refl wq) g1) (sl.grown_setCell _ _ _ _)
  have s2 : (W1.setCell ⟨s, 0, none⟩ (.int .i32 1)).heap.size = wq.heap.size + 1 := by rw [cf.size_set, s1]
  generalize W1.setCell ⟨s, 0, none⟩ (.int .i32 1) = W2 at *
  have hlen := S2.map.len Try.underlying88
  have HS := hide hS
  have HD := hide hd
  have SL := hide S2
  have HR := hide R2
  have HG := hide g2
  have HZ := hide hz
  have m4 := S2.cells.2.2.2.1
  have m3 := S2.cells.2.2.1
  obtain ⟨sz, hsz⟩ : ∃ sz, sz = Maps.size D := ⟨_, rfl⟩
  rw [← hsz] at hlen HZ
  have hzz : sz ≤ 1048577 := unhide HZ
  clear g1 R1 S1 S2 R2 g2 h hS hd hz hsz s1
  go_enter_defers Try.func31, Try.ntmps31
  go_wp2_with fail
  rw [← hW1]
  clear hW1
  refine (unhide C1).mono ?_; rintro e w' ⟨rfl, rfl⟩
  clear C1
  go_wp2_with (first | (at_make; refine wpList_make_own _ rfl _ _ 24 rfl w'.heap.size 29 i0 (.agg #[.string ⟨#[]⟩, .bool false, .slice none 0 0, .int .i64 0]) 4 Try.underlying24 hi hz0 hz1 _ _ _ sz rfl rfl (by rfl) ?b1 ?b2 ?b3 ?_))
  case b1 => rw [hz2]; omega
  case b2 => unfold maxLen; omega
  case b3 => exact Nat.le_refl _
  intro w2 hown hgrow
  have ST : Hid (OwnK (wq.heap.size + 1) w2.heap.size w2 (.slice (some ⟨wq.heap.size + 1, 0, none⟩) 0 sz) (filt S E 0)) := by
    exact ⟨[], rfl, hown, fun k e => (hown.lt k e).2, (fun p hp => by cases hp), .nil⟩
  have GS := hide hgrow
  have m3' := hgrow.cell m3 (fun e => by cases e)
  clear hown hgrow m3 m4 hlen
  go_wp2_with fail
  clear m3'
  go_loopw [3, 24] (fun u i wx => ∃ j : Nat, j ≤ E.length ∧ i = .int .i64 j ∧ Hid (OwnK (wq.heap.size + 1) wx.heap.size wx u (filt S E j)) ∧ Hid (w'.grownBy wx none)) (fun _ i _ => E.length - (intOf i).toNat)
  case atStart => exact ⟨0, Nat.zero_le _, rfl, ST, GS⟩
  case round =>
    obtain ⟨j, hj, rfl, ho, hg⟩ := hrel
    clear ST GS
    obtain ⟨xa, xc, hxv⟩ := (unhide ho).len
    have hfl := filt_len S E j
    generalize hfn : (filt S E j).length = fn at hxv hfl
    have HFN := hide hfn
    clear hfn
    subst hxv
    have SX := hide ((unhide SL).kept (unhide hg))
    by_cases hlt : j < E.length
    · obtain ⟨g, cap, u, hvv, c0, c1, c2, c3, hvl⟩ := (unhide SX).own.at hlt
      simp only [Value.slice.injEq] at hvv
      obtain ⟨rfl, _, rfl⟩ := hvv
      obtain ⟨c, b, htd, hSj⟩ := unhide HS j hlt
      have HST : Hid (filt S E (j + 1) = filt S E j ++ (if S j then [E.getD j kz] else [])) := rfl
      have hdd := unhide HD j
      have hL := hin j
      have hi' : (j : Int) < (E.length : Int) := by omega
      have HVL := hide hvl
      have CS := hide (fun W (q : Shf w0 W s bm 1 room (.slice (some ⟨g, 0, none⟩) E.length vc) E D) => stands s bm j 1 room _ E D w0 W c b q hlt hE hdd htd)
      rw [← hSj] at CS
      generalize hx : E.getD j kz = x at *
      obtain ⟨dg, sat, vals, cost⟩ := x
      dsimp only at *
      obtain ⟨ua, uc, rfl, _⟩ := hvl.sl
      obtain ⟨W4, hW4⟩ : ∃ W4, W4 = wr.alloc (.cells #[.string dg, .bool sat, .slice ua vals.length uc, .int .i64 cost] 29) := ⟨_, rfl⟩
      have g4 : wr.grownBy W4 none := by rw [hW4]; exact World.grownBy_alloc _ _ _
      have B4 := hide (show Box4 29 W4 wr.heap.size (.string dg) (.bool sat) (.slice ua vals.length uc) (.int .i64 cost) by rw [hW4]; exact Box4.new _ _ _ _ _ _)
      have S4 := hide ((unhide SX).kept g4)
      have O4 := hide (((unhide ho).kept g4).sub (Nat.le_refl _) g4.size)
      have G4 := hide (grown_trans (r := none) (unhide hg) g4)
      have CS4 := hide (unhide CS W4 (unhide S4))
      clear hvl htd hSj hx g4 ho hg CS SX hdd
      go_upto_region 7 with fail
      rw [← hW4]
      clear hW4 c0 c1 c2 c3
      generalize wr.heap.size = kb at *
      go_wp2_with fail
      refine (unhide CS4).mono ?_; rintro e w5 ⟨rfl, g5⟩
      have B5 := hide ((unhide B4).kept g5)
      have O5 := hide (((unhide O4).kept g5).sub (Nat.le_refl _) g5.size)
      have G5 := hide (grown_trans (r := none) (unhide G4) g5)
      have hs5 : wq.heap.size + 1 ≤ w5.heap.size := by have := (unhide G5).size; omega
      clear g5 CS4 B4 O4 G4 S4
      cases hq : S j
      · have HQ : Hid (filt S E (j + 1) = filt S E j) := by show _ = _; rw [unhide HST, hq]; simp
        go_wp2_with fail
        go_roundw
        case rel => exact ⟨j + 1, by omega, by go_num, by rw [unhide HQ]; exact unhide O5, G5⟩
        case measure => simp [intOf]; omega
      · have HQ : Hid (filt S E (j + 1) = filt S E j ++ [⟨dg, sat, vals, cost⟩]) := by show _ = _; rw [unhide HST, hq]; simp
        have CC := hide (copyKnown (.slice ua vals.length uc) ⟨dg, sat, vals, cost⟩ w5 hL ((unhide HVL).kept (grown_trans (r := none) (unhide SL).g (unhide G5))))
        dsimp only at CC
        have y0 := (unhide B5).c0
        have y1 := (unhide B5).c1
        have y2 := (unhide B5).c2
        have y3 := (unhide B5).c3
        go_wp2_with fail
        refine (unhide CC).mono ?_; rintro e w6 ⟨v6, rfl, o6, g6⟩
        obtain ⟨v6a, v6c, rfl, _⟩ := Sl.of_own o6
        have U6 := hide (Own.of o6)
        have O6 := hide ((unhide O5).kept g6)
        have G6 := hide (grown_trans (r := none) (unhide G5) g6)
        have hs6 := g6.size
        clear o6 g6 CC O5 G5 y0 y1 y2 y3 B5
        go_wp2_with (at_builtin; refine appK (k := ⟨dg, sat, vals, cost⟩) (unhide O6) (unhide U6) hs5 hs6 (by rw [unhide HFN]; omega) rfl _ _ rfl rfl rfl ?_)
        intro g7 cap7 w7 o7 gg7
        rw [← unhide HQ] at o7
        have O7 := hide o7
        have G7 := hide (grown_app (lo := 0) (unhide G6) (by rw [s2]; exact unhide O6) gg7)
        clear o7 gg7 O6 U6 G6
        go_wp2_with fail
        go_roundw
        case rel => exact ⟨j + 1, by omega, by go_num, O7, G7⟩
        case measure => simp [intOf]; omega
    · have hi' : ¬ (j : Int) < (E.length : Int) := by omega
      have hjj : j = E.length := by omega
      have R := hide ((unhide HR).kept (unhide hg))
      have GG : Hid (wq.grownBy wr (some s)) := sl.grown_trans' (unhide HG) (grown_trans (r := some s) (grown_refl _) (unhide hg))
      have hsz : wq.heap.size + 1 ≤ wr.heap.size := by have := (unhide hg).size; omega
      have n1 : ¬ wq.heap.size = s := by omega
      have n2 : ¬ s = wq.heap.size := by omega
      have k2 := (unhide SX).cells.2.1
      have r0 := (unhide R).c0
      have r1 := (unhide R).c1
      have rf0 := (unhide R).f 0
      have rf1 := (unhide R).f 1
      clear HS HD HZ SL HR HG hg
      go_wp2_with fail
      go_region
      obtain ⟨W9, hW9⟩ : ∃ W9, W9 = ((((wr.setCell ⟨wq.heap.size, 0, none⟩ (.int .i64 0)).setCell ⟨wq.heap.size, 1, none⟩ (.slice none 0 0)).setCell ⟨wq.heap.size, 0, none⟩ (.int .i64 room)).setCell ⟨wq.heap.size, 1, none⟩ (.slice xa fn xc)).drew := ⟨_, rfl⟩
      have gw : wr.grownBy W9 (some wq.heap.size) := by
        rw [hW9]
        exact sl.grown_trans' (sl.grown_trans' (sl.grown_trans' (sl.grown_trans' (sl.grown_setCell _ _ _ _) (sl.grown_setCell _ _ _ _)) (sl.grown_setCell _ _ _ _)) (sl.grown_setCell _ _ _ _)) (cf.grown_drew _ _)
      have RB : Hid (Box 26 W9 wq.heap.size (.int .i64 room) (.slice xa fn xc)) := by
        rw [hW9]
        exact (((((unhide R).set0 (.int .i64 0)).set1 (.slice none 0 0)).set0 (.int .i64 room)).set1 (.slice xa fn xc)).kept (cf.grown_drew _ none)
      have O9 : Hid (OwnK (wq.heap.size + 1) wr.heap.size W9 (.slice xa fn xc) (filt S E E.length)) := by
        have q := unhide ho
        rw [hjj] at q
        exact q.outs (outs_by (lo := wq.heap.size) (hi := wq.heap.size + 1) gw (fun k e => by cases e; omega)) (.inr (Nat.le_refl _))
      have G9 := hide (new_some (unhide GG) gw (Nat.le_refl _))
      have l0 := gw.cell (unhide SX).cells.1 (fun e => by cases e; exact n1 rfl)
      have lf : W9.frozen? ⟨s, 0, none⟩ = false := by
        have hb := (gw.block s (unhide SX).lt (fun e => by cases e; exact n1 rfl)).trans (unhide SX).blk
        simp [World.frozen?, hb]
      have hs9 := gw.size
      rw [← hW9]
      clear hW9 gw SX R GG ho k2 r0 r1 rf0 rf1 hjj
      go_wp2_with fail
      refine leaves_cons (f := 58) (args := #[.pointer (some ⟨s, 0, none⟩)]) (by simp) (by simp [go_sem]) ?_
      refine (unlock_deferred Try.muLib ⟨s, 0, none⟩ .returning _ l0 lf).mono ?_
      rintro e u' w'' ⟨rfl, rfl, rfl⟩
      simp [Leaves, settle]
      refine ⟨_, ret_cache rfl rfl ((unhide RB).setO (d := s) (i := 0) (u := .int .i32 0) n2), ?_⟩
      refine ⟨_, rfl, ?_, sl.grown_trans' (unhide G9) (sl.grown_setCell _ _ _ _)⟩
      rw [cf.size_set]
      exact (ownK_set (unhide O9) (by omega)).sub (by omega) hs9
end Go.Proofs.Ytgjakiliepfjiaa.ua
