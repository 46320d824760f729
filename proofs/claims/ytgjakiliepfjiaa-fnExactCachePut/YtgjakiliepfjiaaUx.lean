/- What the model's CacheFind does; no condition but on sizes. -/
import Derived.Test.YtgjakiliepfjiaaUv
namespace Go.Proofs.Ytgjakiliepfjiaa.ua
open Go.ChangeShapes Go.WideShapes Go.ChangeAt Go.RowKit
open Go.Proofs.Ytgjakiliepfjiaa.sl (Sl Own ints marks hide unhide ret_int ret_bool grown_refl grown_trans grown_drewN below_of of_below)
open Go.Proofs.Ytgjakiliepfjiaa.css (Outs outs_trans outs_none outs_by outs_refl own_mono own_sub own_outs own_kind)
open Go.Proofs.Ytgjakiliepfjiaa.yb (Box4)
open Go.Proofs.Ytgjakiliepfjiaa.cf (Box)
set_option linter.unusedVariables false
/-- what the model's CacheFind answers -/
def FindS (w : World) (room : Int) (KK : List Kn) (d : ByteArray) (e : Ending) (w' : World) : Prop := ∃ u v, e = .returned (.tuple #[.agg #[.int .i64 room, u], .agg #[.string (fndK room KK d).dg, .bool (fndK room KK d).sat, v, .int .i64 (fndK room KK d).cost], .bool (fndB room KK d)]) ∧ Vl w' v (fndK room KK d).vals ∧ VKns w' u (fndL room KK d) ∧ w.grownBy w' none
theorem types3 : (3 : Nat) ≠ 26 ∧ (3 : Nat) ≠ 29 := by decide
theorem Vl.outs {lo hi : Nat} {w w' : World} {u : Value} {L : List Int} (h : Vl w u L) (o : Outs lo hi w w') (hb : ∀ c, lo ≤ c → c < hi → ∃ cs t fz, w.heap[c]? = some (.cells cs t fz) ∧ (3 : Nat) ≠ t) : Vl w' u L := by
  obtain ⟨l, hi', hu⟩ := h
  refine ⟨l, hi', ?_, hu.2⟩
  have hu' := hu.1
  obtain ⟨h1, h2⟩ := hu.1
  refine ⟨h1, ?_⟩
  rcases h2 with h2 | ⟨b, cap, cur, rfl, hg, hh, r⟩
  · exact .inl h2
  · refine .inr ⟨b, cap, cur, rfl, hg, ?_, r⟩
    have l1 := hu'.lt b rfl
    rw [o.block b l1.2 ?_]
    · exact hh
    · by_cases q1 : b < lo
      · exact .inl q1
      · by_cases q2 : hi ≤ b
        · exact .inr q2
        · obtain ⟨cs, t, fz, hc, n2⟩ := hb b (by omega) (by omega)
          rw [hh] at hc
          simp only [Option.some.injEq, Obj.cells.injEq] at hc
          exact absurd hc.2.1 n2
theorem Vl.setBox {w : World} {u x y z : Value} {L : List Int} {c i : Nat} (h : Vl w u L) (hb : Box 26 w c x y) : Vl (w.setCell ⟨c, i, none⟩ z) u L := by
  refine h.outs (outs_by (lo := c) (hi := c + 1) (sl.grown_setCell _ _ _ _) (fun k e => by cases e; omega)) (fun k h1 h2 => ?_)
  obtain rfl : k = c := by omega
  exact ⟨_, _, _, hb, types3.1⟩
theorem RwK.outs {lo hi : Nat} {w w' : World} {v : Value} {KK : List Kn} {lo0 : Nat} (h : RwK lo0 w v KK) (o : Outs lo hi w w') (hlo : hi ≤ lo0) (hb : ∀ c, lo ≤ c → c < hi → ∃ cs t fz, w.heap[c]? = some (.cells cs t fz) ∧ (3 : Nat) ≠ t) : RwK lo0 w' v KK := by
  obtain ⟨D, e, ho, hv⟩ := h
  exact ⟨D, e, row_outs ho (fun k e => (ho.lt k e).2) o (.inr hlo), fun p hp => (hv p hp).outs o hb⟩
theorem lies_one {w : World} {u : Value} {k : Kn} (h : Vl w u k.vals) : Lies (w.alloc (.cells #[.string k.dg, .bool k.sat, u, .int .i64 k.cost] 29)) ⟨w.heap.size, 0, none⟩ [k] := by
  refine ⟨[(u, k)], rfl, fun j y hj => four_at w u k j y (by simpa [cells4] using hj), fun p hp => ?_⟩
  rw [List.mem_singleton] at hp
  subst hp
  exact h.kept (World.grownBy_alloc _ _ _)
/-- what holds behind the entries' store -/
def CutF (w W6 wx : World) (room : Int) (kb : Nat) (y : Value) (k : Kn) (LL : List Kn) : Prop :=
  ∃ a n c, Box 26 wx w.heap.size (.int .i64 room) (.slice a n c) ∧ Box 26 wx (w.heap.size + 1) (.int .i64 0) (.slice none 0 0) ∧ Box4 29 wx (w.heap.size + 1 + 1) (.string ⟨#[]⟩) (.bool false) (.slice none 0 0) (.int .i64 0) ∧ Box4 29 wx kb (.string k.dg) (.bool k.sat) y (.int .i64 k.cost) ∧ RwK W6.heap.size wx (.slice a n c) (LL ++ [k]) ∧ Vl wx y k.vals ∧ w.grownBy wx none ∧ W6.heap.size ≤ wx.heap.size
theorem kinds2 {w : World} {c : Nat} {x y a b q z : Value} (R : Box 26 w c x y) (Q : Box4 29 w (c + 1) a b q z) : ∀ k, c ≤ k → k < c + 2 → ∃ cs t fz, w.heap[k]? = some (.cells cs t fz) ∧ (3 : Nat) ≠ t := by
  intro k h1 h2
  rcases (show k = c ∨ k = c + 1 by omega) with rfl | rfl
  · exact ⟨_, _, _, R, types3.1⟩
  · exact ⟨_, _, _, Q, types3.2⟩
set_option maxRecDepth 10000 in
set_option maxHeartbeats 4000000 in
theorem specCacheFind (v : Value) (room : Int) (KK : List Kn) (d : ByteArray) (w : World) (hn : tot KK ≤ 1048576) (hv : VKns w v KK) :
    Calls Try.prog 14 #[.agg #[.int .i64 room, v], .string d] w fun e w' => FindS w room KK d e w' := by
  have h1 := Nat.le_trans (tot_len KK) hn
  have h2 := fun i => Nat.le_trans (tot_vals KK i) hn
  obtain ⟨a, cap, rfl⟩ := hv.len
  obtain ⟨W1, hW1⟩ : ∃ W1, W1 = ((w.alloc (.cells #[.int .i64 room, .slice a KK.length cap] 26)).alloc (.cells #[.int .i64 0, .slice none 0 0] 26)).alloc (.cells #[.string ⟨#[]⟩, .bool false, .slice none 0 0, .int .i64 0] 29) := ⟨_, rfl⟩
  have g1 : w.grownBy W1 none := by rw [hW1]; exact grown_trans (grown_trans (World.grownBy_alloc _ _ _) (World.grownBy_alloc _ _ _)) (World.grownBy_alloc _ _ _)
  have s1 : W1.heap.size = w.heap.size + 1 + 1 + 1 := by rw [hW1]; simp only [World.size_alloc]
  have B1 : Box 26 W1 w.heap.size (.int .i64 room) (.slice a KK.length cap) := by rw [hW1]; exact ((Box.new _ _ _ _).kept (World.grownBy_alloc _ _ none)).kept (World.grownBy_alloc _ _ none)
  have R1 : Box 26 W1 (w.heap.size + 1) (.int .i64 0) (.slice none 0 0) := by
    rw [hW1]
    have := (Box.new 26 (w.alloc (.cells #[.int .i64 room, .slice a KK.length cap] 26)) (.int .i64 0) (.slice none 0 0)).kept (World.grownBy_alloc _ (.cells #[.string ⟨#[]⟩, .bool false, .slice none 0 0, .int .i64 0] 29) none)
    rw [World.size_alloc] at this
    exact this
  have Q1 : Box4 29 W1 (w.heap.size + 1 + 1) (.string ⟨#[]⟩) (.bool false) (.slice none 0 0) (.int .i64 0) := by
    rw [hW1]
    have := Box4.new 29 ((w.alloc (.cells #[.int .i64 room, .slice a KK.length cap] 26)).alloc (.cells #[.int .i64 0, .slice none 0 0] 26)) (.string ⟨#[]⟩) (.bool false) (.slice none 0 0) (.int .i64 0)
    rw [World.size_alloc, World.size_alloc] at this
    exact this
  have CC := hide (l10Copy (.slice a KK.length cap) room KK W1 h1 h2 (hv.kept g1))
  have HG := hide g1
  have HB1 := hide B1
  have HR1 := hide R1
  have HQ1 := hide Q1
  have b0 := B1.c0
  have b1 := B1.c1
  rw [hW1] at b0 b1
  clear g1 B1 R1 Q1 hv
  go_enter Try.func14, Try.ntmps14
  go_upto_region 1 with fail
  rw [← hW1] at b0 b1 ⊢
  clear hW1
  go_wp2_with fail
  refine (unhide CC).mono ?_; rintro e w2 ⟨u2, rfl, o2, g2⟩
  obtain ⟨ua, uc, rfl⟩ := o2.len
  have B2 := (unhide HB1).kept g2
  have p0 := B2.c0
  have p1 := B2.c1
  have pf0 := B2.f 0
  have pf1 := B2.f 1
  obtain ⟨W3, hW3⟩ : ∃ W3, W3 = (w2.setCell ⟨w.heap.size, 0, none⟩ (.int .i64 room)).setCell ⟨w.heap.size, 1, none⟩ (.slice ua KK.length uc) := ⟨_, rfl⟩
  have B3 : Box 26 W3 w.heap.size (.int .i64 room) (.slice ua KK.length uc) := by rw [hW3]; exact (B2.set0 _).set1 _
  have R3 : Box 26 W3 (w.heap.size + 1) (.int .i64 0) (.slice none 0 0) := by rw [hW3]; exact (((unhide HR1).kept g2).setO (by omega)).setO (by omega)
  have Q3 : Box4 29 W3 (w.heap.size + 1 + 1) (.string ⟨#[]⟩) (.bool false) (.slice none 0 0) (.int .i64 0) := by rw [hW3]; exact (((unhide HQ1).kept g2).setO (by omega)).setO (by omega)
  have O3 : OwnK W1.heap.size w2.heap.size W3 (.slice ua KK.length uc) KK := by rw [hW3]; exact ownK_set (ownK_set o2 (by omega)) (by omega)
  have G3 : w.grownBy W3 none := by rw [hW3]; exact cf.grown_set (cf.grown_set (grown_trans (r := none) (unhide HG) g2) (Nat.le_refl _)) (Nat.le_refl _)
  have s3 : W3.heap.size = w2.heap.size := by rw [hW3, cf.size_set, cf.size_set]
  have z2 := g2.size
  have RK := O3.rwk
  have HG3 := hide G3
  have HR3 := hide R3
  have HQ3 := hide Q3
  have HB3 := hide B3
  have HRK := hide RK
  have CA := hide (l10At (.slice ua KK.length uc) room KK d W3 h1 O3.kns)
  clear CC b0 b1 o2 g2 B2 HB1 HR1 HQ1 HG R3 Q3 O3 G3 RK
  go_upto_region 2 with fail
  rw [← hW3]
  clear hW3 p0 p1 pf0 pf1
  have b0 := B3.c0
  have b1 := B3.c1
  clear B3
  go_wp2_with fail
  refine (unhide CA).mono ?_; rintro e w4 ⟨r, rfl, g4, hr⟩
  have CK := hide (specCacheOk (.slice ua KK.length uc) room KK w4 h1 ((unhide HRK).kept g4).vkns.kns)
  have HB4 := hide ((unhide HB3).kept g4)
  have G4 := hide g4
  clear b0 b1 CA g4
  have b0 := (unhide HB4).c0
  have b1 := (unhide HB4).c1
  go_wp2_with fail
  refine (unhide CK).mono ?_; rintro e w5 ⟨rfl, g5⟩
  have G5 := hide (grown_trans (r := none) (unhide G4) g5)
  have B5 := hide ((unhide HB3).kept (unhide G5))
  have R5 := hide ((unhide HR3).kept (unhide G5))
  have Q5 := hide ((unhide HQ3).kept (unhide G5))
  have K5 := hide ((unhide HRK).kept (unhide G5))
  have GW := hide (grown_trans (r := none) (unhide HG3) (unhide G5))
  have z5 := (unhide G5).size
  clear b0 b1 CK g5 G4 HB4 HB3 HR3 HQ3 HRK HG3
  have b0 := (unhide B5).c0
  have b1 := (unhide B5).c1
  have r0 := (unhide R5).c0
  have r1 := (unhide R5).c1
  have rf0 := (unhide R5).f 0
  have rf1 := (unhide R5).f 1
  have q0 := (unhide Q5).c0
  have q1 := (unhide Q5).c1
  have q2 := (unhide Q5).c2
  have q3 := (unhide Q5).c3
  have qf0 := (unhide Q5).f 0
  have qf1 := (unhide Q5).f 1
  have qf2 := (unhide Q5).f 2
  have qf3 := (unhide Q5).f 3
  cases hok : okC room KK
  · have hb : fndB room KK d = false := by unfold fndB; rw [hok]; rfl
    have HK : Hid (fndK room KK d = kz) := by show _ = _; unfold fndK; rw [hb]; rfl
    have HL : Hid (fndL room KK d = KK) := by show _ = _; unfold fndL; rw [hb]; rfl
    have HB := hide hb
    clear hr hb
    go_wp2_with fail
    (try simp only [Exit.inBlock, Exit.then])
    obtain ⟨RR, QQ, gO, sz⟩ := put6 (unhide R5) (unhide Q5) (.int .i64 room) (.slice ua KK.length uc) (.string ⟨#[]⟩) (.bool false) (.slice none 0 0) (.int .i64 0)
    refine bodyPost_ret (ret_find rfl rfl rfl RR QQ) rfl ⟨_, _, by rw [unhide HK, unhide HB]; rfl, by rw [unhide HK]; exact ⟨0, 0, own_none _ _ _⟩, ?_, grown_outs (unhide GW) gO (by omega)⟩
    rw [unhide HL]
    exact ((unhide K5).outs gO (by omega) (kinds2 (unhide R5) (unhide Q5))).vkns
  · rcases hr with ⟨rfl, hnew⟩ | ⟨j, rfl, hj, ej⟩
    · have hb : fndB room KK d = false := by unfold fndB; rw [hok, hnew]; rfl
      have HK : Hid (fndK room KK d = kz) := by show _ = _; unfold fndK; rw [hb]; rfl
      have HL : Hid (fndL room KK d = KK) := by show _ = _; unfold fndL; rw [hb]; rfl
      have HB := hide hb
      clear hnew hb
      go_wp2_with fail
      (try simp only [Exit.inBlock, Exit.then])
      obtain ⟨RR, QQ, gO, sz⟩ := put6 (unhide R5) (unhide Q5) (.int .i64 room) (.slice ua KK.length uc) (.string ⟨#[]⟩) (.bool false) (.slice none 0 0) (.int .i64 0)
      refine bodyPost_ret (ret_find rfl rfl rfl RR QQ) rfl ⟨_, _, by rw [unhide HK, unhide HB]; rfl, by rw [unhide HK]; exact ⟨0, 0, own_none _ _ _⟩, ?_, grown_outs (unhide GW) gO (by omega)⟩
      rw [unhide HL]
      exact ((unhide K5).outs gO (by omega) (kinds2 (unhide R5) (unhide Q5))).vkns
    · obtain ⟨hr0, hr1, hr2, hdist⟩ := okC_parts hok
      have hnw : newTo KK d KK.length = false := by
        cases q : newTo KK d KK.length
        · rfl
        · exact absurd ej ((newTo_iff KK d _).1 q j hj)
      have hb : fndB room KK d = true := by unfold fndB; rw [hok, hnw]; rfl
      have eK := ent_at hdist j hj ej
      have HK : Hid (fndK room KK d = KK.getD j kz) := by show _ = _; unfold fndK; rw [hb, ← eK]; rfl
      have HL : Hid (fndL room KK d = (KK.take j ++ KK.drop (j + 1)) ++ [KK.getD j kz]) := by show _ = _; unfold fndL; rw [hb, ← eK, erase_filter hdist j hj ej]; rfl
      have HB := hide hb
      have hL := h2 j
      have hll : Hid ((KK.take j ++ KK.drop (j + 1)).length + [KK.getD j kz].length ≤ 4194304) := by
        show _ ≤ _
        rw [List.length_append, List.length_take, List.length_drop, List.length_singleton]
        omega
      obtain ⟨a9, cap9, e9, hh⟩ := (unhide K5).vkns
      simp only [Value.slice.injEq] at e9
      obtain ⟨rfl, _, rfl⟩ := e9
      rcases hh with h | ⟨b, off, rfl, hbb, hcb⟩
      · rw [h] at hj
        simp at hj
      obtain ⟨y, hy, hvl⟩ := hcb j hj
      obtain ⟨c0, c1, c2, c3, _⟩ := hy
      generalize KK.getD j kz = x at *
      obtain ⟨dg, sat, vals, cost⟩ := x
      dsimp only at *
      obtain ⟨ya, yc, rfl, hzz⟩ := hvl.sl
      obtain ⟨W6, hW6⟩ : ∃ W6, W6 = w5.alloc (.cells #[.string dg, .bool sat, .slice ya vals.length yc, .int .i64 cost] 29) := ⟨_, rfl⟩
      have g6 : w5.grownBy W6 none := by rw [hW6]; exact World.grownBy_alloc _ _ _
      have s6 : W6.heap.size = w5.heap.size + 1 := by rw [hW6, World.size_alloc]
      have X6 : Box4 29 W6 w5.heap.size (.string dg) (.bool sat) (.slice ya vals.length yc) (.int .i64 cost) := by rw [hW6]; exact Box4.new _ _ _ _ _ _
      have B6 := (unhide B5).kept g6
      have HB6 := hide B6
      have HR6 := hide ((unhide R5).kept g6)
      have HQ6 := hide ((unhide Q5).kept g6)
      have HX6 := hide X6
      have HV6 := hide (hvl.kept g6)
      have HG6 := hide (grown_trans (r := none) (unhide GW) g6)
      have CO := hide (fun W (g : W6.grownBy W none) => l10Out (.slice (some ⟨b, off, none⟩) KK.length uc) KK j W _ h1 hj ((unhide K5).kept (grown_trans (r := none) g6 g)))
      have hi' : (j : Int) < (KK.length : Int) := by omega
      have hj0 : ¬ (j : Int) < 0 := by omega
      clear hr0 hr1 hr2 hdist hnw hb eK hzz hvl hcb g6 B5 R5 Q5 GW K5 r0 r1 rf0 rf1 q0 q1 q2 q3 qf0 qf1 qf2 qf3 B6 X6 ej hok h1 h2
      go_upto_region 6 with fail
      rw [← hW6]
      clear hW6 c0 c1 c2 c3 b0 b1
      have S6 := hide s6
      clear s6
      generalize hkb : w5.heap.size = kb at *
      have zkb := hide hkb
      clear hkb
      generalize hLL : KK.take j ++ KK.drop (j + 1) = LL at *
      clear hLL
      obtain ⟨X, hX⟩ : ∃ X : Obj, X = .cells #[.string dg, .bool sat, .slice ya vals.length yc, .int .i64 cost] 29 := ⟨_, rfl⟩
      have gA := World.grownBy_alloc W6 X none
      have gAd : W6.grownBy (W6.alloc X).drew none := grown_trans gA (cf.grown_drew _ none)
      have b1 := (unhide HB6).c1
      have b1a := ((unhide HB6).kept gA).c1
      have x0 := (unhide HX6).c0
      have x1 := (unhide HX6).c1
      have x2 := (unhide HX6).c2
      have x3 := (unhide HX6).c3
      have GD := hide (cf.grown_drew W6 none)
      have GA := hide gAd
      have LA : Hid (Lies (W6.alloc X).drew ⟨W6.heap.size, 0, none⟩ [⟨dg, sat, vals, cost⟩]) := by rw [hX]; exact (lies_one (unhide HV6)).kept (cf.grown_drew _ none)
      have after : Hid (∀ w7 u7 W, W6.grownBy W none → RwK W.heap.size w7 u7 LL → W.grownBy w7 none → W6.grownBy w7 none ∧ RwK W6.heap.size w7 u7 LL) := fun w7 u7 W h1 h2 h3 => ⟨grown_trans h1 h3, h2.sub h1.size⟩
      clear gA gAd
      subst hX
      have hkb2 : w.heap.size + 1 + 1 < kb := by have := unhide zkb; omega
      go_cut [34] (fun q wx => Hid (CutF w W6 wx room kb (.slice ya vals.length yc) ⟨dg, sat, vals, cost⟩ LL))
      case first =>
        go_region_law (first
          | (go_simp; go_at_call 35; first | (refine (unhide CO _ (unhide GD)).mono ?_; rintro e w7 ⟨u7, rfl, r7, g7⟩; obtain ⟨a7, c7, rfl⟩ := r7.len; have R7 := hide (unhide after _ _ _ (unhide GD) r7 g7); have x0 := ((unhide HX6).kept (unhide R7).1).c0; have x1 := ((unhide HX6).kept (unhide R7).1).c1; have x2 := ((unhide HX6).kept (unhide R7).1).c2; have x3 := ((unhide HX6).kept (unhide R7).1).c3; clear r7 g7) | (refine (unhide CO _ (unhide GA)).mono ?_; rintro e w7 ⟨u7, rfl, r7, g7⟩; obtain ⟨a7, c7, rfl⟩ := r7.len; have R7 := hide (unhide after _ _ _ (unhide GA) r7 g7); have L7 := hide ((unhide LA).kept g7); clear r7 g7))
          | (refine stepA (unhide R7).2 (unhide L7) (unhide R7).1.size (unhide hll) (by rfl) (.tmp 31) (.tmp 33) (by rfl) (by rfl) 1 rfl (by rfl) ?_; intro a8 n8 c8 w8 r8 g8; have R8 := hide (And.intro r8 (grown_row (unhide R7).1 (unhide R7).2 g8)); clear r8 g8; have B8 := hide ((unhide HB6).kept (unhide R8).2); have y1 := (unhide B8).c1; have yf := (unhide B8).f 1)
          | (refine stepA ((unhide R7).2.kept (World.grownBy_alloc w7 _ none)) (lies_one ((unhide HV6).kept (unhide R7).1)) (Nat.le_trans (unhide R7).1.size (World.grownBy_alloc w7 _ none).size) (unhide hll) (by rfl) (.tmp 31) (.tmp 33) (by rfl) (by rfl) 1 rfl (by rfl) ?_; intro a8 n8 c8 w8 r8 g8; have R8 := hide (And.intro r8 (grown_row (grown_trans (unhide R7).1 (World.grownBy_alloc w7 _ none)) ((unhide R7).2.kept (World.grownBy_alloc w7 _ none)) g8)); clear r8 g8; have B8 := hide ((unhide HB6).kept (unhide R8).2); have y1 := (unhide B8).c1; have yf := (unhide B8).f 1))
        all_goals
          go_wp2_with fail
          go_meet
          have hb8 := unhide B8
          refine ⟨a8, n8, c8, hb8.set1 _, ((unhide HR6).kept (unhide R8).2).setO (by omega), ((unhide HQ6).kept (unhide R8).2).setO (by omega), ((unhide HX6).kept (unhide R8).2).setO (by omega), ?_, ?_, ?_, ?_⟩
          · exact (unhide R8).1.by (sl.grown_setCell _ _ _ _) hb8 cache_ty.1 cache_ty.2
          · exact ((unhide HV6).kept (unhide R8).2).setBox hb8
          · exact cf.grown_set (grown_trans (r := none) (unhide HG6) (unhide R8).2) (Nat.le_refl _)
          · rw [cf.size_set]
            exact (unhide R8).2.size
      case rest =>
        obtain ⟨a8, n8, c8, B8, R8, Q8, X8, K8, V8, G8, z8⟩ := unhide hcut
        have gd := cf.grown_drew wc none
        have C8 := hide (l10CopyKnown (.slice ya vals.length yc) ⟨dg, sat, vals, cost⟩ wc.drew hL (V8.kept gd))
        dsimp only at C8
        have b0 := B8.c0
        have b1 := B8.c1
        have x0 := X8.c0
        have x1 := X8.c1
        have x2 := X8.c2
        have x3 := X8.c3
        have HR8 := hide (R8.kept gd)
        have HQ8 := hide (Q8.kept gd)
        have HB8 := hide (B8.kept gd)
        have HX8 := hide (X8.kept gd)
        have HK8 := hide (K8.kept gd)
        have HG8 := hide (grown_trans (r := none) G8 gd)
        have n1 : ¬ kb = w.heap.size + 1 := by omega
        have n2 : ¬ w.heap.size + 1 = kb := by omega
        have n3 : ¬ w.heap.size = w.heap.size + 1 := by omega
        have z6 := unhide S6
        have z7 := unhide zkb
        clear B8 R8 Q8 X8 K8 V8 G8 gd hcut HV6 HX6 HB6 HR6 HQ6 HG6 CO after LA GA GD x0 x1 x2 x3
        have x0 := (unhide HX8).c0
        have x1 := (unhide HX8).c1
        have x2 := (unhide HX8).c2
        have x3 := (unhide HX8).c3
        have b0 := (unhide HB8).c0
        have b1 := (unhide HB8).c1
        go_wp2_with fail
        go_region_with (first
          | (go_at_call 36; refine (unhide C8).mono ?_; rintro e w9 ⟨v9, rfl, o9, g9⟩; obtain ⟨va9, vc9, rfl, _⟩ := Sl.of_own o9; have R9 := hide ((unhide HR8).kept g9); have Q9 := hide ((unhide HQ8).kept g9); have B9 := hide ((unhide HB8).kept g9); have K9 := hide ((unhide HK8).kept g9); have G9 := hide (grown_trans (r := none) (unhide HG8) g9); have O9 : Hid (Vl w9 (.slice va9 vals.length vc9) vals) := ⟨_, _, Own.of o9⟩; have r0 := (unhide R9).c0; have r1 := (unhide R9).c1; have rf0 := (unhide R9).f 0; have rf1 := (unhide R9).f 1; have q0 := (unhide Q9).c0; have q1 := (unhide Q9).c1; have q2 := (unhide Q9).c2; have q3 := (unhide Q9).c3; have qf0 := (unhide Q9).f 0; have qf1 := (unhide Q9).f 1; have qf2 := (unhide Q9).f 2; have qf3 := (unhide Q9).f 3; have d0 := (unhide B9).c0; have d1 := (unhide B9).c1; clear g9 o9))
        all_goals
          go_wp2_with fail
          (try simp only [Exit.inBlock, Exit.then])
          obtain ⟨RR, QQ, gO, sz⟩ := put6 (unhide R9) (unhide Q9) (.int .i64 room) (.slice a8 n8 c8) (.string dg) (.bool sat) (.slice va9 vals.length vc9) (.int .i64 cost)
          refine bodyPost_ret (ret_find rfl rfl rfl RR QQ) rfl ⟨_, _, by rw [unhide HK, unhide HB]; rfl, ?_, ?_, grown_outs (unhide G9) gO (by omega)⟩
          · rw [unhide HK]
            exact (unhide O9).outs gO (kinds2 (unhide R9) (unhide Q9))
          · rw [unhide HL]
            exact ((unhide K9).outs gO (by omega) (kinds2 (unhide R9) (unhide Q9))).vkns
end Go.Proofs.Ytgjakiliepfjiaa.ua
