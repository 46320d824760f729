/- What the model's CachePut does; no condition but on sizes. -/
import Derived.Test.YtgjakiliepfjiaaUx
import Derived.Test.YtgjakiliepfjiaaUr
namespace Go.Proofs.Ytgjakiliepfjiaa.ua
open Go.ChangeShapes Go.WideShapes Go.ChangeAt Go.RowKit
open Go.Proofs.Ytgjakiliepfjiaa.sl (Sl Own ints marks hide unhide ret_int ret_bool grown_refl grown_trans grown_drewN below_of of_below)
open Go.Proofs.Ytgjakiliepfjiaa.css (Outs outs_trans outs_none outs_by outs_refl own_mono own_sub own_outs own_kind)
open Go.Proofs.Ytgjakiliepfjiaa.yb (Box4)
open Go.Proofs.Ytgjakiliepfjiaa.cf (Box)
set_option linter.unusedVariables false
/-- the cache in the making: its variable, the entry that is put, the answer -/
def MidP (w wx : World) (room : Int) (q : Value) (k : Kn) (LL : List Kn) : Prop :=
  ∃ a n c, n = LL.length ∧ Box 26 wx w.heap.size (.int .i64 room) (.slice a n c) ∧ Box4 29 wx (w.heap.size + 1) (.string k.dg) (.bool k.sat) q (.int .i64 k.cost) ∧ Box 26 wx (w.heap.size + 1 + 1) (.int .i64 0) (.slice none 0 0) ∧ RwK (w.heap.size + 1 + 1 + 1) wx (.slice a n c) LL ∧ Vl wx q k.vals ∧ w.grownBy wx none
theorem MidP.kept {w wx wy : World} {room : Int} {q : Value} {k : Kn} {LL : List Kn} (h : MidP w wx room q k LL) (g : wx.grownBy wy none) : MidP w wy room q k LL := by
  obtain ⟨a, n, c, hn, b, x, r, e, v, h⟩ := h
  exact ⟨a, n, c, hn, b.kept g, x.kept g, r.kept g, e.kept g, v.kept g, grown_trans h g⟩
/-- entries are stored -/
theorem MidP.set {w wx wy : World} {room : Int} {q : Value} {k : Kn} {LL MM : List Kn} {a : Option Addr} {n c lo : Nat} (h : MidP w wx room q k LL) (g : wx.grownBy wy none) (e : RwK lo wy (.slice a n c) MM) (hlo : w.heap.size + 1 + 1 + 1 ≤ lo) : MidP w (wy.setCell ⟨w.heap.size, 1, none⟩ (.slice a n c)) room q k MM := by
  obtain ⟨a0, n0, c0, hn, b, x, r, e0, v, hg⟩ := h.kept g
  obtain ⟨a', c', q'⟩ := e.len
  simp only [Value.slice.injEq] at q'
  exact ⟨a, n, c, q'.2.1, b.set1 _, x.setO (by omega), r.setO (by omega), (e.sub hlo).by (sl.grown_setCell _ _ _ _) b cache_ty.1 cache_ty.2, v.setBox b, cf.grown_set hg (Nat.le_refl _)⟩
/-- .. entries that grew -/
theorem MidP.app {w wx wy : World} {room : Int} {q : Value} {k : Kn} {LL MM : List Kn} {a a' : Option Addr} {n c n' c' : Nat} (h : MidP w wx room q k LL) (e : RwK (w.heap.size + 1 + 1 + 1) wx (.slice a n c) LL) (g : wx.grownBy wy (Value.slice a n c).ownBlock) (e' : RwK (w.heap.size + 1 + 1 + 1) wy (.slice a' n' c') MM) :
    (∃ x, Box 26 wy w.heap.size (.int .i64 room) x) ∧ MidP w (wy.setCell ⟨w.heap.size, 1, none⟩ (.slice a' n' c')) room q k MM := by
  obtain ⟨a0, n0, c0, hn, b, x, r, _, v, hg⟩ := h
  have lo := e.lo
  have ne : ∀ i, i < w.heap.size + 1 + 1 + 1 → (Value.slice a n c).ownBlock ≠ some i := fun i hi q => by have := (lo i q).1; omega
  have b' := b.by g (ne _ (by omega))
  have x' := x.by g (ne _ (by omega))
  have r' := r.by g (ne _ (by omega))
  have v' : Vl wy q k.vals := by
    obtain ⟨D, _, hw, _⟩ := e
    obtain ⟨l, hi, hq⟩ := v
    exact ⟨l, hi, hq.1.kept g (own_ne' hw hq.1), hq.2⟩
  have g' : w.grownBy wy none := ⟨g.os.trans hg.os, g.tape.trans hg.tape, g.output.trans hg.output, Nat.le_trans hg.size g.size, fun i hi _ => by
    rw [g.block i (Nat.lt_of_lt_of_le hi hg.size) (fun e => ne i (by omega) e.symm)]
    exact hg.block i hi (fun e => by cases e)⟩
  obtain ⟨p1, p2, p3⟩ := e'.len
  simp only [Value.slice.injEq] at p3
  exact ⟨⟨_, b'⟩, a', n', c', p3.2.1, b'.set1 _, x'.setO (by omega), r'.setO (by omega), e'.by (sl.grown_setCell _ _ _ _) b' cache_ty.1 cache_ty.2, v'.setBox b', cf.grown_set g' (Nat.le_refl _)⟩
/-- what the model's CachePut answers -/
def PutS (w : World) (room : Int) (KK : List Kn) (e : Ending) (w' : World) : Prop := ∃ u lo, e = .returned (.agg #[.int .i64 room, u]) ∧ RwK lo w' u KK ∧ w.grownBy w' none
theorem costB_in (c : Int) : inB c 0 1000000 = costB c := rfl
set_option maxRecDepth 10000 in
set_option maxHeartbeats 4000000 in
theorem specCachePut (v u : Value) (room : Int) (KK : List Kn) (k : Kn) (w : World) (hn : tot KK ≤ 1048576) (hL : k.vals.length ≤ 1048576) (hv : VKns w v KK) (hu : Vl w u k.vals) :
    Calls Try.prog 9 #[.agg #[.int .i64 room, v], .agg #[.string k.dg, .bool k.sat, u, .int .i64 k.cost]] w fun e w' => PutS w room (putK room KK k) e w' := by
  have h1 := Nat.le_trans (tot_len KK) hn
  have h2 := fun i => Nat.le_trans (tot_vals KK i) hn
  obtain ⟨a, cap, rfl⟩ := hv.len
  obtain ⟨ua, uc, rfl, hx⟩ := hu.sl
  clear hx
  obtain ⟨W1, hW1⟩ : ∃ W1, W1 = ((w.alloc (.cells #[.int .i64 room, .slice a KK.length cap] 26)).alloc (.cells #[.string k.dg, .bool k.sat, .slice ua k.vals.length uc, .int .i64 k.cost] 29)).alloc (.cells #[.int .i64 0, .slice none 0 0] 26) := ⟨_, rfl⟩
  have g1 : w.grownBy W1 none := by rw [hW1]; exact grown_trans (grown_trans (World.grownBy_alloc _ _ _) (World.grownBy_alloc _ _ _)) (World.grownBy_alloc _ _ _)
  have s1 : W1.heap.size = w.heap.size + 1 + 1 + 1 := by rw [hW1]; simp only [World.size_alloc]
  have B1 : Box 26 W1 w.heap.size (.int .i64 room) (.slice a KK.length cap) := by rw [hW1]; exact ((Box.new _ _ _ _).kept (World.grownBy_alloc _ _ none)).kept (World.grownBy_alloc _ _ none)
  have Q1 : Box4 29 W1 (w.heap.size + 1) (.string k.dg) (.bool k.sat) (.slice ua k.vals.length uc) (.int .i64 k.cost) := by
    rw [hW1]
    have := (Box4.new 29 (w.alloc (.cells #[.int .i64 room, .slice a KK.length cap] 26)) (.string k.dg) (.bool k.sat) (.slice ua k.vals.length uc) (.int .i64 k.cost)).kept (World.grownBy_alloc _ (.cells #[.int .i64 0, .slice none 0 0] 26) none)
    rw [World.size_alloc] at this
    exact this
  have R1 : Box 26 W1 (w.heap.size + 1 + 1) (.int .i64 0) (.slice none 0 0) := by
    rw [hW1]
    have := Box.new 26 ((w.alloc (.cells #[.int .i64 room, .slice a KK.length cap] 26)).alloc (.cells #[.string k.dg, .bool k.sat, .slice ua k.vals.length uc, .int .i64 k.cost] 29)) (.int .i64 0) (.slice none 0 0)
    rw [World.size_alloc, World.size_alloc] at this
    exact this
  have CC := hide (l10Copy (.slice a KK.length cap) room KK W1 h1 h2 (hv.kept g1))
  have HU := hide (hu.kept g1)
  have HG := hide g1
  have HB1 := hide B1
  have HR1 := hide R1
  have HQ1 := hide Q1
  have b0 := B1.c0
  have b1 := B1.c1
  rw [hW1] at b0 b1
  clear g1 B1 R1 Q1 hv hu
  go_enter Try.func9, Try.ntmps9
  go_upto_region 1 with fail
  rw [← hW1] at b0 b1 ⊢
  clear hW1
  go_wp2_with fail
  refine (unhide CC).mono ?_; rintro e w2 ⟨u2, rfl, o2, g2⟩
  obtain ⟨ea, ec, rfl⟩ := o2.len
  have B2 := (unhide HB1).kept g2
  have p0 := B2.c0
  have p1 := B2.c1
  have pf0 := B2.f 0
  have pf1 := B2.f 1
  obtain ⟨W3, hW3⟩ : ∃ W3, W3 = (w2.setCell ⟨w.heap.size, 0, none⟩ (.int .i64 room)).setCell ⟨w.heap.size, 1, none⟩ (.slice ea KK.length ec) := ⟨_, rfl⟩
  have M3 : MidP w W3 room (.slice ua k.vals.length uc) k KK := by
    rw [hW3]
    have b' := B2.set0 (.int .i64 room)
    refine ⟨ea, _, ec, rfl, b'.set1 _, (((unhide HQ1).kept g2).setO (by omega)).setO (by omega), (((unhide HR1).kept g2).setO (by omega)).setO (by omega), ?_, (((unhide HU).kept g2).setBox B2).setBox b', cf.grown_set (cf.grown_set (grown_trans (r := none) (unhide HG) g2) (Nat.le_refl _)) (Nat.le_refl _)⟩
    exact (((o2.rwk).by (sl.grown_setCell _ _ _ _) B2 cache_ty.1 cache_ty.2).by (sl.grown_setCell _ _ _ _) b' cache_ty.1 cache_ty.2).sub (by omega)
  have HM := hide M3
  clear CC b0 b1 o2 g2 B2 HB1 HR1 HQ1 HG HU M3
  go_upto_region 2 with fail
  rw [← hW3]
  clear hW3 p0 p1 pf0 pf1 s1
  obtain ⟨a3, n3, c3, e3, B3, X3, R3, K3, V3, G3⟩ := unhide HM
  subst e3
  have CK := hide (specCacheOk (.slice a3 KK.length c3) room KK W3 h1 K3.vkns.kns)
  have CI := hide (fun w => l01In k.cost 0 1000000 w)
  rw [costB_in] at CI
  have b0 := B3.c0
  have b1 := B3.c1
  clear B3 X3 R3 K3 V3 G3
  go_wp2_with fail
  refine (unhide CK).mono ?_; rintro e w4 ⟨rfl, g4⟩
  have HM4 := hide ((unhide HM).kept g4)
  clear CK HM g4 b0 b1
  obtain ⟨a4, n4, c4, e4, B4, X4, R4, K4, V4, G4⟩ := unhide HM4
  subst e4
  have b0 := B4.c0
  have b1 := B4.c1
  have x0 := X4.c0
  have x1 := X4.c1
  have x2 := X4.c2
  have x3 := X4.c3
  have r0 := R4.c0
  have r1 := R4.c1
  have rf0 := R4.f 0
  have rf1 := R4.f 1
  by_cases hp : putOk room KK k = true
  · have HL : Hid (putK room KK k = putL room KK k) := if_pos hp
    have hok : okC room KK = true := by unfold putOk at hp; rw [Bool.and_eq_true] at hp; exact hp.1
    have hcb : costB k.cost = true := by unfold putOk at hp; rw [Bool.and_eq_true] at hp; exact hp.2
    obtain ⟨hr0, hr1, hr2, hdist⟩ := okC_parts hok
    rw [hcb] at CI
    have CA := hide (l10At (.slice a4 KK.length c4) room KK k.dg w4 h1 K4.vkns.kns)
    have HD := hide hdist
    have HR2 := hide hr2
    clear hp B4 X4 R4 K4 V4 G4 hcb h2 hr0 hr1 hr2 hdist
    go_wp2_with fail
    refine (unhide CI _).mono ?_; rintro e w' ⟨rfl, hw⟩; have hw' := hw.symm; clear hw; subst hw'
    go_wp2_with fail
    refine (unhide CA).mono ?_; rintro e w5 ⟨r, rfl, g5, hr⟩
    have HM5 := hide ((unhide HM4).kept g5)
    clear CA CI HM4 g5 b0 b1 x0 x1 x2 x3 r0 r1 rf0 rf1
    rcases hr with ⟨rfl, hnew⟩ | ⟨j, rfl, hj, ej⟩
    case' inl =>
      have HM7 : Hid (MidP w w5 room (.slice ua k.vals.length uc) k (rest KK k.dg)) := by
        rw [rest_new ((newTo_iff KK k.dg _).1 hnew)]
        exact HM5
      clear hnew HM5
      go_upto_region 7 with fail
      obtain ⟨W7, hW7⟩ : ∃ W7, W7 = w5 := ⟨_, rfl⟩
      rw [← hW7] at HM7 ⊢
      clear hW7
    case' inr =>
      have HE := hide (erase_filter (unhide HD) j hj ej)
      obtain ⟨a5, n5, c5, e5, B5, X5, R5, K5, V5, G5⟩ := unhide HM5
      subst e5
      have C5 := hide (l10Out (.slice a5 KK.length c5) KK j w5 _ h1 hj K5)
      have b1 := B5.c1
      have hj0 : ¬ (j : Int) < 0 := by omega
      have hj1 : (0 : Int) ≤ (j : Int) := by omega
      have z5 := R5.lt
      clear B5 X5 R5 K5 V5 G5 ej
      go_wp2_with fail
      refine (unhide C5).mono ?_; rintro e w6 ⟨u6, rfl, r6, g6⟩
      obtain ⟨a6, c6, hr6⟩ := r6.len
      generalize (KK.take j ++ KK.drop (j + 1)).length = n6 at hr6
      subst hr6
      obtain ⟨a7, n7, c7, e7, B7, _⟩ := (unhide HM5).kept g6
      have y1 := B7.c1
      have yf := B7.f 1
      obtain ⟨W7, hW7⟩ : ∃ W7, W7 = w6.setCell ⟨w.heap.size, 1, none⟩ (.slice a6 n6 c6) := ⟨_, rfl⟩
      have HM7 : Hid (MidP w W7 room (.slice ua k.vals.length uc) k (rest KK k.dg)) := by
        rw [hW7, unhide HE]
        exact (unhide HM5).set g6 r6 (by omega)
      clear B7 r6 g6 C5 b1 HM5
      go_upto_region 7 with fail
      rw [← hW7]
      clear hW7 y1 yf
    all_goals
      have hrl := rest_le KK k.dg
      have HLN : Hid ((rest KK k.dg).length + [k].length ≤ 4194304) := by show _ + 1 ≤ _; omega
      generalize hRR : rest KK k.dg = LL at *
      have HRR := hide hRR
      clear hRR hrl
      obtain ⟨a7, n7, c7, e7, B7, X7, R7, K7, V7, G7⟩ := unhide HM7
      clear e7
      have gd := cf.grown_drew W7 none
      have C7 := hide (l10CopyKnown (.slice ua k.vals.length uc) k W7.drew hL (V7.kept gd))
      have MD := hide ((unhide HM7).kept gd)
      have KD := hide (K7.kept gd)
      have b1 := B7.c1
      have x0 := X7.c0
      have x1 := X7.c1
      have x2 := X7.c2
      have x3 := X7.c3
      have bd1 := (B7.kept gd).c1
      have z7 := R7.lt
      clear B7 X7 R7 K7 V7 G7 gd
      go_cut [34] (fun q wx => Hid (MidP w wx room (.slice ua k.vals.length uc) k (LL ++ [k])))
      case first =>
        have AP : Hid (∀ w8 v8, W7.drew.grownBy w8 none → Vl w8 v8 k.vals → RwK (w.heap.size + 1 + 1 + 1) (w8.alloc (.cells #[.string k.dg, .bool k.sat, v8, .int .i64 k.cost] 29)) (.slice a7 n7 c7) LL ∧ Lies (w8.alloc (.cells #[.string k.dg, .bool k.sat, v8, .int .i64 k.cost] 29)) ⟨w8.heap.size, 0, none⟩ [k] ∧ w.heap.size + 1 + 1 + 1 ≤ (w8.alloc (.cells #[.string k.dg, .bool k.sat, v8, .int .i64 k.cost] 29)).heap.size ∧ MidP w (w8.alloc (.cells #[.string k.dg, .bool k.sat, v8, .int .i64 k.cost] 29)) room (.slice ua k.vals.length uc) k LL) := by
          intro w8 v8 g8 h8
          have ga := World.grownBy_alloc w8 (.cells #[.string k.dg, .bool k.sat, v8, .int .i64 k.cost] 29) none
          have q1 := g8.size
          have q2 := ga.size
          have q3 : W7.drew.heap.size = W7.heap.size := rfl
          exact ⟨((unhide KD).kept g8).kept ga, lies_one h8, by omega, ((unhide MD).kept g8).kept ga⟩
        go_region_law (first
          | (go_simp; go_at_call 36; refine (unhide C7).mono ?_; rintro e w8 ⟨v8, rfl, o8, g8⟩; obtain ⟨va8, vc8, rfl, _⟩ := Sl.of_own o8; have P8 := hide (unhide AP w8 (.slice va8 k.vals.length vc8) g8 ⟨_, _, Own.of o8⟩); have y1 := g8.cell bd1 (fun e => by cases e); have y2 := (World.grownBy_alloc w8 (.cells #[.string k.dg, .bool k.sat, .slice va8 k.vals.length vc8, .int .i64 k.cost] 29) none).cell y1 (fun e => by cases e); clear o8 g8)
          | (refine stepA (unhide P8).1 (unhide P8).2.1 (unhide P8).2.2.1 (unhide HLN) (by rfl) (.tmp 30) (.tmp 33) (by rfl) (by rfl) 1 rfl (by rfl) ?_; intro a9 n9 c9 w9 r9 g9; have R9 := hide (MidP.app (unhide P8).2.2.2 (unhide P8).1 g9 r9); obtain ⟨x9, B9⟩ := (unhide R9).1; have q1 := B9.c1; have qf := B9.f 1; clear r9 g9 B9))
        all_goals
          go_wp2_with fail
          go_meet
          exact (unhide R9).2
      case rest =>
        clear C7 MD KD b1 x0 x1 x2 x3 bd1 HM7 HLN
        by_cases hr : room < (LL.length : Int) + 1
        · obtain ⟨hnew, hrest, hroom⟩ := full_new (unhide HD) k (unhide HR2) (by rw [unhide HRR]; exact hr)
          have HPL : Hid (putL room KK k = (LL ++ [k]).drop 1) := by show _ = _; unfold putL; rw [unhide HRR, if_pos hr]
          have hLLn : Hid (((LL ++ [k]).drop 1).length = KK.length) := by show _ = _; rw [List.length_drop, List.length_append, List.length_singleton, Nat.add_sub_cancel, ← unhide HRR, hrest]
          have hLL1 : Hid ((LL ++ [k]).length = KK.length + 1) := by show _ = _; rw [List.length_append, List.length_singleton, ← unhide HRR, hrest]
          obtain ⟨a8, n8, c8, e8, B8, X8, R8, K8, V8, G8⟩ := unhide hcut
          obtain ⟨g, c8', q8, hcc, hgg⟩ := K8.form (by rw [unhide hLL1]; omega)
          simp only [Value.slice.injEq] at q8
          obtain ⟨rfl, q9, rfl⟩ := q8
          have hn8 : n8 = KK.length + 1 := by rw [e8]; exact unhide hLL1
          have P1 := (K8.parts (by rw [e8]) 1 (by rw [unhide hLL1]; omega)).2
          obtain ⟨ad, hif, L1⟩ : ∃ ad : Addr, (if c8 = 1 then (some ⟨g, 0, none⟩ : Option Addr) else some ⟨g, 4, none⟩) = some ad ∧ Lies wc ad ((LL ++ [k]).drop 1) := by
            by_cases h : c8 = 1
            · refine ⟨⟨g, 0, none⟩, if_pos h, ?_⟩
              rw [List.drop_eq_nil_of_le (by omega)]
              exact Lies.nil _ _
            · exact ⟨⟨g, 4, none⟩, if_neg h, P1⟩
          have gA := World.grownBy_alloc wc (.cells #[] 29) none
          have N1 := hide (made_nilK wc)
          have GA := hide gA
          have LA := hide (L1.kept gA)
          have hlo := gA.size
          have b0 := B8.c0
          have b1 := B8.c1
          have b1a := (B8.kept gA).c1
          have z8 := R8.lt
          have hq1 : room < (n8 : Int) := by omega
          have hq2 : (1 : Int) ≤ (n8 : Int) := by omega
          have hq3 : (n8 : Int) ≤ (c8 : Int) := by omega
          have hnm : Hid (((LL ++ [k]).drop 1).length = n8 - 1) := by show _ = _; rw [unhide hLLn]; omega
          have hsm : Hid (([] : List Kn).length + ((LL ++ [k]).drop 1).length ≤ 4194304) := by show 0 + _ ≤ _; rw [unhide hLLn]; omega
          have hMn := unhide hLLn
          generalize hMM : (LL ++ [k]).drop 1 = MM at *
          clear hMM
          have HMn := hide hMn
          clear hMn
          have HE8 := hide hn8
          have HRO := hide hroom
          clear B8 X8 R8 K8 V8 G8 e8 q9 hcc hgg P1 L1 gA hn8 hroom hr hnew hrest
          go_wp2_with fail
          refine wp_loop_rounds 2 ?_
          rw [rounds_succ]
          go_wp2_with (at_builtin; refine listA (A := []) (unhide N1) (unhide LA) hlo (unhide hsm) (by rfl) (.tmp 42) (.tmp 45) (by rfl) (by rfl) (n8 - 1) (unhide hnm) (by rfl) ?_)
          intro a10 n10 c10 w10 r10 g10
          have G10 := grown_row (unhide GA) (unhide N1) g10
          obtain ⟨ax, nx, cx, ex, Bx, _⟩ := (unhide hcut).kept G10
          have y1 := Bx.c1
          have yf := Bx.f 1
          obtain ⟨W11, hW11⟩ : ∃ W11, W11 = w10.setCell ⟨w.heap.size, 1, none⟩ (.slice a10 n10 c10) := ⟨_, rfl⟩
          have HMX : Hid (MidP w W11 room (.slice ua k.vals.length uc) k MM) := by rw [hW11]; exact (unhide hcut).set (lo := wc.heap.size) G10 r10 (by omega)
          clear Bx r10 g10 G10 b0 b1 b1a N1 GA LA hif
          obtain ⟨a9, n9, c9, e9, B9, X9, R9, K9, V9, G9⟩ := unhide HMX
          have b0 := B9.c0
          have b1 := B9.c1
          have r0 := R9.c0
          have r1 := R9.c1
          have rf0 := R9.f 0
          have rf1 := R9.f 1
          have RB := hide ((R9.set0 (.int .i64 room)).set1 (.slice a9 n9 c9))
          have FN : Hid (PutS w room MM (.returned (.agg #[.int .i64 room, .slice a9 n9 c9])) ((W11.setCell ⟨w.heap.size + 1 + 1, 0, none⟩ (.int .i64 room)).setCell ⟨w.heap.size + 1 + 1, 1, none⟩ (.slice a9 n9 c9))) := ⟨_, _, rfl, ((K9.by (sl.grown_setCell _ _ _ _) R9 cache_ty.1 cache_ty.2).by (sl.grown_setCell _ _ _ _) (R9.set0 _) cache_ty.1 cache_ty.2), cf.grown_set (cf.grown_set G9 (by omega)) (by omega)⟩
          have hq9 : ¬ room < (n9 : Int) := by rw [e9, unhide HMn, unhide HRO]; omega
          clear B9 X9 R9 K9 V9 G9 e9 hq1
          go_upto_region 8 with fail
          rw [← hW11]
          clear hW11 y1 yf
          rw [rounds_succ]
          go_wp2_with fail
          (try simp only [Exit.inBlock, Exit.then])
          refine bodyPost_ret (ret_cache rfl rfl (unhide RB)) rfl ?_
          rw [unhide HL, unhide HPL]
          exact unhide FN
        · have HPL : Hid (putL room KK k = LL ++ [k]) := by show _ = _; unfold putL; rw [unhide HRR, if_neg hr]
          have HMX := hide (unhide hcut)
          obtain ⟨a9, n9, c9, e9, B9, X9, R9, K9, V9, G9⟩ := unhide HMX
          have b0 := B9.c0
          have b1 := B9.c1
          have r0 := R9.c0
          have r1 := R9.c1
          have rf0 := R9.f 0
          have rf1 := R9.f 1
          have RB := hide ((R9.set0 (.int .i64 room)).set1 (.slice a9 n9 c9))
          have FN : Hid (PutS w room (LL ++ [k]) (.returned (.agg #[.int .i64 room, .slice a9 n9 c9])) ((wc.setCell ⟨w.heap.size + 1 + 1, 0, none⟩ (.int .i64 room)).setCell ⟨w.heap.size + 1 + 1, 1, none⟩ (.slice a9 n9 c9))) := ⟨_, _, rfl, ((K9.by (sl.grown_setCell _ _ _ _) R9 cache_ty.1 cache_ty.2).by (sl.grown_setCell _ _ _ _) (R9.set0 _) cache_ty.1 cache_ty.2), cf.grown_set (cf.grown_set G9 (by omega)) (by omega)⟩
          have hq : ¬ room < (n9 : Int) := by rw [e9, List.length_append, List.length_singleton]; omega
          clear B9 X9 R9 K9 V9 G9 e9 hr
          go_wp2_with fail
          refine wp_loop_rounds 1 ?_
          rw [rounds_succ]
          go_wp2_with fail
          (try simp only [Exit.inBlock, Exit.then])
          refine bodyPost_ret (ret_cache rfl rfl (unhide RB)) rfl ?_
          rw [unhide HL, unhide HPL]
          exact unhide FN
  · have HL : Hid (putK room KK k = KK) := if_neg hp
    have fin : Hid (PutS w room KK (.returned (.agg #[.int .i64 room, .slice a4 KK.length c4])) ((w4.setCell ⟨w.heap.size + 1 + 1, 0, none⟩ (.int .i64 room)).setCell ⟨w.heap.size + 1 + 1, 1, none⟩ (.slice a4 KK.length c4))) := ⟨_, _, rfl, ((K4.by (sl.grown_setCell _ _ _ _) R4 cache_ty.1 cache_ty.2).by (sl.grown_setCell _ _ _ _) (R4.set0 _) cache_ty.1 cache_ty.2), cf.grown_set (cf.grown_set G4 (by omega)) (by omega)⟩
    have RB := hide ((R4.set0 (.int .i64 room)).set1 (.slice a4 KK.length c4))
    clear B4 X4 R4 K4 V4 G4 h1 h2 HM4
    cases hok : okC room KK
    · clear hp
      go_wp2_with fail
      (try simp only [Exit.inBlock, Exit.then])
      refine bodyPost_ret (ret_cache rfl rfl (unhide RB)) rfl ?_
      rw [unhide HL]
      exact unhide fin
    · have hcb : costB k.cost = false := by
        cases q : costB k.cost
        · rfl
        · exact absurd (show putOk room KK k = true by unfold putOk; rw [hok, q]; rfl) hp
      rw [hcb] at CI
      clear hp hcb
      go_wp2_with fail
      refine (unhide CI _).mono ?_; rintro e w' ⟨rfl, hw⟩; have hw' := hw.symm; clear hw; subst hw'
      go_wp2_with fail
      (try simp only [Exit.inBlock, Exit.then])
      refine bodyPost_ret (ret_cache rfl rfl (unhide RB)) rfl ?_
      rw [unhide HL]
      exact unhide fin
end Go.Proofs.Ytgjakiliepfjiaa.ua
