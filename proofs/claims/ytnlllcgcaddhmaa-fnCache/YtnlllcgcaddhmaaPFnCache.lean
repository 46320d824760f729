/- At every text of bytes the law FnCache returns true: what was put last in a cache is found there, with its cost, and there are never more entries than there is room for; no condition. -/
import Derived.Test.YtnlllcgcaddhmaaRows
import Derived.Test.YtnlllcgcaddhmaaJDd
import Derived.Test.YtnlllcgcaddhmaaJUp
import Derived.Test.YtnlllcgcaddhmaaJUe
import Derived.WalkKit
import Derived.ProofKit
import Derived.OpenShut
import Derived.ShutString
import Derived.ChangeOld
import Derived.Below
namespace Go.Proofs.Ytnlllcgcaddhmaa.fnCache
open Go.ChangeShapes Go.WideShapes Go.ChangeAt Go.RowKit
open Go.ChangeMaps (open_string shut_string)
set_option linter.unusedVariables false

theorem own : ownKnob Try.prog.godebug = none := by kernel_rfl
theorem laidOut : laidOutB Try.prog = true := by kernel_rfl

/-- what the walk is told of a slice of integers that came in -/
def IsRow (k : IntKind) (w : World) (a : Option Addr) (len cap : Nat) (zs : List Int) : Prop :=
  (a = none ∧ len = 0 ∧ cap = 0 ∧ zs = []) ∨
  ∃ x, a = some x ∧ len ≤ cap ∧ cap ≤ maxLen ∧ zs.length = cap ∧ (∀ i, i < zs.length → w.cell? (x.add i) = some (.int k (zs.getD i 0))) ∧ ∀ n ∈ zs, (Lit.int k n).wf = true

/-! ### the walk -/
set_option maxRecDepth 100000 in
set_option maxHeartbeats 8000000 in
theorem walk (a0 : Option Addr) (len0 cap0 : Nat) (z0 : List Int) (w : World) (w0 : IsRow .u8 w a0 len0 cap0 z0) :
    Calls Try.prog 3 #[.slice a0 len0 cap0] w fun e w' => e = .returned (.bool true) ∧ Below w.heap.size w w' := by
  have hB := draw.of_rowB w0
  have hm : len0 ≤ 9223372036854775807 := by
    rcases w0 with ⟨_, h, _, _⟩ | ⟨_, _, h1, h2, _⟩
    · omega
    · unfold maxLen at h2
      omega
  clear w0
  by_cases hbig : 1048576 < len0
  · have C := sl.hide (draw.big a0 len0 cap0 w hm)
    rw [decide_eq_true hbig] at C
    go_enter Try.func3, Try.ntmps3
    go_wp2_with fail
    refine (sl.unhide C).mono ?_; rintro e w' ⟨rfl, rfl⟩
    go_wp2_with fail
    go_ret
    exact ⟨rfl, Below.refl _ _⟩
  have C := sl.hide (draw.big a0 len0 cap0 w hm)
  rw [decide_eq_false hbig] at C
  have HB := sl.hide hB
  have hlen : len0 ≤ 1048576 := by omega
  clear hB hbig
  go_enter Try.func3, Try.ntmps3
  go_wp2_with fail
  refine (sl.unhide C).mono ?_; rintro e w' ⟨rfl, hw⟩; have hw' := hw.symm; clear hw; subst hw'
  clear C hm
  go_wp2_with fail
  refine (dk.drawPut a0 len0 cap0 _ hlen (sl.unhide HB)).mono ?_; rintro e w1 ⟨room, KK, u, lo, K, v, rfl, hd, hl, hv, hk, hvl, g1⟩
  obtain ⟨ca, cc, rfl⟩ := hv.len
  obtain ⟨ka, kc, rfl, hxk⟩ := hvl.sl
  obtain ⟨W1, hW1⟩ : ∃ W1, W1 = (w1.alloc (.cells #[.int .i64 room, .slice ca KK.length cc] 26)).alloc (.cells #[.string K.dg, .bool K.sat, .slice ka K.vals.length kc, .int .i64 K.cost] 29) := ⟨_, rfl⟩
  have gA : w1.grownBy W1 none := by rw [hW1]; exact sl.grown_trans (World.grownBy_alloc _ _ _) (World.grownBy_alloc _ _ _)
  have F1 : Hid (cf.Box 26 W1 w1.heap.size (.int .i64 room) (.slice ca KK.length cc)) := by rw [hW1]; exact (cf.Box.new _ _ _ _).kept (World.grownBy_alloc _ _ none)
  have K1 : Hid (yb.Box4 29 W1 (w1.heap.size + 1) (.string K.dg) (.bool K.sat) (.slice ka K.vals.length kc) (.int .i64 K.cost)) := by
    rw [hW1]
    have q := yb.Box4.new 29 (w1.alloc (.cells #[.int .i64 room, .slice ca KK.length cc] 26)) (.string K.dg) (.bool K.sat) (.slice ka K.vals.length kc) (.int .i64 K.cost)
    rw [World.size_alloc] at q
    exact q
  have V1 := sl.hide (hv.vkns.kept gA)
  have U1 := sl.hide (hvl.kept gA)
  have G1 := sl.hide (sl.grown_trans (r := none) g1 gA)
  have TD := sl.hide (cmb.told (room := room) (k := K) ⟨#[110, 111, 32, 115, 117, 99, 104, 32, 100, 105, 103, 101, 115, 116]⟩ hd hl hk (by decide))
  have hn1 : ua.tot KK ≤ 1048576 := Nat.le_trans (dk.dk_tot hd hl) (by decide)
  have hn2 : KK.length ≤ 1048576 := by omega
  have HDG := sl.hide (cmb.dg_get hd)
  have hdg : K.dg.size ≤ maxLen := Nat.le_trans hk.2.1 (by decide)
  have hvs : K.vals.length ≤ 1048576 := Nat.le_trans hk.1 (by decide)
  obtain ⟨P, hP⟩ : ∃ P, P = ua.putK room KK K := ⟨_, rfl⟩
  have CI := fun (w' : World) (g : W1.grownBy w' none) => ua.implCachePut (.slice ca KK.length cc) (.slice ka K.vals.length kc) room KK K w' hn1 hdg hvs ((sl.unhide V1).kept g) ((sl.unhide U1).kept g)
  have CS := fun (w' : World) (g : W1.grownBy w' none) => ua.specCachePut (.slice ca KK.length cc) (.slice ka K.vals.length kc) room KK K w' hn1 hvs ((sl.unhide V1).kept g) ((sl.unhide U1).kept g)
  have CO := fun (w' : World) (g : W1.grownBy w' none) => ua.implCacheOk (.slice ca KK.length cc) room KK w' hn2 (sl.unhide HDG) ((sl.unhide V1).kept g)
  have CM := fun (w' : World) (g : W1.grownBy w' none) => ua.specCacheOk (.slice ca KK.length cc) room KK w' hn2 ((sl.unhide V1).kept g).kns
  rw [← hP] at CI CS TD
  have CQ := sl.hide (fun (d : Value) (w' : World) (h : ua.VKns w' d P) => ua.implCacheOk d room P w' (Nat.le_trans (sl.unhide TD).len (by decide)) (sl.unhide TD).dg h)
  have CF := sl.hide (fun (d : Value) (x : ByteArray) (hx : x.size ≤ maxLen) (w' : World) (h : ua.VKns w' d P) => ua.implCacheFind d room P x w' (Nat.le_trans (sl.unhide TD).tot (by decide)) hx h)
  have TN := sl.hide (sl.unhide TD).no
  have TY := sl.hide (sl.unhide TD).yes
  have TZ := sl.hide (sl.unhide TD).none
  have hPl := (sl.unhide TD).len
  have HOK : Hid (ua.putOk room KK K = (ua.okC room KK && ua.costB K.cost)) := rfl
  obtain ⟨dg, sat, vals, cost⟩ := K
  dsimp only at *
  generalize hok : ua.okC room KK = ok at *
  generalize hpo : ua.putOk room KK ⟨dg, sat, vals, cost⟩ = po at *
  have HCO := sl.hide CO
  have HCM := sl.hide CM
  have HCI := sl.hide CI
  have HCS := sl.hide CS
  have hneq : (ok != ok) = false := by cases ok <;> rfl
  clear gA hv hvl g1 hd hl hk TD HB hxk hP hn1 hn2 HDG hvs CO CM CI CS hok hpo
  have SK : Hid (∀ wz, W1.grownBy wz none → cf.Box 26 wz w1.heap.size (.int .i64 room) (.slice ca KK.length cc) ∧ yb.Box4 29 wz (w1.heap.size + 1) (.string dg) (.bool sat) (.slice ka vals.length kc) (.int .i64 cost)) := fun wz g => ⟨(sl.unhide F1).kept g, (sl.unhide K1).kept g⟩
  have x0 := (sl.unhide F1).c0
  have x1 := (sl.unhide F1).c1
  have y0 := (sl.unhide K1).c0
  have y1 := (sl.unhide K1).c1
  have y2 := (sl.unhide K1).c2
  have y3 := (sl.unhide K1).c3
  go_upto_region 4 with fail
  rw [← hW1]
  clear hW1
  generalize w1.heap.size = cb at *
  go_wp2_with fail
  refine (sl.unhide HCI W1 (sl.grown_refl _)).mono ?_; rintro e w2 ⟨d, rfl, o2, g2⟩
  obtain ⟨da, dc, rfl⟩ := o2.len
  obtain ⟨W2, hW2⟩ : ∃ W2, W2 = w2.alloc (.cells #[.int .i64 room, .slice da P.length dc] 26) := ⟨_, rfl⟩
  have gB : w2.grownBy W2 none := by rw [hW2]; exact World.grownBy_alloc _ _ _
  have D2 : Hid (cf.Box 26 W2 w2.heap.size (.int .i64 room) (.slice da P.length dc)) := by rw [hW2]; exact cf.Box.new _ _ _ _
  have G2 := sl.hide (sl.grown_trans (r := none) g2 gB)
  have O2 := sl.hide (o2.kept gB)
  clear x0 x1 y0 y1 y2 y3 g2 gB o2 HCI
  obtain ⟨b1, b2⟩ := sl.unhide SK W2 (sl.unhide G2)
  have x0 := b1.c0
  have x1 := b1.c1
  have y0 := b2.c0
  have y1 := b2.c1
  have y2 := b2.c2
  have y3 := b2.c3
  clear b1 b2
  go_upto_region 5 with fail
  rw [← hW2]
  clear hW2
  generalize w2.heap.size = db at *
  go_wp2_with fail
  refine (sl.unhide HCS W2 (sl.unhide G2)).mono ?_; rintro e w3 ⟨q, lq, rfl, o3, g3⟩
  obtain ⟨qa, qc, rfl⟩ := o3.len
  obtain ⟨W3, hW3⟩ : ∃ W3, W3 = w3.alloc (.cells #[.int .i64 room, .slice qa P.length qc] 26) := ⟨_, rfl⟩
  have gC : w3.grownBy W3 none := by rw [hW3]; exact World.grownBy_alloc _ _ _
  have D3 : Hid (cf.Box 26 W3 w3.heap.size (.int .i64 room) (.slice qa P.length qc)) := by rw [hW3]; exact cf.Box.new _ _ _ _
  have G23 := sl.hide (sl.grown_trans (r := none) g3 gC)
  have G3 := sl.hide (sl.grown_trans (r := none) (sl.unhide G2) (sl.unhide G23))
  have O3 := sl.hide (o3.vkns.kns.kept gC)
  clear x0 x1 y0 y1 y2 y3 g3 gC o3 HCS
  go_upto_region 6 with fail
  rw [← hW3]
  clear hW3
  generalize w3.heap.size = qb at *
  have SW : Hid (∀ wz, W3.grownBy wz none → cf.Box 26 wz cb (.int .i64 room) (.slice ca KK.length cc) ∧ yb.Box4 29 wz (cb + 1) (.string dg) (.bool sat) (.slice ka vals.length kc) (.int .i64 cost) ∧ cf.Box 26 wz db (.int .i64 room) (.slice da P.length dc) ∧ cf.Box 26 wz qb (.int .i64 room) (.slice qa P.length qc) ∧ ua.VKns wz (.slice da P.length dc) P) := fun wz g => ⟨((sl.unhide SK) wz (sl.grown_trans (r := none) (sl.unhide G3) g)).1, ((sl.unhide SK) wz (sl.grown_trans (r := none) (sl.unhide G3) g)).2, (sl.unhide D2).kept (sl.grown_trans (r := none) (sl.unhide G23) g), (sl.unhide D3).kept g, ((sl.unhide O2).kept (sl.grown_trans (r := none) (sl.unhide G23) g)).vkns⟩
  have O2K := sl.hide (((sl.unhide O2).kept (sl.unhide G23)).kns)
  clear SK D2 D3 O2 F1 K1 V1 U1 G2
  have SC : Hid (∀ wz, W3.grownBy wz none → wz.cell? ⟨cb, 0, none⟩ = some (.int .i64 room) ∧ wz.cell? ⟨cb, 1, none⟩ = some (.slice ca KK.length cc) ∧ wz.cell? ⟨db, 1, none⟩ = some (.slice da P.length dc) ∧ wz.cell? ⟨qb, 1, none⟩ = some (.slice qa P.length qc)) := fun wz g => ⟨(sl.unhide SW wz g).1.c0, (sl.unhide SW wz g).1.c1, (sl.unhide SW wz g).2.2.1.c1, (sl.unhide SW wz g).2.2.2.1.c1⟩
  obtain ⟨z0, z1, z2, z3⟩ := sl.unhide SC W3 (sl.grown_refl _)
  have GX := sl.hide (cf.grown_drew W3 none)
  have hPe : ((P.length : Int) != (P.length : Int)) = false := by simp
  go_region_held3 (fun w' => w'.cell? ⟨cb, 0, none⟩ = some (.int .i64 room) ∧ w'.cell? ⟨cb, 1, none⟩ = some (.slice ca KK.length cc) ∧ w'.cell? ⟨db, 1, none⟩ = some (.slice da P.length dc) ∧ w'.cell? ⟨qb, 1, none⟩ = some (.slice qa P.length qc)) (first | exact sl.unhide SC _ (sl.unhide GX) | go_keep) (first
    | (go_at_call 8; refine (sl.unhide HCO _ (sl.grown_trans (r := none) (sl.unhide G3) (sl.unhide GX))).mono ?_; rintro e w6 ⟨rfl, g6⟩; replace GX := sl.hide (sl.grown_trans (r := none) (sl.unhide GX) g6); clear g6)
    | (go_at_call 9; refine (sl.unhide HCM _ (sl.grown_trans (r := none) (sl.unhide G3) (sl.unhide GX))).mono ?_; rintro e w7 ⟨rfl, g7⟩; replace GX := sl.hide (sl.grown_trans (r := none) (sl.unhide GX) g7); clear g7))
  clear z0 z1 z2 z3 hneq hPe SC
  go_wp2_with fail
  go_loopw [7] (fun i wr => ∃ j : Nat, j ≤ P.length ∧ i = .int .i64 j ∧ Hid (W3.grownBy wr none)) (fun i _ => P.length - (intOf i).toNat)
  case atStart => exact ⟨0, Nat.zero_le _, rfl, GX⟩
  case round =>
    obtain ⟨j, hj, rfl, hg⟩ := hrel
    obtain ⟨b1, b2, b3, b4, b5⟩ := sl.unhide SW wr (sl.unhide hg)
    have z0 := b3.c0
    have z1 := b3.c1
    have z2 := b4.c1
    clear GX
    by_cases hlt : j < P.length
    · have hi' : (j : Int) < (P.length : Int) := by omega
      obtain ⟨a1, c1, hva, ha⟩ := (sl.unhide O2K).kept (sl.unhide hg)
      obtain ⟨a2, c2, hvb, hb⟩ := (sl.unhide O3).kept (sl.unhide hg)
      simp only [Value.slice.injEq] at hva hvb
      obtain ⟨rfl, _, rfl⟩ := hva
      obtain ⟨rfl, _, rfl⟩ := hvb
      rcases ha with h | ⟨p1, f1, rfl, hp1, hc1⟩
      · rw [h] at hlt
        simp at hlt
      rcases hb with h | ⟨p2, f2, rfl, hp2, hc2⟩
      · rw [h] at hlt
        simp at hlt
      obtain ⟨u1, hu1⟩ := hc1 j hlt
      obtain ⟨u2, hu2⟩ := hc2 j hlt
      have e1 := hu1.1
      have e2 := hu1.2.2.2.1
      have e3 := hu2.1
      have e4 := hu2.2.2.2.1
      clear hu1 hu2 hc1 hc2
      generalize P.getD j ua.kz = x at *
      obtain ⟨xd, xs, xv, xc⟩ := x
      dsimp only at *
      have q1 : (xd.toList != xd.toList) = false := by simp
      have q2 : (xc != xc) = false := by simp
      go_wp2_with fail
      go_region
      all_goals
        go_wp2_with fail
        go_roundw
        case rel => exact ⟨j + 1, by omega, by go_num, sl.hide (sl.grown_trans (r := none) (sl.unhide hg) (sl.grown_drewN _ _))⟩
        case measure => simp [intOf]; omega
    · have hi' : ¬ (j : Int) < (P.length : Int) := by omega
      have x0 := b1.c0
      have x1 := b1.c1
      have y3 := b2.c3
      have GW := sl.hide (sl.grown_trans (r := none) (sl.unhide G3) (sl.unhide hg))
      have CMw := sl.hide (sl.unhide HCM wr (sl.unhide GW))
      have GB := sl.hide (sl.grown_trans (r := none) (sl.unhide G1) (sl.unhide GW))
      clear b1 b2 b3 b4 b5 HCM HCO O2K O3 z2 hj hlt hPl hlen
      cases po
      · have hPK : ((P.length : Int) == (KK.length : Int)) = true := by rw [sl.unhide TN rfl]; simp
        clear TN TY TZ CF CQ hdg
        cases ok
        · go_wp2_with fail
          refine (sl.unhide CMw).mono ?_; rintro e w4 ⟨rfl, g4⟩
          obtain ⟨b1, b2, b3, b4, b5⟩ := sl.unhide SW w4 (sl.grown_trans (r := none) (sl.unhide hg) g4)
          have GE := sl.hide (sl.grown_trans (r := none) (sl.unhide GB) g4)
          clear x0 x1 y3 z0 z1 g4
          have x1 := b1.c1
          have y3 := b2.c3
          have z1 := b3.c1
          clear b1 b2 b3 b4 b5 CMw hg GW GB hi'
          go_wp2_with fail
          go_ret
          exact ⟨rfl, sl.below_of (sl.unhide GE)⟩
        · have hcb : ¬ (0 ≤ cost ∧ cost ≤ 1000000) := by
            intro q
            have := sl.unhide HOK
            unfold ua.costB at this
            rw [decide_eq_true q.1, decide_eq_true q.2] at this
            cases this
          go_wp2_with fail
          refine (sl.unhide CMw).mono ?_; rintro e w4 ⟨rfl, g4⟩
          obtain ⟨b1, b2, b3, b4, b5⟩ := sl.unhide SW w4 (sl.grown_trans (r := none) (sl.unhide hg) g4)
          have GE := sl.hide (sl.grown_trans (r := none) (sl.unhide GB) g4)
          clear x0 x1 y3 z0 z1 g4
          have x1 := b1.c1
          have y3 := b2.c3
          have z1 := b3.c1
          clear b1 b2 b3 b4 b5 CMw hg GW GB hi'
          by_cases c0 : cost < 0
          · clear hcb
            go_wp2_with fail
            go_ret
            exact ⟨rfl, sl.below_of (sl.unhide GE)⟩
          · have c1 : 1000000 < cost := by omega
            clear hcb
            go_wp2_with fail
            go_ret
            exact ⟨rfl, sl.below_of (sl.unhide GE)⟩
      · obtain ⟨t1, t2, t3, t4⟩ := sl.unhide TY rfl
        have hok : ok = true := by
          have := sl.unhide HOK
          cases ok
          · cases this
          · rfl
        subst hok
        have hcb : 0 ≤ cost ∧ cost ≤ 1000000 := by
          have := sl.unhide HOK
          unfold ua.costB at this
          rw [Bool.true_and] at this
          have q := this.symm
          rw [Bool.and_eq_true, decide_eq_true_eq, decide_eq_true_eq] at q
          exact q
        have hc0 : ¬ cost < 0 := by omega
        have hc1 : ¬ 1000000 < cost := by omega
        rw [t1] at CQ
        clear TN TY hcb HOK t1
        have HT4 := sl.hide t4
        have CFw := fun (w' : World) (h : ua.VKns w' (.slice da P.length dc) P) => sl.unhide CF (.slice da P.length dc) dg hdg w' h
        have CNw := fun (w' : World) (h : ua.VKns w' (.slice da P.length dc) P) => sl.unhide CF (.slice da P.length dc) ⟨#[110, 111, 32, 115, 117, 99, 104, 32, 100, 105, 103, 101, 115, 116]⟩ (by decide) w' h
        unfold ua.FindE at CFw CNw
        rw [sl.unhide TZ] at CNw
        rw [t3] at CFw
        clear t3 t4 TZ CF
        generalize ua.fndK room P dg = fk at *
        generalize ua.fndL room P dg = fl at *
        generalize ua.fndK room P ⟨#[110, 111, 32, 115, 117, 99, 104, 32, 100, 105, 103, 101, 115, 116]⟩ = nk at *
        generalize ua.fndL room P ⟨#[110, 111, 32, 115, 117, 99, 104, 32, 100, 105, 103, 101, 115, 116]⟩ = nl at *
        obtain ⟨fd, fs, fv, fc⟩ := fk
        obtain ⟨nd, ns_, nv, nc⟩ := nk
        dsimp only at CFw CNw HT4
        have HCF := sl.hide CFw
        have HCN := sl.hide CNw
        clear CFw CNw
        go_wp2_with fail
        refine (sl.unhide CMw).mono ?_; rintro e w4 ⟨rfl, g4⟩
        have H4 := sl.hide (sl.grown_trans (r := none) (sl.unhide hg) g4)
        have GE := sl.hide (sl.grown_trans (r := none) (sl.unhide GB) g4)
        clear x0 x1 y3 z0 z1 g4 CMw hg GW GB hi'
        obtain ⟨b1, b2, b3, b4, b5⟩ := sl.unhide SW w4 (sl.unhide H4)
        have y0 := b2.c0
        have y3 := b2.c3
        have z0 := b3.c0
        have z1 := b3.c1
        have CFx := sl.hide (sl.unhide HCF w4 b5)
        clear b1 b2 b3 b4 b5 HCF
        go_wp2_with fail
        refine (sl.unhide CFx).mono ?_; rintro e w5 ⟨e5, f5, m5, rfl, hm1, hm2, o5, k5, g5⟩
        obtain ⟨fa5, fc5, rfl, hx5⟩ := o5.sl
        obtain ⟨ea5, ec5, rfl⟩ := k5.len
        obtain ⟨W5, hW5⟩ : ∃ W5, W5 = (w5.alloc (.cells #[.int .i64 room, .slice ea5 fl.length ec5] 26)).alloc (.cells #[.string fd, .bool fs, .slice fa5 fv.length fc5, .int .i64 fc] 29) := ⟨_, rfl⟩
        have gA : w5.grownBy W5 none := by rw [hW5]; exact sl.grown_trans (World.grownBy_alloc _ _ _) (World.grownBy_alloc _ _ _)
        have E5 : Hid (cf.Box 26 W5 w5.heap.size (.int .i64 room) (.slice ea5 fl.length ec5)) := by rw [hW5]; exact (cf.Box.new _ _ _ _).kept (World.grownBy_alloc _ _ none)
        have N5 : Hid (yb.Box4 29 W5 (w5.heap.size + 1) (.string fd) (.bool fs) (.slice fa5 fv.length fc5) (.int .i64 fc)) := by
          rw [hW5]
          have q := yb.Box4.new 29 (w5.alloc (.cells #[.int .i64 room, .slice ea5 fl.length ec5] 26)) (.string fd) (.bool fs) (.slice fa5 fv.length fc5) (.int .i64 fc)
          rw [World.size_alloc] at q
          exact q
        have H5 := sl.hide (sl.grown_trans (r := none) (sl.grown_trans (r := none) (sl.unhide H4) g5) gA)
        have GE5 := sl.hide (sl.grown_trans (r := none) (sl.grown_trans (r := none) (sl.unhide GE) g5) gA)
        clear y0 y3 z0 z1 g5 gA o5 k5 hx5 hm1 hm2 CFx H4 GE
        obtain ⟨b1, b2, b3, b4, b5⟩ := sl.unhide SW W5 (sl.unhide H5)
        have z0 := b3.c0
        have z1 := b3.c1
        have CNx := sl.hide (sl.unhide HCN W5 b5)
        clear b1 b2 b3 b4 b5 HCN
        go_upto_region 16 with fail
        rw [← hW5]
        clear hW5
        generalize w5.heap.size = eb at *
        go_wp2_with fail
        refine (sl.unhide CNx).mono ?_; rintro e w6 ⟨e6, f6, m6, rfl, hm1, hm2, o6, k6, g6⟩
        obtain ⟨fa6, fc6, rfl, hx6⟩ := o6.sl
        obtain ⟨ea6, ec6, rfl⟩ := k6.len
        obtain ⟨W6, hW6⟩ : ∃ W6, W6 = (w6.alloc (.cells #[.int .i64 room, .slice ea6 nl.length ec6] 26)).alloc (.cells #[.string nd, .bool ns_, .slice fa6 nv.length fc6, .int .i64 nc] 29) := ⟨_, rfl⟩
        have gA : w6.grownBy W6 none := by rw [hW6]; exact sl.grown_trans (World.grownBy_alloc _ _ _) (World.grownBy_alloc _ _ _)
        have H66 := sl.hide (sl.grown_trans (r := none) g6 gA)
        have H6 := sl.hide (sl.grown_trans (r := none) (sl.unhide H5) (sl.unhide H66))
        have GE6 := sl.hide (sl.grown_trans (r := none) (sl.unhide GE5) (sl.unhide H66))
        clear z0 z1 g6 gA o6 k6 hx6 hm1 hm2 CNx
        obtain ⟨b1, b2, b3, b4, b5⟩ := sl.unhide SW W6 (sl.unhide H6)
        have z0 := b3.c0
        have z1 := b3.c1
        have CQx := sl.hide (sl.unhide CQ (.slice da P.length dc) W6 b5)
        clear b1 b2 b3 b4 b5 CQ
        go_upto_region 17 with fail
        rw [← hW6]
        clear hW6
        generalize w6.heap.size = nb at *
        by_cases hr : 0 < room
        · obtain ⟨q1, q2⟩ := sl.unhide HT4 hr
          have hd1 : decide (0 < room) = true := decide_eq_true hr
          subst q1
          have hql : ((fl.length : Int) == (P.length : Int)) = true := by rw [q2]; simp
          clear HT4 q2
          go_wp2_with fail
          refine (sl.unhide CQx).mono ?_; rintro e w7 ⟨rfl, g7⟩
          have H7 := sl.hide (sl.grown_trans (r := none) (sl.unhide H6) g7)
          have GE7 := sl.hide (sl.grown_trans (r := none) (sl.unhide GE6) g7)
          have n1 := ((sl.unhide E5).kept (sl.grown_trans (r := none) (sl.unhide H66) g7)).c1
          have n2 := ((sl.unhide N5).kept (sl.grown_trans (r := none) (sl.unhide H66) g7)).c3
          obtain ⟨b1, b2, b3, b4, b5⟩ := sl.unhide SW w7 (sl.unhide H7)
          clear z0 z1
          have z0 := b3.c0
          have z1 := b3.c1
          have y3 := b2.c3
          clear b1 b2 b3 b4 b5 g7 CQx
          go_wp2_with fail
          go_ret
          exact ⟨rfl, sl.below_of (sl.unhide GE7)⟩
        · have hd1 : decide (0 < room) = false := decide_eq_false hr
          clear HT4
          go_wp2_with fail
          refine (sl.unhide CQx).mono ?_; rintro e w7 ⟨rfl, g7⟩
          have H7 := sl.hide (sl.grown_trans (r := none) (sl.unhide H6) g7)
          have GE7 := sl.hide (sl.grown_trans (r := none) (sl.unhide GE6) g7)
          obtain ⟨b1, b2, b3, b4, b5⟩ := sl.unhide SW w7 (sl.unhide H7)
          clear z0 z1
          have z0 := b3.c0
          have z1 := b3.c1
          clear b1 b2 b3 b4 b5 g7 CQx
          go_wp2_with fail
          go_ret
          exact ⟨rfl, sl.below_of (sl.unhide GE7)⟩

/-! ### the row's step (the guide's own frame) -/
set_option maxRecDepth 100000 in
theorem lifted (os : Os) (started : os.Started) (H : Type) (enc : TypeId × Value → H) :
    ReturnsInHanded {} Try.checked os 3 .any (Rows.fnCacheSpec.pre6 enc Try.prog Try.f3 Rows.fnCacheRow.domain false) (Rows.fnCacheSpec.post enc Try.prog Try.f3 false true false false) := by
  refine returnsInHanded_of_change (C := Try.checked) own started (by kernel_rfl) Try.func3
    (ChangeSpec.witness6 (enc := enc) (C := Try.checked) false ⟨#[], #[.slice none 0 0], []⟩ 8 (by kernel_rfl) (by kernel_rfl) (by kernel_rfl) (by kernel_rfl)) ?_
  intro W base args ds gs before hval0 hW hcnd _
  have hval : ∀ (j : Nat) t v, Try.f3.params[j]? = some t → args[j]? = some v → Value.okWide Try.prog W .any base t v := hval0
  have hW' := hW
  obtain ⟨p, q, hA0, hV, rfl, hfz, hnd⟩ := hW
  have hA : DataW.TrodAll enc Try.prog W 0 (fun _ => true) true Try.f3.params.toList args.toList ds p := hA0
  rw [Try.params3] at hA hval
  obtain ⟨v0, vs0, d0, ds0, p0, q0, hargs, rfl, rfl, h0, r0⟩ := trodAll_cons hA
  obtain ⟨rfl, rfl, rfl⟩ := trodAll_nil r0
  obtain rfl : args = #[v0] := by cases args; simp_all
  obtain ⟨rfl, rfl⟩ := trodVars_none hV
  obtain ⟨a0, len0, cap0, rfl⟩ := okWide_slice Try.underlying22 (hval 0 22 v0 rfl rfl)
  have k0 := h0
  have lt0 : ∀ x ∈ p0, x.block < W.heap.size := by obtain ⟨m, hm⟩ := k0; exact DataW.trod_lt m _ _ _ hm
  obtain ⟨z0, w0⟩ : ∃ zs, IsRow .u8 W a0 len0 cap0 zs := by
    obtain ⟨fuel, hf⟩ := h0
    rcases open_ints Try.underlying22 Try.underlying5 (by kernel_rfl) hf with ⟨hcs, _⟩ | ⟨x, l, c, zs, hcs, _, hl, hm, hz, _, hcell, hwz⟩
    · simp [Value.cells] at hcs
      obtain ⟨rfl, rfl, rfl⟩ := hcs
      exact ⟨[], .inl ⟨rfl, rfl, rfl, rfl⟩⟩
    · simp [Value.cells] at hcs
      obtain ⟨rfl, rfl, rfl⟩ := hcs
      exact ⟨zs, .inr ⟨_, rfl, hl, hm, by simpa using hz, hcell, hwz⟩⟩
  clear hA0 hval0
  refine (walk a0 len0 cap0 z0 W w0).mono fun e W' ⟨he, bel⟩ => ?_
  subst he
  exact ⟨_, rfl, _, _, _, [], _, [], hW', trodAll_mk1 (shut_bool Try.underlying4 _), (trodAll_cons_mk (Below.trod laidOut (by kernel_rfl) (of_decide_eq_true (by kernel_rfl)) k0 bel lt0) trodAll_mk0), rfl, bel.frame _, fun h => by cases h⟩

theorem over : Rows.fnCacheRow.holds Try.pinned (OpenSpec.ofChange Rows.fnCacheSpec) :=
  OpenClaim.holds_of_wide 3 Try.f3 rfl rfl rfl rfl rfl rfl rfl ⟨rfl, rfl, rfl, rfl, rfl⟩ rfl rfl rfl rfl rfl (by kernel_rfl) Try.func3 (by kernel_rfl)
    (of_decide_eq_true (by kernel_rfl)) (by unfold Func.isWrapper; first | (rw [if_pos (by decide +kernel)]; kernel_rfl) | (rw [if_neg (by decide +kernel)]; exact ⟨rfl, rfl⟩))
    (fun os started H enc _ => lifted os started H enc)

/-- the statement -/
theorem proved : Rows.FnCacheSaid := over
#print axioms proved
end Go.Proofs.Ytnlllcgcaddhmaa.fnCache
