/- Eliminate of the program: what it answers at every formula that holds at most 2^20 values, and every number. -/
import Derived.Test.YtibpnocpafppaaaDoorEk
import Derived.Test.YtibpnocpafppaaaDoorGc
import Derived.Deep.RegionHeld3
namespace Go.Proofs.YtibpnocpafppaaaDoor.el
open Go.ChangeShapes Go.WideShapes Go.ChangeAt Go.RowKit
open Go.Proofs.YtibpnocpafppaaaDoor.sl (Sl Own ints marks hide unhide ret_int ret_bool grown_refl grown_trans grown_drewN below_of of_below)
open Go.Proofs.YtibpnocpafppaaaDoor.css (Sls OwnS Outs tot sumLen marksS own_mono infoSl own_ne own_ne')
open Go.Proofs.YtibpnocpafppaaaDoor.cf (Box)
open Go.Proofs.YtibpnocpafppaaaDoor.ok (cnfB)
open Go.Proofs.YtibpnocpafppaaaDoor.cls (hasB)
open Go.Proofs.YtibpnocpafppaaaDoor.wo (Made)
open Go.Proofs.YtibpnocpafppaaaDoor.res (canB resB resL)
open Go.Proofs.YtibpnocpafppaaaDoor.ge (hvB OwnD)
open Go.Proofs.YtibpnocpafppaaaDoor.cs (cnfS)
open Go.Proofs.YtibpnocpafppaaaDoor.srt (Tab)
open Go.Proofs.YtibpnocpafppaaaDoor.cso (srtN srtR srtB)
open Go.Proofs.YtibpnocpafppaaaDoor.gb (Rd Kpt flt KeptE)
open Go.Proofs.YtibpnocpafppaaaDoor.ni (Lst)
set_option linter.unusedVariables false

theorem neither1 (v : Value) (L : List Int) (x : Int) (c : Nat) (w : World) (h0 : 1 ≤ x) (h1 : x ≤ 24) (hL : L.length ≤ 1048576) (hv : Sl w v L) (hc : w.cell? ⟨c, 0, none⟩ = some (.int .i64 x)) :
    Calls Tryd.prog 72 #[v, .pointer (some ⟨c, 0, none⟩)] w fun e w' => e = .returned (.bool (nthB x L)) ∧ w' = w := by
  have C := hide (cls.implClauseHas v L x w hL hv)
  have C2 := hide (cls.implClauseHas v L (-x) w hL hv)
  obtain ⟨a, cap, rfl, _⟩ := hv
  cases hx : hasB L x
  · have E := hide (show nthB x L = !hasB L (-x) by unfold nthB; rw [hx]; rfl)
    rw [hx] at C
    clear hx
    go_enter Tryd.func72, Tryd.ntmps72
    go_wp2_with fail
    refine (unhide C).mono ?_; rintro e w2 ⟨rfl, hw⟩; have hw' := hw.symm; clear hw; subst hw'
    go_wp2_with fail
    refine (unhide C2).mono ?_; rintro e w2 ⟨rfl, hw⟩; have hw' := hw.symm; clear hw; subst hw'
    go_wp2_with fail
    go_ret
    exact ⟨ret_bool (unhide E).symm, rfl⟩
  · have E := hide (show nthB x L = false by unfold nthB; rw [hx]; rfl)
    rw [hx] at C
    clear hx
    go_enter Tryd.func72, Tryd.ntmps72
    go_wp2_with fail
    refine (unhide C).mono ?_; rintro e w2 ⟨rfl, hw⟩; have hw' := hw.symm; clear hw; subst hw'
    go_wp2_with fail
    go_ret
    exact ⟨ret_bool (unhide E).symm, rfl⟩
theorem flt_el {lo hi : Nat} {w w' : World} {v u : Value} {D : List (Value × List Int)} {B : List Int → Bool} (ho : OwnD lo hi w v D) (h : Kpt w w' u (flt B D)) : LstD w.heap.size w' u (flt B D) := by
  refine ⟨h.1, fun p hp => ?_⟩
  unfold gb.flt at hp
  exact ni.row_kept (own_mono (ho.2.2.1 p (List.mem_filter.1 hp).1).1 (Nat.zero_le _)) h.2
theorem keptN (v : Value) (D : List (Value × List Int)) (lo hi c : Nat) (x : Int) (w : World) (h0 : 1 ≤ x) (h1 : x ≤ 24) (hn : tot (D.map (·.2)) ≤ 1048576) (ho : OwnD lo hi w v D) (hc : w.cell? ⟨c, 0, none⟩ = some (.int .i64 x)) :
    Calls Tryd.prog 51 #[v, .func (.func 72) #[] #[.pointer (some ⟨c, 0, none⟩)]] w fun e w' => ∃ u, e = .returned u ∧ LstD w.heap.size w' u (flt (nthB x) D) ∧ w.grownBy w' none := by
  have hl := Nat.le_trans (css.tot_len _) hn
  rw [List.length_map] at hl
  refine (gb.kept_neither v _ D (nthB x) w hl (gj.rd_own ho) ?_).mono ?_
  · intro p hp w1 g1
    exact (neither1 p.1 p.2 x c w1 h0 h1 (gj.len_in hn hp) ((ho.2.2.1 p hp).sl.kept g1 (.inl rfl)) (g1.cell hc (fun e => by cases e))).mono (fun e w' h => ⟨h.1, by rw [h.2]; exact grown_refl _⟩)
  · rintro e w' ⟨u, rfl, hk⟩
    exact ⟨u, rfl, flt_el ho hk, hk.2⟩
theorem keptH (v : Value) (D : List (Value × List Int)) (lo hi c : Nat) (x : Int) (w : World) (hn : tot (D.map (·.2)) ≤ 1048576) (ho : OwnD lo hi w v D) (hc : w.cell? ⟨c, 0, none⟩ = some (.int .i64 x)) :
    Calls Tryd.prog 51 #[v, .func (.func 125) #[] #[.pointer (some ⟨c, 0, none⟩)]] w fun e w' => ∃ u, e = .returned u ∧ LstD w.heap.size w' u (flt (hasB · x) D) ∧ w.grownBy w' none := by
  have hl := Nat.le_trans (css.tot_len _) hn
  rw [List.length_map] at hl
  refine (gb.kept_having v _ D (hasB · x) w hl (gj.rd_own ho) ?_).mono ?_
  · intro p hp w1 g1
    exact (gc.having1 p.1 p.2 x c w1 (gj.len_in hn hp) ((ho.2.2.1 p hp).sl.kept g1 (.inl rfl)) (g1.cell hc (fun e => by cases e))).mono (fun e w' h => ⟨h.1, by rw [h.2]; exact grown_refl _⟩)
  · rintro e w' ⟨u, rfl, hk⟩
    exact ⟨u, rfl, flt_el ho hk, hk.2⟩
theorem ownD_kept {lo hi : Nat} {w w1 : World} {v : Value} {D : List (Value × List Int)} (h : OwnD lo hi w v D) (g : w.grownBy w1 none) : OwnD lo hi w1 v D := by
  obtain ⟨h1, h2, h3, h4⟩ := h
  exact ⟨ni.row_kept h1 g, h2, fun p hp => ⟨ni.row_kept (h3 p hp).1 g, (h3 p hp).2⟩, h4⟩
theorem LstD.len {lo : Nat} {w : World} {v : Value} {D : List (Value × List Int)} (h : LstD lo w v D) : ∃ a cap, v = .slice a D.length cap := by
  obtain ⟨a, cap, e⟩ := h.lst.len
  rw [List.length_map] at e
  exact ⟨a, cap, e⟩
theorem flt_map2 (B : List Int → Bool) {D : List (Value × List Int)} {R : List (List Int)} (h : D.map (·.2) = R) : (flt B D).map (·.2) = R.filter B := by rw [gb.flt_map, h]
/-- the variables that it begins with -/
theorem ini3 (w : World) (n x : Int) (y : Value) : w.grownBy (((w.alloc (.cells #[.int .i64 n, y] 26)).alloc (.cells #[.int .i64 x] 3)).alloc (.cells #[.int .i64 0, .slice none 0 0] 26)) none
    ∧ Box 26 (((w.alloc (.cells #[.int .i64 n, y] 26)).alloc (.cells #[.int .i64 x] 3)).alloc (.cells #[.int .i64 0, .slice none 0 0] 26)) w.heap.size (.int .i64 n) y
    ∧ One (((w.alloc (.cells #[.int .i64 n, y] 26)).alloc (.cells #[.int .i64 x] 3)).alloc (.cells #[.int .i64 0, .slice none 0 0] 26)) (w.heap.size + 1) x
    ∧ Box 26 (((w.alloc (.cells #[.int .i64 n, y] 26)).alloc (.cells #[.int .i64 x] 3)).alloc (.cells #[.int .i64 0, .slice none 0 0] 26)) (w.heap.size + 1 + 1) (.int .i64 0) (.slice none 0 0) := by
  have g1 := World.grownBy_alloc w (.cells #[.int .i64 n, y] 26) none
  have g2 := World.grownBy_alloc (w.alloc (.cells #[.int .i64 n, y] 26)) (.cells #[.int .i64 x] 3) none
  have g3 := World.grownBy_alloc ((w.alloc (.cells #[.int .i64 n, y] 26)).alloc (.cells #[.int .i64 x] 3)) (.cells #[.int .i64 0, .slice none 0 0] 26) none
  have o := One.new (w.alloc (.cells #[.int .i64 n, y] 26)) x
  have b := Box.new 26 ((w.alloc (.cells #[.int .i64 n, y] 26)).alloc (.cells #[.int .i64 x] 3)) (.int .i64 0) (.slice none 0 0)
  rw [World.size_alloc] at o
  rw [World.size_alloc, World.size_alloc] at b
  exact ⟨grown_trans (grown_trans g1 g2) g3, ((Box.new _ _ _ _).kept g2).kept g3, o.kept g3, b⟩

set_option maxRecDepth 10000 in
set_option maxHeartbeats 16000000 in
theorem implEliminate (v : Value) (n x : Int) (LL : List (List Int)) (w : World) (hT : Tab w) (hn : tot LL ≤ 1048576) (hv : Sls w v LL) :
    Calls Tryd.prog 22 #[.agg #[.int .i64 n, v], .int .i64 x] w fun e w' => ElE n x LL w e w' := by
  have hv0 := hv
  obtain ⟨a, cap, rfl, _⟩ := hv
  obtain ⟨g0, b0, o0, r0⟩ := ini3 w n x (.slice a LL.length cap)
  obtain ⟨W3, hW3⟩ : ∃ W3, W3 = ((w.alloc (.cells #[.int .i64 n, .slice a LL.length cap] 26)).alloc (.cells #[.int .i64 x] 3)).alloc (.cells #[.int .i64 0, .slice none 0 0] 26) := ⟨_, rfl⟩
  rw [← hW3] at g0 b0 o0 r0
  have HV := hide (ge.hasVariable _ n x LL W3 hn (hv0.kept g0))
  have CN := hide (fun (w4 : World) (g : W3.grownBy w4 none) => cso.implCnfSort _ n LL w4 ((hT.kept g0).kept g) hn ((hv0.kept g0).kept g))
  have G0 := hide g0
  have B0 := hide b0
  have O0 := hide o0
  have R0 := hide r0
  have HT := hide hT
  have x0 := b0.c0
  have x1 := b0.c1
  have x2 := o0.c0
  have HW3 := hide hW3
  clear hv0 g0 b0 o0 r0 hT hW3
  go_enter Tryd.func22, Tryd.ntmps22
  go_wp2_with fail
  rw [← unhide HW3]
  go_wp2_with fail
  refine (unhide HV).mono ?_; rintro e w4 ⟨rfl, g4⟩
  clear x0 x1 x2
  have b4 := (unhide B0).kept g4
  have x0 := b4.c0
  have x1 := b4.c1
  have r4 := (unhide R0).kept g4
  have y0 := r4.c0
  have y1 := r4.c1
  have y2 := r4.f 0
  have y3 := r4.f 1
  have o4 := (unhide O0).kept g4
  have G4 := hide (grown_trans (r := none) (unhide G0) g4)
  have CS := hide (unhide CN w4 g4)
  have R4 := hide r4
  have O4 := hide o4
  clear HV CN b4 r4 o4 g4
  cases hb : hvB n x LL
  · have E := hide hb
    clear CS hb
    go_wp2_with fail
    (try simp only [Exit.inBlock, Exit.then])
    refine bodyPost_ret (cf.ret_box2 rfl rfl (((unhide R4).set0 _).set1 _)) rfl ?_
    refine ⟨.slice none 0 0, ?_, ?_, cf.grown_set (cf.grown_set (unhide G4) (by omega)) (by omega)⟩
    · unfold elN elB
      rw [unhide E]
      rfl
    · unfold elR
      rw [unhide E]
      exact fx.ownS_nil _ _ _
  · obtain ⟨hcb, h1, hxn, hn24⟩ := ge.hv_yes hb
    have h24 : x ≤ 24 := by omega
    obtain ⟨s1, s2, s3⟩ := cso.srt_yes hcb
    rw [s1, s2, s3] at CS
    obtain ⟨hR120, hin48⟩ := sorted_bd hcb
    have ht : tot (cnfS LL) ≤ 1048576 := by
      have := cso.srt_tot n LL
      rw [s2] at this
      exact Nat.le_trans this (by decide)
    have E := hide hb
    have HIN := hide hin48
    clear s1 s2 s3 hcb hb hin48
    go_wp2_with fail
    refine (unhide CS).mono ?_; rintro e w5 ⟨q, rfl, o5, g5⟩
    obtain ⟨qa, qc, rfl⟩ := o5.len
    have EL := hide (show ElE n x LL w = fun e w' => ∃ u, e = .returned (.tuple #[.agg #[.int .i64 (srtN n (elimL x (cnfS LL))), u], .bool (srtB n (elimL x (cnfS LL)))]) ∧ OwnS w.heap.size w'.heap.size w' u (srtR n (elimL x (cnfS LL))) ∧ w.grownBy w' none by
      unfold ElE elN elB elR
      rw [unhide E]
      simp)
    generalize hR : cnfS LL = R at *
    clear hR E
    have gA := World.grownBy_alloc w5 (.cells #[.int .i64 n, .slice qa R.length qc] 26) none
    have bg := Box.new 26 w5 (.int .i64 n) (.slice qa R.length qc)
    obtain ⟨D, hD, oD⟩ := OwnD.of (o5.kept gA)
    obtain ⟨W6, hW6⟩ : ∃ W6, W6 = w5.alloc (.cells #[.int .i64 n, .slice qa R.length qc] 26) := ⟨_, rfl⟩
    obtain ⟨gb6, hgb⟩ : ∃ c, c = w5.heap.size := ⟨_, rfl⟩
    rw [← hW6] at gA bg oD
    rw [← hgb] at bg
    have g45 := grown_trans (r := none) g5 gA
    have G6 := hide (grown_trans (r := none) (unhide G4) g45)
    have O6 := hide ((unhide O4).kept g45)
    have R6 := hide ((unhide R4).kept g45)
    have BG := hide bg
    have OD := hide oD
    have HDR := hide hD
    have HW6 := hide hW6
    have HGB := hide hgb
    clear x0 x1 y0 y1 y2 y3 o5 g5 gA g45 bg oD CS B0 O0 R0 O4 R4
    go_wp2_with fail
    rw [← unhide HW6, ← unhide HGB]
    clear hW6 hgb
    have x1 := (unhide BG).c1
    have x2 := (unhide O6).c0
    have KN := hide (keptN (.slice qa R.length qc) D _ _ (w.heap.size + 1) x W6 h1 h24 (by rw [hD]; exact ht) (unhide OD) x2)
    clear hD
    go_wp2_with fail
    refine (unhide KN).mono ?_; rintro e w7 ⟨u8, rfl, l7, g7⟩
    obtain ⟨ua8, uc8, rfl⟩ := l7.len
    have bg7 := (unhide BG).kept g7
    have o7 := (unhide O6).kept g7
    have OD7 := hide (ownD_kept (unhide OD) g7)
    have L7 := hide l7
    have G7 := hide (grown_trans (r := none) (unhide G6) g7)
    have R7 := hide ((unhide R6).kept g7)
    have O7 := hide o7
    have BG7 := hide bg7
    have S7 := hide g7.size
    clear x1 x2
    have x1 := bg7.c1
    have x2 := o7.c0
    have WR : Hid (IntKind.i64.wrap (-x) = -x) := by
      show _ = _
      simp [IntKind.wrap, IntKind.signed, IntKind.bits]
      omega
    have HK := hide (fun (w2 : World) (c : Nat) (y : Int) (g : w7.grownBy w2 none) (hc : w2.cell? ⟨c, 0, none⟩ = some (.int .i64 y)) => keptH (.slice qa R.length qc) D _ _ c y w2 (by rw [unhide HDR]; exact ht) (ownD_kept (unhide OD7) g) hc)
    clear KN BG OD R6 bg7 o7 g7 l7
    go_wp2_with fail
    go_region_held3 (fun w' => w'.cell? ⟨gb6, 1, none⟩ = some (.slice qa R.length qc) ∧ w'.cell? ⟨w.heap.size + 1, 0, none⟩ = some (.int .i64 x)) (go_keep) (first
      | (go_at_call 51; refine (unhide HK w8 _ _ (unhide GW) (unhide HC)).mono ?_; rintro e w9 ⟨u9, rfl, l9, g9⟩; have G9 := hide (grown_trans (r := none) (unhide GW) g9); have L9 := hide l9; have S8 := hide (unhide GW).size; have S9 := hide g9.size; have z1 := ((unhide BG7).kept (unhide G9)).c1; have z2 := ((unhide O7).kept (unhide G9)).c0; clear g9 l9)
      | (go_at_call 73; refine (gc.having _ _).mono ?_; rintro e w8 ⟨rfl, hw⟩; have GW : Hid (w7.grownBy w8 none) := (by rw [hw]; exact grown_trans (r := none) (cf.grown_drew w7 none) (World.grownBy_alloc _ _ _)); have HC : Hid (w8.cell? ⟨w7.heap.size, 0, none⟩ = some (.int .i64 (-x))) := (by have c := gc.cell_new w7.drew (.int .i64 (IntKind.i64.wrap (-x))) 3; rw [hw]; rw [unhide WR] at c ⊢; exact c); have y1 := ((unhide BG7).kept (unhide GW)).c1; have y2 := ((unhide O7).kept (unhide GW)).c0; clear hw))
    obtain ⟨ua9, uc9, rfl⟩ := (unhide L9).len
    have BG9 := hide ((unhide BG7).kept (unhide G9))
    have O9 := hide ((unhide O7).kept (unhide G9))
    have OD9 := hide (ownD_kept (unhide OD7) (unhide G9))
    have HK2 := hide (fun (w2 : World) (c : Nat) (y : Int) (g : w9.grownBy w2 none) (hc : w2.cell? ⟨c, 0, none⟩ = some (.int .i64 y)) => keptH (.slice qa R.length qc) D _ _ c y w2 (by rw [unhide HDR]; exact ht) (ownD_kept (unhide OD9) g) hc)
    clear HK BG7 O7 OD7 WR GW HC x1 x2 y1 y2 z1 z2
    have x1 := (unhide BG9).c1
    have x2 := (unhide O9).c0
    go_wp2_with fail
    go_region_held3 (fun w' => w'.cell? ⟨gb6, 1, none⟩ = some (.slice qa R.length qc) ∧ w'.cell? ⟨w.heap.size + 1, 0, none⟩ = some (.int .i64 x)) (go_keep) (first
      | (go_at_call 73; refine (gc.having _ _).mono ?_; rintro e w10 ⟨rfl, hw⟩; have GW : Hid (w9.grownBy w10 none) := (by rw [hw]; exact grown_trans (r := none) (cf.grown_drew w9 none) (World.grownBy_alloc _ _ _)); have HC : Hid (w10.cell? ⟨w9.heap.size, 0, none⟩ = some (.int .i64 x)) := (by have c := gc.cell_new w9.drew (.int .i64 x) 3; rw [hw]; exact c); have y1 := ((unhide BG9).kept (unhide GW)).c1; have y2 := ((unhide O9).kept (unhide GW)).c0; clear hw)
      | (go_at_call 51; refine (unhide HK2 w10 _ _ (unhide GW) (unhide HC)).mono ?_; rintro e w11 ⟨u10, rfl, l11, g11⟩; obtain ⟨ua10, uc10, rfl⟩ := l11.len; have G11 := hide (grown_trans (r := none) (unhide GW) g11); have L11 := hide l11; have S10 := hide (unhide GW).size; have z1 := ((unhide BG9).kept (unhide G11)).c1; have z2 := ((unhide O9).kept (unhide G11)).c0; clear g11 l11))
    have g79 := grown_trans (r := none) (unhide G9) (unhide G11)
    have LA := hide ((unhide L7).kept g79)
    have LB := hide ((unhide L9).kept (unhide G11))
    have BGW := hide ((unhide BG9).kept (unhide G11))
    have OW := hide ((unhide O9).kept (unhide G11))
    have LC := hide (unhide L11)
    have RW := hide ((unhide R7).kept g79)
    have GWW := hide (grown_trans (r := none) (unhide G7) g79)
    have TW := hide ((unhide HT).kept (unhide GWW))
    have lz := (unhide L7).1.lt
    have NZ : Hid (∀ k, (Value.slice ua8 (flt (nthB x) D).length uc8).ownBlock = some k → w.heap.size + 1 < k ∧ k < w7.heap.size) := fun k hk => by
      have h1 := lz k hk
      have h2 := (unhide O6).lt
      omega
    have lB := (unhide L9).1.lt
    have lC := (unhide L11).1.lt
    have NB : Hid ((Value.slice ua9 (flt (hasB · (-x)) D).length uc9).ownBlock = none ∨ (Value.slice ua9 (flt (hasB · (-x)) D).length uc9).ownBlock ≠ (Value.slice ua8 (flt (nthB x) D).length uc8).ownBlock) := by
      cases e : (Value.slice ua9 (flt (hasB · (-x)) D).length uc9).ownBlock with
      | none => exact .inl rfl
      | some k =>
        refine .inr fun e2 => ?_
        have h1 := lB k e
        have h2 := lz k e2.symm
        have h3 := unhide S8
        omega
    have NC : Hid ((Value.slice ua10 (flt (hasB · x) D).length uc10).ownBlock = none ∨ (Value.slice ua10 (flt (hasB · x) D).length uc10).ownBlock ≠ (Value.slice ua8 (flt (nthB x) D).length uc8).ownBlock) := by
      cases e : (Value.slice ua10 (flt (hasB · x) D).length uc10).ownBlock with
      | none => exact .inl rfl
      | some k =>
        refine .inr fun e2 => ?_
        have h1 := lC k e
        have h2 := lz k e2.symm
        have h3 := unhide S8
        have h4 := unhide S9
        have h5 := unhide S10
        omega
    have mA := flt_map2 (nthB x) (unhide HDR)
    have mB := flt_map2 (hasB · (-x)) (unhide HDR)
    have mC := flt_map2 (hasB · x) (unhide HDR)
    have pc := pairs_cut x R R
    have MT := hide (fun (As Bs Cs : List (List Int)) (aa : List Int) h1 h2 h3 => mid_tot (v := x) (a := aa) (As := As) (Bs := Bs) (Cs := Cs) hR120 (unhide HIN) h1 h2 h3)
    have eL : elimL x R = R.filter (nthB x) ++ pairsE x (R.filter (hasB · x)) (R.filter (hasB · (-x))) := by rw [pc]; rfl
    have cB : (R.filter (hasB · (-x))).length ≤ 120 := Nat.le_trans (List.length_filter_le _ _) hR120
    have cC : (R.filter (hasB · x)).length ≤ 120 := Nat.le_trans (List.length_filter_le _ _) hR120
    have iB : ∀ C ∈ R.filter (hasB · (-x)), C.length ≤ 48 := fun C hC => unhide HIN C (List.mem_filter.1 hC).1
    have iC : ∀ C ∈ R.filter (hasB · x), C.length ≤ 48 := fun C hC => unhide HIN C (List.mem_filter.1 hC).1
    have LAL := (unhide LA).lst
    rw [mA] at LAL
    generalize hAA : R.filter (nthB x) = AA at *
    generalize hBB : R.filter (hasB · (-x)) = BB at *
    generalize hCC : R.filter (hasB · x) = CC at *
    generalize flt (nthB x) D = DA at *
    generalize flt (hasB · (-x)) D = DB at *
    generalize flt (hasB · x) D = DC at *
    have lDB : DB.length = BB.length := by rw [← mB, List.length_map]
    have lDC : DC.length = CC.length := by rw [← mC, List.length_map]
    have atB : Hid (∀ i (h : i < DB.length), BB.getD i [] = DB[i].2) := fun i h => by rw [← mB]; exact css.map2_getD h
    have atC : Hid (∀ i (h : i < DC.length), CC.getD i [] = DC[i].2) := fun i h => by rw [← mC]; exact css.map2_getD h
    have ST : Hid (Wr w11 w11 W6.heap.size (.slice ua8 DA.length uc8) (.slice ua8 DA.length uc8) (AA ++ pairsE x (CC.take 0) BB)) := by
      refine ⟨grown_refl' _ _, ?_, .inl rfl⟩
      rw [List.take_zero]
      show Lst _ _ _ (AA ++ [])
      rw [List.append_nil]
      exact LAL
    have HEL := hide eL
    have LBD := hide lDB
    have LCD := hide lDC
    have IB := hide iB
    have IC := hide iC
    have SW6 := hide (show w.heap.size ≤ W6.heap.size from (unhide G6).size)
    have SW11 := hide (show W6.heap.size ≤ w11.heap.size from Nat.le_trans (unhide S7) g79.size)
    clear eL lDB lDC iB iC LAL mA mB mC pc lz lB lC g79 hAA hBB hCC L7 L9 L11 G7 G9 G11 G6 O6 O9 BG9 R7 OD9 HK2 GW HC x1 x2 y1 y2 z1 z2 HIN HDR
    have dB : DB.length ≤ 120 := by rw [unhide LBD]; exact cB
    have dC : DC.length ≤ 120 := by rw [unhide LCD]; exact cC
    go_wp2_with fail
    go_loopw [8, 42] (fun v i wr => ∃ k : Nat, k ≤ DC.length ∧ i = .int .i64 k ∧ Hid (Wr w11 wr W6.heap.size (.slice ua8 DA.length uc8) v (AA ++ pairsE x (CC.take k) BB))) (fun _ i _ => DC.length - (intOf i).toNat)
    case atStart => exact ⟨0, Nat.zero_le _, rfl, ST⟩
    case round =>
      obtain ⟨k, hk, rfl, hm⟩ := hrel
      clear ST
      obtain ⟨va, vc, rfl⟩ := (unhide hm).l.len
      by_cases hlt : k < DC.length
      · have hi' : (k : Int) < (DC.length : Int) := by omega
        obtain ⟨b, cap', xa, xc, e, e2, c1, hs, ho⟩ := ((unhide LC).by (unhide LA).1 (unhide NC) (unhide hm).g).at k hlt
        simp only [Value.slice.injEq] at e
        obtain ⟨rfl, _, rfl⟩ := e
        have ca := unhide atC k hlt
        have HCA := hide ca
        have La := unhide IC
        have hLa : DC[k].2.length ≤ 1048576 := by
          have h1 := La DC[k].2 (by rw [← ca, show CC.getD k [] = CC[k]'(by rw [← unhide LCD]; exact hlt) by simp [show k < CC.length by rw [← unhide LCD]; exact hlt]]; exact List.getElem_mem _)
          omega
        have ps := pairs_step x CC BB k (by rw [← unhide LCD]; exact hlt)
        rw [ca] at ps
        generalize hLk : DC[k].2 = Lk at *
        have PS := hide ps
        have HLK := hide hLk
        have ST2 : Hid (Wr w11 wr W6.heap.size (.slice ua8 DA.length uc8) (.slice va (AA ++ pairsE x (CC.take k) BB).length vc) ((AA ++ pairsE x (CC.take k) BB) ++ rowE x Lk (BB.take 0))) := by
          rw [List.take_zero]
          show Wr _ _ _ _ _ ((AA ++ pairsE x (CC.take k) BB) ++ [])
          rw [List.append_nil]
          exact unhide hm
        have RA := hide (fun (wx : World) (v : Value) (M : List (List Int)) (h : Wr w11 wx W6.heap.size (.slice ua8 DA.length uc8) v M) => ((unhide LC).by (unhide LA).1 (unhide NC) h.g).2 DC[k] (List.getElem_mem hlt))
        rw [e2, hLk] at RA
        clear hs ho hm ca La ps hLk
        obtain ⟨MM, hMM⟩ : ∃ MM, MM = AA ++ pairsE x (CC.take k) BB := ⟨_, rfl⟩
        rw [← hMM] at ST2
        have HMM := hide hMM
        have MT2 := hide (fun (m : Nat) => unhide MT (CC.take k) BB (BB.take m) Lk (by rw [List.length_take]; omega) cB (by rw [List.length_take]; omega))
        go_wp2_with fail
        rw [← hMM]
        clear hMM
        generalize hml : MM.length = ml at *
        have HML := hide hml
        clear hml
        go_loopw [8, 48] (fun v i wx => ∃ m : Nat, m ≤ DB.length ∧ i = .int .i64 m ∧ Hid (Wr w11 wx W6.heap.size (.slice ua8 DA.length uc8) v (MM ++ rowE x Lk (BB.take m)))) (fun _ i _ => DB.length - (intOf i).toNat)
        case atStart => exact ⟨0, Nat.zero_le _, rfl, ST2⟩
        case round =>
          obtain ⟨m, hm', rfl, hm⟩ := hrel
          clear ST2
          obtain ⟨va2, vc2, rfl⟩ := (unhide hm).l.len
          by_cases hlt2 : m < DB.length
          · have hi2 : (m : Int) < (DB.length : Int) := by omega
            obtain ⟨b2, cap2, xb, xbc, e, e3, c2, hsb, hob⟩ := ((unhide LB).by (unhide LA).1 (unhide NB) (unhide hm).g).at m hlt2
            simp only [Value.slice.injEq] at e
            obtain ⟨rfl, _, rfl⟩ := e
            have cb := unhide atB m hlt2
            have hLb : DB[m].2.length ≤ 1048576 := by
              have h1 := unhide IB DB[m].2 (by rw [← cb, show BB.getD m [] = BB[m]'(by rw [← unhide LBD]; exact hlt2) by simp [show m < BB.length by rw [← unhide LBD]; exact hlt2]]; exact List.getElem_mem _)
              omega
            have rs := row_step x Lk BB m (by rw [← unhide LBD]; exact hlt2)
            rw [cb] at rs
            have ra := unhide RA _ _ _ (unhide hm)
            have tb : Tab wr := fun j hj => (unhide hm).g.cell (unhide TW j hj) (fun e => by
              have h1 := World.block_lt_of_cell? w _ (unhide HT j hj)
              have h2 := unhide NZ _ e.symm
              have h3 : w.heap.size + 1 < 0 := h2.1
              have h4 : 0 < w.heap.size := h1
              omega)
            have ox := ((unhide OW).by (unhide hm).g (fun e => by have := unhide NZ _ e; omega)).c0
            have RC := hide (res.implResolve _ _ Lk DB[m].2 x wr tb hLa hLb (Sl.of_own ra) hsb)
            have hl : (MM ++ rowE x Lk (BB.take m)).length ≤ 1048576 := by
              rw [unhide HMM]
              exact Nat.le_trans (css.tot_len _) (unhide MT2 m)
            generalize hLm : DB[m].2 = Lm at *
            have HLM := hide hLm
            have WX := hide (unhide hm)
            have RS := hide rs
            obtain ⟨P2, hP2⟩ : ∃ P2, P2 = MM ++ rowE x Lk (BB.take (m + 1)) := ⟨_, rfl⟩
            have HP2 := hide hP2
            cases hrb : resB Lk Lm x
            · rw [hrb] at rs RC
              have en : P2 = MM ++ rowE x Lk (BB.take m) := by
                rw [hP2, rs]
                simp
              have EN := hide en
              generalize MM ++ rowE x Lk (BB.take m) = P1 at *
              clear hob hm cb rs tb ra hLm hP2 en hrb hsb RS
              go_wp2_with fail
              refine (unhide RC).mono ?_; rintro e w12 ⟨uc, rfl, mc⟩
              obtain ⟨ca, cc, rfl, _⟩ := (Own.of mc.1).sl
              have R : Hid (Wr w11 w12 W6.heap.size (.slice ua8 DA.length uc8) (.slice va2 P1.length vc2) P2) := by
                rw [unhide EN]
                exact (unhide WX).kept mc.2
              clear mc RC
              go_wp2_with fail
              go_roundw
              case rel => exact ⟨m + 1, by omega, by go_num, by rw [← unhide HP2]; exact R⟩
              case measure => simp [intOf]; omega
            · rw [hrb] at rs RC
              have en : P2 = (MM ++ rowE x Lk (BB.take m)) ++ [resL Lk Lm x] := by
                rw [hP2, rs, List.append_assoc]
                simp
              have EN := hide en
              generalize MM ++ rowE x Lk (BB.take m) = P1 at *
              clear hob hm cb rs tb ra hLm hP2 en hrb hsb RS
              go_wp2_with fail
              refine (unhide RC).mono ?_; rintro e w12 ⟨uc, rfl, mc⟩
              obtain ⟨ca, cc, rfl, _⟩ := (Own.of mc.1).sl
              have MC := hide mc
              have LK := hide ((unhide WX).kept mc.2).l
              have sz : W6.heap.size ≤ w12.heap.size := Nat.le_trans (unhide SW11) ((unhide WX).kept mc.2).g.size
              have SZ := hide sz
              clear mc sz RC
              go_wp2_with (at_builtin; refine appendLp (unhide LK) (own_mono (unhide MC).1 (Nat.zero_le _)) (unhide SZ) hl rfl _ _ rfl rfl rfl ?_)
              intro g3 cap3 w13 l3 g3' n3
              have R : Hid (Wr w11 w13 W6.heap.size (.slice ua8 DA.length uc8) (.slice (some ⟨g3, 0, none⟩) (P1.length + 1) cap3) P2) := by
                rw [unhide EN]
                exact (unhide WX).more (unhide MC).2 l3 g3' n3
              clear l3 g3' n3 LK SZ MC
              go_wp2_with fail
              go_roundw
              case rel => exact ⟨m + 1, by omega, by go_num, by rw [← unhide HP2]; exact R⟩
              case measure => simp [intOf]; omega
          · have hi2 : ¬ (m : Int) < (DB.length : Int) := by omega
            have e : BB.take m = BB := List.take_of_length_le (by rw [← unhide LBD]; omega)
            have eq : AA ++ pairsE x (CC.take (k + 1)) BB = MM ++ rowE x Lk (BB.take m) := by
              rw [unhide PS, ← List.append_assoc, ← unhide HMM, e]
            have R : Hid (Wr w11 wr W6.heap.size (.slice ua8 DA.length uc8) (.slice va2 (MM ++ rowE x Lk (BB.take m)).length vc2) (AA ++ pairsE x (CC.take (k + 1)) BB)) := by
              rw [eq]
              exact unhide hm
            clear hm e eq
            generalize (MM ++ rowE x Lk (BB.take m)).length = l2 at *
            go_wp2_with fail
            go_roundw
            case rel => exact ⟨k + 1, by omega, by go_num, R⟩
            case measure => simp [intOf]; omega
      · have hi' : ¬ (k : Int) < (DC.length : Int) := by omega
        have e : CC.take k = CC := List.take_of_length_le (by rw [← unhide LCD]; omega)
        have MTE := unhide MT CC BB [] [] cC cB (by simp)
        have e9 : AA ++ pairsE x CC BB ++ rowE x [] [] = elimL x R := by
          rw [unhide HEL]
          show _ ++ [] = _
          rw [List.append_nil]
        rw [e9] at MTE
        have e8 : AA ++ pairsE x (CC.take k) BB = elimL x R := by rw [e, unhide HEL]
        clear e e9
        generalize AA ++ pairsE x (CC.take k) BB = PP at *
        rw [← e8] at MTE EL
        have h := unhide hm
        have tb : Tab wr := fun j hj => h.g.cell (unhide TW j hj) (fun e => by
          have h1 := World.block_lt_of_cell? w _ (unhide HT j hj)
          have h2 := unhide NZ _ e.symm
          have h3 : w.heap.size + 1 < 0 := h2.1
          have h4 : 0 < w.heap.size := h1
          omega)
        have CS2 := hide (cso.implCnfSort _ n PP wr tb MTE h.l.sls)
        have bg := (unhide BGW).by h.g (gr.box_ne (unhide LA).1 gr.ty1 (unhide BGW))
        have rr := (unhide RW).by h.g (gr.box_ne (unhide LA).1 gr.ty1 (unhide RW))
        have GG := hide (h.up (unhide GWW) (fun k hk => by have := unhide NZ k hk; omega))
        have x0 := bg.c0
        have RR := hide rr
        clear h tb bg rr e8
        go_wp2_with fail
        refine (unhide CS2).mono ?_; rintro e w14 ⟨u, rfl, o14, g14⟩
        obtain ⟨ra, rc, rfl⟩ := o14.len
        have r14 := (unhide RR).kept g14
        have z0 := r14.c0
        have z1 := r14.c1
        have zf0 := r14.f 0
        have zf1 := r14.f 1
        have R14 := hide r14
        have O14 := hide (o14.sub (unhide GG).size (Nat.le_refl _))
        have G14 := hide (grown_trans (r := none) (unhide GG) g14)
        clear r14 o14 g14 CS2 x0
        go_wp2_with fail
        (try simp only [Exit.inBlock, Exit.then])
        refine bodyPost_ret (cf.ret_box2 rfl rfl (((unhide R14).set0 _).set1 _)) rfl ?_
        rw [unhide EL]
        refine ⟨_, rfl, ?_, cf.grown_set (cf.grown_set (unhide G14) (by omega)) (by omega)⟩
        rw [cf.size_set, cf.size_set]
        exact gr.ownS_set (gr.ownS_set (unhide O14) (unhide R14)) ((unhide R14).set0 _)
end Go.Proofs.YtibpnocpafppaaaDoor.el
