/- For all bytes the law FnForce returns true: impl.Force answers as spec.Force at what it draws; what is forced is true wherever the formula and what was taken are, they are nowhere when that comes to an empty clause, and behind it nothing more is forced; the library's table of places lies as its text lays it (tied). -/
import Derived.Test.YtloenjaonkdlaaaDoorCards
import Derived.Test.YtloenjaonkdlaaaDoorTie
import Derived.Test.YtloenjaonkdlaaaDoorJWat
import Derived.Test.YtloenjaonkdlaaaDoorMq
import Derived.Test.YtloenjaonkdlaaaDoorDm
import Derived.Test.YtloenjaonkdlaaaDoorCw
import Derived.WalkKit
import Derived.ProofKit
import Derived.OpenShut
import Derived.ShutString
import Derived.ChangeOld
import Derived.Below
import Derived.Deep.DeepHandedRow
import Derived.Lib.LaidTab
import Derived.Lib.TrailingZeros
import Derived.Stop.LaidErr
import Derived.LaidHandle
import Derived.LaidSub
namespace Go.Proofs.YtloenjaonkdlaaaDoor.fnForce
open Go.ChangeShapes Go.WideShapes Go.ChangeAt Go.RowKit
open Go.ChangeMaps (open_string shut_string)
set_option linter.unusedVariables false

theorem own : ownKnob Tryd.prog.godebug = none := by kernel_rfl
theorem laidOut : laidOutB Tryd.prog = true := by kernel_rfl

/-- what the walk is told of a slice of integers that came in -/
def IsRow (k : IntKind) (w : World) (a : Option Addr) (len cap : Nat) (zs : List Int) : Prop :=
  (a = none ∧ len = 0 ∧ cap = 0 ∧ zs = []) ∨
  ∃ x, a = some x ∧ len ≤ cap ∧ cap ≤ maxLen ∧ zs.length = cap ∧ (∀ i, i < zs.length → w.cell? (x.add i) = some (.int k (zs.getD i 0))) ∧ ∀ n ∈ zs, (Lit.int k n).wf = true

theorem gTab : Tryd.prog.globalNamed "math/bits.deBruijn64tab" = some 1 := by kernel_rfl
theorem gTabType : (Tryd.prog.globals[1]?).map (·.type) = some 174 := by kernel_rfl
theorem cellsTab : Tryd.prog.cellsOf 174 = 64 := by kernel_rfl
theorem cellsByte : Tryd.prog.cellsOf 5 = 1 := by kernel_rfl
/-- what the row's list gives: the table's cells hold its numbers -/
theorem table {W : World} (h : laidMetH Tryd.prog Rows.fnForceRow.laid W) : srt.Tab W := by
  have t : Lib.TabIs Tryd.prog W "math/bits.deBruijn64tab" .u8 (Lib.deBruijn64tab.map fun (n : Nat) => (n : Int)) :=
    Lib.tabIs_of_head (rest := []) gTab gTabType Tryd.underlying174 Tryd.underlying5 cellsByte cellsTab h
  intro j hj
  have c := t.cell gTab j (by rw [List.length_map]; exact hj)
  rw [c]
  congr 2
  rw [List.getD, List.getD, List.getElem?_map]
  cases Lib.deBruijn64tab[j]? <;> rfl

/-! ### the walk -/
set_option maxRecDepth 100000 in
set_option maxHeartbeats 8000000 in
theorem walk (a0 : Option Addr) (len0 cap0 : Nat) (z0 : List Int) (w : World) (w0 : IsRow .u8 w a0 len0 cap0 z0) (hT : srt.Tab w) :
    Calls Tryd.prog 4 #[.slice a0 len0 cap0] w fun e w' => e = .returned (.bool true) ∧ Below w.heap.size w w' := by
  have hB := draw.of_rowB w0
  have hm : len0 ≤ 9223372036854775807 := by
    rcases w0 with ⟨_, h, _, _⟩ | ⟨_, _, h1, h2, _⟩
    · omega
    · unfold maxLen at h2
      omega
  clear w0
  by_cases hbig : 1048576 < len0
  · have C := sl.hide (draw.big a0 len0 cap0 w hm)
    rw [decide_eq_true hbig] at C
    clear hT
    go_enter Tryd.func4, Tryd.ntmps4
    go_wp2_with fail
    refine (sl.unhide C).mono ?_; rintro e w' ⟨rfl, rfl⟩
    go_wp2_with fail
    go_ret
    exact ⟨rfl, Below.refl _ _⟩
  have C := sl.hide (draw.big a0 len0 cap0 w hm)
  rw [decide_eq_false hbig] at C
  have HB := sl.hide hB
  have TT := sl.hide hT
  have hlen : len0 ≤ 1048576 := by omega
  clear hB hT hbig
  go_enter Tryd.func4, Tryd.ntmps4
  go_wp2_with fail
  refine (sl.unhide C).mono ?_; rintro e w' ⟨rfl, hw⟩; have hw' := hw.symm; clear hw; subst hw'
  clear C hm
  go_wp2_with fail
  refine (dl.drawForce a0 len0 cap0 _ hlen (sl.unhide HB)).mono ?_; rintro e w1 ⟨n, v, u, L, LL, rfl, hL49, ⟨mid, ou1, o1, hmid⟩, bd, g1⟩
  obtain ⟨va, vc, rfl⟩ := o1.len
  obtain ⟨ca, cc, rfl⟩ : ∃ ca cc, u = .slice ca L.length cc := by
    obtain ⟨xa, xc, e, _⟩ := ou1.sl
    exact ⟨xa, xc, e⟩
  have ht0 : css.tot LL ≤ 6050 := dl.tot_bd bd
  have ht : css.tot LL ≤ 1048576 := Nat.le_trans ht0 (by decide)
  have hL : L.length ≤ 1048576 := by omega
  have gA := World.grownBy_alloc w1 (.cells #[.int .i64 n, .slice va LL.length vc] 34) none
  have F1 := sl.hide (cf.Box.new 34 w1 (.int .i64 n) (.slice va LL.length vc))
  have G1 := sl.hide (sl.grown_trans (r := none) g1 gA)
  have O1 := sl.hide (o1.kept gA)
  have U1 := sl.hide (ou1.kept gA)
  have hn25 : -1 ≤ n ∧ n ≤ 25 := bd.1
  clear g1 o1 ou1 gA bd hmid
  have z0 := (sl.unhide F1).c0
  have z1 := (sl.unhide F1).c1
  obtain ⟨W1, hW1⟩ : ∃ W1, W1 = w1.alloc (.cells #[.int .i64 n, .slice va LL.length vc] 34) := ⟨_, rfl⟩
  rw [← hW1] at F1 G1 O1 U1 z0 z1
  have lo := mq.len_or n LL L
  have hRl : (wm.forceB n LL L).1.length ≤ 98 := Nat.le_trans (sp.forceB_len n LL L) (by omega)
  have lw : ∀ m : Nat, n = (m : Int) → m ≤ 14 → ok.cnfB n LL = true → L.length ≤ (wm.forceB n LL L).1.length → mq.Laws m LL L (wm.forceB n LL L) := by
    intro m e hm hc h
    subst e
    exact mq.laws hm (mq.ok_of hc h)
  have ci := wm.implForce (.slice va LL.length vc) (.slice ca L.length cc) n LL L _ _ W1 ((sl.unhide TT).kept (sl.unhide G1)) ht hL (sl.unhide O1).sls (sl.unhide U1)
  have cs := fun (w' : World) (g : W1.grownBy w' none) => sp.specForce (.slice va LL.length vc) (.slice ca L.length cc) n LL L _ _ w' ht hL ((sl.unhide O1).kept g).sls ((sl.unhide U1).kept g)
  generalize wm.forceB n LL L = FF at *
  obtain ⟨R, b⟩ := FF
  dsimp only at lo hRl lw ci cs
  have LO := sl.hide lo
  have LW := sl.hide lw
  have CI := sl.hide ci
  have CS := sl.hide cs
  clear lo lw ci cs
  go_wp2_with fail
  rw [← hW1]
  refine (sl.unhide CI).mono ?_; rintro e w2 ⟨rv, rfl, m2⟩
  clear hW1 z0 z1 CI
  obtain ⟨ra, rc, rfl⟩ : ∃ xa xc, rv = .slice xa R.length xc := by
    obtain ⟨xa, xc, e, _⟩ := sl.Sl.of_own m2.1
    exact ⟨xa, xc, e⟩
  have R2 := sl.hide (sl.Own.of m2.1)
  have K2 := sl.hide m2.2
  have F2 := sl.hide ((sl.unhide F1).kept m2.2)
  clear m2
  have z0 := (sl.unhide F2).c0
  have z1 := (sl.unhide F2).c1
  go_wp2_with fail
  refine (sl.unhide CS w2 (sl.unhide K2)).mono ?_; rintro e w3 ⟨qv, rfl, m3⟩
  obtain ⟨qa, qc, rfl⟩ : ∃ xa xc, qv = .slice xa R.length xc := by
    obtain ⟨xa, xc, e, _⟩ := sl.Sl.of_own m3.1
    exact ⟨xa, xc, e⟩
  have Q3 := sl.hide (sl.Own.of m3.1)
  have R3 := sl.hide ((sl.unhide R2).kept m3.2)
  have K3 := sl.hide (sl.grown_trans (r := none) (sl.unhide K2) m3.2)
  clear m3 CS K2 R2 F2 z0 z1
  go_wp2_with fail
  refine (dcls.sameC _ _ R _ (by omega) (sl.unhide R3).sl (sl.unhide Q3).sl).mono ?_; rintro e w4 ⟨rfl, g4⟩
  have R4 := sl.hide ((sl.unhide R3).kept g4)
  have K4 := sl.grown_trans (r := none) (sl.unhide K3) g4
  have F4 := sl.hide ((sl.unhide F1).kept K4)
  have O4 := sl.hide ((sl.unhide O1).kept K4)
  have U4 := sl.hide ((sl.unhide U1).kept K4)
  have G4 := sl.hide (sl.grown_trans (r := none) (sl.unhide G1) K4)
  have T4 := sl.hide ((sl.unhide TT).kept (sl.grown_trans (r := none) (sl.unhide G1) K4))
  clear g4 K4 K3 R3 Q3 F1 O1 U1 G1 TT
  have z0 := (sl.unhide F4).c0
  have z1 := (sl.unhide F4).c1
  have cc' := ok.specCnfOk (.slice va LL.length vc) n LL w4 ht (sl.unhide O4).sls
  cases hc : ok.cnfB n LL
  · rw [hc] at cc'
    have CC := sl.hide cc'
    clear cc' hc LW O4 U4 T4
    by_cases hle : L.length ≤ R.length
    · have hle' : (L.length : Int) ≤ (R.length : Int) := by omega
      go_wp2_with fail
      refine (sl.unhide CC).mono ?_; rintro e w5 ⟨rfl, g5⟩
      have G5 := sl.hide (sl.grown_trans (r := none) (sl.unhide G4) g5)
      have y0 := ((sl.unhide F4).kept g5).c0
      clear g5 CC z0 z1
      go_wp2_with fail
      go_ret
      exact ⟨by simp, sl.below_of (sl.unhide G5)⟩
    · have hr0 := (sl.unhide LO).resolve_left hle
      have hle' : (0 : Int) < (L.length : Int) := by omega
      have hlq : ¬ (L.length : Int) ≤ 0 := by omega
      have h0 : R = [] := List.eq_nil_of_length_eq_zero hr0
      clear hle hr0 LO
      subst h0
      go_wp2_with fail
      refine (sl.unhide CC).mono ?_; rintro e w5 ⟨rfl, g5⟩
      have G5 := sl.hide (sl.grown_trans (r := none) (sl.unhide G4) g5)
      have y0 := ((sl.unhide F4).kept g5).c0
      clear g5 CC z0 z1
      go_wp2_with fail
      all_goals
        go_ret
        exact ⟨by simp, sl.below_of (sl.unhide G5)⟩
  rw [hc] at cc'
  have CC := sl.hide cc'
  have HC := sl.hide hc
  clear cc' hc
  by_cases h10 : n ≤ 10
  · have h10' : ¬ (10 : Int) < n := by omega
    by_cases hle : L.length ≤ R.length
    · have hle' : ¬ (R.length : Int) < (L.length : Int) := by omega
      have hn0 := (fm.cnf_facts (sl.unhide HC)).1
      have hLL120 := (fm.cnf_facts (sl.unhide HC)).2.2.1
      obtain ⟨m, rfl⟩ := Int.eq_ofNat_of_zero_le hn0
      have LA := sl.hide (sl.unhide LW m rfl (by omega) (sl.unhide HC) hle)
      clear LW LO HC hn0
      go_wp2_with fail
      refine (sl.unhide CC).mono ?_; rintro e w5 ⟨rfl, g5⟩
      have R5 := sl.hide ((sl.unhide R4).kept g5)
      have F5 := sl.hide ((sl.unhide F4).kept g5)
      have O5 := sl.hide ((sl.unhide O4).kept g5)
      have U5 := sl.hide ((sl.unhide U4).kept g5)
      have G5 := sl.hide (sl.grown_trans (r := none) (sl.unhide G4) g5)
      have T5 := sl.hide ((sl.unhide T4).kept g5)
      clear g5 R4 F4 O4 U4 G4 T4 z0 z1 CC
      have y0 := (sl.unhide F5).c0
      have y1 := (sl.unhide F5).c1
      have hF5 : w1.heap.size < w5.heap.size := (sl.unhide F5).lt
      have gA := World.grownBy_alloc w5 (.cells #[.int .i64 (m : Int), .slice va LL.length vc] 34) none
      have gB := World.grownBy_alloc (w5.alloc (.cells #[.int .i64 (m : Int), .slice va LL.length vc] 34)) (.cells #[] 24) none
      have OB := sl.hide (((sl.unhide O5).kept gA).kept gB)
      have nr := ni.nil_row (w5.alloc (.cells #[.int .i64 (m : Int), .slice va LL.length vc] 34))
      rw [World.size_alloc] at nr
      have NR := sl.hide (css.own_mono nr (Nat.le_succ _))
      have hsB : w5.heap.size ≤ ((w5.alloc (.cells #[.int .i64 (m : Int), .slice va LL.length vc] 34)).alloc (.cells #[] 24)).heap.size := (sl.grown_trans (r := none) gA gB).size
      have HSB := sl.hide hsB
      have hLL : LL.length ≤ 1048576 := Nat.le_trans (css.tot_len LL) ht
      clear gA gB nr hsB
      go_wp2_with (at_builtin; refine ni.appendC (sl.unhide NR) (sl.unhide OB) (sl.unhide HSB) hLL rfl _ _ rfl rfl rfl ?_)
      intro v6 w6 l6 g6
      obtain ⟨a6, c6, rfl⟩ := l6.len
      obtain ⟨⟨s0, s1⟩, m6⟩ := ni.midL_start g6 l6
      have M6 := sl.hide m6
      clear l6 g6 m6 NR OB HSB
      go_wp2_with fail
      generalize hb7 : w5.heap.size = b7 at M6 ⊢
      clear hb7
      go_loopw [10] (fun i wq => ∃ k : Nat, k ≤ L.length ∧ i = .int .i64 k ∧ Hid (ni.MidL w5 wq b7 (m : Int) (LL ++ mq.sing (L.take k)))) (fun i _ => L.length - (intOf i).toNat)
      case atStart => exact ⟨0, Nat.zero_le _, rfl, by rw [List.take_zero, show mq.sing [] = [] from rfl, List.append_nil]; exact M6⟩
      case round =>
        obtain ⟨k2, hk2, rfl, hm2⟩ := hrel
        clear M6 s0 s1
        have GQ := sl.hide (sl.unhide hm2).2.1
        by_cases hlt2 : k2 < L.length
        · have hi2 : (k2 : Int) < (L.length : Int) := by omega
          obtain ⟨a', cap', ea, ha⟩ := ((sl.unhide U5).kept (sl.unhide GQ)).sl
          simp only [Value.slice.injEq, true_and] at ea
          obtain ⟨rfl, rfl⟩ := ea
          rcases ha with h | ⟨bb, off, rfl, hb, hcb⟩
          · rw [h] at hlt2
            simp at hlt2
          · have c1 := hcb k2 hlt2
            have hst := mq.sing_step L k2 hlt2
            generalize L.getD k2 0 = x at *
            have HST : Hid (LL ++ mq.sing (L.take (k2 + 1)) = (LL ++ mq.sing (L.take k2)) ++ [[x]]) := by
              show _ = _
              rw [hst, List.append_assoc]
            have hMl : (LL ++ mq.sing (L.take k2)).length ≤ 1048576 := by
              rw [List.length_append, mq.sing_len, List.length_take]
              omega
            generalize LL ++ mq.sing (L.take k2) = M at *
            obtain ⟨q0, q1, na, nc, nb, nl⟩ := sl.unhide hm2
            have gI := World.grownBy_alloc wr (.cells #[.int .i64 x] 3) none
            have NL := sl.hide (nl.kept gI)
            have UI : Hid ((wr.alloc (.cells #[.int .i64 x] 3)).ownsRow 0 3 1 (.slice (some ⟨wr.heap.size, 0, none⟩) 1 1) [x].length (sl.ints [x])) := css.own_mono (World.ownsRow_lit wr #[.int .i64 x] 1 (Nat.le_refl _) (by decide) rfl) (Nat.zero_le _)
            have HS := sl.hide (fun (g' cap' : Nat) (w1 : World) h1 g1 => ni.MidL.step (u := .slice (some ⟨wr.heap.size, 0, none⟩) 1 1) (L := [x]) (g := g') (cap' := cap') (w1 := w1) q0 q1 nb nl gI h1 g1)
            have hlo := Nat.le_trans q1.size gI.size
            have HLO := sl.hide hlo
            have n1 := nb.c1
            have nlt := nb.lt
            clear q0 q1 nl gI hlo hcb hb hst hm2
            go_upto_region 15 with fail
            go_region_law
              (first
                | (refine ni.stepLd (sl.unhide NL) (sl.unhide UI) (sl.unhide HLO) hMl (by rfl) _ _ (by rfl) (by rfl) (by rw [World.size_alloc]; rfl) ?_; intro g8 c8 w8 h8 g8'; have R8 := sl.hide (sl.unhide HS g8 c8 w8 h8 g8'); have r0 := (sl.unhide R8).1.1; have r1 := (sl.unhide R8).1.2; clear h8 g8')
                | (refine ni.stepL (sl.unhide NL) (sl.unhide UI) (sl.unhide HLO) hMl (by rfl) _ _ (by rfl) (by rfl) (by rw [World.size_alloc]; rfl) ?_; intro g8 c8 w8 h8 g8'; have R8 := sl.hide (sl.unhide HS g8 c8 w8 h8 g8'); have r0 := (sl.unhide R8).1.1; have r1 := (sl.unhide R8).1.2; clear h8 g8'))
            all_goals
              go_wp2_with fail
              go_roundw
              case rel => exact ⟨k2 + 1, by omega, by go_num, by rw [sl.unhide HST]; exact (sl.unhide R8).2⟩
              case measure => simp [intOf]; omega
        · have hi2 : ¬ (k2 : Int) < (L.length : Int) := by omega
          have e : L.take k2 = L := List.take_of_length_le (by omega)
          rw [e] at hm2
          have hNl : (LL ++ mq.sing L).length = LL.length + L.length := by rw [List.length_append, mq.sing_len]
          have htN : css.tot (LL ++ mq.sing L) ≤ 1048576 := by rw [ni.tot_app, mq.sing_tot]; omega
          have imp := (sl.unhide LA).imp
          have non := (sl.unhide LA).none_
          rw [← hNl] at imp non
          have UN := sl.hide (sl.unhide LA).unit
          have PR := sl.hide (sl.unhide LA).pre
          obtain ⟨q0, q1, na, nc, nb, nl⟩ := sl.unhide hm2
          have NB := sl.hide nb
          have NL := sl.hide nl
          have GW := sl.hide (sl.grown_trans (r := none) (sl.unhide G5) (sl.unhide GQ))
          have FQ := sl.hide ((sl.unhide F5).kept (sl.unhide GQ))
          have OQ := sl.hide ((sl.unhide O5).kept (sl.unhide GQ))
          have UQ := sl.hide ((sl.unhide U5).kept (sl.unhide GQ))
          have RQ := sl.hide ((sl.unhide R5).kept (sl.unhide GQ))
          have TQ := sl.hide ((sl.unhide T5).kept (sl.unhide GQ))
          generalize LL ++ mq.sing L = NN at *
          have IMP := sl.hide imp
          have NON := sl.hide non
          have n1 := nb.c1
          clear e imp non hm2 nb nl q0 q1 GQ F5 O5 U5 R5 T5 G5 y0 y1 HB hNl LA
          by_cases h120 : NN.length ≤ 120
          · have h120' : ¬ (120 : Int) < (NN.length : Int) := by omega
            go_wp2_with fail
            generalize hwq : wr = wq at *
            clear hwq
            go_loopw [11] (fun i wr => ∃ k : Nat, k ≤ R.length ∧ i = .int .i64 k ∧ Hid (wq.grownBy wr none)) (fun i _ => R.length - (intOf i).toNat)
            case atStart => exact ⟨0, Nat.zero_le _, rfl, sl.grown_refl _⟩
            case round =>
              obtain ⟨k3, hk3, rfl, hg3⟩ := hrel
              by_cases hlt3 : k3 < R.length
              · have hi3 : (k3 : Int) < (R.length : Int) := by omega
                obtain ⟨a', cap', ea, ha⟩ := ((sl.unhide RQ).kept (sl.unhide hg3)).sl
                simp only [Value.slice.injEq, true_and] at ea
                obtain ⟨rfl, rfl⟩ := ea
                rcases ha with h | ⟨bb, off, rfl, hb, hcb⟩
                · rw [h] at hlt3
                  simp at hlt3
                · have c1 := hcb k3 hlt3
                  have hi := sl.unhide IMP h120 _ (mq.getD_mem hlt3)
                  generalize R.getD k3 0 = x at *
                  have gI := World.grownBy_alloc wr (.cells #[.int .i64 x] 3) none
                  have gD := sl.grown_trans (r := none) gI (cf.grown_drew _ none)
                  have ui : (wr.alloc (.cells #[.int .i64 x] 3)).ownsRow 0 3 1 (.slice (some ⟨wr.heap.size, 0, none⟩) 1 1) [x].length (sl.ints [x]) := css.own_mono (World.ownsRow_lit wr #[.int .i64 x] 1 (Nat.le_refl _) (by decide) rfl) (Nat.zero_le _)
                  have cx := ct.specImplies (.slice na NN.length nc) (.slice (some ⟨wr.heap.size, 0, none⟩) 1 1) (m : Int) NN [x] (wr.alloc (.cells #[.int .i64 x] 3)).drew htN (by simp) ((sl.unhide NL).kept (sl.grown_trans (r := none) (sl.unhide hg3) gD)).sls ((sl.Own.of ui).kept (cf.grown_drew _ none)).sl
                  rw [hi] at cx
                  have CX := sl.hide cx
                  have GD := sl.hide (sl.grown_trans (r := none) (sl.unhide hg3) gD)
                  have e0 := ((sl.unhide NB).kept (sl.unhide hg3)).c0
                  have e1 := ((sl.unhide NB).kept (sl.unhide hg3)).c1
                  have e2 := (((sl.unhide NB).kept (sl.unhide hg3)).kept gI).c0
                  have e3 := (((sl.unhide NB).kept (sl.unhide hg3)).kept gI).c1
                  clear cx hi gI gD ui hcb hb IMP NON UN PR NB NL FQ OQ UQ RQ TQ hg3 n1
                  go_wp2_with fail
                  go_region_with (go_at_call 28; refine (sl.unhide CX).mono ?_; rintro e w9 ⟨rfl, g9⟩; have G9 := sl.hide (sl.grown_trans (r := none) (sl.unhide GD) g9); clear g9 CX)
                  all_goals
                    go_wp2_with fail
                    go_roundw
                    case rel => exact ⟨k3 + 1, by omega, by go_num, G9⟩
                    case measure => simp [intOf]; omega
              · have hi3 : ¬ (k3 : Int) < (R.length : Int) := by omega
                obtain ⟨X, hX⟩ := sl.unhide PR
                have hX' : R = L ++ X := hX
                have pre := mq.sl_pre ((sl.unhide RQ).kept (sl.unhide hg3)).sl hX'
                have cu := wm.implUnit (.slice va LL.length vc) (.slice ra R.length rc) (m : Int) LL R wr ((sl.unhide TQ).kept (sl.unhide hg3)) ht (by omega) ((sl.unhide OQ).kept (sl.unhide hg3)).sls ((sl.unhide RQ).kept (sl.unhide hg3)).sl
                rw [sl.unhide UN] at cu
                try dsimp only at cu
                have non := sl.unhide NON h120
                try dsimp only at non
                have PRE := sl.hide pre
                have CU := sl.hide cu
                have U9 := sl.hide ((sl.unhide UQ).kept (sl.unhide hg3))
                have N9 := sl.hide ((sl.unhide NB).kept (sl.unhide hg3))
                have NL9 := sl.hide ((sl.unhide NL).kept (sl.unhide hg3))
                have G9 := sl.hide (sl.grown_trans (r := none) (sl.unhide GW) (sl.unhide hg3))
                have f0 := ((sl.unhide FQ).kept (sl.unhide hg3)).c0
                have f1 := ((sl.unhide FQ).kept (sl.unhide hg3)).c1
                have hway : (ra = none ∧ rc = 0 ∧ L.length = 0 ∧ R.length = 0) ∨ ∃ g, ra = some ⟨g, 0, none⟩ ∧ R.length ≤ rc := by
                  obtain ⟨_, h2⟩ := ((sl.unhide RQ).kept (sl.unhide hg3)).1
                  rcases h2 with ⟨e, h0⟩ | ⟨g, cap, cur, e, hgb, hhh, hn, hmm, hsc, htt⟩
                  · injection e with e1 e2 e3
                    refine .inl ⟨e1, e3, ?_, h0⟩
                    rw [hX', List.length_append] at h0
                    omega
                  · injection e with e1 e2 e3
                    exact .inr ⟨g, e1, by subst e3; omega⟩
                have HWAY := sl.hide hway
                clear hX hX' pre cu IMP NON UN PR NB NL FQ OQ UQ RQ TQ hg3 n1 hway GW
                have hrl : (L.length : Int) ≤ (R.length : Int) := by omega
                rcases sl.unhide HWAY with ⟨rfl, rfl, hl0, hr0⟩ | ⟨g, rfl, hrc⟩
                · have eL : L = [] := List.eq_nil_of_length_eq_zero hl0
                  have eR : R = [] := List.eq_nil_of_length_eq_zero hr0
                  clear hl0 hr0 HWAY hrl hle hle' hi3 hk3
                  subst eL
                  subst eR
                  have FB := sl.hide f0
                  go_wp2_with fail
                  refine (sl.unhide CU).mono ?_; rintro e wA ⟨rfl, gA⟩
                  have PA := sl.hide ((sl.unhide PRE).kept gA (.inl rfl))
                  have UA := sl.hide ((sl.unhide U9).kept gA)
                  have NA := sl.hide ((sl.unhide N9).kept gA)
                  have NLA := sl.hide ((sl.unhide NL9).kept gA)
                  have GA := sl.hide (sl.grown_trans (r := none) (sl.unhide G9) gA)
                  clear gA CU PRE U9 N9 NL9 G9 f0 f1 FB
                  have a0 := (sl.unhide NA).c0
                  have a1 := (sl.unhide NA).c1
                  cases b
                  · have cn := ct.specCountTrue (.slice na NN.length nc) (m : Int) NN wA htN (sl.unhide NLA).sls
                    rw [non rfl] at cn
                    have CN := sl.hide cn
                    clear cn non
                    go_wp2_with fail
                    refine (sl.unhide CN).mono ?_; rintro e wB ⟨rfl, gB⟩
                    have PB := sl.hide ((sl.unhide PA).kept gB (.inl rfl))
                    have UB := sl.hide ((sl.unhide UA).kept gB)
                    have GB := sl.hide (sl.grown_trans (r := none) (sl.unhide GA) gB)
                    clear gB CN PA UA GA NA NLA a0 a1
                    go_wp2_with fail
                    refine (dcls.sameC _ _ [] _ (by first | omega | simp) (sl.unhide PB) (sl.unhide UB).sl).mono ?_; rintro e wC ⟨rfl, gC⟩
                    have GC := sl.hide (sl.grown_trans (r := none) (sl.unhide GB) gC)
                    clear gC PB UB GB
                    go_wp2_with fail
                    go_ret
                    exact ⟨rfl, sl.below_of (sl.unhide GC)⟩
                  · clear non
                    go_wp2_with fail
                    refine (dcls.sameC _ _ [] _ (by first | omega | simp) (sl.unhide PA) (sl.unhide UA).sl).mono ?_; rintro e wC ⟨rfl, gC⟩
                    have GC := sl.hide (sl.grown_trans (r := none) (sl.unhide GA) gC)
                    clear gC PA UA GA NA NLA a0 a1
                    go_wp2_with fail
                    go_ret
                    exact ⟨rfl, sl.below_of (sl.unhide GC)⟩
                · have hb1 : (L.length : Int) ≤ (rc : Int) := by omega
                  clear HWAY
                  have FB := sl.hide f0
                  go_wp2_with fail
                  refine (sl.unhide CU).mono ?_; rintro e wA ⟨rfl, gA⟩
                  have PA := sl.hide ((sl.unhide PRE).kept gA (.inl rfl))
                  have UA := sl.hide ((sl.unhide U9).kept gA)
                  have NA := sl.hide ((sl.unhide N9).kept gA)
                  have NLA := sl.hide ((sl.unhide NL9).kept gA)
                  have GA := sl.hide (sl.grown_trans (r := none) (sl.unhide G9) gA)
                  clear gA CU PRE U9 N9 NL9 G9 f0 f1 FB
                  have a0 := (sl.unhide NA).c0
                  have a1 := (sl.unhide NA).c1
                  cases b
                  · have cn := ct.specCountTrue (.slice na NN.length nc) (m : Int) NN wA htN (sl.unhide NLA).sls
                    rw [non rfl] at cn
                    have CN := sl.hide cn
                    clear cn non
                    go_wp2_with fail
                    refine (sl.unhide CN).mono ?_; rintro e wB ⟨rfl, gB⟩
                    have PB := sl.hide ((sl.unhide PA).kept gB (.inl rfl))
                    have UB := sl.hide ((sl.unhide UA).kept gB)
                    have GB := sl.hide (sl.grown_trans (r := none) (sl.unhide GA) gB)
                    clear gB CN PA UA GA NA NLA a0 a1
                    go_wp2_with fail
                    refine (dcls.sameC _ _ L _ (by first | omega | simp) (sl.unhide PB) (sl.unhide UB).sl).mono ?_; rintro e wC ⟨rfl, gC⟩
                    have GC := sl.hide (sl.grown_trans (r := none) (sl.unhide GB) gC)
                    clear gC PB UB GB
                    go_wp2_with fail
                    go_ret
                    exact ⟨rfl, sl.below_of (sl.unhide GC)⟩
                  · clear non
                    go_wp2_with fail
                    refine (dcls.sameC _ _ L _ (by first | omega | simp) (sl.unhide PA) (sl.unhide UA).sl).mono ?_; rintro e wC ⟨rfl, gC⟩
                    have GC := sl.hide (sl.grown_trans (r := none) (sl.unhide GA) gC)
                    clear gC PA UA GA NA NLA a0 a1
                    go_wp2_with fail
                    go_ret
                    exact ⟨rfl, sl.below_of (sl.unhide GC)⟩
          · have h120' : (120 : Int) < (NN.length : Int) := by omega
            go_wp2_with fail
            go_ret
            exact ⟨rfl, sl.below_of (sl.unhide GW)⟩
    · have hr0 := (sl.unhide LO).resolve_left hle
      have hle' : (0 : Int) < (L.length : Int) := by omega
      have hlq : ¬ (L.length : Int) ≤ 0 := by omega
      have h0 : R = [] := List.eq_nil_of_length_eq_zero hr0
      clear hle hr0 LO
      subst h0
      clear HC LW O4 U4 T4
      go_wp2_with fail
      refine (sl.unhide CC).mono ?_; rintro e w5 ⟨rfl, g5⟩
      have G5 := sl.hide (sl.grown_trans (r := none) (sl.unhide G4) g5)
      have y0 := ((sl.unhide F4).kept g5).c0
      clear g5 CC z0 z1
      go_wp2_with fail
      all_goals
        go_ret
        exact ⟨by simp, sl.below_of (sl.unhide G5)⟩
  · have h10' : (10 : Int) < n := by omega
    clear HC LW O4 U4 T4
    by_cases hle : L.length ≤ R.length
    · have hle' : (L.length : Int) ≤ (R.length : Int) := by omega
      go_wp2_with fail
      refine (sl.unhide CC).mono ?_; rintro e w5 ⟨rfl, g5⟩
      have G5 := sl.hide (sl.grown_trans (r := none) (sl.unhide G4) g5)
      have y0 := ((sl.unhide F4).kept g5).c0
      clear g5 CC z0 z1
      go_wp2_with fail
      go_ret
      exact ⟨by simp, sl.below_of (sl.unhide G5)⟩
    · have hr0 := (sl.unhide LO).resolve_left hle
      have hle' : (0 : Int) < (L.length : Int) := by omega
      have hlq : ¬ (L.length : Int) ≤ 0 := by omega
      have h0 : R = [] := List.eq_nil_of_length_eq_zero hr0
      clear hle hr0 LO
      subst h0
      go_wp2_with fail
      refine (sl.unhide CC).mono ?_; rintro e w5 ⟨rfl, g5⟩
      have G5 := sl.hide (sl.grown_trans (r := none) (sl.unhide G4) g5)
      have y0 := ((sl.unhide F4).kept g5).c0
      clear g5 CC z0 z1
      go_wp2_with fail
      all_goals
        go_ret
        exact ⟨by simp, sl.below_of (sl.unhide G5)⟩

/-! ### the row's step (the guide's own frame) -/
set_option maxRecDepth 100000 in
theorem contract (H : Type) (enc : TypeId × Value → H) (W : World) (base : Nat) (args : Array Value) (ds gs : List (DataW H)) (before : List MemPlace)
    (hval : ∀ (j : Nat) t v, Tryd.f4.params[j]? = some t → args[j]? = some v → Value.okWide Tryd.prog W .any base t v)
    (hW : DataW.Whole enc Tryd.prog Tryd.f4.params.toList Rows.fnForceSpec.vars false W args.toList ds gs before) (hL : laidMetH Tryd.prog Rows.fnForceRow.laid W) :
    Calls Tryd.prog 4 args W fun e W' => ∃ v, e = .returned v ∧ Rows.fnForceSpec.post enc Tryd.prog Tryd.f4 false true false false W args v W' := by
  have hW' := hW
  obtain ⟨p, q, hA0, hV, rfl, hfz, hnd⟩ := hW
  have hA : DataW.TrodAll enc Tryd.prog W 0 (fun _ => true) true Tryd.f4.params.toList args.toList ds p := hA0
  rw [Tryd.params4] at hA hval
  obtain ⟨v0, vs0, d0, ds0, p0, q0, hargs, rfl, rfl, h0, r0⟩ := trodAll_cons hA
  obtain ⟨rfl, rfl, rfl⟩ := trodAll_nil r0
  obtain rfl : args = #[v0] := by cases args; simp_all
  obtain ⟨rfl, rfl⟩ := trodVars_none hV
  obtain ⟨a0, len0, cap0, rfl⟩ := okWide_slice Tryd.underlying22 (hval 0 22 v0 rfl rfl)
  have k0 := h0
  have lt0 : ∀ x ∈ p0, x.block < W.heap.size := by obtain ⟨m, hm⟩ := k0; exact DataW.trod_lt m _ _ _ hm
  obtain ⟨z0, w0⟩ : ∃ zs, IsRow .u8 W a0 len0 cap0 zs := by
    obtain ⟨fuel, hf⟩ := h0
    rcases open_ints Tryd.underlying22 Tryd.underlying5 (by kernel_rfl) hf with ⟨hcs, _⟩ | ⟨x, l, c, zs, hcs, _, hl, hm, hz, _, hcell, hwz⟩
    · simp [Value.cells] at hcs
      obtain ⟨rfl, rfl, rfl⟩ := hcs
      exact ⟨[], .inl ⟨rfl, rfl, rfl, rfl⟩⟩
    · simp [Value.cells] at hcs
      obtain ⟨rfl, rfl, rfl⟩ := hcs
      exact ⟨zs, .inr ⟨_, rfl, hl, hm, by simpa using hz, hcell, hwz⟩⟩
  clear hA0
  refine (walk a0 len0 cap0 z0 W w0 (table hL)).mono fun e W' ⟨he, bel⟩ => ?_
  subst he
  exact ⟨_, rfl, _, _, _, [], _, [], hW', trodAll_mk1 (shut_bool Tryd.underlying4 _), (trodAll_cons_mk (Below.trod laidOut (by kernel_rfl) (of_decide_eq_true (by kernel_rfl)) k0 bel lt0) trodAll_mk0), rfl, bel.frame _, fun h => by cases h⟩

set_option maxRecDepth 100000 in
theorem lifted (os : Os) (started : os.Started) (H : Type) (enc : TypeId × Value → H) (F : Stop.Interp) :
    ReturnsInHanded {} Tryd.checked os 4 .any ((OpenSpec.ofChange Rows.fnForceSpec).preRow enc Tryd.prog Tryd.f4 Rows.fnForceRow.domain false Rows.fnForceRow.laid) (((OpenSpec.ofChange Rows.fnForceSpec).at F).post enc Tryd.prog Tryd.f4 false true false false) := by
  refine returnsInHanded_of_row (C := Tryd.checked) (s := OpenSpec.ofChange Rows.fnForceSpec) own started (by kernel_rfl) Tryd.func4
    (witness_row_at (enc := enc) (C := Tryd.checked) false ({ World.holding Tryd.prog os ⟨#[], #[], []⟩ with heap := (World.holding Tryd.prog os ⟨#[], #[], []⟩).heap.modify 1 fun | .cells _ t frozen => .cells (Lib.deBruijn64tab.map fun (n : Nat) => Value.int .u8 n).toArray t frozen | o => o } : World) #[.slice none 0 0] rfl (by kernel_rfl) (by kernel_rfl) (by kernel_rfl)
      (OpenSpec.preRow_of_cond 8 (x := ([.nil], [], [])) (by kernel_rfl) (by kernel_rfl) (fun k hk => by cases hk) (by kernel_rfl) (laidMet_of_run' 8 (by kernel_rfl) (by kernel_rfl)))) ?_
  intro W base args ds gs before hval hW _ _ _ hL _ _
  exact contract H enc W base args ds gs before hval hW hL

theorem said : Rows.FnForceSaid :=
  OpenClaim.holds_of_cond 4 Tryd.f4 rfl rfl rfl rfl rfl rfl rfl ⟨rfl, rfl, rfl, rfl, rfl⟩ rfl rfl rfl rfl rfl (by kernel_rfl) Tryd.func4 (by kernel_rfl)
    (of_decide_eq_true (by kernel_rfl)) (by unfold Func.isWrapper; first | (rw [if_pos (by decide +kernel)]; kernel_rfl) | (rw [if_neg (by decide +kernel)]; exact ⟨rfl, rfl⟩))
    (fun os started H enc _ F => by rw [OpenClaim.pre_eq_preRow]; exact lifted os started H enc F)

theorem plain (f : FuncId) (fn : Func) (hf : Tryd.pinned.checked.prog.funcNamed "loop.example/g00123/laws.FnForce" = some f) (hfn : Tryd.pinned.checked.prog.funcs[f]? = some fn) :
    true = Tryd.pinned.checked.prog.looks [] ∧ ∀ (j : Nat) t, fn.params[j]? = some t → Tryd.pinned.checked.prog.wantsStandIn t = false := by
  obtain rfl : f = 4 := Option.some.inj ((show Tryd.prog.funcNamed "loop.example/g00123/laws.FnForce" = some 4 by kernel_rfl).symm.trans hf) |>.symm
  obtain rfl : fn = Tryd.f4 := (Option.some.inj (Tryd.func4.symm.trans hfn)).symm
  refine ⟨by kernel_rfl, fun j t ht => ?_⟩
  rw [Tryd.params4] at ht
  obtain rfl : t = 22 := by simpa using Array.mem_of_getElem? ht
  exact (show Tryd.prog.wantsStandIn 22 = false by kernel_rfl)

/-- the statement: the row's tied card -/
theorem proved : Rows.FnForceCardSaid :=
  Claim7.holds_tied_plain_at .later [] _ _ _ _ said (fun _ h => by cases h) (by kernel_rfl) (fun _ h => by cases h) fnForce_row_tie rfl ⟨rfl, rfl⟩ (by kernel_rfl) rfl plain (by kernel_rfl)
#print axioms proved
end Go.Proofs.YtloenjaonkdlaaaDoor.fnForce
