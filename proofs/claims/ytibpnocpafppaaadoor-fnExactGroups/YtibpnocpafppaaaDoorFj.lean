/- groupsOf of the program: the walk. -/
import Derived.Test.YtibpnocpafppaaaDoorFi
namespace Go.Proofs.YtibpnocpafppaaaDoor.fi
open Go.ChangeShapes Go.WideShapes Go.ChangeAt Go.RowKit
open Go.Proofs.YtibpnocpafppaaaDoor.lits (okB varI)
open Go.Proofs.YtibpnocpafppaaaDoor.sl (Sl Own ints hide unhide grown_refl grown_trans below_of of_below)
open Go.Proofs.YtibpnocpafppaaaDoor.css (Sls tot)
open Go.Proofs.YtibpnocpafppaaaDoor.cf (Box)
open Go.Proofs.YtibpnocpafppaaaDoor.ok (cnfB)
open Go.Proofs.YtibpnocpafppaaaDoor.bset (withN)
open Go.Proofs.YtibpnocpafppaaaDoor.srt (srt fstI Tab)
open Go.Proofs.YtibpnocpafppaaaDoor.fg
open Go.Proofs.YtibpnocpafppaaaDoor.fh
set_option linter.unusedVariables false
theorem okB_nat {j : Nat} (h1 : 1 ≤ j) (h2 : j ≤ 24) : okB (j : Int) = true := lits.okB_iff.2 ⟨by omega, by omega, by omega⟩
theorem grown_any (w : World) (r : Option Nat) : w.grownBy w r := ⟨rfl, rfl, rfl, Nat.le_refl _, fun _ _ _ => rfl⟩
theorem grown_two {a b c : World} {r : Option Nat} (h : a.grownBy b r) (k : b.grownBy c r) : a.grownBy c r :=
  ⟨k.os.trans h.os, k.tape.trans h.tape, k.output.trans h.output, Nat.le_trans h.size k.size, fun i hi hr => (k.block i (Nat.lt_of_lt_of_le hi h.size) hr).trans (h.block i hi hr)⟩
set_option maxRecDepth 10000 in
set_option maxHeartbeats 16000000 in
theorem groupsOf (v : Value) (n : Nat) (LL : List (List Int)) (w : World) (hT : Tab w) (hn : tot LL ≤ 1048576) (hB : cnfB n LL = true) (hv : Sls w v LL) :
    Calls Tryd.prog 88 #[.agg #[.int .i64 (n : Int), v]] w fun e w' => e = .returned (.map (some (w.heap.size + 1))) ∧ ∃ m, St w w' n v m (allF (lab LL LL.length) n) := by
  obtain ⟨n24, hLL, HI⟩ := in_bd hB
  obtain ⟨a, cap, e0, ha⟩ := hv
  subst e0
  obtain ⟨W1, hW1⟩ : ∃ W1, W1 = w.alloc (.cells #[.int .i64 (n : Int), .slice a LL.length cap] 26) := ⟨_, rfl⟩
  have g1 : w.grownBy W1 none := by rw [hW1]; exact World.grownBy_alloc _ _ _
  have s1 : W1.heap.size = w.heap.size + 1 := by rw [hW1, World.size_alloc]
  have B1 : Box 26 W1 w.heap.size (.int .i64 (n : Int)) (.slice a LL.length cap) := by rw [hW1]; exact Box.new _ _ _ _
  obtain ⟨W2, hW2⟩ : ∃ W2, W2 = W1.alloc (.map #[] 0) := ⟨_, rfl⟩
  have g2 : W1.grownBy W2 none := by rw [hW2]; exact World.grownBy_alloc _ _ _
  have M2 : MapI W2 (w.heap.size + 1) 0 (preF 1 n) := by
    have := MapI.made W1
    rw [s1, ← hW2] at this
    exact this.cong (fun u _ _ => pre_zero n u)
  have S2 : Hid (St w W2 (n : Int) (.slice a LL.length cap) 0 (preF 1 n)) := ⟨grown_trans (r := none) g1 g2, B1.kept g2, M2⟩
  have b0 := B1.c0
  have HS1 := hide s1
  have HA := hide ha
  have HT := hide hT
  have HIH := hide HI
  have hmm : ∀ (x : Int) (w : World), (Instr.makeMap 89 (some (.int .i64 x))).run Tryd.prog w = .ok (.map (some w.heap.size)) (w.alloc (.map #[] 0)) := fun x w => by
    simp [Instr.makeMap, run_underlying Tryd.underlying89, asInt, asIntOf, Result.andThen, go_sem]
  clear g1 s1 B1 g2 M2 ha hT HI hB
  go_enter Tryd.func88, Tryd.ntmps88
  go_wp2_with fail
  rw [← hW1]
  rw [← hW2]
  clear hW1 hW2 b0 hmm
  go_loopw [4] (fun i wr => ∃ j m : Nat, 1 ≤ j ∧ j ≤ n + 1 ∧ m ≤ j ∧ i = .int .i64 (j : Int) ∧ Hid (St w wr (n : Int) (.slice a LL.length cap) m (preF j n))) (fun i _ => n + 1 - (intOf i).toNat)
  case atStart => exact ⟨1, 0, Nat.le_refl _, by omega, by omega, rfl, S2⟩
  case round =>
    obtain ⟨j, m, h1, h2, h3, rfl, hs⟩ := hrel
    clear S2
    have x0 := (unhide hs).bx.c0
    by_cases hlt : j ≤ n
    · have hi' : (j : Int) ≤ (n : Int) := by omega
      have CW := hide (bset.withC 0 (j : Int) wr (by decide) (okB_nat h1 (by omega)))
      have wl := bset.withN_lt (s := 0) (x := (j : Int)) (by decide) (okB_nat h1 (by omega))
      have PS := hide (fun u => pre_step (j := j) (n := n) h1 hlt u)
      have wr8 : IntKind.i8.wrap (j : Int) = (j : Int) := by
        have key : ∀ q : Fin 25, IntKind.i8.wrap (q.val : Int) = (q.val : Int) := by decide
        exact key ⟨j, by omega⟩
      generalize withN 0 (j : Int) = S at *
      go_wp2_with fail
      refine (unhide CW).mono ?_; rintro e w2 ⟨rfl, hw⟩; have hw' := hw.symm; clear hw; subst hw'
      go_wp2_with (first | (at_mapUpdate; refine store_law _ rfl _ _ _ rfl (w.heap.size + 1) m (preF j n) (j : Int) S ⟨by omega, by omega⟩ wl (by unfold maxLen; omega) rfl (unhide hs).mp rfl rfl ?_) | go_in)
      intro w3 m3 g3
      have HP : Hid (St w w3 (n : Int) (.slice a LL.length cap) (m + 1) (preF (j + 1) n)) := ((unhide hs).put g3 m3).cong (fun u _ _ => unhide PS u)
      have y0 := (unhide HP).bx.c0
      clear m3 g3 x0
      go_wp2_with fail
      go_roundw
      case rel => exact ⟨j + 1, m + 1, by omega, by omega, by omega, by go_num, HP⟩
      case measure => simp [intOf]; omega
    · have hi' : ¬ (j : Int) ≤ (n : Int) := by omega
      have ej : j = n + 1 := by omega
      have S1 : Hid (St w wr (n : Int) (.slice a LL.length cap) m (allF id n)) := by
        rw [ej] at hs
        exact (unhide hs).cong (fun u _ _ => pre_end n u)
      have x1 := (unhide hs).bx.c1
      clear hs
      go_wp2_with fail
      clear x0 x1
      go_loopw [29] (fun i wx => ∃ k m2 : Nat, k ≤ LL.length ∧ m2 ≤ 25 + 24 * k ∧ i = .int .i64 (k : Int) ∧ Hid (St w wx (n : Int) (.slice a LL.length cap) m2 (allF (lab LL k) n))) (fun i _ => LL.length - (intOf i).toNat)
      case atStart => exact ⟨0, m, Nat.zero_le _, by omega, rfl, S1⟩
      case round =>
        obtain ⟨k, m2, hk, hm2, rfl, hs⟩ := hrel
        clear S1
        by_cases hkl : k < LL.length
        · have hk' : (k : Int) < (LL.length : Int) := by omega
          rcases unhide HA with h | ⟨b, off, rfl, hb, hcb⟩
          · rw [h] at hkl
            simp at hkl
          · obtain ⟨u, hu, hsl⟩ := hcb k hkl
            have gk := (unhide hs).g
            have c1 := gk.cell hu (fun e => by cases e)
            obtain ⟨hC48, HI'⟩ := unhide HIH k hkl
            have LSx : ∀ y, allF (oT (lab LL k) (LL.getD k []) (LL.getD k []).length) n y = allF (lab LL (k + 1)) n y := fun _ => rfl
            obtain ⟨ua, uc, eu, hua⟩ := hsl.kept gk (.inl rfl)
            subst eu
            have LS := hide LSx
            have HUA := hide hua
            have HII := hide HI'
            have TK := hide ((unhide HT).kept gk)
            clear hcb HA hu hsl gk LSx hua HI' HIH HT
            generalize LL.getD k [] = C at *
            generalize lab LL k = o at *
            have tz : wd (tch o C 0) n = 0 := wd_none n
            have TZ := hide tz
            clear tz
            go_wp2_with fail
            go_loop [7, 35] (fun s i => ∃ p : Nat, p ≤ C.length ∧ i = .int .i64 (p : Int) ∧ s = .int .u64 ((wd (tch o C p) n : Nat) : Int)) (fun _ i => C.length - (intOf i).toNat)
            case atStart => exact ⟨0, Nat.zero_le _, rfl, by rw [unhide TZ]; rfl⟩
            case round =>
              obtain ⟨p, hp, rfl, rfl⟩ := hrel
              by_cases hpl : p < C.length
              · rcases unhide HUA with h | ⟨b2, off2, rfl, hb2, hcb2⟩
                · rw [h] at hpl
                  simp at hpl
                · have c2 := hcb2 p hpl
                  have hp' : (p : Int) < (C.length : Int) := by omega
                  obtain ⟨q0, q1, q2, q3⟩ := unhide HII p hpl
                  have LV0 := fun w => lits.implLitVar (C.getD p 0) w
                  rw [q1] at LV0
                  have LV := hide LV0
                  have ml := all_at (o := o) q2 q3
                  have eo := srt.orN_eq (wd (tch o C p) n) (wdo o n (vn C p)) (wd_lt _ n24) (wd_lt _ n24)
                  rw [wd_step o C n p, ← ml] at eo
                  obtain ⟨J2, hJ2⟩ : ∃ J2, J2 = wd (tch o C (p + 1)) n := ⟨_, rfl⟩
                  rw [← hJ2] at eo
                  have HJ := hide hJ2
                  have MP := hide (unhide hs).mp
                  clear hJ2 LV0 ml q0 q1 hcb2
                  generalize wd (tch o C p) n = J at *
                  generalize vn C p = q at *
                  generalize C.getD p 0 = x at *
                  go_wp2_with (first | (go_at_call 134; refine (unhide LV _).mono ?_; rintro e w' ⟨rfl, rfl⟩) | (at_lookup; refine look_law _ rfl _ _ rfl (w.heap.size + 1) _ (allF o n) (q : Int) ⟨by omega, by omega⟩ rfl (unhide MP) rfl ?_) | go_in)
                  go_round
                  case rel => exact ⟨p + 1, by omega, by go_num, by rw [← unhide HJ]⟩
                  case measure => simp [intOf]; omega
              · have hp' : ¬ (p : Int) < (C.length : Int) := by omega
                have ep : p = C.length := by omega
                subst ep
                have LC0 := srt.list (wd (tch o C C.length) n) wr (unhide TK) (wd_lt _ n24)
                rw [wd_list _ n24] at LC0
                have LC := hide LC0
                have ML := cl_len (tch o C C.length) n
                have MM := hide (fun y h => (cl_mem (tch o C C.length) y n).1 h)
                have JL := wd_lt (tch o C C.length) n24
                have ME := hide (fun y => mid_end o C n y)
                have MZ := hide (fun y => mid_zero o n (cl (tch o C C.length) n) (wd (tch o C C.length) n) y)
                have MS := hide (fun p (h : p < (cl (tch o C C.length) n).length) y => mid_step o n (cl (tch o C C.length) n) (wd (tch o C C.length) n) p h y)
                clear LC0 HUA HII TZ
                generalize wd (tch o C C.length) n = J at *
                generalize cl (tch o C C.length) n = M at *
                go_wp2_with fail
                refine (unhide LC).mono ?_; rintro e w5 ⟨u5, rfl, o5, g5⟩
                have S5 : Hid (St w w5 (n : Int) (.slice (some ⟨b, off, none⟩) LL.length cap) m2 (midF o n M J 0)) := ((unhide hs).kept g5).cong (fun y _ _ => unhide MZ y)
                have nb0 : u5.ownBlock ≠ some (w.heap.size + 1) := by
                  intro e
                  have h1 := (o5.lt _ e).1
                  have h2 := (unhide hs).mp.lt
                  omega
                have s5 := Sl.of_own o5
                obtain ⟨a5, c5, eu5, _⟩ := id s5
                subst eu5
                have HS5 := hide s5
                have NB := hide nb0
                clear o5 g5 LC s5 nb0 hs TK
                go_wp2_with fail
                go_loopw [49] (fun i wy => ∃ p m3 : Nat, p ≤ M.length ∧ m3 ≤ 25 + 24 * k + p ∧ i = .int .i64 (p : Int) ∧ Hid (w5.grownBy wy (some (w.heap.size + 1))) ∧ Hid (St w wy (n : Int) (.slice (some ⟨b, off, none⟩) LL.length cap) m3 (midF o n M J p))) (fun i _ => M.length - (intOf i).toNat)
                case atStart => exact ⟨0, m2, Nat.zero_le _, by omega, rfl, grown_any _ _, S5⟩
                case round =>
                  obtain ⟨p, m3, hp3, hm3, rfl, hg3, hs⟩ := hrel
                  clear S5 c1
                  by_cases hpl3 : p < M.length
                  · have hp3' : (p : Int) < (M.length : Int) := by omega
                    obtain ⟨a6, c6, e6, hu6⟩ := (unhide HS5).kept (unhide hg3) (.inr (unhide NB))
                    cases e6
                    rcases hu6 with h | ⟨b6, off6, rfl, hb6, hcb6⟩
                    · rw [h] at hpl3
                      simp at hpl3
                    · have c3 := hcb6 p hpl3
                      obtain ⟨y, y1, y2, _, ey⟩ := unhide MM (M.getD p 0) (getD_in hpl3)
                      have MS' := hide (fun z => unhide MS p hpl3 z)
                      rw [ey] at c3 MS'
                      clear hcb6 ey
                      go_wp2_with (first | (at_mapUpdate; refine store_law _ rfl _ _ _ rfl (w.heap.size + 1) m3 (midF o n M J p) (y : Int) J ⟨by omega, by omega⟩ JL (by unfold maxLen; omega) rfl (unhide hs).mp rfl rfl ?_) | go_in)
                      intro w6 m6 g6
                      have HP : Hid (St w w6 (n : Int) (.slice (some ⟨b, off, none⟩) LL.length cap) (m3 + 1) (midF o n M J (p + 1))) := ((unhide hs).put g6 m6).cong (fun u _ _ => unhide MS' u)
                      have HG : Hid (w5.grownBy w6 (some (w.heap.size + 1))) := grown_two (unhide hg3) g6
                      clear m6 g6 c3
                      go_wp2_with fail
                      go_roundw
                      case rel => exact ⟨p + 1, m3 + 1, by omega, by omega, by go_num, HG, HP⟩
                      case measure => simp [intOf]; omega
                  · have hp3' : ¬ (p : Int) < (M.length : Int) := by omega
                    have ep : p = M.length := by omega
                    subst ep
                    have HP : Hid (St w wr (n : Int) (.slice (some ⟨b, off, none⟩) LL.length cap) m3 (allF (lab LL (k + 1)) n)) := (unhide hs).cong (fun u _ _ => (unhide ME u).trans (unhide LS u))
                    clear hs HS5
                    go_wp2_with fail
                    go_roundw
                    case rel => exact ⟨k + 1, m3, by omega, by omega, by go_num, HP⟩
                    case measure => simp [intOf]; omega
        · have hk' : ¬ (k : Int) < (LL.length : Int) := by omega
          have ek : k = LL.length := by omega
          rw [ek] at hs
          clear HA HIH HT
          go_wp2_with fail
          go_ret
          exact ⟨rfl, m2, unhide hs⟩
end Go.Proofs.YtibpnocpafppaaaDoor.fi
