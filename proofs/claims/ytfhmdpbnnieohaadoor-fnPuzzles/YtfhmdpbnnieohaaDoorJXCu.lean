/- What the program's CountTrue answers at every formula that holds at most 2^20 values; no other condition. -/
import Derived.Test.YtfhmdpbnnieohaaDoorJXIt
namespace Go.Proofs.YtfhmdpbnnieohaaDoor.cu
open Go.ChangeShapes Go.WideShapes Go.ChangeAt Go.RowKit Go.Shelf
open sl (Sl Own ints hide unhide ret_int ret_bool grown_refl grown_trans grown_drewN below_of of_below)
open css (Sls tot)
open cf (Box)
open ok (cnfB clB)
open tr (cnfT clT)
open cnt (cntR le ev sp)
open at_ (at_)
open bset (setOf)
open su (MadeU words meets)
open ct (countI countN)
set_option linter.unusedVariables false
attribute [local go_sem] Oper.semAt_some
def cntL (g : Nat → Bool) (l : List Nat) : Nat := (l.filter g).length
theorem cntL_snoc (g : Nat → Bool) (l : List Nat) (x : Nat) : cntL g (l ++ [x]) = cntL g l + (if g x then 1 else 0) := by
 unfold cntL
 rw [List.filter_append, List.length_append]
 cases h : g x <;> simp [h]
theorem cntL_le (g : Nat → Bool) (l : List Nat) : cntL g l ≤ l.length := List.length_filter_le _ _
theorem form {w w1 : World} {v : Value} {S : List Nat} (h : MadeU w w1 v S) : ∃ a c, v = .slice a S.length c := by
 obtain ⟨⟨_, h2⟩, _⟩ := h
 rcases h2 with ⟨rfl, h0⟩ | ⟨g, cap, cur, rfl, _⟩
 ·exact ⟨none, 0, by rw [h0]⟩
 ·exact ⟨_, cap, rfl⟩
theorem grow0 (a : World) (r : Option Nat) : a.grownBy a r := ⟨rfl, rfl, rfl, Nat.le_refl _, fun _ _ _ => rfl⟩
theorem grow1 {a b c : World} {r : Nat} (h : a.grownBy b none) (k : b.grownBy c (some r)) (hr : a.heap.size ≤ r) : a.grownBy c none :=
 ⟨k.os.trans h.os, k.tape.trans h.tape, k.output.trans h.output, Nat.le_trans h.size k.size, fun i hi _ => (k.block i (Nat.lt_of_lt_of_le hi h.size) (fun e => by cases e; omega)).trans (h.block i hi (fun e => by cases e))⟩
theorem grow2 {a b c : World} {r : Nat} {row : Option Nat} (h : a.grownBy b (some r)) (k : b.grownBy c row) (hr : ∀ r', row = some r' → a.heap.size ≤ r' ∨ r' = r) : a.grownBy c (some r) :=
 ⟨k.os.trans h.os, k.tape.trans h.tape, k.output.trans h.output, Nat.le_trans h.size k.size, fun i hi hn => (k.block i (Nat.lt_of_lt_of_le hi h.size) (fun e => by
  rcases hr i e.symm with h' | h'
  ·omega
  ·exact hn (by rw [h']))).trans (h.block i hi hn)⟩
set_option maxRecDepth 100000 in
set_option maxHeartbeats 4000000 in
theorem implCountTrue (v : Value) (n : Int) (LL : List (List Int)) (w : World) (hn : tot LL ≤ 1048576) (hv : Sls w v LL) :
  Calls Tryd.prog 14 #[.agg #[.int .i64 n, v]] w fun e w' => e = .returned (.int .i64 (countI n LL)) ∧ w.grownBy w' none := by
 have g0 := World.grownBy_alloc w (.cells #[.int .i64 n, v] 27) none
 have cc := ok.implCnfOk v n LL _ hn (hv.kept g0)
 have F0 := hide (Box.new 27 w (.int .i64 n) v)
 have G0 := hide g0
 have HV := hide hv
 clear hv g0
 refine (callsIn_wide (n := 3)).1 ?_
 refine callsIn_of_wp_marks Tryd.func14 rfl trivial ?_ rfl
 simp only [Tryd.ntmps14, List.size_toArray, List.length_cons, List.length_nil, Nat.reduceAdd, Nat.reduceSub, Array.replicate_succ, Array.replicate_zero, List.push_toArray, List.append_toArray, List.nil_append, List.cons_append]
 cases hb : cnfB n LL
 ·rw [hb] at cc
  have CC := hide cc
  have E := hide (show countI n LL = -1 by unfold ct.countI; rw [hb]; rfl)
  clear cc hb HV
  gi_wp2_with (refine ⟨trivial, ?_⟩; gi_at_call 21; refine (callsIn_wide.2 (unhide CC)).mono ?_; rintro e w2 ⟨rfl, g2⟩; have G2 := hide (grown_trans (r := none) (unhide G0) g2); have x0 := ((unhide F0).kept g2).c0; clear g2)
  refine ⟨_, results_tmp rfl _ _ _, ?_⟩
  exact ⟨ret_int (unhide E).symm, unhide G2⟩
 rw [hb] at cc
 have CC := hide cc
 have hn0 : 0 ≤ n ∧ LL.all (clB n) = true := by
  unfold ok.cnfB at hb
  simp only [Bool.and_eq_true, decide_eq_true_iff] at hb
  exact ⟨hb.1.1.1, hb.2⟩
 by_cases h14 : n ≤ 14
 ·obtain ⟨m, rfl⟩ := Int.eq_ofNat_of_zero_le hn0.1
  have hm : m ≤ 14 := by omega
  have hall := hide hn0.2
  have E := hide (show countI (m : Int) LL = (countN m LL : Int) by unfold ct.countI; rw [hb, decide_eq_true h14]; rfl)
  have h14' : ¬ (14 : Int) < (m : Int) := by omega
  have hp := ct.pow_bd hm
  clear cc hb h14 hn0
  gi_wp2_with (refine ⟨trivial, ?_⟩; gi_at_call 21; refine (callsIn_wide.2 (unhide CC)).mono ?_; rintro e w2 ⟨rfl, g2⟩; have G2 := hide (grown_trans (r := none) (unhide G0) g2); have F2 := hide ((unhide F0).kept g2); have x0 := (unhide F2).c0; have x1 := (unhide F2).c1; clear g2 CC F0 G0)
  gi_wp2_with (refine ⟨trivial, ?_⟩; gi_at_call 35; refine (callsIn_wide.2 (su.setsOf _ LL _ hn ((unhide HV).kept (unhide G2)))).mono ?_; rintro e w3 ⟨u3, rfl, m3⟩; obtain ⟨a3, c3, rfl⟩ := form m3; have M3 := hide m3; have F3 := hide (((unhide F2).kept m3.2).kept (grown_trans (r := none) (World.grownBy_alloc w3 (.cells #[.slice a3 (LL.map setOf).length c3] 69) none) (World.grownBy_alloc _ (.cells #[.int .i64 0] 3) none))); rw [List.length_map] at F3; have y0 := (unhide F3).c0; clear m3 x0 x1)
  have hlen : (LL.map setOf).length = LL.length := List.length_map ..
  have TS := hide (ts.trueSets m ((w3.alloc (.cells #[.slice a3 LL.length c3] 69)).alloc (.cells #[.int .i64 0] 3)) hm)
  gi_wp2_with (refine ⟨trivial, ?_⟩; gi_at_call 36; refine (callsIn_wide.2 (unhide TS)).mono ?_; rintro e w5 ⟨rfl, h5⟩; have H5 := hide h5; clear h5)
  try simp only [World.size_alloc]
  have h5 := unhide H5
  rw [hlen] at M3
  have b1 : Boxed w5 w3.heap.size 69 (.slice a3 LL.length c3) := by
   rw [h5]
   exact ((Boxed.new w3 _ _).alloc _).alloc _
  have b2 : Boxed w5 (w3.heap.size + 1) 3 (.int .i64 0) := by
   rw [h5]
   have := Boxed.new (w3.alloc (.cells #[.slice a3 LL.length c3] 69)) 3 (.int .i64 0)
   rw [World.size_alloc] at this
   exact this.alloc _
  have b3 : Boxed w5 (w3.heap.size + 1 + 1) 75 (.int .u64 (ev m : Int)) := by
   rw [h5]
   have := Boxed.new ((w3.alloc (.cells #[.slice a3 LL.length c3] 69)).alloc (.cells #[.int .i64 0] 3)) 75 (.int .u64 (ev m : Int))
   rw [World.size_alloc, World.size_alloc] at this
   exact this
  have g5 : w3.grownBy w5 none := by
   rw [h5]
   exact grown_trans (grown_trans (r := none) (World.grownBy_alloc _ _ _) (World.grownBy_alloc _ _ _)) (World.grownBy_alloc _ _ _)
  have G5 := hide (grown_trans (r := none) (grown_trans (r := none) (unhide G2) (unhide M3).2) g5)
  have ro : w5.ownsRow w2.heap.size 75 1 (.slice a3 LL.length c3) (LL.map setOf).length (words (LL.map setOf)) := (unhide M3).1.kept g5 (by
   cases (Value.slice a3 LL.length c3).ownBlock with
   | none => exact .inl rfl
   | some k => exact .inr (fun e => by cases e))
  have RO := hide ro
  have hs5 : w5.heap.size = w3.heap.size + 1 + 1 + 1 := by
   rw [h5]
   simp
  have hw3 : w.heap.size ≤ w3.heap.size := (grown_trans (r := none) (unhide G2) (unhide M3).2).size
  clear h5 H5 g5 M3 F3 TS ro G2 F2 HV
  refine wpIn_rangeFunc_ownF rfl (by omega) (gf := 57) (lb := #[.pointer (some ⟨w3.heap.size + 1 + 1, 0, none⟩)]) rfl trivial (enters_of Tryd.func57 (by kernel_rfl) rfl)
   (it.seq Fence.wide _ trivial rfl (by omega) (w3.heap.size + 1 + 1) m hm w5 b3.lt b3.cell) it.kp_t (it.kp_b b3.lt) (Below.refl _ _) (fun _ => rfl)
   (fun pre W => Boxed W (w3.heap.size + 1) 3 (.int .i64 (cntL (fun j => cnfT (le m j) LL) pre : Int)) ∧ w5.grownBy W (some (w3.heap.size + 1)))
   (fun _ _ _ => False)
   (fun s A B row hs hg hr => ⟨hs.1.kept hg (fun e => by have := (hr _ e.symm).1; omega), grow2 hs.2 hg (fun r e => .inl (hr r e).1)⟩)
   (fun _ _ _ _ _ hs _ _ => hs)
   ⟨b2, grow0 _ _⟩
   (fun x => { tmps := #[.agg #[.int .i64 (m : Int), v], .pointer (some ⟨w.heap.size, 0, none⟩), .int .i64 0, .pointer (some ⟨w3.heap.size, 0, none⟩), .pointer (some ⟨w3.heap.size + 1, 0, none⟩), .int .u64 (at_ m x : Int), .agg #[.int .i64 (m : Int), v], .bool true, .bool false, .bool false, .pointer (some ⟨w.heap.size, 0, none⟩), .int .i64 (m : Int), .bool (decide ((14 : Int) < (m : Int))), .bool (decide ((14 : Int) < (m : Int))), .pointer (some ⟨w.heap.size, 1, none⟩), v, .slice a3 LL.length c3, .pointer (some ⟨w.heap.size, 0, none⟩), .int .i64 (m : Int), .func (.func 57) #[] #[.pointer (some ⟨w3.heap.size + 1 + 1, 0, none⟩)], .int .u64 (at_ m x : Int), undef, undef, undef, undef, undef, undef], defers := [] }) ?assign ?body ?done ?stop
  case assign =>
   intro l x W K hK
   gi_wp2
   exact hK
  case body =>
   rintro l pre x W ⟨hb2, hg⟩ hlt
   have c1 : W.cell? ⟨w3.heap.size, 0, none⟩ = some (.slice a3 LL.length c3) := (b1.kept hg (fun e => by simp at e)).cell
   have c2 := hb2.cell
   have f2 := hb2.frozen
   have CM := hide (su.meetsAll (.slice a3 LL.length c3) (LL.map setOf) (at_ m x) w2.heap.size W (by rw [hlen]; exact Nat.le_trans (css.tot_len LL) hn) (by
     intro s hs
     obtain ⟨L, _, rfl⟩ := List.mem_map.1 hs
     exact bset.setOf_lt L) (at_.at_lt m x (by omega)) ((unhide RO).kept hg (.inr (b2.not_row (by decide) (unhide RO)).symm)))
   rw [at_.meets_at (unhide hall)] at CM
   have hle := cntL_le (fun j => cnfT (le m j) LL) pre
   have hsn := cntL_snoc (fun j => cnfT (le m j) LL) pre x
   generalize hq : cntL (fun j => cnfT (le m j) LL) pre = q at *
   have kk : ∀ u, it.Kp (w3.heap.size + 1 + 1) W (W.setCell ⟨w3.heap.size + 1, 0, none⟩ u) := fun u => World.cell?_of_block (a := ⟨w3.heap.size + 1 + 1, 0, none⟩) ((sl.grown_setCell W (w3.heap.size + 1) 0 u).block _ (Nat.lt_of_lt_of_le b3.lt hg.size) (fun e => by simp at e))
   cases hz : cnfT (le m x) LL
   ·simp only [hz] at CM
    have HS : Hid (cntL (fun j => cnfT (le m j) LL) (pre ++ [x]) = q) := by show _ = _; rw [hsn]; simp [hz]
    have H2 := hide hb2
    have HG := hide hg
    clear hsn hq hz kk hb2 hg
    gi_wp2_with (refine ⟨trivial, ?_⟩; gi_at_call 37; refine (CallsIn.inRound l (callsIn_wide.2 (unhide CM))).mono ?_; rintro e w6 ⟨rfl, hw⟩; have hw' := hw.symm; clear hw; subst hw')
    exact ⟨KeepsOthers.refl _, rfl, by rw [unhide HS]; exact unhide H2, unhide HG⟩
   ·simp only [hz] at CM
    have HS : Hid ((cntL (fun j => cnfT (le m j) LL) (pre ++ [x]) : Int) = (q : Int) + 1) := by show _ = _; rw [hsn]; simp [hz]
    have H2 := hide hb2
    have HG := hide hg
    have KK := hide kk
    clear hsn hq hz kk hb2 hg
    gi_wp2_with (refine ⟨trivial, ?_⟩; gi_at_call 37; refine (CallsIn.inRound l (callsIn_wide.2 (unhide CM))).mono ?_; rintro e w6 ⟨rfl, hw⟩; have hw' := hw.symm; clear hw; subst hw')
    exact ⟨KeepsOthers.setCell _ _ _, unhide KK _, by rw [unhide HS]; exact (unhide H2).set _, grow2 (unhide HG) (sl.grown_setCell _ _ _ _) (fun r e => .inr (by cases e; rfl))⟩
  case done =>
   rintro D ys W hD rfl ⟨hb2, hg⟩ hK
   have c2 := hb2.cell
   have e2 : (cntL (fun j => cnfT (le m j) LL) (List.range (2 ^ m)) : Int) = countI (m : Int) LL := by
    rw [unhide E]
    unfold ct.countN
    rw [cnt.cnt_both m (fun l => cnfT l LL)]
    rfl
   have E2 := hide e2
   clear e2
   gi_wp2
   refine ⟨by simp, .inl ⟨_, _, rfl, run_takeDeferred hK, ?_⟩⟩
   refine ⟨_, results_tmp rfl _ _ _, ?_⟩
   exact ⟨ret_int (unhide E2), grow1 (unhide G5) (grow2 hg (grownBy_putObj' W D _) (fun r e => .inl (by cases e; exact hD))) (by omega)⟩
  case stop =>
   rintro D c pre W _ _ h _
   exact h.elim
 ·have E := hide (show countI n LL = -1 by unfold ct.countI; rw [decide_eq_false h14, Bool.and_false]; rfl)
  have h14' : (14 : Int) < n := by omega
  clear cc hb HV hn0
  gi_wp2_with (refine ⟨trivial, ?_⟩; gi_at_call 21; refine (callsIn_wide.2 (unhide CC)).mono ?_; rintro e w2 ⟨rfl, g2⟩; have G2 := hide (grown_trans (r := none) (unhide G0) g2); have x0 := ((unhide F0).kept g2).c0; clear g2)
  refine ⟨_, results_tmp rfl _ _ _, ?_⟩
  exact ⟨ret_int (unhide E).symm, unhide G2⟩
end Go.Proofs.YtfhmdpbnnieohaaDoor.cu
