/- The program's search: the closure that calls itself. -/
import Derived.RangeFuncNested
import Derived.RangeFuncBound
import Derived.RangeFuncCalls
import Derived.RangeFuncLeaves
import Derived.Shelf.Abstract
import Derived.Shelf.RegionOpen
import Derived.WalkKit
import Derived.OwnWalkIn
import Derived.TacticsInMore
import Derived.LoopNIn
import Derived.LoopIn
import Derived.Stop.RegionWithIn
import Derived.Deep.RegionHeld3
import Derived.Test.YtapkckfgbimmcaaDoorKd
import Derived.Test.YtapkckfgbimmcaaDoorKn
namespace Go.Proofs.YtapkckfgbimmcaaDoor.ks
open Go.RowKit Go.Shelf
open Go.Proofs.YtapkckfgbimmcaaDoor.srt (Tab swp oppN)
open Go.Proofs.YtapkckfgbimmcaaDoor.bset (placeN setOf)
open Go.Proofs.YtapkckfgbimmcaaDoor.kc (cset)
open Go.Proofs.YtapkckfgbimmcaaDoor.kd (SV Slv LostE lost)
open Go.Proofs.YtapkckfgbimmcaaDoor.km (wdB plc Sat Conf Path left_)
open Go.Proofs.YtapkckfgbimmcaaDoor.lq (holds)
open Go.Proofs.YtapkckfgbimmcaaDoor.sl (hide unhide grown_refl grown_trans)
set_option linter.unusedVariables false
attribute [local go_sem] Oper.semAt_some
/-- where the closure's variables lie -/
structure Bxs where
  s : Nat
  y : Nat
  l : Nat
  w : Nat
  f : Nat
/-- the closure -/
def fnV (B : Bxs) : Value := .func (.func 109) #[] #[.pointer (some ⟨B.s, 0, none⟩), .pointer (some ⟨B.y, 0, none⟩), .pointer (some ⟨B.l, 0, none⟩), .pointer (some ⟨B.w, 0, none⟩), .pointer (some ⟨B.f, 0, none⟩)]
/-- what the closure finds: its variables, the solver, the table -/
structure Env (W : World) (B : Bxs) (c lp : Nat) (s : SV) (Wn : Nat) (lf : Bool) : Prop where
  bs : Boxed W B.s 61 (.pointer (some ⟨c, 0, none⟩))
  by_ : Boxed W B.y 92 (.func (.yield lp) #[] #[])
  bl : Boxed W B.l 4 (.bool lf)
  bw : Boxed W B.w 59 (.int .u64 (Wn : Int))
  bf : Boxed W B.f 109 (fnV B)
  sl : Slv W c s
  tb : Tab W
theorem Env.kept {W W' : World} {B : Bxs} {c lp : Nat} {s : SV} {Wn : Nat} {lf : Bool} (h : Env W B c lp s Wn lf) (g : W.grownBy W' none) : Env W' B c lp s Wn lf :=
  ⟨h.bs.kept g (fun e => by cases e), h.by_.kept g (fun e => by cases e), h.bl.kept g (fun e => by cases e), h.bw.kept g (fun e => by cases e), h.bf.kept g (fun e => by cases e), h.sl.kept g, h.tb.below (sl.below_of g)⟩
/-- the solver is that of the formula -/
structure Right (n : Nat) (LL : List (List Int)) (s : SV) : Prop where
  n24 : n ≤ 24
  sn : s.n = n
  ss : s.Ss = LL.map setOf
  hv : ∀ p i, (s.H p).testBit i = (decide (i < s.Ss.length) && (s.Ss.getD i 0).testBit p)
  e1 : ∀ u i, (s.E u).testBit i = true → ∀ b, (s.Ss.getD i 0).testBit b = true → b / 2 < u
  e2 : ∀ i, i < s.Ss.length → ∃ u, u ≤ n ∧ (s.E u).testBit i = true
  li : ∀ c ∈ LL, ∀ x ∈ c, ok.litIn (n : Int) x = true
/-- the clauses that are closed on a path -/
def Closed (Ss : List Nat) (pre : List Int) (X : Nat) : Prop := X < 2 ^ 128 ∧ ∀ i, X.testBit i = true ↔ i < Ss.length ∧ ∃ b, (Ss.getD i 0).testBit b = true ∧ wdB pre b = true
/-- the word of a path -/
def Word (pre : List Int) (P : Nat) : Prop := P < 2 ^ 48 ∧ ∀ b, P.testBit b = wdB pre b
/-- the closure's own blocks, the solver and its box lie as they lay, but for 'left' -/
def Kept (z c : Nat) (B : Bxs) (W W' : World) : Prop := ∀ k, (z ≤ k ∨ k = B.s ∨ k = c) → k ≠ B.l → k < W.heap.size → W'.heap[k]? = W.heap[k]?
theorem Kept.of {z c : Nat} {B : Bxs} {W W' W2 : World} (g : W.grownBy W' none) (h : Kept z c B W' W2) : Kept z c B W W2 :=
  fun k h1 h2 h3 => (h k h1 h2 (Nat.lt_of_lt_of_le h3 g.size)).trans (g.block k h3 (fun e => by cases e))
/-- what the search answers: a clause that fails on the path, or a round was left at the least answer -/
def SrchE (W : World) (z c : Nat) (n : Nat) (LL : List (List Int)) (a pre : List Int) (B : Bxs) (Jx : List Int → World → Prop) (e : Ending) (W' : World) : Prop :=
  ∃ r : Nat, r < 2 ^ 48 ∧ e = .returned (.int .u64 (r : Int)) ∧
    ((left_ n LL a pre = none ∧ Conf n (LL.map setOf) (setOf a) r pre ∧ W.grownBy W' none) ∨ (∃ l, left_ n LL a pre = some l ∧ Jx (pre ++ l) W' ∧ Boxed W' B.l 4 (.bool true) ∧ Kept z c B W W'))
theorem Right.lt {n : Nat} {LL : List (List Int)} {s : SV} (h : Right n LL s) {i : Nat} (hi : i < s.Ss.length) : s.Ss.getD i 0 < 2 ^ 48 := by
  have hm : s.Ss.getD i 0 ∈ s.Ss := by
    rw [show s.Ss.getD i 0 = s.Ss[i] by simp [hi]]
    exact List.getElem_mem hi
  rw [h.ss] at hm
  obtain ⟨L, _, e⟩ := List.mem_map.1 hm
  rw [h.ss, ← e]
  exact bset.setOf_lt L
/-- a clause that is lost fails on the path -/
theorem conf_at {n : Nat} {LL : List (List Int)} {pre : List Int} {s : SV} {X i W : Nat} (h : Right n LL s) (hP : Path n (LL.map setOf) W s.E pre) (hX : Closed s.Ss pre X) (hi : i < s.Ss.length) (h1 : (s.E pre.length).testBit i = true) (h2 : X.testBit i = false) : Conf n (LL.map setOf) W (s.Ss.getD i 0) pre := by
  have hm : s.Ss.getD i 0 ∈ LL.map setOf := by
    rw [← h.ss, show s.Ss.getD i 0 = s.Ss[i] by simp [hi]]
    exact List.getElem_mem hi
  refine km.conf_lost hP.bit hm (h.e1 _ i h1) (fun b hb => ?_)
  cases q : wdB pre b with
  | false => rfl
  | true =>
    have := (hX.2 i).2 ⟨hi, b, hb, q⟩
    rw [h2] at this
    cases this
/-- what is not lost is closed -/
theorem closed_at {n : Nat} {LL : List (List Int)} {pre : List Int} {s : SV} {X : Nat} (h : Right n LL s) (hX : Closed s.Ss pre X) (hc : ∀ i, (s.E pre.length).testBit i = true → X.testBit i = true) : ∀ i, (s.E pre.length).testBit i = true → ∃ b, ((LL.map setOf).getD i 0).testBit b = true ∧ wdB pre b = true := by
  intro i hi
  rw [← h.ss]
  exact ((hX.2 i).1 (hc i hi)).2
theorem end_at {n : Nat} {LL : List (List Int)} {a pre : List Int} {s : SV} (h : Right n LL s) (hP : Path n (LL.map setOf) (setOf a) s.E pre) (hn : pre.length = n) (ha : ∀ x ∈ a, ok.litIn (n : Int) x = true) (hc : ∀ i, (s.E pre.length).testBit i = true → ∃ b, ((LL.map setOf).getD i 0).testBit b = true ∧ wdB pre b = true) : holds LL a pre = true := by
  refine (km.sat_iff ⟨hn, hP.bit⟩ h.n24 h.li ha).2 (km.path_end hP hn (fun b hb => ?_) (fun i hi => h.e2 i (by rw [h.ss]; exact hi)) (by rw [← hn]; exact hc))
  obtain ⟨x, hx, ho, rfl⟩ := km.set_lit hb
  exact km.place_div h.n24 (ha x hx)
theorem word_snoc {pre : List Int} {P : Nat} {x y : Int} (h : Word pre P) (ho : lits.okB y = true) (hp : placeN y = plc pre.length x) : Word (pre ++ [x]) (bset.withN P y) :=
  ⟨bset.withN_lt h.1 ho, fun b => by
    rw [bset.withN_bit, h.2, hp, km.wd_snoc]
    congr 1
    rw [Bool.eq_iff_iff, decide_eq_true_iff, decide_eq_true_iff]
    exact ⟨fun e => e.symm, fun e => e.symm⟩⟩
theorem closed_snoc {n : Nat} {LL : List (List Int)} {pre : List Int} {s : SV} {X p : Nat} {x : Int} (h : Right n LL s) (hm : s.Ss.length ≤ 120) (hX : Closed s.Ss pre X) (hp : p = plc pre.length x) : Closed s.Ss (pre ++ [x]) (X ||| s.H p) := by
  have hH : s.H p < 2 ^ 128 := by
    refine Nat.lt_of_lt_of_le (Nat.lt_pow_two_of_testBit (n := s.Ss.length) _ (fun i hi => ?_)) (Nat.pow_le_pow_right (by decide) (by omega))
    rw [h.hv, decide_eq_false (by omega), Bool.false_and]
  refine ⟨kc.or_lt hX.1 hH, fun i => ?_⟩
  rw [Nat.testBit_or, Bool.or_eq_true, hX.2, h.hv, Bool.and_eq_true, decide_eq_true_iff]
  constructor
  · rintro (⟨h1, b, h2, h3⟩ | ⟨h1, h2⟩)
    · exact ⟨h1, b, h2, km.wd_pre h3⟩
    · exact ⟨h1, p, h2, by rw [hp]; exact km.wd_last pre x []⟩
  · rintro ⟨h1, b, h2, h3⟩
    rw [km.wd_snoc, Bool.or_eq_true, decide_eq_true_iff] at h3
    rcases h3 with q | q
    · exact .inl ⟨h1, b, h2, q⟩
    · exact .inr ⟨h1, by rw [hp, ← q]; exact h2⟩
theorem toGrown {f : Nat} {args : Array Value} {w : World} {v : Value} (h : Calls Tryd.prog f args w fun e w' => e = .returned v ∧ w' = w) : Calls Tryd.prog f args w fun e w' => e = .returned v ∧ w.grownBy w' none :=
  h.mono fun e w' ⟨h1, h2⟩ => ⟨h1, by rw [h2]; exact grown_refl _⟩
theorem srch_none {m f : Nat} {args : Array Value} {W : World} {n : Nat} {LL : List (List Int)} {a pre : List Int} {B : Bxs} {z c : Nat} {Jx : List Int → World → Prop} (h : CallsIn Fence.wide m Tryd.prog f args W fun e W' => SrchE W z c n LL a pre B Jx e W') (hL : left_ n LL a pre = none) :
    Calls Tryd.prog f args W fun e W' => ∃ r : Nat, r < 2 ^ 48 ∧ e = .returned (.int .u64 (r : Int)) ∧ Conf n (LL.map setOf) (setOf a) r pre ∧ W.grownBy W' none := by
  refine (callsIn_wide.1 h).mono ?_
  rintro e W' ⟨r, h1, h2, ⟨_, h3, h4⟩ | ⟨l, h3, _⟩⟩
  · exact ⟨r, h1, h2, h3, h4⟩
  · rw [hL] at h3
    cases h3
theorem srch_some {m f : Nat} {args : Array Value} {W : World} {n : Nat} {LL : List (List Int)} {a pre l : List Int} {B : Bxs} {z c : Nat} {Jx : List Int → World → Prop} (h : CallsIn Fence.wide m Tryd.prog f args W fun e W' => SrchE W z c n LL a pre B Jx e W') (hL : left_ n LL a pre = some l) :
    Calls Tryd.prog f args W fun e W' => ∃ r : Nat, r < 2 ^ 48 ∧ e = .returned (.int .u64 (r : Int)) ∧ Jx (pre ++ l) W' ∧ Boxed W' B.l 4 (.bool true) ∧ Kept z c B W W' := by
  refine (callsIn_wide.1 h).mono ?_
  rintro e W' ⟨r, h1, h2, ⟨h3, _⟩ | ⟨l', h3, h4, h5⟩⟩
  · rw [hL] at h3
    cases h3
  · rw [hL] at h3
    cases h3
    exact ⟨r, h1, h2, h4, h5⟩
/-- a set of clauses in a box -/
def Boxed2 (W : World) (b x y : Nat) : Prop := W.heap[b]? = some (.cells #[.int .u64 (x : Int), .int .u64 (y : Int)] 96 (0, 0))
theorem Boxed2.kept {W W' : World} {b x y : Nat} (h : Boxed2 W b x y) (g : W.grownBy W' none) : Boxed2 W' b x y := (g.block b (Array.getElem?_eq_some_iff.1 h).1 (fun e => by cases e)).trans h
theorem Boxed2.c0 {W : World} {b x y : Nat} (h : Boxed2 W b x y) : W.cell? ⟨b, 0, none⟩ = some (.int .u64 (x : Int)) := by simp [World.cell?, show W.heap[b]? = _ from h]
theorem Boxed2.c1 {W : World} {b x y : Nat} (h : Boxed2 W b x y) : W.cell? ⟨b, 1, none⟩ = some (.int .u64 (y : Int)) := by simp [World.cell?, show W.heap[b]? = _ from h]
/-- what the search reads, in every later world -/
theorem held {wr w' : World} {B : Bxs} {c lp b x y p : Nat} {s : SV} {Wn : Nat} {lf : Bool} (hE : Env wr B c lp s Wn lf) (hb : Boxed2 wr b x y) (hp : p < 48) (g : wr.grownBy w' none) :
    w'.cell? ⟨B.f, 0, none⟩ = some (.func (.func 109) #[] #[.pointer (some ⟨B.s, 0, none⟩), .pointer (some ⟨B.y, 0, none⟩), .pointer (some ⟨B.l, 0, none⟩), .pointer (some ⟨B.w, 0, none⟩), .pointer (some ⟨B.f, 0, none⟩)]) ∧ w'.cell? ⟨B.s, 0, none⟩ = some (.pointer (some ⟨c, 0, none⟩)) ∧ w'.cell? ⟨b, 0, none⟩ = some (.int .u64 (x : Int)) ∧ w'.cell? ⟨b, 1, none⟩ = some (.int .u64 (y : Int)) ∧ w'.cell? ⟨c, 2 + p * 2, none⟩ = some (.int .u64 (kc.lo (s.H p) : Int)) ∧ w'.cell? ⟨c, 2 + p * 2 + 1, none⟩ = some (.int .u64 (kc.hi (s.H p) : Int)) := by
  have e := hE.kept g
  have b' := hb.kept g
  have h0 := e.sl.cell (k := 2 + 2 * p) (by omega)
  have h1 := e.sl.cell (k := 2 + 2 * p + 1) (by omega)
  rw [kd.atH0 _ hp] at h0
  rw [kd.atH1 _ hp] at h1
  rw [Nat.mul_comm p 2]
  exact ⟨e.bf.cell, e.bs.cell, b'.c0, b'.c1, h0, h1⟩
theorem or_zero (d : Nat) (h : d < 2 ^ 48) : bits .or .u64 0 (d : Int) = (d : Int) := by
  have := u64_or_nat 0 d (by decide) (by omega)
  rw [Nat.zero_or] at this
  exact this
theorem wo_bit {r p : Nat} {x : Int} (h : r < 2 ^ 48) (hx : lits.okB x = true) (hp : placeN x = p) (b : Nat) : (srt.woN r x).testBit b = (r.testBit b && !decide (b = p)) := by
  rw [srt.woN_bit r x b h hx, hp]
  congr 2
  rw [Bool.eq_iff_iff, decide_eq_true_iff, decide_eq_true_iff]
  exact ⟨fun e => e.symm, fun e => e.symm⟩
theorem held_kept {wr w' : World} {B : Bxs} {c lp b x y p z : Nat} {s : SV} {Wn : Nat} {lf : Bool} (hE : Env wr B c lp s Wn lf) (hb : Boxed2 wr b x y) (hp : p < 48) (k : Kept z c B wr w') (hf : z ≤ B.f) (nf : B.f ≠ B.l) (ns : B.s ≠ B.l) (nc : c ≠ B.l) (hzb : z ≤ b) (hlb : B.l < b) :
    w'.cell? ⟨B.f, 0, none⟩ = some (.func (.func 109) #[] #[.pointer (some ⟨B.s, 0, none⟩), .pointer (some ⟨B.y, 0, none⟩), .pointer (some ⟨B.l, 0, none⟩), .pointer (some ⟨B.w, 0, none⟩), .pointer (some ⟨B.f, 0, none⟩)]) ∧ w'.cell? ⟨B.s, 0, none⟩ = some (.pointer (some ⟨c, 0, none⟩)) ∧ w'.cell? ⟨b, 0, none⟩ = some (.int .u64 (x : Int)) ∧ w'.cell? ⟨b, 1, none⟩ = some (.int .u64 (y : Int)) ∧ w'.cell? ⟨c, 2 + p * 2, none⟩ = some (.int .u64 (kc.lo (s.H p) : Int)) ∧ w'.cell? ⟨c, 2 + p * 2 + 1, none⟩ = some (.int .u64 (kc.hi (s.H p) : Int)) := by
  obtain ⟨h1, h2, h3, h4, h5, h6⟩ := held hE hb hp (grown_refl wr)
  have e1 := k B.f (.inl hf) nf hE.bf.lt
  have e2 := k B.s (.inr (.inl rfl)) ns hE.bs.lt
  have e3 := k b (.inl hzb) (by omega) (Array.getElem?_eq_some_iff.1 hb).1
  have e4 := k c (.inr (.inr rfl)) nc hE.sl.lt
  exact ⟨(World.cell?_of_block (a := ⟨B.f, 0, none⟩) e1).trans h1, (World.cell?_of_block (a := ⟨B.s, 0, none⟩) e2).trans h2, (World.cell?_of_block (a := ⟨b, 0, none⟩) e3).trans h3, (World.cell?_of_block (a := ⟨b, 1, none⟩) e3).trans h4, (World.cell?_of_block (a := ⟨c, 2 + p * 2, none⟩) e4).trans h5, (World.cell?_of_block (a := ⟨c, 2 + p * 2 + 1, none⟩) e4).trans h6⟩
/-- the first value fails -/
def Half (n : Nat) (LL : List (List Int)) (a pre : List Int) (d : Nat) : Prop := left_ n LL a (pre ++ [0]) = none ∧
  (((setOf a).testBit (plc pre.length 1) = true ∧ d = 0) ∨ ∃ c0, Conf n (LL.map setOf) (setOf a) c0 (pre ++ [0]) ∧ ∀ b, d.testBit b = (c0.testBit b && !decide (b = plc pre.length 1)))
theorem half_skip {n : Nat} {LL : List (List Int)} {a pre : List Int} {d : Nat} (h24 : n ≤ 24) (hl : pre.length ≤ n) (hb : ∀ x ∈ pre, x = 0 ∨ x = 1) (hc : ∀ c ∈ LL, ∀ x ∈ c, ok.litIn (n : Int) x = true) (ha : ∀ x ∈ a, ok.litIn (n : Int) x = true) (h : Half n LL a pre d) (hw : (setOf a).testBit (plc pre.length 0) = true) :
    left_ n LL a pre = none ∧ Conf n (LL.map setOf) (setOf a) d pre := by
  have key : Conf n (LL.map setOf) (setOf a) d pre := by
    rcases h.2 with ⟨h1, rfl⟩ | ⟨c0, h1, h2⟩
    · exact km.conf_zero hw h1
    · exact km.conf_one (.inl rfl) hw h1 (fun b => by rw [h2, (km.plc_swp _).1])
  exact ⟨km.left_conf h24 hl hb hc ha key, key⟩
theorem half_both {n : Nat} {LL : List (List Int)} {a pre : List Int} {d r q : Nat} (h24 : n ≤ 24) (hl : pre.length ≤ n) (hb : ∀ x ∈ pre, x = 0 ∨ x = 1) (hc : ∀ c ∈ LL, ∀ x ∈ c, ok.litIn (n : Int) x = true) (ha : ∀ x ∈ a, ok.litIn (n : Int) x = true) (h : Half n LL a pre d) (hr : Conf n (LL.map setOf) (setOf a) r (pre ++ [1])) (hq : ∀ b, q.testBit b = (r.testBit b && !decide (b = plc pre.length 0))) :
    left_ n LL a pre = none ∧ Conf n (LL.map setOf) (setOf a) (d ||| q) pre := by
  have key : Conf n (LL.map setOf) (setOf a) (d ||| q) pre := by
    rcases h.2 with ⟨h1, rfl⟩ | ⟨c0, h1, h2⟩
    · rw [Nat.zero_or]
      exact km.conf_one (.inr rfl) h1 hr (fun b => by rw [hq, (km.plc_swp _).2])
    · exact km.conf_both h1 hr (fun b => by rw [Nat.testBit_or, h2, hq])
  exact ⟨km.left_conf h24 hl hb hc ha key, key⟩
theorem place1 {j : Nat} (h : j < 24) : placeN ((j : Int) + 1) = plc j 1 := by
  rw [← km.place_at h (.inr rfl)]
  rfl
theorem place0 {j : Nat} (h : j < 24) : placeN (-((j : Int) + 1)) = plc j 0 := by
  rw [← km.place_at h (.inl rfl), show as_.litAt j 0 = -((j : Int) + 1) from by unfold as_.litAt; rw [if_neg (by decide)]; omega]
set_option maxRecDepth 100000 in
set_option maxHeartbeats 4000000 in
theorem search (n : Nat) (LL : List (List Int)) (a : List Int) (s : SV) (B : Bxs) (c lp : Nat) (hR : Right n LL s) (ha : ∀ x ∈ a, ok.litIn (n : Int) x = true) (W0 : World) (Jx : List Int → World → Prop)
    (hJ : ∀ x A A', Jx x A → Below W0.heap.size A A' → Jx x A') (hl0 : W0.heap.size ≤ B.l) (hf0 : W0.heap.size ≤ B.f) (nf : B.f ≠ B.l) (ns : B.s ≠ B.l) (nc : c ≠ B.l)
    (hY : ∀ m x P W1, Word x P → holds LL a x = true → Below W0.heap.size W0 W1 → YieldAt Fence.wide m Tryd.prog lp #[.int .u64 (P : Int)] W1 fun e W' =>
      e = .returned (.bool false) ∧ Jx x W' ∧ (∀ k, (W0.heap.size ≤ k ∨ k = B.s ∨ k = c) → k < W1.heap.size → W'.heap[k]? = W1.heap[k]?)) (K : Nat) :
    ∀ (m : Nat) (pre : List Int) (P X : Nat) (W : World), n - pre.length < K → Path n (LL.map setOf) (setOf a) s.E pre → Word pre P → Closed s.Ss pre X → Below W0.heap.size W0 W → Env W B c lp s (setOf a) false →
      CallsIn Fence.wide m Tryd.prog 109 #[.int .i64 (pre.length : Int), .int .u64 (P : Int), cset X, .pointer (some ⟨B.s, 0, none⟩), .pointer (some ⟨B.y, 0, none⟩), .pointer (some ⟨B.l, 0, none⟩), .pointer (some ⟨B.w, 0, none⟩), .pointer (some ⟨B.f, 0, none⟩)] W fun e W' => SrchE W W0.heap.size c n LL a pre B Jx e W' := by
  induction K with
  | zero =>
    intro m pre P X W h
    exact absurd h (Nat.not_lt_zero _)
  | succ K ih =>
    intro m pre P X W hK hP hW hX hB hE
    have hpl := hP.len
    have hWl : B.l < W.heap.size := hE.bl.lt
    have h24 := hR.n24
    have gA := World.grownBy_alloc W (.cells #[.int .u64 (kc.lo X : Int), .int .u64 (kc.hi X : Int)] 96) none
    have eA := hE.kept gA
    have CL := hide ((callsIn_wide (n := m - 1)).2 (lost c s pre.length X _ eA.tb eA.sl (by omega) hX.1))
    have y1 := eA.bs.cell
    have EA := hide eA
    have bA : Boxed2 (W.alloc (.cells #[.int .u64 (kc.lo X : Int), .int .u64 (kc.hi X : Int)] 96)) W.heap.size (kc.lo X) (kc.hi X) := World.alloc_heap_new W _
    have BA0 := hide bA
    clear bA
    have GA := hide gA
    have IH := hide ih
    have HY := hide hY
    have HP := hide hP
    have HX := hide hX
    clear eA gA ih hY hP hX hE
    refine callsIn_of_wp Tryd.func109 rfl trivial ?_ rfl
    simp only [Tryd.ntmps109, List.size_toArray, List.length_cons, List.length_nil, Nat.reduceAdd, Nat.reduceSub, Array.replicate_succ, Array.replicate_zero, List.push_toArray, List.append_toArray, List.nil_append, List.cons_append]
    unfold cset at *
    gi_wp2_with fail
    refine ⟨trivial, (fun h => by cases h), ?_⟩
    refine (unhide CL).mono ?_
    rintro e w1 ⟨g1, ⟨i, hi1, hi2, hi3, rfl⟩ | ⟨hcl, rfl⟩⟩
    · have hlt : s.Ss.getD i 0 < 2 ^ 48 := Right.lt hR hi1
      have CF : Hid (SrchE W W0.heap.size c n LL a pre B Jx (.returned (.int .u64 (s.Ss.getD i 0 : Int))) w1) := by
        have cf := conf_at hR (unhide HP) (unhide HX) hi1 hi2 hi3
        exact ⟨_, hlt, rfl, .inl ⟨km.left_conf h24 hpl (unhide HP).bit hR.li ha cf, cf, grown_trans (unhide GA) g1⟩⟩
      generalize s.Ss.getD i 0 = y at *
      clear CL y1 IH HY
      gi_wp2
      go_ret
      exact unhide CF
    · have E1 := hide ((unhide EA).kept g1)
      have G1 := hide (grown_trans (r := none) (unhide GA) g1)
      have z1 := (unhide E1).bs.cell
      have z2 := (unhide E1).sl.cell (k := 0) (by decide)
      rw [kd.at0, hR.sn] at z2
      have BA := hide ((unhide BA0).kept g1)
      have HCL := hide (closed_at hR (unhide HX) hcl)
      clear CL y1 EA GA g1 hcl
      by_cases hn : pre.length = n
      · have hnb : ((pre.length : Int) == (n : Int)) = true := by rw [hn]; simp
        have hS := end_at hR (unhide HP) hn ha (unhide HCL)
        have y3 := (unhide E1).by_.cell
        have y4 := (unhide E1).bl.cell
        have y5 := (unhide E1).bl.frozen
        obtain ⟨fn, tmps, assign, body, hy, hRd⟩ := unhide HY (m - 1) pre P w1 hW hS (hB.trans (sl.below_of (unhide G1) |>.mono hB.size))
        have HRD := hide hRd
        have LE := hide (km.left_end (LL := LL) (a := a) hn hS)
        clear hRd HY IH hn
        gi_wp2_with fail
        refine ⟨(fun h => by cases h), (unhide HRD).mono ?_⟩
        rintro e w2 ⟨rfl, hJ2, hk2⟩
        have b2 : Boxed w2 B.l 4 (.bool false) := (hk2 B.l (.inl hl0) (unhide E1).bl.lt).trans (unhide E1).bl
        have CO := hide (fun w' => (callsIn_wide (n := m - 1)).2 (srt.opposites P w' hW.1))
        have FIN : Hid (SrchE W W0.heap.size c n LL a pre B Jx (.returned (.int .u64 (oppN P : Int))) (w2.setCell ⟨B.l, 0, none⟩ (.bool true))) :=
          ⟨_, srt.oppN_lt P, rfl, .inr ⟨[], unhide LE, by rw [List.append_nil]; exact hJ _ _ _ hJ2 ((Below.refl _ w2).setCell (p := ⟨B.l, 0, none⟩) hl0 _), b2.set _, Kept.of (unhide G1) (fun k h1 h2 h3 => ((sl.grown_setCell w2 B.l 0 (.bool true)).block k (by rcases Nat.lt_or_ge k w2.heap.size with q | q; exact q; exact absurd (hk2 k h1 h3) (by rw [Array.getElem?_eq_none q, Array.getElem?_eq_getElem h3]; simp)) (fun e => h2 (Option.some.inj e))).trans (hk2 k h1 h3))⟩⟩
        have q1 := b2.cell
        have q2 := b2.frozen
        clear hJ2 hk2 HRD LE y3 y4 y5 z1 z2 b2 hy
        gi_wp2_with fail
        refine ⟨trivial, (fun h => by cases h), ?_⟩
        refine (unhide CO _).mono ?_
        rintro e w3 ⟨rfl, hw⟩
        have hw' := hw.symm
        clear hw
        subst hw'
        gi_wp2
        go_ret
        exact unhide FIN
      · have hnb : ((pre.length : Int) == (n : Int)) = false := by rw [beq_eq_false_iff_ne]; omega
        have hlt : pre.length < n := by omega
        have i0 : ∀ (a b : Value) w, (Instr.index 112 (.agg #[a, b]) (.int .i64 0)).run Tryd.prog w = .ok a w := fun a b _ => by kernel_rfl
        have i1 : ∀ (a b : Value) w, (Instr.index 112 (.agg #[a, b]) (.int .i64 1)).run Tryd.prog w = .ok b w := fun a b _ => by kernel_rfl
        have BC : Hid (∀ wr, w1.grownBy wr none → Boxed2 wr W.heap.size (kc.lo X) (kc.hi X)) := hide (fun wr g => (unhide BA).kept g)
        clear hn HY BA
        gi_wp2_with fail
        clear z1 z2
        refine wpIn_wide.2 ?_
        go_loopw [14, 47] (fun q k wr => Hid (w1.grownBy wr none) ∧ ∃ d : Nat, q = .int .u64 (d : Int) ∧ d < 2 ^ 48 ∧ ((k = .int .i64 0 ∧ d = 0) ∨ (k = .int .i64 1 ∧ Hid (Half n LL a pre d)) ∨ (k = .int .i64 2 ∧ Hid (left_ n LL a pre = none ∧ Conf n (LL.map setOf) (setOf a) d pre)))) (fun _ k _ => 2 - (intOf k).toNat)
        case atStart => exact ⟨grown_refl _, 0, rfl, by decide, .inl ⟨rfl, rfl⟩⟩
        case round =>
          obtain ⟨hg, d, rfl, hd, ⟨rfl, rfl⟩ | ⟨rfl, hh⟩ | ⟨rfl, hh⟩⟩ := hrel
          · have ER := hide ((unhide E1).kept (unhide hg))
            have r1 := (unhide ER).bw.cell
            have okx : lits.okB ((pre.length : Int) + 1) = true := lits.okB_iff.2 ⟨by omega, by omega, by omega⟩
            have CH := (fun w' => (bset.hasC (setOf a) ((pre.length : Int) + 1) w' (bset.setOf_lt a) okx))
            rw [show placeN ((pre.length : Int) + 1) = plc pre.length 1 from place1 (by omega)] at CH
            cases hw1 : (setOf a).testBit (plc pre.length 1)
            · rw [hw1] at CH
              have C := hide CH
              have okn : lits.okB (-((pre.length : Int) + 1)) = true := lits.okB_iff.2 ⟨by omega, by omega, by omega⟩
              have hp0 : placeN (-((pre.length : Int) + 1)) = plc pre.length 0 := place0 (by omega)
              have hp48 : plc pre.length 0 < 48 := by unfold km.plc; simp; omega
              have hPt := km.path_snoc (unhide HP) hlt (.inl rfl) (by rw [(km.plc_swp _).1]; exact hw1) (unhide HCL)
              have hWd := word_snoc hW okn hp0
              have hCl := closed_snoc hR (unhide ER).sl.m (unhide HX) (p := plc pre.length 0) (x := 0) rfl
              have hc0 := (unhide ER).sl.cell (k := 2 + plc pre.length 0 * 2) (by omega)
              have hc1 := (unhide ER).sl.cell (k := 2 + plc pre.length 0 * 2 + 1) (by omega)
              rw [Nat.mul_comm, kd.atH0 _ hp48] at hc0
              rw [Nat.mul_comm, kd.atH1 _ hp48] at hc1
              rw [Nat.mul_comm] at hc0 hc1
              have hHlt := kd.lt128 ((unhide ER).sl.h (plc pre.length 0)) (unhide ER).sl.m
              have CI := hide (fun w5 (g : wr.grownBy w5 none) => unhide IH 0 (pre ++ [0]) _ _ w5 (by rw [List.length_append, List.length_singleton]; omega) hPt hWd hCl (hB.trans (sl.below_of (grown_trans (r := none) (grown_trans (r := none) (unhide G1) (unhide hg)) g) |>.mono hB.size)) ((unhide ER).kept g))
              have CW := hide (fun w' => toGrown (bset.withC P (-((pre.length : Int) + 1)) w' hW.1 okn))
              have CP := (fun w' => toGrown (bset.placeC (-((pre.length : Int) + 1)) w' okn))
              have CU := hide (fun w' => (kc.union X (s.H (plc pre.length 0)) w' (unhide HX).1 hHlt))
              rw [hp0] at CP
              have CQ := hide CP
              clear CP
              have r7 := (unhide ER).bf.cell
              unfold fnV at r7
              have r3 := (unhide ER).bs.cell
              have b0 := (unhide BC wr (unhide hg)).c0
              have b1 := (unhide BC wr (unhide hg)).c1
              clear CH hw1 hPt hWd hCl
              unfold cset at CU CI
              go_wp2_with fail
              refine (unhide C _).mono ?_
              rintro e w3 ⟨rfl, hw⟩
              have hw' := hw.symm
              clear hw
              subst hw'
              go_wp2_with fail
              cases hL : left_ n LL a (pre ++ [0])
              · have CN := hide (fun w5 g => srch_none (unhide CI w5 g) hL)
                have HL := hide hL
                clear CI hL
                rw [List.length_append, List.length_singleton] at CN
                have CK := hide (fun w' (g : wr.grownBy w' none) => held (unhide ER) (unhide BC wr (unhide hg)) hp48 g)
                have GX := hide (cf.grown_drew wr none)
                have hp48i : ((plc pre.length 0 : Nat) : Int) < 48 := by omega
                generalize plc pre.length 0 = p0 at *
                go_region_held3 (fun w' => w'.cell? ⟨B.f, 0, none⟩ = some (.func (.func 109) #[] #[.pointer (some ⟨B.s, 0, none⟩), .pointer (some ⟨B.y, 0, none⟩), .pointer (some ⟨B.l, 0, none⟩), .pointer (some ⟨B.w, 0, none⟩), .pointer (some ⟨B.f, 0, none⟩)]) ∧ w'.cell? ⟨B.s, 0, none⟩ = some (.pointer (some ⟨c, 0, none⟩)) ∧ w'.cell? ⟨W.heap.size, 0, none⟩ = some (.int .u64 (kc.lo X : Int)) ∧ w'.cell? ⟨W.heap.size, 1, none⟩ = some (.int .u64 (kc.hi X : Int)) ∧ w'.cell? ⟨c, 2 + p0 * 2, none⟩ = some (.int .u64 (kc.lo (s.H p0) : Int)) ∧ w'.cell? ⟨c, 2 + p0 * 2 + 1, none⟩ = some (.int .u64 (kc.hi (s.H p0) : Int))) (go_keep) (first
                  | (go_at_call 58; refine (unhide CW _).mono ?_; rintro e w8 ⟨rfl, g8⟩; replace GX := hide (grown_trans (r := none) (unhide GX) g8); obtain ⟨k1, k2, k3, k4, k5, k6⟩ := unhide CK _ (unhide GX); clear g8)
                  | (go_at_call 91; refine (unhide CQ _).mono ?_; rintro e w8 ⟨rfl, g8⟩; replace GX := hide (grown_trans (r := none) (unhide GX) g8); obtain ⟨k1, k2, k3, k4, k5, k6⟩ := unhide CK _ (unhide GX); clear g8)
                  | (go_at_call 112; refine (unhide CU _).mono ?_; rintro e w8 ⟨rfl, g8⟩; replace GX := hide (grown_trans (r := none) (unhide GX) g8); obtain ⟨k1, k2, k3, k4, k5, k6⟩ := unhide CK _ (unhide GX); clear g8)
                  | (go_at_call 109; refine (unhide CN _ (unhide GX)).mono ?_; rintro e w8 ⟨r, hr, rfl, hcf, g8⟩; have HR := hide hr; have HCF := hide hcf; replace GX := hide (grown_trans (r := none) (unhide GX) g8); obtain ⟨k1, k2, k3, k4, k5, k6⟩ := unhide CK _ (unhide GX); clear g8 hr hcf))
                have q1 := ((unhide ER).kept (unhide GX)).bl.cell
                have CB := fun w' => bset.hasC r ((pre.length : Int) + 1) w' (unhide HR) okx
                rw [show placeN ((pre.length : Int) + 1) = plc pre.length 1 from place1 (by omega)] at CB
                have GW := hide (grown_trans (r := none) (unhide hg) (unhide GX))
                clear k1 k2 k3 k4 k5 k6
                cases hbit : r.testBit (plc pre.length 1)
                · rw [hbit] at CB
                  have C2 := hide CB
                  have FIN : Hid (SrchE W W0.heap.size c n LL a pre B Jx (.returned (.int .u64 (r : Int))) w8) := by
                    have cj := km.conf_jump (unhide HCF) (by rw [(km.plc_swp _).1]; exact hbit)
                    exact ⟨r, unhide HR, rfl, .inl ⟨km.left_conf h24 hpl (unhide HP).bit hR.li ha cj, cj, grown_trans (unhide G1) (unhide GW)⟩⟩
                  clear CB hbit
                  go_wp2_with fail
                  refine (unhide C2 _).mono ?_
                  rintro e w9 ⟨rfl, hw⟩
                  have hw' := hw.symm
                  clear hw
                  subst hw'
                  go_wp2
                  gi_wp2
                  go_ret
                  exact unhide FIN
                · rw [hbit] at CB
                  have C2 := hide CB
                  have CO := hide (fun w' => srt.without r ((pre.length : Int) + 1) w' (unhide HR) okx)
                  have EO := hide (or_zero (srt.woN r ((pre.length : Int) + 1)) (srt.woN_lt (unhide HR)))
                  have HF : Hid (Half n LL a pre (srt.woN r ((pre.length : Int) + 1))) := ⟨unhide HL, .inr ⟨r, unhide HCF, fun b => wo_bit (unhide HR) okx (place1 (by omega)) b⟩⟩
                  have hdl := srt.woN_lt (S := r) (x := (pre.length : Int) + 1) (unhide HR)
                  clear CB hbit
                  generalize srt.woN r ((pre.length : Int) + 1) = d at *
                  go_wp2_with fail
                  refine (unhide C2 _).mono ?_
                  rintro e w9 ⟨rfl, hw⟩
                  have hw' := hw.symm
                  clear hw
                  subst hw'
                  go_wp2_with fail
                  refine (unhide CO _).mono ?_
                  rintro e w9 ⟨rfl, hw⟩
                  have hw' := hw.symm
                  clear hw
                  subst hw'
                  go_wp2_with fail
                  go_roundw
                  case rel => exact ⟨GW, d, by rw [unhide EO], hdl, .inr (.inl ⟨rfl, HF⟩)⟩
                  case measure => simp [intOf]
              · rename_i l
                have CN := hide (fun w5 g => srch_some (unhide CI w5 g) hL)
                have HL := hide hL
                clear CI hL
                rw [List.length_append, List.length_singleton] at CN
                have CK := hide (fun w' (g : wr.grownBy w' none) => held (unhide ER) (unhide BC wr (unhide hg)) hp48 g)
                have CM := hide (fun w' (k : Kept W0.heap.size c B wr w') => held_kept (unhide ER) (unhide BC wr (unhide hg)) hp48 k hf0 nf ns nc (Nat.le_trans hB.size (Nat.le_refl _)) hWl)
                have GX := hide (cf.grown_drew wr none)
                have hp48i : ((plc pre.length 0 : Nat) : Int) < 48 := by omega
                generalize plc pre.length 0 = p0 at *
                go_region_held3 (fun w' => w'.cell? ⟨B.f, 0, none⟩ = some (.func (.func 109) #[] #[.pointer (some ⟨B.s, 0, none⟩), .pointer (some ⟨B.y, 0, none⟩), .pointer (some ⟨B.l, 0, none⟩), .pointer (some ⟨B.w, 0, none⟩), .pointer (some ⟨B.f, 0, none⟩)]) ∧ w'.cell? ⟨B.s, 0, none⟩ = some (.pointer (some ⟨c, 0, none⟩)) ∧ w'.cell? ⟨W.heap.size, 0, none⟩ = some (.int .u64 (kc.lo X : Int)) ∧ w'.cell? ⟨W.heap.size, 1, none⟩ = some (.int .u64 (kc.hi X : Int)) ∧ w'.cell? ⟨c, 2 + p0 * 2, none⟩ = some (.int .u64 (kc.lo (s.H p0) : Int)) ∧ w'.cell? ⟨c, 2 + p0 * 2 + 1, none⟩ = some (.int .u64 (kc.hi (s.H p0) : Int))) (go_keep) (first
                  | (go_at_call 58; refine (unhide CW _).mono ?_; rintro e w8 ⟨rfl, g8⟩; replace GX := hide (grown_trans (r := none) (unhide GX) g8); obtain ⟨k1, k2, k3, k4, k5, k6⟩ := unhide CK _ (unhide GX); clear g8)
                  | (go_at_call 91; refine (unhide CQ _).mono ?_; rintro e w8 ⟨rfl, g8⟩; replace GX := hide (grown_trans (r := none) (unhide GX) g8); obtain ⟨k1, k2, k3, k4, k5, k6⟩ := unhide CK _ (unhide GX); clear g8)
                  | (go_at_call 112; refine (unhide CU _).mono ?_; rintro e w8 ⟨rfl, g8⟩; replace GX := hide (grown_trans (r := none) (unhide GX) g8); obtain ⟨k1, k2, k3, k4, k5, k6⟩ := unhide CK _ (unhide GX); clear g8)
                  | (go_at_call 109; refine (unhide CN _ (unhide GX)).mono ?_; rintro e w8 ⟨r, hr, rfl, hj, hbx, hkp⟩; have HR := hide hr; have HJ := hide hj; have HBX := hide hbx; have HKP := hide (Kept.of (unhide GX) hkp); obtain ⟨k1, k2, k3, k4, k5, k6⟩ := unhide CM w8 (unhide HKP); clear hr hj hbx hkp))
                have q1 := (unhide HBX).cell
                have LS := hide (km.left_step (LL := LL) (a := a) hlt)
                have FIN : Hid (SrchE W W0.heap.size c n LL a pre B Jx (.returned (.int .u64 (r : Int))) w8) := by
                  refine ⟨r, unhide HR, rfl, .inr ⟨0 :: l, ?_, ?_, unhide HBX, Kept.of (grown_trans (r := none) (unhide G1) (unhide hg)) (unhide HKP)⟩⟩
                  · rw [unhide LS, unhide HL]
                  · have := unhide HJ
                    rw [List.append_assoc] at this
                    exact this
                go_wp2
                gi_wp2
                go_ret
                exact unhide FIN
            · rw [hw1] at CH
              have C := hide CH
              have HF : Hid (Half n LL a pre 0) := ⟨km.left_skip h24 hlt (unhide HP).bit (.inl rfl) hR.li ha (by rw [(km.plc_swp _).1]; exact hw1), .inl ⟨hw1, rfl⟩⟩
              clear CH hw1
              go_wp2_with fail
              refine (unhide C _).mono ?_
              rintro e w3 ⟨rfl, hw⟩
              have hw' := hw.symm
              clear hw
              subst hw'
              go_wp2_with fail
              go_roundw
              case rel => exact ⟨hg, 0, rfl, by decide, .inr (.inl ⟨rfl, HF⟩)⟩
              case measure => simp [intOf]
          · have ER := hide ((unhide E1).kept (unhide hg))
            have r1 := (unhide ER).bw.cell
            have okx : lits.okB (-((pre.length : Int) + 1)) = true := lits.okB_iff.2 ⟨by omega, by omega, by omega⟩
            have CH := (fun w' => (bset.hasC (setOf a) (-((pre.length : Int) + 1)) w' (bset.setOf_lt a) okx))
            rw [show placeN (-((pre.length : Int) + 1)) = plc pre.length 0 from place0 (by omega)] at CH
            cases hw1 : (setOf a).testBit (plc pre.length 0)
            · rw [hw1] at CH
              have C := hide CH
              have okn : lits.okB ((pre.length : Int) + 1) = true := lits.okB_iff.2 ⟨by omega, by omega, by omega⟩
              have hp0 : placeN ((pre.length : Int) + 1) = plc pre.length 1 := place1 (by omega)
              have hp48 : plc pre.length 1 < 48 := by unfold km.plc; simp; omega
              have hPt := km.path_snoc (unhide HP) hlt (.inr rfl) (by rw [(km.plc_swp _).2]; exact hw1) (unhide HCL)
              have hWd := word_snoc hW okn hp0
              have hCl := closed_snoc hR (unhide ER).sl.m (unhide HX) (p := plc pre.length 1) (x := 1) rfl
              have hc0 := (unhide ER).sl.cell (k := 2 + plc pre.length 1 * 2) (by omega)
              have hc1 := (unhide ER).sl.cell (k := 2 + plc pre.length 1 * 2 + 1) (by omega)
              rw [Nat.mul_comm, kd.atH0 _ hp48] at hc0
              rw [Nat.mul_comm, kd.atH1 _ hp48] at hc1
              rw [Nat.mul_comm] at hc0 hc1
              have hHlt := kd.lt128 ((unhide ER).sl.h (plc pre.length 1)) (unhide ER).sl.m
              have CI := hide (fun w5 (g : wr.grownBy w5 none) => unhide IH 0 (pre ++ [1]) _ _ w5 (by rw [List.length_append, List.length_singleton]; omega) hPt hWd hCl (hB.trans (sl.below_of (grown_trans (r := none) (grown_trans (r := none) (unhide G1) (unhide hg)) g) |>.mono hB.size)) ((unhide ER).kept g))
              have CW := hide (fun w' => toGrown (bset.withC P ((pre.length : Int) + 1) w' hW.1 okn))
              have CP := (fun w' => toGrown (bset.placeC ((pre.length : Int) + 1) w' okn))
              have CU := hide (fun w' => (kc.union X (s.H (plc pre.length 1)) w' (unhide HX).1 hHlt))
              rw [hp0] at CP
              have CQ := hide CP
              clear CP
              have r7 := (unhide ER).bf.cell
              unfold fnV at r7
              have r3 := (unhide ER).bs.cell
              have b0 := (unhide BC wr (unhide hg)).c0
              have b1 := (unhide BC wr (unhide hg)).c1
              clear CH hw1 hPt hWd hCl
              unfold cset at CU CI
              go_wp2_with fail
              refine (unhide C _).mono ?_
              rintro e w3 ⟨rfl, hw⟩
              have hw' := hw.symm
              clear hw
              subst hw'
              go_wp2_with fail
              cases hL : left_ n LL a (pre ++ [1])
              · have CN := hide (fun w5 g => srch_none (unhide CI w5 g) hL)
                have HL := hide hL
                clear CI hL
                rw [List.length_append, List.length_singleton] at CN
                have CK := hide (fun w' (g : wr.grownBy w' none) => held (unhide ER) (unhide BC wr (unhide hg)) hp48 g)
                have GX := hide (cf.grown_drew wr none)
                have hp48i : ((plc pre.length 1 : Nat) : Int) < 48 := by omega
                generalize plc pre.length 1 = p0 at *
                go_region_held3 (fun w' => w'.cell? ⟨B.f, 0, none⟩ = some (.func (.func 109) #[] #[.pointer (some ⟨B.s, 0, none⟩), .pointer (some ⟨B.y, 0, none⟩), .pointer (some ⟨B.l, 0, none⟩), .pointer (some ⟨B.w, 0, none⟩), .pointer (some ⟨B.f, 0, none⟩)]) ∧ w'.cell? ⟨B.s, 0, none⟩ = some (.pointer (some ⟨c, 0, none⟩)) ∧ w'.cell? ⟨W.heap.size, 0, none⟩ = some (.int .u64 (kc.lo X : Int)) ∧ w'.cell? ⟨W.heap.size, 1, none⟩ = some (.int .u64 (kc.hi X : Int)) ∧ w'.cell? ⟨c, 2 + p0 * 2, none⟩ = some (.int .u64 (kc.lo (s.H p0) : Int)) ∧ w'.cell? ⟨c, 2 + p0 * 2 + 1, none⟩ = some (.int .u64 (kc.hi (s.H p0) : Int))) (go_keep) (first
                  | (go_at_call 58; refine (unhide CW _).mono ?_; rintro e w8 ⟨rfl, g8⟩; replace GX := hide (grown_trans (r := none) (unhide GX) g8); obtain ⟨k1, k2, k3, k4, k5, k6⟩ := unhide CK _ (unhide GX); clear g8)
                  | (go_at_call 91; refine (unhide CQ _).mono ?_; rintro e w8 ⟨rfl, g8⟩; replace GX := hide (grown_trans (r := none) (unhide GX) g8); obtain ⟨k1, k2, k3, k4, k5, k6⟩ := unhide CK _ (unhide GX); clear g8)
                  | (go_at_call 112; refine (unhide CU _).mono ?_; rintro e w8 ⟨rfl, g8⟩; replace GX := hide (grown_trans (r := none) (unhide GX) g8); obtain ⟨k1, k2, k3, k4, k5, k6⟩ := unhide CK _ (unhide GX); clear g8)
                  | (go_at_call 109; refine (unhide CN _ (unhide GX)).mono ?_; rintro e w8 ⟨r, hr, rfl, hcf, g8⟩; have HR := hide hr; have HCF := hide hcf; replace GX := hide (grown_trans (r := none) (unhide GX) g8); obtain ⟨k1, k2, k3, k4, k5, k6⟩ := unhide CK _ (unhide GX); clear g8 hr hcf))
                have q1 := ((unhide ER).kept (unhide GX)).bl.cell
                have CB := fun w' => bset.hasC r (-((pre.length : Int) + 1)) w' (unhide HR) okx
                rw [show placeN (-((pre.length : Int) + 1)) = plc pre.length 0 from place0 (by omega)] at CB
                have GW := hide (grown_trans (r := none) (unhide hg) (unhide GX))
                clear k1 k2 k3 k4 k5 k6
                cases hbit : r.testBit (plc pre.length 0)
                · rw [hbit] at CB
                  have C2 := hide CB
                  have FIN : Hid (SrchE W W0.heap.size c n LL a pre B Jx (.returned (.int .u64 (r : Int))) w8) := by
                    have cj := km.conf_jump (unhide HCF) (by rw [(km.plc_swp _).2]; exact hbit)
                    exact ⟨r, unhide HR, rfl, .inl ⟨km.left_conf h24 hpl (unhide HP).bit hR.li ha cj, cj, grown_trans (unhide G1) (unhide GW)⟩⟩
                  clear CB hbit
                  go_wp2_with fail
                  refine (unhide C2 _).mono ?_
                  rintro e w9 ⟨rfl, hw⟩
                  have hw' := hw.symm
                  clear hw
                  subst hw'
                  go_wp2
                  gi_wp2
                  go_ret
                  exact unhide FIN
                · rw [hbit] at CB
                  have C2 := hide CB
                  have CO := hide (fun w' => srt.without r (-((pre.length : Int) + 1)) w' (unhide HR) okx)
                  have EO := hide (u64_or_nat d (srt.woN r (-((pre.length : Int) + 1))) (by omega) (by have := srt.woN_lt (S := r) (x := -((pre.length : Int) + 1)) (unhide HR); omega))
                  have HF : Hid (left_ n LL a pre = none ∧ Conf n (LL.map setOf) (setOf a) (d ||| srt.woN r (-((pre.length : Int) + 1))) pre) := half_both h24 hpl (unhide HP).bit hR.li ha (unhide hh) (unhide HCF) (fun b => wo_bit (unhide HR) okx (place0 (by omega)) b)
                  have hdl : d ||| srt.woN r (-((pre.length : Int) + 1)) < 2 ^ 48 := kc.or_lt hd (srt.woN_lt (unhide HR))
                  clear CB hbit
                  generalize srt.woN r (-((pre.length : Int) + 1)) = d2 at *
                  go_wp2_with fail
                  refine (unhide C2 _).mono ?_
                  rintro e w9 ⟨rfl, hw⟩
                  have hw' := hw.symm
                  clear hw
                  subst hw'
                  go_wp2_with fail
                  refine (unhide CO _).mono ?_
                  rintro e w9 ⟨rfl, hw⟩
                  have hw' := hw.symm
                  clear hw
                  subst hw'
                  go_wp2_with fail
                  go_roundw
                  case rel => exact ⟨GW, d ||| d2, by rw [unhide EO], hdl, .inr (.inr ⟨rfl, HF⟩)⟩
                  case measure => simp [intOf]
              · rename_i l
                have CN := hide (fun w5 g => srch_some (unhide CI w5 g) hL)
                have HL := hide hL
                clear CI hL
                rw [List.length_append, List.length_singleton] at CN
                have CK := hide (fun w' (g : wr.grownBy w' none) => held (unhide ER) (unhide BC wr (unhide hg)) hp48 g)
                have CM := hide (fun w' (k : Kept W0.heap.size c B wr w') => held_kept (unhide ER) (unhide BC wr (unhide hg)) hp48 k hf0 nf ns nc (Nat.le_trans hB.size (Nat.le_refl _)) hWl)
                have GX := hide (cf.grown_drew wr none)
                have hp48i : ((plc pre.length 1 : Nat) : Int) < 48 := by omega
                generalize plc pre.length 1 = p0 at *
                go_region_held3 (fun w' => w'.cell? ⟨B.f, 0, none⟩ = some (.func (.func 109) #[] #[.pointer (some ⟨B.s, 0, none⟩), .pointer (some ⟨B.y, 0, none⟩), .pointer (some ⟨B.l, 0, none⟩), .pointer (some ⟨B.w, 0, none⟩), .pointer (some ⟨B.f, 0, none⟩)]) ∧ w'.cell? ⟨B.s, 0, none⟩ = some (.pointer (some ⟨c, 0, none⟩)) ∧ w'.cell? ⟨W.heap.size, 0, none⟩ = some (.int .u64 (kc.lo X : Int)) ∧ w'.cell? ⟨W.heap.size, 1, none⟩ = some (.int .u64 (kc.hi X : Int)) ∧ w'.cell? ⟨c, 2 + p0 * 2, none⟩ = some (.int .u64 (kc.lo (s.H p0) : Int)) ∧ w'.cell? ⟨c, 2 + p0 * 2 + 1, none⟩ = some (.int .u64 (kc.hi (s.H p0) : Int))) (go_keep) (first
                  | (go_at_call 58; refine (unhide CW _).mono ?_; rintro e w8 ⟨rfl, g8⟩; replace GX := hide (grown_trans (r := none) (unhide GX) g8); obtain ⟨k1, k2, k3, k4, k5, k6⟩ := unhide CK _ (unhide GX); clear g8)
                  | (go_at_call 91; refine (unhide CQ _).mono ?_; rintro e w8 ⟨rfl, g8⟩; replace GX := hide (grown_trans (r := none) (unhide GX) g8); obtain ⟨k1, k2, k3, k4, k5, k6⟩ := unhide CK _ (unhide GX); clear g8)
                  | (go_at_call 112; refine (unhide CU _).mono ?_; rintro e w8 ⟨rfl, g8⟩; replace GX := hide (grown_trans (r := none) (unhide GX) g8); obtain ⟨k1, k2, k3, k4, k5, k6⟩ := unhide CK _ (unhide GX); clear g8)
                  | (go_at_call 109; refine (unhide CN _ (unhide GX)).mono ?_; rintro e w8 ⟨r, hr, rfl, hj, hbx, hkp⟩; have HR := hide hr; have HJ := hide hj; have HBX := hide hbx; have HKP := hide (Kept.of (unhide GX) hkp); obtain ⟨k1, k2, k3, k4, k5, k6⟩ := unhide CM w8 (unhide HKP); clear hr hj hbx hkp))
                have q1 := (unhide HBX).cell
                have LS := hide (km.left_step (LL := LL) (a := a) hlt)
                have FIN : Hid (SrchE W W0.heap.size c n LL a pre B Jx (.returned (.int .u64 (r : Int))) w8) := by
                  refine ⟨r, unhide HR, rfl, .inr ⟨1 :: l, ?_, ?_, unhide HBX, Kept.of (grown_trans (r := none) (unhide G1) (unhide hg)) (unhide HKP)⟩⟩
                  · rw [unhide LS, (unhide hh).1, unhide HL]
                    rfl
                  · have := unhide HJ
                    rw [List.append_assoc] at this
                    exact this
                go_wp2
                gi_wp2
                go_ret
                exact unhide FIN
            · rw [hw1] at CH
              have C := hide CH
              have HF : Hid (left_ n LL a pre = none ∧ Conf n (LL.map setOf) (setOf a) d pre) := half_skip h24 hpl (unhide HP).bit hR.li ha (unhide hh) hw1
              clear CH hw1
              go_wp2_with fail
              refine (unhide C _).mono ?_
              rintro e w3 ⟨rfl, hw⟩
              have hw' := hw.symm
              clear hw
              subst hw'
              go_wp2_with fail
              go_roundw
              case rel => exact ⟨hg, d, rfl, hd, .inr (.inr ⟨rfl, HF⟩)⟩
              case measure => simp [intOf]
          · obtain ⟨hL, hC⟩ := unhide hh
            have FIN : Hid (SrchE W W0.heap.size c n LL a pre B Jx (.returned (.int .u64 (d : Int))) wr) := ⟨d, hd, rfl, .inl ⟨hL, hC, grown_trans (unhide G1) (unhide hg)⟩⟩
            clear hL hC hh
            go_wp2
            gi_wp2
            go_ret
            exact unhide FIN
end Go.Proofs.YtapkckfgbimmcaaDoor.ks
