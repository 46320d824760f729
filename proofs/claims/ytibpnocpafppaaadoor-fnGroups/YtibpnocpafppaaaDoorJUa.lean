/- Groups as plain mathematics: labels, the pairs made one, the words of the classes; no condition. A map of the call's own from numbers to words: made, looked up, written; no condition. groupsOf of the program: the map of the classes' words, at every formula. groupsOf of the program: the walk. Groups of the program: what it answers at every formula that holds at most 2^20 values. Groups of the model: the labels as a list, what a store does; no condition. Groups of the model: the walk. What both Groups answer; conditions: a formula that holds at most 2^20 values. -/
import Derived.Test.YtibpnocpafppaaaDoorSrtW
import Derived.Test.YtibpnocpafppaaaDoorOk
import Derived.Maps.Own
import Derived.Maps.OwnOps
import Derived.Maps.OwnSet
import Derived.Maps.Views
import Derived.Test.YtibpnocpafppaaaDoorCss
import Derived.Test.YtibpnocpafppaaaDoorCf
import Derived.Test.YtibpnocpafppaaaDoorGb
import Derived.Test.YtibpnocpafppaaaDoorGr
import Derived.Deep.QuietTactic
import Derived.BigQuiet
namespace Go.Proofs.YtibpnocpafppaaaDoor.fg
open lits (okB varI)
open ok (cnfB)
open bset (withN placeN)
open srt (srt litI fstI)
set_option linter.unusedVariables false
def join (o : Nat → Nat) (x y : Nat) : Nat → Nat := fun u => if o u = max (o x) (o y) then min (o x) (o y) else o u
structure Lab (o : Nat → Nat) : Prop where
 le : ∀ u, o u ≤ u
 same : ∀ u, o (o u) = o u
 pos : ∀ u, 1 ≤ u → 1 ≤ o u
theorem lab_id : Lab id := ⟨fun _ => Nat.le_refl _, fun _ => rfl, fun _ h => h⟩
theorem join_lab {o : Nat → Nat} (h : Lab o) {x y : Nat} (hx : 1 ≤ x) (hy : 1 ≤ y) : Lab (join o x y) := by
 have x1 := h.pos x hx
 have y1 := h.pos y hy
 have xs := h.same x
 have ys := h.same y
 have ms : o (min (o x) (o y)) = min (o x) (o y) := by
  rcases Nat.le_total (o x) (o y) with q | q
  ·rw [Nat.min_eq_left q, xs]
  ·rw [Nat.min_eq_right q, ys]
 refine ⟨fun u => ?_, fun u => ?_, fun u hu => ?_⟩
 ·have := h.le u
  unfold join
  split <;> omega
 ·have hs := h.same u
  unfold join
  by_cases e : o u = max (o x) (o y)
  ·rw [if_pos e, ms]
   split <;> rfl
  ·rw [if_neg e, hs, if_neg e]
 ·have := h.pos u hu
  unfold join
  split <;> omega
theorem join_rel (o : Nat → Nat) (x y u w : Nat) : join o x y u = join o x y w ↔ o u = o w ∨ ((o u = o x ∨ o u = o y) ∧ (o w = o x ∨ o w = o y)) := by
 unfold join
 split <;> split <;> omega
theorem join_self (o : Nat → Nat) (x : Nat) : join o x x = o := by
 funext u
 unfold join
 split <;> omega
def vn (C : List Int) (k : Nat) : Nat := (varI (C.getD k 0)).toNat
def oT (o : Nat → Nat) (C : List Int) : Nat → Nat → Nat
 | 0 => o
 | k + 1 => join (oT o C k) (vn C 0) (vn C k)
theorem oT_one (o : Nat → Nat) (C : List Int) : oT o C 1 = o := join_self o _
def tch (o : Nat → Nat) (C : List Int) : Nat → Nat → Bool
 | 0, _ => false
 | k + 1, u => tch o C k u || decide (o u = o (vn C k))
theorem tch_first (o : Nat → Nat) (C : List Int) : ∀ k u, 1 ≤ k → o u = o (vn C 0) → tch o C k u = true
 | 0, _, h, _ => absurd h (by decide)
 | 1, u, _, e => by simp [tch, e]
 | k + 2, u, _, e => by
  show (tch o C (k + 1) u || _) = true
  rw [tch_first o C (k + 1) u (by omega) e]
  rfl
theorem tch_cong (o : Nat → Nat) (C : List Int) {u w : Nat} (e : o u = o w) : ∀ k, tch o C k u = tch o C k w
 | 0 => rfl
 | k + 1 => by
  show (tch o C k u || _) = (tch o C k w || _)
  rw [tch_cong o C e k, e]
theorem tch_mono (o : Nat → Nat) (C : List Int) {u : Nat} {k : Nat} (h : tch o C k u = true) : tch o C (k + 1) u = true := by
 show (tch o C k u || _) = true
 rw [h]
 rfl
theorem oT_rel (o : Nat → Nat) (C : List Int) (u w : Nat) : ∀ k, oT o C k u = oT o C k w ↔ o u = o w ∨ (tch o C k u = true ∧ tch o C k w = true) := by
 intro k
 induction k generalizing u w with
 | zero => simp [oT, tch]
 | succ k ih =>
  show join (oT o C k) (vn C 0) (vn C k) u = join (oT o C k) (vn C 0) (vn C k) w ↔ _
  rw [join_rel, ih u w, ih u (vn C 0), ih u (vn C k), ih w (vn C 0), ih w (vn C k)]
  have s1 : ∀ z, tch o C (k + 1) z = true ↔ tch o C k z = true ∨ o z = o (vn C k) := fun z => by
   show (tch o C k z || decide (o z = o (vn C k))) = true ↔ _
   rw [Bool.or_eq_true, decide_eq_true_eq]
  rw [s1 u, s1 w]
  rcases Nat.eq_zero_or_pos k with rfl | hk
  ·simp [tch]
  ·have f := fun z => tch_first o C k z hk
   have f0 := f (vn C 0) rfl
   have fu := f u
   have fw := f w
   constructor
   ·rintro ((a | ⟨a, b⟩) | ⟨a, b⟩)
    ·exact .inl a
    ·exact .inr ⟨.inl a, .inl b⟩
    ·refine .inr ⟨?_, ?_⟩
     ·rcases a with (a | a) | (a | a)
      ·exact .inl (fu a)
      ·exact .inl a.1
      ·exact .inr a
      ·exact .inl a.1
     ·rcases b with (b | b) | (b | b)
      ·exact .inl (fw b)
      ·exact .inl b.1
      ·exact .inr b
      ·exact .inl b.1
   ·rintro (a | ⟨a, b⟩)
    ·exact .inl (.inl a)
    ·refine .inr ⟨?_, ?_⟩
     ·rcases a with a | a
      ·exact .inl (.inr ⟨a, f0⟩)
      ·exact .inr (.inl a)
     ·rcases b with b | b
      ·exact .inl (.inr ⟨b, f0⟩)
      ·exact .inr (.inl b)
theorem oT_lab {o : Nat → Nat} (h : Lab o) {C : List Int} (hC : ∀ k, k < C.length → 1 ≤ vn C k) : ∀ k, k ≤ C.length → Lab (oT o C k)
 | 0, _ => h
 | k + 1, hk => join_lab (oT_lab h hC k (by omega)) (hC 0 (by omega)) (hC k (by omega))
def lab (LL : List (List Int)) : Nat → Nat → Nat
 | 0 => id
 | i + 1 => oT (lab LL i) (LL.getD i []) (LL.getD i []).length
def wd (P : Nat → Bool) : Nat → Nat
 | 0 => 0
 | n + 1 => if P (n + 1) then wd P n ||| 2 ^ (2 * n) else wd P n
theorem wd_bit (P : Nat → Bool) : ∀ n i, (wd P n).testBit i = (decide (i % 2 = 0 ∧ i / 2 < n) && P (i / 2 + 1))
 | 0, i => by simp [wd]
 | n + 1, i => by
  unfold wd
  by_cases e : i = 2 * n
  ·subst e
   have d1 : (2 * n) % 2 = 0 := by omega
   have d2 : (2 * n) / 2 = n := by omega
   split
   ·rename_i hp
    rw [Nat.testBit_or, Nat.testBit_two_pow_self, d1, d2, hp]
    simp
   ·rename_i hp
    rw [wd_bit P n, d1, d2]
    simp at hp
    simp [hp]
  ·have e2 : (2 ^ (2 * n)).testBit i = false := by
    rw [Nat.testBit_two_pow]
    exact decide_eq_false (fun q => e q.symm)
   have e3 : decide (i % 2 = 0 ∧ i / 2 < n + 1) = decide (i % 2 = 0 ∧ i / 2 < n) := by
    apply decide_eq_decide.2
    omega
   split
   ·rw [Nat.testBit_or, e2, Bool.or_false, wd_bit P n, e3]
   ·rw [wd_bit P n, e3]
theorem wd_lt (P : Nat → Bool) {n : Nat} (h : n ≤ 24) : wd P n < 2 ^ 48 := srt.lt48 fun i hi => by
 rw [wd_bit, decide_eq_false (by omega), Bool.false_and]
theorem wd_or (P Q : Nat → Bool) (n : Nat) : wd P n ||| wd Q n = wd (fun u => P u || Q u) n := by
 apply Nat.eq_of_testBit_eq
 intro i
 rw [Nat.testBit_or, wd_bit, wd_bit, wd_bit]
 cases decide (i % 2 = 0 ∧ i / 2 < n) <;> rfl
theorem wd_cong {P Q : Nat → Bool} {n : Nat} (h : ∀ u, 1 ≤ u → u ≤ n → P u = Q u) : wd P n = wd Q n := by
 apply Nat.eq_of_testBit_eq
 intro i
 rw [wd_bit, wd_bit]
 by_cases e : i % 2 = 0 ∧ i / 2 < n
 ·rw [h (i / 2 + 1) (by omega) (by omega)]
 ·rw [decide_eq_false e]
  rfl
theorem wd_none (n : Nat) : wd (fun _ => false) n = 0 := by
 apply Nat.eq_of_testBit_eq
 intro i
 rw [wd_bit, Bool.and_false, Nat.zero_testBit]
theorem place_v {v : Nat} (h : 1 ≤ v) : placeN (v : Int) = 2 * (v - 1) := by
 unfold placeN lits.placeI
 rw [if_neg (by omega)]
 omega
theorem wd_one {n v : Nat} (h1 : 1 ≤ v) (h2 : v ≤ n) : withN 0 (v : Int) = wd (fun u => decide (u = v)) n := by
 apply Nat.eq_of_testBit_eq
 intro i
 unfold withN
 rw [Nat.testBit_or, Nat.zero_testBit, Bool.false_or, Nat.testBit_two_pow, place_v h1, wd_bit, ← Bool.decide_and]
 apply decide_eq_decide.2
 omega
def cl (P : Nat → Bool) : Nat → List Int
 | 0 => []
 | n + 1 => cl P n ++ (if P (n + 1) then [((n + 1 : Nat) : Int)] else [])
theorem cl_len (P : Nat → Bool) : ∀ n, (cl P n).length ≤ n
 | 0 => Nat.le_refl _
 | n + 1 => by
  have := cl_len P n
  unfold cl
  split <;> simp <;> omega
theorem cl_mem (P : Nat → Bool) (y : Int) : ∀ n, y ∈ cl P n ↔ ∃ u, 1 ≤ u ∧ u ≤ n ∧ P u = true ∧ y = (u : Int)
 | 0 => by
  constructor
  ·intro h
   cases h
  ·rintro ⟨u, h1, h2, _⟩
   omega
 | n + 1 => by
  unfold cl
  rw [List.mem_append, cl_mem P y n]
  constructor
  ·rintro (⟨u, h1, h2, h3, h4⟩ | h)
   ·exact ⟨u, h1, by omega, h3, h4⟩
   ·split at h
    ·rename_i hp
     rw [List.mem_singleton] at h
     exact ⟨n + 1, by omega, Nat.le_refl _, hp, h⟩
    ·cases h
  ·rintro ⟨u, h1, h2, h3, h4⟩
   by_cases e : u = n + 1
   ·subst e
    right
    rw [if_pos h3, List.mem_singleton]
    exact h4
   ·exact .inl ⟨u, h1, by omega, h3, h4⟩
theorem wd_list (P : Nat → Bool) {n : Nat} (h : n ≤ 24) : srt (wd P n) 48 = cl P n := by
 have e : srt (wd P n) 48 = srt (wd P n) (2 * n) := srt.srt_skip (by omega) fun i h1 h2 => by
  rw [wd_bit, decide_eq_false (by omega), Bool.false_and]
 rw [e]
 have key : ∀ m, m ≤ n → srt (wd P n) (2 * m) = cl P m := by
  intro m
  induction m with
  | zero => intro _; rfl
  | succ m ih =>
   intro hm
   have b1 : (wd P n).testBit (2 * m + 1) = false := by
    rw [wd_bit, decide_eq_false (by omega), Bool.false_and]
   have b0 : (wd P n).testBit (2 * m) = P (m + 1) := by
    rw [wd_bit, decide_eq_true (by omega), Bool.true_and, show 2 * m / 2 = m from by omega]
   rw [show 2 * (m + 1) = 2 * m + 1 + 1 from by omega, srt.srt_no b1]
   unfold cl
   cases hp : P (m + 1)
   ·rw [hp] at b0
    rw [srt.srt_no b0, ih (by omega)]
    simp
   ·rw [hp] at b0
    rw [srt.srt_yes b0, ih (by omega), srt.litI_even]
    simp
 exact key n (Nat.le_refl _)
theorem wd_first {o : Nat → Nat} (h : Lab o) {n v : Nat} (hn : n ≤ 24) (h1 : 1 ≤ v) (h2 : v ≤ n) : 0 < wd (fun u => decide (o u = o v)) n ∧ fstI (wd (fun u => decide (o u = o v)) n) = (o v : Int) := by
 have ov1 := h.pos v h1
 have ov2 := h.le v
 have b0 : (wd (fun u => decide (o u = o v)) n).testBit (2 * (o v - 1)) = true := by
  rw [wd_bit, decide_eq_true (by omega), Bool.true_and, show 2 * (o v - 1) / 2 + 1 = o v from by omega]
  exact decide_eq_true (h.same v)
 have p0 : 0 < wd (fun u => decide (o u = o v)) n := by
  rcases Nat.eq_zero_or_pos (wd (fun u => decide (o u = o v)) n) with q | q
  ·rw [q, Nat.zero_testBit] at b0
   cases b0
  ·exact q
 refine ⟨p0, ?_⟩
 obtain ⟨t, m, et, ht, es⟩ := srt.low p0 (wd_lt _ hn)
 have bt : (wd (fun u => decide (o u = o v)) n).testBit t = true := by
  rw [es, srt.low_bit, if_pos (by omega)]
  exact decide_eq_true rfl
 have nb : ∀ i, i < t → (wd (fun u => decide (o u = o v)) n).testBit i = false := fun i hi => by
  rw [es, srt.low_bit, if_pos (by omega)]
  exact decide_eq_false (by omega)
 have hle : t ≤ 2 * (o v - 1) := by
  rcases Nat.lt_or_ge (2 * (o v - 1)) t with q | q
  ·rw [nb _ q] at b0
   cases b0
  ·exact q
 rw [wd_bit, Bool.and_eq_true, decide_eq_true_eq, decide_eq_true_eq] at bt
 obtain ⟨⟨t1, t2⟩, t3⟩ := bt
 have t4 := h.le (t / 2 + 1)
 have e : t = 2 * (o v - 1) := by omega
 unfold fstI
 rw [← et, e, srt.litI_even]
 omega
def wdo (o : Nat → Nat) (n v : Nat) : Nat := wd (fun u => decide (o u = o v)) n
theorem wdo_id {n v : Nat} (h1 : 1 ≤ v) (h2 : v ≤ n) : withN 0 (v : Int) = wdo id n v := wd_one h1 h2
theorem wd_step (o : Nat → Nat) (C : List Int) (n k : Nat) : wd (tch o C k) n ||| wdo o n (vn C k) = wd (tch o C (k + 1)) n := wd_or _ _ _
theorem wdo_next (o : Nat → Nat) (C : List Int) (n v : Nat) : wdo (oT o C C.length) n v = if tch o C C.length v = true then wd (tch o C C.length) n else wdo o n v := by
 split
 ·rename_i ht
  refine wd_cong fun u _ _ => ?_
  cases q : tch o C C.length u
  ·refine decide_eq_false fun e => ?_
   rcases (oT_rel o C u v _).1 e with a | ⟨a, _⟩
   ·rw [tch_cong o C a, ht] at q
    cases q
   ·rw [q] at a
    cases a
  ·exact decide_eq_true ((oT_rel o C u v _).2 (.inr ⟨q, ht⟩))
 ·rename_i ht
  refine wd_cong fun u _ _ => ?_
  apply decide_eq_decide.2
  rw [oT_rel o C u v]
  constructor
  ·rintro (a | ⟨_, b⟩)
   ·exact a
   ·exact absurd b ht
  ·exact .inl
def outs (o : Nat → Nat) (n : Nat) : Nat → List (List Int)
 | 0 => []
 | m + 1 => outs o n m ++ (if o (m + 1) = m + 1 then [cl (fun u => decide (o u = m + 1)) n] else [])
theorem outs_len (o : Nat → Nat) (n : Nat) : ∀ m, (outs o n m).length ≤ m
 | 0 => Nat.le_refl _
 | m + 1 => by
  have := outs_len o n m
  unfold outs
  split <;> simp <;> omega
def grpL (n : Int) (LL : List (List Int)) : List (List Int) := if cnfB n LL then outs (lab LL LL.length) n.toNat n.toNat else []
end Go.Proofs.YtibpnocpafppaaaDoor.fg
namespace Go.Proofs.YtibpnocpafppaaaDoor.fh
open Go.ChangeShapes Go.WideShapes Go.ChangeAt Go.RowKit Go.Maps
open sl (hide unhide grown_refl grown_trans)
set_option linter.unusedVariables false
theorem law : Keyed Tryd.prog 3 := int_keyed Tryd.underlying3
theorem zeroS (w : World) : (zeroValue 83).run Tryd.prog w = .ok (.int .u64 0) w := by kernel_rfl
theorem keyOf_v {v : Int} (h : -24 ≤ v ∧ v ≤ 24) : keyOf Tryd.prog 3 (.int .i64 v) = some (.int .i64 v) := keyOf_int_mk Tryd.underlying3 (WalkArith.wf_i64 (by omega))
theorem wf_u (x : Nat) (h : x < 2 ^ 48) : (Lit.int .u64 (x : Int)).wf = true := by
 have e : IntKind.u64.min = 0 := by decide
 have e2 : IntKind.u64.max = 18446744073709551615 := by decide
 simp [Lit.wf, e, e2]
 omega
def MapI (w : World) (b m : Nat) (F : Int → Nat) : Prop :=
 ∃ D : DataW Unit, w.ownsMap Tryd.prog 3 (plainElem Tryd.prog 83) b m D ∧ ∀ v : Int, -24 ≤ v → v ≤ 24 → D.atKey (.int .i64 v) (.lit (.int .u64 0)) = .lit (.int .u64 (F v : Int))
theorem MapI.made (w : World) : MapI (w.alloc (.map #[] 0)) w.heap.size 0 (fun _ => 0) :=
 ⟨.map [], World.ownsMap_made w Tryd.prog 3 (plainElem (H := Unit) Tryd.prog 83), fun v _ _ => rfl⟩
theorem MapI.kept {w w1 : World} {b m : Nat} {F : Int → Nat} {r : Option Nat} (h : MapI w b m F) (g : w.grownBy w1 r) (hr : some b ≠ r) : MapI w1 b m F := by
 obtain ⟨D, h1, h2⟩ := h
 exact ⟨D, h1.kept g hr, h2⟩
theorem MapI.cong {w : World} {b m : Nat} {F G : Int → Nat} (h : MapI w b m F) (e : ∀ v : Int, -24 ≤ v → v ≤ 24 → F v = G v) : MapI w b m G := by
 obtain ⟨D, h1, h2⟩ := h
 exact ⟨D, h1, fun v a c => by rw [h2 v a c, e v a c]⟩
theorem MapI.mono {w : World} {b m m' : Nat} {F : Int → Nat} (h : MapI w b m F) (e : m ≤ m') : MapI w b m' F := by
 obtain ⟨D, h1, h2⟩ := h
 exact ⟨D, h1.mono e, h2⟩
theorem MapI.lt {w : World} {b m : Nat} {F : Int → Nat} (h : MapI w b m F) : b < w.heap.size := by
 obtain ⟨D, ⟨es, cl, hb, _⟩, _⟩ := h
 exact (Array.getElem?_eq_some_iff.1 hb).1
theorem look_law (w : World) {ops : Array Oper} {rest : List Oper} {o : Oper} {a : Act} {Q : Exit → Act → World → Prop}
  (hg : o.guard = none) (m x : Operand) (hop : o.op = Op.lookup 89 m x false) (b n : Nat) (F : Int → Nat) (v : Int) (hv : -24 ≤ v ∧ v ≤ 24)
  (hm : a.eval m = .map (some b)) (h : MapI w b n F) (hx : a.eval x = .int .i64 v)
  (hK : wpList Tryd.prog ops Q rest (a.put o.dst (.int .u64 (F v : Int))) w) : wpList Tryd.prog ops Q (o :: rest) a w := by
 obtain ⟨D, h1, h2⟩ := h
 refine wpList_lookup_own_int w hg m x _ hop 3 83 .u64 law Tryd.underlying89 Tryd.underlying83 (zeroS w) b n D hm h1 _ _ hx (keyOf_v hv) ?_
 intro c hc _
 rw [h2 v hv.1 hv.2] at hc
 injection hc with hc
 injection hc with _ hc
 rw [← hc]
 exact hK
theorem store_law (w : World) {ops : Array Oper} {rest : List Oper} {o : Oper} {a : Act} {Q : Exit → Act → World → Prop}
  (hg : o.guard = none) (m x y : Operand) (hop : o.op = Op.mapUpdate 89 m x y) (b n : Nat) (F : Int → Nat) (v : Int) (S : Nat) (hv : -24 ≤ v ∧ v ≤ 24) (hS : S < 2 ^ 48) (hn : n < maxLen)
  (hm : a.eval m = .map (some b)) (h : MapI w b n F) (hx : a.eval x = .int .i64 v) (hy : a.eval y = .int .u64 (S : Int))
  (hK : ∀ w', MapI w' b (n + 1) (fun u => if u = v then S else F u) → w.grownBy w' (some b) → wpList Tryd.prog ops Q rest (a.put o.dst undef) w') : wpList Tryd.prog ops Q (o :: rest) a w := by
 obtain ⟨D, h1, h2⟩ := h
 refine wpList_mapUpdate_own w hg m x y _ hop 3 83 law Tryd.underlying89 _ b n D hm h1 hn _ _ _ hx hy (keyOf_v hv) _ [] (plainElem_int Tryd.underlying83 (wf_u S hS)) ?_
 intro w' k1 k2
 refine hK w' ⟨_, k1, fun u a c => ?_⟩ k2
 dsimp only
 split
 ·rename_i e
  rw [e]
  exact atKey_put_same h1.isMap (show WideAt.IsKeyLit (.int .i64 v) from trivial) _ _
 ·rename_i e
  rw [atKey_put_other (fun q => e (by injection q)), h2 u a c]
end Go.Proofs.YtibpnocpafppaaaDoor.fh
namespace Go.Proofs.YtibpnocpafppaaaDoor.fi
open Go.ChangeShapes Go.WideShapes Go.ChangeAt Go.RowKit
open lits (okB varI)
open sl (Sl Own ints hide unhide grown_refl grown_trans below_of of_below)
open css (Sls tot)
open cf (Box)
open ok (cnfB)
open bset (withN)
open srt (srt fstI Tab)
open fg
open fh
set_option linter.unusedVariables false
theorem grown_in {w0 wr w1 : World} {r : Nat} (h : w0.grownBy wr none) (k : wr.grownBy w1 (some r)) (hr : w0.heap.size ≤ r) : w0.grownBy w1 none :=
 ⟨k.os.trans h.os, k.tape.trans h.tape, k.output.trans h.output, Nat.le_trans h.size k.size, fun i hi _ => (k.block i (Nat.lt_of_lt_of_le hi h.size) (fun e => by injection e with e; omega)).trans (h.block i hi (fun e => by cases e))⟩
structure St (w wr : World) (n : Int) (v : Value) (m : Nat) (F : Int → Nat) : Prop where
 g : w.grownBy wr none
 bx : Box 26 wr w.heap.size (.int .i64 n) v
 mp : MapI wr (w.heap.size + 1) m F
theorem St.kept {w wr w1 : World} {n : Int} {v : Value} {m : Nat} {F : Int → Nat} (h : St w wr n v m F) (g : wr.grownBy w1 none) : St w w1 n v m F := ⟨grown_trans h.g g, h.bx.kept g, h.mp.kept g (by simp)⟩
theorem St.put {w wr w1 : World} {n : Int} {v : Value} {m m' : Nat} {F G : Int → Nat} (h : St w wr n v m F) (g : wr.grownBy w1 (some (w.heap.size + 1))) (hm : MapI w1 (w.heap.size + 1) m' G) : St w w1 n v m' G :=
 ⟨grown_in h.g g (by omega), h.bx.by g (by simp), hm⟩
theorem St.cong {w wr : World} {n : Int} {v : Value} {m : Nat} {F G : Int → Nat} (h : St w wr n v m F) (e : ∀ v : Int, -24 ≤ v → v ≤ 24 → F v = G v) : St w wr n v m G := ⟨h.g, h.bx, h.mp.cong e⟩
def preF (j : Nat) (n : Nat) (u : Int) : Nat := if 1 ≤ u ∧ u < (j : Int) then wdo id n u.toNat else 0
def allF (o : Nat → Nat) (n : Nat) (u : Int) : Nat := if 1 ≤ u ∧ u ≤ (n : Int) then wdo o n u.toNat else 0
def midF (o : Nat → Nat) (n : Nat) (M : List Int) (J p : Nat) (u : Int) : Nat := if u ∈ M.take p then J else allF o n u
theorem pre_zero (n : Nat) (u : Int) : 0 = preF 1 n u := by
 unfold preF
 rw [if_neg (by omega)]
theorem pre_step {j n : Nat} (h1 : 1 ≤ j) (h2 : j ≤ n) (u : Int) : (if u = (j : Int) then withN 0 (j : Int) else preF j n u) = preF (j + 1) n u := by
 unfold preF
 by_cases e : u = (j : Int)
 ·rw [if_pos e, if_pos (by omega), e, wdo_id h1 h2, Int.toNat_natCast]
 ·rw [if_neg e]
  by_cases k : 1 ≤ u ∧ u < (j : Int)
  ·rw [if_pos k, if_pos (by omega)]
  ·rw [if_neg k, if_neg (by omega)]
theorem pre_end (n : Nat) (u : Int) : preF (n + 1) n u = allF id n u := by
 unfold preF allF
 by_cases k : 1 ≤ u ∧ u ≤ (n : Int)
 ·rw [if_pos k, if_pos (by omega)]
 ·rw [if_neg k, if_neg (by omega)]
theorem take_snocI (M : List Int) (k : Nat) (h : k < M.length) : M.take (k + 1) = M.take k ++ [M.getD k 0] := by
 rw [List.take_add_one, List.getElem?_eq_getElem h]
 simp [List.getD, List.getElem?_eq_getElem h]
theorem getD_in {α : Type} {L : List α} {i : Nat} {d : α} (h : i < L.length) : L.getD i d ∈ L := by
 have e : L.getD i d = L[i] := by simp [List.getD, List.getElem?_eq_getElem h]
 rw [e]
 exact List.getElem_mem h
theorem mid_zero (o : Nat → Nat) (n : Nat) (M : List Int) (J : Nat) (u : Int) : allF o n u = midF o n M J 0 u := by
 unfold midF
 rw [List.take_zero, if_neg (by simp)]
theorem mid_step (o : Nat → Nat) (n : Nat) (M : List Int) (J p : Nat) (h : p < M.length) (u : Int) : (if u = M.getD p 0 then J else midF o n M J p u) = midF o n M J (p + 1) u := by
 unfold midF
 rw [take_snocI M p h]
 by_cases e : u = M.getD p 0
 ·rw [if_pos e, if_pos (by rw [e]; simp)]
 ·rw [if_neg e]
  by_cases k : u ∈ M.take p
  ·rw [if_pos k, if_pos (by simp [k])]
  ·rw [if_neg k, if_neg (by simp only [List.mem_append, List.mem_singleton]; rintro (q | q); exact k q; exact e q)]
theorem mid_end (o : Nat → Nat) (C : List Int) (n : Nat) (u : Int) : midF o n (cl (tch o C C.length) n) (wd (tch o C C.length) n) (cl (tch o C C.length) n).length u = allF (oT o C C.length) n u := by
 unfold midF allF
 rw [List.take_length]
 by_cases k : 1 ≤ u ∧ u ≤ (n : Int)
 ·obtain ⟨x, rfl⟩ := Int.eq_ofNat_of_zero_le (show 0 ≤ u by omega)
  rw [if_pos k, if_pos k, Int.toNat_natCast, wdo_next]
  by_cases t : tch o C C.length x = true
  ·rw [if_pos t, if_pos ((cl_mem _ _ _).2 ⟨x, by omega, by omega, t, rfl⟩)]
  ·rw [if_neg t, if_neg]
   intro q
   obtain ⟨y, _, _, hy, e⟩ := (cl_mem _ _ _).1 q
   have : x = y := by exact_mod_cast e
   rw [this] at t
   exact t hy
 ·rw [if_neg k, if_neg k, if_neg]
  intro q
  obtain ⟨y, h1, h2, _, e⟩ := (cl_mem _ _ _).1 q
  omega
theorem in_bd {n : Nat} {LL : List (List Int)} (h : cnfB n LL = true) : n ≤ 24 ∧ LL.length ≤ 120 ∧ ∀ i, i < LL.length → (LL.getD i []).length ≤ 48 ∧ ∀ k, k < (LL.getD i []).length → okB ((LL.getD i []).getD k 0) = true ∧ varI ((LL.getD i []).getD k 0) = (vn (LL.getD i []) k : Int) ∧ 1 ≤ vn (LL.getD i []) k ∧ vn (LL.getD i []) k ≤ n := by
 unfold ok.cnfB at h
 rw [Bool.and_eq_true, Bool.and_eq_true, decide_eq_true_eq, decide_eq_true_eq, List.all_eq_true] at h
 obtain ⟨⟨h1, h2⟩, h3⟩ := h
 refine ⟨by omega, h2, fun i hi => ?_⟩
 have hm : LL.getD i [] ∈ LL := getD_in hi
 have h4 := h3 _ hm
 unfold ok.clB at h4
 rw [Bool.and_eq_true, decide_eq_true_eq, List.all_eq_true] at h4
 refine ⟨h4.2, fun k hk => ?_⟩
 have hx : (LL.getD i []).getD k 0 ∈ LL.getD i [] := getD_in hk
 have h5 := h4.1 _ hx
 unfold ok.litIn at h5
 rw [Bool.and_eq_true, decide_eq_true_eq] at h5
 have h6 := lits.okB_iff.1 h5.1
 have h7 := lits.varI_yes h6
 unfold vn
 generalize (LL.getD i []).getD k 0 = x at *
 have h8 : 1 ≤ varI x := by
  rw [h7]
  split <;> omega
 exact ⟨h5.1, by omega, by omega, by omega⟩
theorem all_at {o : Nat → Nat} {n x : Nat} (h1 : 1 ≤ x) (h2 : x ≤ n) : allF o n (x : Int) = wdo o n x := by
 unfold allF
 rw [if_pos (by omega), Int.toNat_natCast]
end Go.Proofs.YtibpnocpafppaaaDoor.fi
namespace Go.Proofs.YtibpnocpafppaaaDoor.fi
open Go.ChangeShapes Go.WideShapes Go.ChangeAt Go.RowKit
open lits (okB varI)
open sl (Sl Own ints hide unhide grown_refl grown_trans below_of of_below)
open css (Sls tot)
open cf (Box)
open ok (cnfB)
open bset (withN)
open srt (srt fstI Tab)
open fg
open fh
set_option linter.unusedVariables false
theorem okB_nat {j : Nat} (h1 : 1 ≤ j) (h2 : j ≤ 24) : okB (j : Int) = true := lits.okB_iff.2 ⟨by omega, by omega, by omega⟩
theorem grown_any (w : World) (r : Option Nat) : w.grownBy w r := ⟨rfl, rfl, rfl, Nat.le_refl _, fun _ _ _ => rfl⟩
theorem grown_two {a b c : World} {r : Option Nat} (h : a.grownBy b r) (k : b.grownBy c r) : a.grownBy c r :=
 ⟨k.os.trans h.os, k.tape.trans h.tape, k.output.trans h.output, Nat.le_trans h.size k.size, fun i hi hr => (k.block i (Nat.lt_of_lt_of_le hi h.size) hr).trans (h.block i hi hr)⟩
set_option maxRecDepth 10000 in
set_option maxHeartbeats 16000000 in
theorem groupsOf (v : Value) (n : Nat) (LL : List (List Int)) (w : World) (hT : Tab w) (hn : tot LL ≤ 1048576) (hB : cnfB n LL = true) (hv : Sls w v LL) :
  Calls Tryd.prog 88 #[.agg #[.int .i64 (n : Int), v]] w fun e w' => e = .returned (.map (some (w.heap.size + 1))) ∧ ∃ m, St w w' n v m (allF (lab LL LL.length) n) := by
 obtain ⟨n24, hLL, HI⟩ := in_bd hB
 obtain ⟨a, cap, e0, ha⟩ := hv
 subst e0
 obtain ⟨W1, hW1⟩ : ∃ W1, W1 = w.alloc (.cells #[.int .i64 (n : Int), .slice a LL.length cap] 26) := ⟨_, rfl⟩
 have g1 : w.grownBy W1 none := by rw [hW1]; exact World.grownBy_alloc _ _ _
 have s1 : W1.heap.size = w.heap.size + 1 := by rw [hW1, World.size_alloc]
 have B1 : Box 26 W1 w.heap.size (.int .i64 (n : Int)) (.slice a LL.length cap) := by rw [hW1]; exact Box.new _ _ _ _
 obtain ⟨W2, hW2⟩ : ∃ W2, W2 = W1.alloc (.map #[] 0) := ⟨_, rfl⟩
 have g2 : W1.grownBy W2 none := by rw [hW2]; exact World.grownBy_alloc _ _ _
 have M2 : MapI W2 (w.heap.size + 1) 0 (preF 1 n) := by
  have := MapI.made W1
  rw [s1, ← hW2] at this
  exact this.cong (fun u _ _ => pre_zero n u)
 have S2 : Hid (St w W2 (n : Int) (.slice a LL.length cap) 0 (preF 1 n)) := ⟨grown_trans (r := none) g1 g2, B1.kept g2, M2⟩
 have b0 := B1.c0
 have HS1 := hide s1
 have HA := hide ha
 have HT := hide hT
 have HIH := hide HI
 have hmm : ∀ (x : Int) (w : World), (Instr.makeMap 89 (some (.int .i64 x))).run Tryd.prog w = .ok (.map (some w.heap.size)) (w.alloc (.map #[] 0)) := fun x w => by
  simp [Instr.makeMap, run_underlying Tryd.underlying89, asInt, asIntOf, Result.andThen, go_sem]
 clear g1 s1 B1 g2 M2 ha hT HI hB
 go_enter Tryd.func88, Tryd.ntmps88
 go_wp2_with fail
 rw [← hW1]
 rw [← hW2]
 clear hW1 hW2 b0 hmm
 go_loopw [4] (fun i wr => ∃ j m : Nat, 1 ≤ j ∧ j ≤ n + 1 ∧ m ≤ j ∧ i = .int .i64 (j : Int) ∧ Hid (St w wr (n : Int) (.slice a LL.length cap) m (preF j n))) (fun i _ => n + 1 - (intOf i).toNat)
 case atStart => exact ⟨1, 0, Nat.le_refl _, by omega, by omega, rfl, S2⟩
 case round =>
  obtain ⟨j, m, h1, h2, h3, rfl, hs⟩ := hrel
  clear S2
  have x0 := (unhide hs).bx.c0
  by_cases hlt : j ≤ n
  ·have hi' : (j : Int) ≤ (n : Int) := by omega
   have CW := hide (bset.withC 0 (j : Int) wr (by decide) (okB_nat h1 (by omega)))
   have wl := bset.withN_lt (s := 0) (x := (j : Int)) (by decide) (okB_nat h1 (by omega))
   have PS := hide (fun u => pre_step (j := j) (n := n) h1 hlt u)
   have wr8 : IntKind.i8.wrap (j : Int) = (j : Int) := by
    have key : ∀ q : Fin 25, IntKind.i8.wrap (q.val : Int) = (q.val : Int) := by decide
    exact key ⟨j, by omega⟩
   generalize withN 0 (j : Int) = S at *
   go_wp2_with fail
   refine (unhide CW).mono ?_; rintro e w2 ⟨rfl, hw⟩; have hw' := hw.symm; clear hw; subst hw'
   go_wp2_with (first | (at_mapUpdate; refine store_law _ rfl _ _ _ rfl (w.heap.size + 1) m (preF j n) (j : Int) S ⟨by omega, by omega⟩ wl (by unfold maxLen; omega) rfl (unhide hs).mp rfl rfl ?_) | go_in)
   intro w3 m3 g3
   have HP : Hid (St w w3 (n : Int) (.slice a LL.length cap) (m + 1) (preF (j + 1) n)) := ((unhide hs).put g3 m3).cong (fun u _ _ => unhide PS u)
   have y0 := (unhide HP).bx.c0
   clear m3 g3 x0
   go_wp2_with fail
   go_roundw
   case rel => exact ⟨j + 1, m + 1, by omega, by omega, by omega, by go_num, HP⟩
   case measure => simp [intOf]; omega
  ·have hi' : ¬ (j : Int) ≤ (n : Int) := by omega
   have ej : j = n + 1 := by omega
   have S1 : Hid (St w wr (n : Int) (.slice a LL.length cap) m (allF id n)) := by
    rw [ej] at hs
    exact (unhide hs).cong (fun u _ _ => pre_end n u)
   have x1 := (unhide hs).bx.c1
   clear hs
   go_wp2_with fail
   clear x0 x1
   go_loopw [29] (fun i wx => ∃ k m2 : Nat, k ≤ LL.length ∧ m2 ≤ 25 + 24 * k ∧ i = .int .i64 (k : Int) ∧ Hid (St w wx (n : Int) (.slice a LL.length cap) m2 (allF (lab LL k) n))) (fun i _ => LL.length - (intOf i).toNat)
   case atStart => exact ⟨0, m, Nat.zero_le _, by omega, rfl, S1⟩
   case round =>
    obtain ⟨k, m2, hk, hm2, rfl, hs⟩ := hrel
    clear S1
    by_cases hkl : k < LL.length
    ·have hk' : (k : Int) < (LL.length : Int) := by omega
     rcases unhide HA with h | ⟨b, off, rfl, hb, hcb⟩
     ·rw [h] at hkl
      simp at hkl
     ·obtain ⟨u, hu, hsl⟩ := hcb k hkl
      have gk := (unhide hs).g
      have c1 := gk.cell hu (fun e => by cases e)
      obtain ⟨hC48, HI'⟩ := unhide HIH k hkl
      have LSx : ∀ y, allF (oT (lab LL k) (LL.getD k []) (LL.getD k []).length) n y = allF (lab LL (k + 1)) n y := fun _ => rfl
      obtain ⟨ua, uc, eu, hua⟩ := hsl.kept gk (.inl rfl)
      subst eu
      have LS := hide LSx
      have HUA := hide hua
      have HII := hide HI'
      have TK := hide ((unhide HT).kept gk)
      clear hcb HA hu hsl gk LSx hua HI' HIH HT
      generalize LL.getD k [] = C at *
      generalize lab LL k = o at *
      have tz : wd (tch o C 0) n = 0 := wd_none n
      have TZ := hide tz
      clear tz
      go_wp2_with fail
      go_loop [7, 35] (fun s i => ∃ p : Nat, p ≤ C.length ∧ i = .int .i64 (p : Int) ∧ s = .int .u64 ((wd (tch o C p) n : Nat) : Int)) (fun _ i => C.length - (intOf i).toNat)
      case atStart => exact ⟨0, Nat.zero_le _, rfl, by rw [unhide TZ]; rfl⟩
      case round =>
       obtain ⟨p, hp, rfl, rfl⟩ := hrel
       by_cases hpl : p < C.length
       ·rcases unhide HUA with h | ⟨b2, off2, rfl, hb2, hcb2⟩
        ·rw [h] at hpl
         simp at hpl
        ·have c2 := hcb2 p hpl
         have hp' : (p : Int) < (C.length : Int) := by omega
         obtain ⟨q0, q1, q2, q3⟩ := unhide HII p hpl
         have LV0 := fun w => lits.implLitVar (C.getD p 0) w
         rw [q1] at LV0
         have LV := hide LV0
         have ml := all_at (o := o) q2 q3
         have eo := srt.orN_eq (wd (tch o C p) n) (wdo o n (vn C p)) (wd_lt _ n24) (wd_lt _ n24)
         rw [wd_step o C n p, ← ml] at eo
         obtain ⟨J2, hJ2⟩ : ∃ J2, J2 = wd (tch o C (p + 1)) n := ⟨_, rfl⟩
         rw [← hJ2] at eo
         have HJ := hide hJ2
         have MP := hide (unhide hs).mp
         clear hJ2 LV0 ml q0 q1 hcb2
         generalize wd (tch o C p) n = J at *
         generalize vn C p = q at *
         generalize C.getD p 0 = x at *
         go_wp2_with (first | (go_at_call 134; refine (unhide LV _).mono ?_; rintro e w' ⟨rfl, rfl⟩) | (at_lookup; refine look_law _ rfl _ _ rfl (w.heap.size + 1) _ (allF o n) (q : Int) ⟨by omega, by omega⟩ rfl (unhide MP) rfl ?_) | go_in)
         go_round
         case rel => exact ⟨p + 1, by omega, by go_num, by rw [← unhide HJ]⟩
         case measure => simp [intOf]; omega
       ·have hp' : ¬ (p : Int) < (C.length : Int) := by omega
        have ep : p = C.length := by omega
        subst ep
        have LC0 := srt.list (wd (tch o C C.length) n) wr (unhide TK) (wd_lt _ n24)
        rw [wd_list _ n24] at LC0
        have LC := hide LC0
        have ML := cl_len (tch o C C.length) n
        have MM := hide (fun y h => (cl_mem (tch o C C.length) y n).1 h)
        have JL := wd_lt (tch o C C.length) n24
        have ME := hide (fun y => mid_end o C n y)
        have MZ := hide (fun y => mid_zero o n (cl (tch o C C.length) n) (wd (tch o C C.length) n) y)
        have MS := hide (fun p (h : p < (cl (tch o C C.length) n).length) y => mid_step o n (cl (tch o C C.length) n) (wd (tch o C C.length) n) p h y)
        clear LC0 HUA HII TZ
        generalize wd (tch o C C.length) n = J at *
        generalize cl (tch o C C.length) n = M at *
        go_wp2_with fail
        refine (unhide LC).mono ?_; rintro e w5 ⟨u5, rfl, o5, g5⟩
        have S5 : Hid (St w w5 (n : Int) (.slice (some ⟨b, off, none⟩) LL.length cap) m2 (midF o n M J 0)) := ((unhide hs).kept g5).cong (fun y _ _ => unhide MZ y)
        have nb0 : u5.ownBlock ≠ some (w.heap.size + 1) := by
         intro e
         have h1 := (o5.lt _ e).1
         have h2 := (unhide hs).mp.lt
         omega
        have s5 := Sl.of_own o5
        obtain ⟨a5, c5, eu5, _⟩ := id s5
        subst eu5
        have HS5 := hide s5
        have NB := hide nb0
        clear o5 g5 LC s5 nb0 hs TK
        go_wp2_with fail
        go_loopw [49] (fun i wy => ∃ p m3 : Nat, p ≤ M.length ∧ m3 ≤ 25 + 24 * k + p ∧ i = .int .i64 (p : Int) ∧ Hid (w5.grownBy wy (some (w.heap.size + 1))) ∧ Hid (St w wy (n : Int) (.slice (some ⟨b, off, none⟩) LL.length cap) m3 (midF o n M J p))) (fun i _ => M.length - (intOf i).toNat)
        case atStart => exact ⟨0, m2, Nat.zero_le _, by omega, rfl, grown_any _ _, S5⟩
        case round =>
         obtain ⟨p, m3, hp3, hm3, rfl, hg3, hs⟩ := hrel
         clear S5 c1
         by_cases hpl3 : p < M.length
         ·have hp3' : (p : Int) < (M.length : Int) := by omega
          obtain ⟨a6, c6, e6, hu6⟩ := (unhide HS5).kept (unhide hg3) (.inr (unhide NB))
          cases e6
          rcases hu6 with h | ⟨b6, off6, rfl, hb6, hcb6⟩
          ·rw [h] at hpl3
           simp at hpl3
          ·have c3 := hcb6 p hpl3
           obtain ⟨y, y1, y2, _, ey⟩ := unhide MM (M.getD p 0) (getD_in hpl3)
           have MS' := hide (fun z => unhide MS p hpl3 z)
           rw [ey] at c3 MS'
           clear hcb6 ey
           go_wp2_with (first | (at_mapUpdate; refine store_law _ rfl _ _ _ rfl (w.heap.size + 1) m3 (midF o n M J p) (y : Int) J ⟨by omega, by omega⟩ JL (by unfold maxLen; omega) rfl (unhide hs).mp rfl rfl ?_) | go_in)
           intro w6 m6 g6
           have HP : Hid (St w w6 (n : Int) (.slice (some ⟨b, off, none⟩) LL.length cap) (m3 + 1) (midF o n M J (p + 1))) := ((unhide hs).put g6 m6).cong (fun u _ _ => unhide MS' u)
           have HG : Hid (w5.grownBy w6 (some (w.heap.size + 1))) := grown_two (unhide hg3) g6
           clear m6 g6 c3
           go_wp2_with fail
           go_roundw
           case rel => exact ⟨p + 1, m3 + 1, by omega, by omega, by go_num, HG, HP⟩
           case measure => simp [intOf]; omega
         ·have hp3' : ¬ (p : Int) < (M.length : Int) := by omega
          have ep : p = M.length := by omega
          subst ep
          have HP : Hid (St w wr (n : Int) (.slice (some ⟨b, off, none⟩) LL.length cap) m3 (allF (lab LL (k + 1)) n)) := (unhide hs).cong (fun u _ _ => (unhide ME u).trans (unhide LS u))
          clear hs HS5
          go_wp2_with fail
          go_roundw
          case rel => exact ⟨k + 1, m3, by omega, by omega, by go_num, HP⟩
          case measure => simp [intOf]; omega
    ·have hk' : ¬ (k : Int) < (LL.length : Int) := by omega
     have ek : k = LL.length := by omega
     rw [ek] at hs
     clear HA HIH HT
     go_wp2_with fail
     go_ret
     exact ⟨rfl, m2, unhide hs⟩
end Go.Proofs.YtibpnocpafppaaaDoor.fi
namespace Go.Proofs.YtibpnocpafppaaaDoor.fi
open Go.ChangeShapes Go.WideShapes Go.ChangeAt Go.RowKit
open lits (okB varI)
open sl (Sl Own ints hide unhide grown_refl grown_trans below_of of_below)
open css (Sls OwnS tot own_mono)
open cf (Box)
open ok (cnfB)
open bset (withN)
open srt (srt fstI Tab)
open fg
open fh
set_option linter.unusedVariables false
def GrpE (RR : List (List Int)) (w : World) (e : Ending) (w' : World) : Prop := ∃ u, e = .returned u ∧ OwnS w.heap.size w'.heap.size w' u RR ∧ w.grownBy w' none
theorem own_up {W wr w3 w4 : World} {v : Value} {M : List (List Int)} {o : Obj} (g0 : W.grownBy wr none) (h : OwnS W.heap.size wr.heap.size wr v M) (g3 : wr.grownBy w3 none) (g4 : (w3.alloc o).grownBy w4 v.ownBlock) : W.grownBy w4 none := by
 obtain ⟨D, _, ho, _⟩ := h
 have gA := grown_trans (r := none) (grown_trans (r := none) g0 g3) (World.grownBy_alloc w3 o none)
 exact ⟨g4.os.trans gA.os, g4.tape.trans gA.tape, g4.output.trans gA.output, Nat.le_trans gA.size g4.size, fun j hj _ => by
  rw [g4.block j (Nat.lt_of_lt_of_le hj gA.size) (fun e => by have := (ho.lt j e.symm).1; omega)]
  exact gA.block j hj (fun e => by cases e)⟩
theorem lab_ok {n : Nat} {LL : List (List Int)} (h : cnfB n LL = true) : ∀ i, i ≤ LL.length → Lab (lab LL i)
 | 0, _ => lab_id
 | i + 1, hi => by
  obtain ⟨_, _, H⟩ := in_bd h
  exact oT_lab (lab_ok h i (by omega)) (fun k hk => ((H i (by omega)).2 k hk).2.2.1) _ (Nat.le_refl _)
theorem lit_none (w : World) : OwnS w.heap.size (w.heap.size + 1) (w.alloc (.cells #[] 31)) (.slice (some ⟨w.heap.size, 0, none⟩) 0 0) [] :=
 ⟨[], rfl, World.ownsRow_lit w #[] 0 (Nat.le_refl _) (Nat.zero_le _) rfl, fun k e => by simp [Value.ownBlock] at e; omega, fun p hp => (List.not_mem_nil hp).elim, List.Pairwise.nil⟩
theorem mkS (n : Nat) (hn : n ≤ 1048576) (w : World) : (Instr.makeSlice 24 (.int .i64 0) (.int .i64 (n : Int))).run Tryd.prog w = .ok (.slice (some ⟨w.heap.size, 0, none⟩) 0 n) (w.alloc (.cells (madeCells #[.slice none 0 0] n) 31)) := by
 obtain ⟨i0, hi, hz0, hz1, hz2⟩ := info_parts css.infoSl
 have hr := run_make (P := Tryd.prog) w 24 31 i0 (.slice none 0 0) Tryd.underlying24 hi hz0 .i64 .i64 0 n (by decide) (by omega) (by rw [hz2]; omega) (by omega)
 rw [hz1, Nat.mul_one] at hr
 exact hr
theorem madeS (w : World) (n : Nat) (hn : n ≤ 1048576) : OwnS w.heap.size (w.heap.size + 1) (w.alloc (.cells (madeCells #[.slice none 0 0] n) 31)) (.slice (some ⟨w.heap.size, 0, none⟩) 0 n) [] :=
 ⟨[], rfl, World.ownsRow_made w _ n (Nat.le_refl _) (by unfold maxLen; omega) (by rw [size_madeCells, Nat.mul_one]), fun k e => by simp [Value.ownBlock] at e; omega, fun p hp => (List.not_mem_nil hp).elim, List.Pairwise.nil⟩
set_option maxRecDepth 10000 in
set_option maxHeartbeats 16000000 in
theorem implGroups (v : Value) (n : Int) (LL : List (List Int)) (w : World) (hT : Tab w) (hn : tot LL ≤ 1048576) (hv : Sls w v LL) :
  Calls Tryd.prog 29 #[.agg #[.int .i64 n, v]] w fun e w' => GrpE (grpL n LL) w e w' := by
 obtain ⟨W1, hW1⟩ : ∃ W1, W1 = w.alloc (.cells #[.int .i64 n, v] 26) := ⟨_, rfl⟩
 have g1 : w.grownBy W1 none := by rw [hW1]; exact World.grownBy_alloc _ _ _
 have B1 : Box 26 W1 w.heap.size (.int .i64 n) v := by rw [hW1]; exact Box.new _ _ _ _
 have CO := hide (ok.implCnfOk v n LL W1 hn (hv.kept g1))
 have GO0 := fun (N : Nat) (w2 : World) (g : W1.grownBy w2 none) (hB : cnfB (N : Int) LL = true) => groupsOf v N LL w2 ((hT.kept g1).kept g) hn hB ((hv.kept g1).kept g)
 have GO := hide GO0
 have HT := hide (hT.kept g1)
 have HB1 := hide B1
 have G1 := hide g1
 have x0 := B1.c0
 have x1 := B1.c1
 have HW1 := hide hW1
 obtain ⟨a, cap, rfl, _⟩ := hv
 clear g1 B1 hT GO0 hW1
 go_enter Tryd.func29, Tryd.ntmps29
 go_wp2_with fail
 rw [← unhide HW1]
 refine (unhide CO).mono ?_; rintro e w2 ⟨rfl, g2⟩
 have b2 := (unhide HB1).kept g2
 have y0 := b2.c0
 have y1 := b2.c1
 have HG2 := hide g2
 have HB2 := hide b2
 clear x0 x1 HW1 CO g2 b2
 cases hB : cnfB n LL
 ·have E := hide (show grpL n LL = [] by unfold grpL; rw [hB]; rfl)
  clear hB
  go_wp2_with fail
  go_ret
  refine ⟨_, rfl, ?_, ?_⟩
  ·rw [unhide E]
   exact (lit_none w2).sub (by have := (unhide G1).size; have := (unhide HG2).size; omega) (by rw [World.size_alloc]; exact Nat.le_refl _)
  ·exact grown_trans (grown_trans (unhide G1) (unhide HG2)) (World.grownBy_alloc _ _ _)
 ·have hN : 0 ≤ n ∧ n ≤ 24 := by
   unfold ok.cnfB at hB
   rw [Bool.and_eq_true, Bool.and_eq_true, decide_eq_true_eq] at hB
   exact hB.1.1
  obtain ⟨N, rfl⟩ := Int.eq_ofNat_of_zero_le hN.1
  have n24 : N ≤ 24 := by omega
  have LB := lab_ok hB LL.length (Nat.le_refl _)
  have E := hide (show grpL (N : Int) LL = outs (lab LL LL.length) N N by unfold grpL; rw [hB, Int.toNat_natCast]; rfl)
  have GO2 := hide (unhide GO N w2 (unhide HG2) hB)
  have HLB := hide LB
  clear hB hN LB GO
  generalize lab LL LL.length = o at *
  go_wp2_with fail
  refine (unhide GO2).mono ?_; rintro e w3 ⟨rfl, m, s3⟩
  have HS3 := hide s3
  have b3 := (unhide HB2).kept s3.g
  have z0 := b3.c0
  have HB3 := hide b3
  have MP := hide s3.mp
  have hlo : w2.heap.size + 1 < w3.heap.size := s3.mp.lt
  have mk := mkS N (by omega)
  have ga := World.grownBy_alloc w3 (.cells (madeCells #[.slice none 0 0] N) 31) none
  have o4 := (madeS w3 N (by omega)).sub (Nat.le_refl _) (show w3.heap.size + 1 ≤ (w3.alloc (.cells (madeCells #[.slice none 0 0] N) 31)).heap.size by rw [World.size_alloc]; exact Nat.le_refl _)
  have O4 := hide o4
  have GA := hide ga
  have HLO := hide hlo
  clear s3 b3 ga o4 hlo y0 y1 GO2
  go_wp2_with fail
  generalize hW4 : w3.alloc (.cells (madeCells #[.slice none 0 0] N) 31) = W4 at *
  clear hW4 mk z0
  have Z0 := hide (fun (wr : World) (g : w3.grownBy wr none) => ((unhide HB3).kept g).c0)
  go_loopw [4, 5] (fun u i wr => ∃ q : Nat, q ≤ N ∧ i = .int .i64 ((q : Int) + 1) ∧ Hid (w3.grownBy wr none) ∧ Hid (OwnS w3.heap.size wr.heap.size wr u (outs o N q))) (fun _ i _ => N + 1 - (intOf i).toNat)
  case atStart => exact ⟨0, by omega, rfl, GA, O4⟩
  case round =>
   obtain ⟨q, hq, rfl, hg, ho⟩ := hrel
   clear O4 GA
   have z0 := unhide Z0 _ (unhide hg)
   obtain ⟨ua, uc, eu⟩ := (unhide ho).len
   subst eu
   by_cases hlt : q < N
   ·have hi' : (q : Int) + 1 ≤ (N : Int) := by omega
    have ml : allF o N ((q : Int) + 1) = wdo o N (q + 1) := by
     rw [show (q : Int) + 1 = ((q + 1 : Nat) : Int) from by omega]
     exact all_at (by omega) (by omega)
    have ws : 0 < wdo o N (q + 1) ∧ fstI (wdo o N (q + 1)) = (o (q + 1) : Int) := wd_first (unhide HLB) n24 (by omega) (by omega)
    have wl : wdo o N (q + 1) < 2 ^ 48 := wd_lt _ n24
    have el : srt (wdo o N (q + 1)) 48 = cl (fun u => decide (o u = o (q + 1))) N := wd_list _ n24
    have TK := ((unhide HT).kept (unhide HG2)).kept (grown_trans (r := none) (unhide HS3).g (unhide hg))
    have FC := srt.first (wdo o N (q + 1)) _ TK ws.1 wl
    have LC := srt.list (wdo o N (q + 1)) _ TK wl
    rw [ws.2, ← ml] at FC
    rw [el, ← ml] at LC
    have wr8 : IntKind.i8.wrap ((q : Int) + 1) = (q : Int) + 1 := by
     have key : ∀ y : Fin 25, IntKind.i8.wrap (y.val : Int) = (y.val : Int) := by decide
     have := key ⟨q + 1, by omega⟩
     rw [show ((q : Int) + 1) = ((q + 1 : Nat) : Int) from by omega]
     exact this
    have MQ := hide ((unhide MP).kept (unhide hg) (by simp))
    have ol := outs_len o N q
    clear ws wl el TK ml
    by_cases e : o (q + 1) = q + 1
    ·have oy : outs o N (q + 1) = outs o N q ++ [cl (fun u => decide (o u = q + 1)) N] := by
      show outs o N q ++ (if o (q + 1) = q + 1 then [cl (fun u => decide (o u = q + 1)) N] else []) = _
      rw [if_pos e]
     rw [e, show ((q + 1 : Nat) : Int) = (q : Int) + 1 from by omega] at FC
     rw [e] at LC
     have FH := hide FC
     have LH := hide LC
     have OY := hide oy
     clear FC LC oy e
     generalize cl (fun u => decide (o u = q + 1)) N = L at *
     generalize outs o N q = M at *
     go_wp2_with (first | (at_lookup; refine look_law _ rfl _ _ rfl (w2.heap.size + 1) m (allF o N) ((q : Int) + 1) ⟨by omega, by omega⟩ rfl (unhide MQ) rfl ?_) | fail)
     refine (unhide FH).mono ?_; rintro e w5 ⟨rfl, hw⟩; have hw' := hw.symm; clear hw; subst hw'
     go_wp2_with (first | (at_lookup; refine look_law _ rfl _ _ rfl (w2.heap.size + 1) m (allF o N) ((q : Int) + 1) ⟨by omega, by omega⟩ rfl (unhide MQ) rfl ?_) | fail)
     refine (unhide LH).mono ?_; rintro e w5 ⟨r, rfl, o5, g5⟩
     obtain ⟨ra, rc, er, _⟩ := Sl.of_own o5
     subst er
     have HO := hide ((unhide ho).kept g5)
     have HR := hide (Own.of o5)
     have l1 : w3.heap.size ≤ _ := (unhide hg).size
     have l2 := g5.size
     have HG5 := hide g5
     clear o5 g5 FH LH z0
     go_wp2_with (first | (at_builtin; refine gr.appendR (unhide HO) (unhide HR) l1 l2 (by omega) rfl _ _ rfl rfl rfl ?_) | fail)
     intro g cap w6 o6 g6
     have HU : Hid (w3.grownBy w6 none) := own_up (unhide hg) (unhide ho) (unhide HG5) g6
     have HN : Hid (OwnS w3.heap.size w6.heap.size w6 (.slice (some ⟨g, 0, none⟩) (M.length + 1) cap) (outs o N (q + 1))) := by
      rw [unhide OY]
      exact o6
     have z1 := unhide Z0 _ (unhide HU)
     clear o6 g6 HO HR l1 l2 HG5 MQ ho hg
     go_wp2_with fail
     go_roundw
     case rel => exact ⟨q + 1, by omega, by go_num, HU, HN⟩
     case measure => simp [intOf]; omega
    ·have on : outs o N (q + 1) = outs o N q := by
      show outs o N q ++ (if o (q + 1) = q + 1 then [cl (fun u => decide (o u = q + 1)) N] else []) = _
      rw [if_neg e, List.append_nil]
     have ne : ((o (q + 1) : Int) == (q : Int) + 1) = false := by
      rw [beq_eq_false_iff_ne]
      omega
     have FH := hide FC
     have HN : Hid (OwnS w3.heap.size wr.heap.size wr (.slice ua (outs o N q).length uc) (outs o N (q + 1))) := by
      rw [on]
      exact unhide ho
     clear FC LC on e
     generalize (o (q + 1) : Int) = z at *
     go_wp2_with (first | (at_lookup; refine look_law _ rfl _ _ rfl (w2.heap.size + 1) m (allF o N) ((q : Int) + 1) ⟨by omega, by omega⟩ rfl (unhide MQ) rfl ?_) | fail)
     refine (unhide FH).mono ?_; rintro e w5 ⟨rfl, hw⟩; have hw' := hw.symm; clear hw; subst hw'
     go_wp2_with fail
     go_roundw
     case rel => exact ⟨q + 1, by omega, by go_num, hg, HN⟩
     case measure => simp [intOf]; omega
   ·have hi' : ¬ (q : Int) + 1 ≤ (N : Int) := by omega
    have eq : q = N := by omega
    subst eq
    clear MP HT Z0 HB1 HB2
    go_wp2_with fail
    go_ret
    refine ⟨_, rfl, ?_, ?_⟩
    ·rw [unhide E]
     exact (unhide ho).sub (by have := (unhide G1).size; have := (unhide HG2).size; have := unhide HLO; omega) (Nat.le_refl _)
    ·exact grown_trans (grown_trans (grown_trans (unhide G1) (unhide HG2)) (unhide HS3).g) (unhide hg)
end Go.Proofs.YtibpnocpafppaaaDoor.fi
namespace Go.Proofs.YtibpnocpafppaaaDoor.fi
open Go.ChangeShapes Go.WideShapes Go.ChangeAt Go.RowKit
open sl (Sl Own ints hide unhide grown_refl grown_trans below_of of_below)
open css (Sls OwnS tot own_mono)
open cf (Box)
open fg
set_option linter.unusedVariables false
def ofL (o : Nat → Nat) (n : Nat) : List Int := (List.range (n + 1)).map fun u => (o u : Int)
theorem ofL_len (o : Nat → Nat) (n : Nat) : (ofL o n).length = n + 1 := by simp [ofL]
theorem ofL_get (o : Nat → Nat) (n : Nat) {u : Nat} (h : u ≤ n) : (ints (ofL o n))[u]? = some (.int .i64 (o u : Int)) := by
 simp [ofL, ints, show u < n + 1 from by omega]
theorem ofL_snoc (n : Nat) : ofL id (n + 1) = ofL id n ++ [((n + 1 : Nat) : Int)] := by
 unfold ofL
 rw [List.range_succ, List.map_append]
 rfl
theorem ofL_cong {o o' : Nat → Nat} {n : Nat} (h : ∀ u, u ≤ n → o u = o' u) : ofL o n = ofL o' n := by
 unfold ofL
 apply List.map_congr_left
 intro u hu
 rw [List.mem_range] at hu
 rw [h u (by omega)]
def oM (o : Nat → Nat) (a b j : Nat) : Nat → Nat := fun u => if u < j ∧ o u = b then a else o u
theorem oM_one {o : Nat → Nat} (h : Lab o) {a b : Nat} (hb : 1 ≤ b) : oM o a b 1 = o := by
 funext u
 unfold oM
 have := h.le u
 rw [if_neg (by omega)]
theorem oM_at (o : Nat → Nat) (a b j : Nat) : oM o a b j j = o j := by
 unfold oM
 rw [if_neg (by omega)]
theorem oM_no {o : Nat → Nat} {a b j : Nat} (h : ¬ o j = b) : oM o a b (j + 1) = oM o a b j := by
 funext u
 unfold oM
 by_cases e : u = j
 ·subst e
  rw [if_neg (by omega), if_neg (by omega)]
 ·by_cases k : u < j ∧ o u = b
  ·rw [if_pos k, if_pos (by omega)]
  ·rw [if_neg k, if_neg (by omega)]
theorem oM_yes {o : Nat → Nat} {a b j n : Nat} (h : o j = b) (hj : j ≤ n) : (ints (ofL (oM o a b j) n)).set j (.int .i64 (a : Int)) = ints (ofL (oM o a b (j + 1)) n) := by
 apply List.ext_getElem?
 intro u
 rw [List.getElem?_set]
 by_cases hu : u ≤ n
 ·rw [ofL_get _ _ hu, ofL_get _ _ hu]
  have hl : j < (ints (ofL (oM o a b j) n)).length := by rw [sl.ints_length, ofL_len]; omega
  by_cases e : j = u
  ·subst e
   rw [if_pos rfl, if_pos hl]
   unfold oM
   rw [if_pos (by omega)]
  ·rw [if_neg e]
   unfold oM
   by_cases k : u < j ∧ o u = b
   ·rw [if_pos k, if_pos (by omega)]
   ·rw [if_neg k, if_neg (by omega)]
 ·have hl : (ints (ofL (oM o a b (j + 1)) n)).length ≤ u := by rw [sl.ints_length, ofL_len]; omega
  have hl2 : (ints (ofL (oM o a b j) n)).length ≤ u := by rw [sl.ints_length, ofL_len]; omega
  rw [if_neg (by omega), List.getElem?_eq_none hl, List.getElem?_eq_none hl2]
theorem oM_end (o : Nat → Nat) (x y n : Nat) : ofL (oM o (min (o x) (o y)) (max (o x) (o y)) (n + 1)) n = ofL (join o x y) n := by
 apply ofL_cong
 intro u hu
 unfold oM join
 by_cases e : o u = max (o x) (o y)
 ·rw [if_pos e, if_pos (by omega)]
 ·rw [if_neg e, if_neg (by omega)]
def La (W wr : World) (g cap n : Nat) (L : List Int) : Prop := wr.ownsRow W.heap.size 3 1 (.slice (some ⟨g, 0, none⟩) (n + 1) cap) (n + 1) (ints L) ∧ W.grownBy wr none
theorem La.kept {W wr w1 : World} {g cap n : Nat} {L : List Int} (h : La W wr g cap n L) (k : wr.grownBy w1 none) : La W w1 g cap n L := ⟨h.1.kept k (.inr (fun e => by cases e)), grown_trans h.2 k⟩
theorem La.at {W wr : World} {g cap n : Nat} {o : Nat → Nat} (h : La W wr g cap n (ofL o n)) {u : Nat} (hu : u ≤ n) : wr.cell? ⟨g, u, none⟩ = some (.int .i64 (o u : Int)) := by
 rw [h.1.cellAt u (by omega), ofL_get _ _ hu]
theorem La.frozen {W wr : World} {g cap n : Nat} {L : List Int} (h : La W wr g cap n L) (u : Nat) : wr.frozen? ⟨g, u, none⟩ = false := h.1.frozenAt u
theorem La.put {W wr : World} {g cap n : Nat} {L M : List Int} (h : La W wr g cap n L) (j : Nat) (x : Int) (hl : L.length = n + 1) (hm : M.length = n + 1) (he : (ints L).set j (.int .i64 x) = ints M) : La W (wr.setCell ⟨g, j, none⟩ (.int .i64 x)) g cap n M :=
 ⟨sl.own_stored (n + 1) hl hm h.1 j x he, grown_in h.2 (sl.grown_setCell wr g j _) (h.1.lt g rfl).1⟩
theorem cl_low {P : Nat → Bool} : ∀ m, (∀ u, u ≤ m → P u = false) → cl P m = []
 | 0, _ => rfl
 | m + 1, h => by
  unfold cl
  rw [cl_low m (fun u hu => h u (by omega)), h (m + 1) (Nat.le_refl _)]
  rfl
theorem cl_yes {P : Nat → Bool} {m : Nat} (h : P (m + 1) = true) : cl P (m + 1) = cl P m ++ [((m + 1 : Nat) : Int)] := by
 rw [show cl P (m + 1) = cl P m ++ (if P (m + 1) then [((m + 1 : Nat) : Int)] else []) from rfl, if_pos h]
theorem cl_no {P : Nat → Bool} {m : Nat} (h : P (m + 1) = false) : cl P (m + 1) = cl P m := by
 rw [show cl P (m + 1) = cl P m ++ (if P (m + 1) then [((m + 1 : Nat) : Int)] else []) from rfl, h]
 simp
theorem outs_yes {o : Nat → Nat} {n q : Nat} (e : o (q + 1) = q + 1) : outs o n (q + 1) = outs o n q ++ [cl (fun u => decide (o u = q + 1)) n] := by
 show outs o n q ++ (if o (q + 1) = q + 1 then [cl (fun u => decide (o u = q + 1)) n] else []) = _
 rw [if_pos e]
theorem outs_no {o : Nat → Nat} {n q : Nat} (e : ¬ o (q + 1) = q + 1) : outs o n (q + 1) = outs o n q := by
 show outs o n q ++ (if o (q + 1) = q + 1 then [cl (fun u => decide (o u = q + 1)) n] else []) = _
 rw [if_neg e, List.append_nil]
theorem cl_start {o : Nat → Nat} (h : Lab o) {q : Nat} : cl (fun u => decide (o u = q + 1)) q = [] := cl_low q fun u hu => decide_eq_false (by have := h.le u; omega)
theorem cl_pos {o : Nat → Nat} {n q : Nat} (e : o (q + 1) = q + 1) (hq : q < n) : 0 < (cl (fun u => decide (o u = q + 1)) n).length :=
 List.length_pos_of_mem ((cl_mem _ ((q + 1 : Nat) : Int) n).2 ⟨q + 1, by omega, by omega, decide_eq_true e, rfl⟩)
theorem La.grow {W wr w3 w4 : World} {g cap n : Nat} {L : List Int} {v : Value} {M : List (List Int)} {o : Obj} (h : La W wr g cap n L) (hl : L.length = n + 1) (ho : OwnS W.heap.size wr.heap.size wr v M) (g3 : wr.grownBy w3 none) (g4 : (w3.alloc o).grownBy w4 v.ownBlock) : La W w4 g cap n L := by
 have gA := grown_trans (r := none) g3 (World.grownBy_alloc w3 o none)
 have hA := h.kept gA
 refine ⟨?_, own_up h.2 ho g3 g4⟩
 obtain ⟨D, _, hw, _⟩ := ho.kept gA
 exact hA.1.kept g4 (css.own_ne' hw hA.1)
end Go.Proofs.YtibpnocpafppaaaDoor.fi
namespace Go.Proofs.YtibpnocpafppaaaDoor.fi
open Go.ChangeShapes Go.WideShapes Go.ChangeAt Go.RowKit
open lits (okB varI)
open sl (Sl Own ints hide unhide grown_refl grown_trans below_of of_below)
open css (Sls OwnS tot own_mono)
open cf (Box)
open ok (cnfB)
open fg
set_option linter.unusedVariables false
theorem cl_len24 (P : Nat → Bool) {n : Nat} (h : n ≤ 24) : ∀ m, m ≤ n → (cl P m).length ≤ 24 := fun m hm => Nat.le_trans (cl_len P m) (by omega)
set_option maxRecDepth 10000 in
set_option maxHeartbeats 16000000 in
theorem specGroups (v : Value) (n : Int) (LL : List (List Int)) (w : World) (hn : tot LL ≤ 1048576) (hv : Sls w v LL) :
  Calls Tryd.prog 30 #[.agg #[.int .i64 n, v]] w fun e w' => GrpE (grpL n LL) w e w' := by
 obtain ⟨W1, hW1⟩ : ∃ W1, W1 = w.alloc (.cells #[.int .i64 n, v] 26) := ⟨_, rfl⟩
 have g1 : w.grownBy W1 none := by rw [hW1]; exact World.grownBy_alloc _ _ _
 have B1 : Box 26 W1 w.heap.size (.int .i64 n) v := by rw [hW1]; exact Box.new _ _ _ _
 have s1 : W1.heap.size = w.heap.size + 1 := by rw [hW1, World.size_alloc]
 obtain ⟨W2, hW2⟩ : ∃ W2, W2 = W1.alloc (.cells #[] 31) := ⟨_, rfl⟩
 have g2 : W1.grownBy W2 none := by rw [hW2]; exact World.grownBy_alloc _ _ _
 have s2 : W2.heap.size = w.heap.size + 1 + 1 := by rw [hW2, World.size_alloc, s1]
 have O2 : OwnS W1.heap.size W2.heap.size W2 (.slice (some ⟨w.heap.size + 1, 0, none⟩) 0 0) [] := by
  have := lit_none W1
  rw [← hW2, s1] at this
  exact this.sub (by omega) (by omega)
 have CO := hide (ok.specCnfOk v n LL W2 hn ((hv.kept g1).kept g2))
 have HV := hide (hv.kept g1)
 have G1 := hide g1
 have HG2 := hide g2
 have HO2 := hide O2
 have HB1 := hide B1
 have x0 := (B1.kept g2).c0
 have x1 := (B1.kept g2).c1
 have HW1 := hide hW1
 have HW2 := hide hW2
 have HS1 := hide s1
 obtain ⟨a, cap, rfl, _⟩ := hv
 clear g1 B1 hW1 hW2 g2 O2 s1 s2
 go_enter Tryd.func30, Tryd.ntmps30
 go_wp2_with fail
 rw [← unhide HW1, ← unhide HW2]
 refine (unhide CO).mono ?_; rintro e w2 ⟨rfl, g3⟩
 have HG3 := hide (grown_trans (r := none) (unhide HG2) g3)
 have HO3 := hide (((unhide HO2).kept g3).sub (Nat.le_refl _) g3.size)
 have y0 := ((unhide HB1).kept (unhide HG3)).c0
 have y1 := ((unhide HB1).kept (unhide HG3)).c1
 clear x0 x1 HW1 HW2 CO g3 HO2
 cases hB : cnfB n LL
 ·have E := hide (show grpL n LL = [] by unfold grpL; rw [hB]; rfl)
  clear hB
  go_wp2_with fail
  go_ret
  refine ⟨_, rfl, ?_, ?_⟩
  ·rw [unhide E]
   exact (unhide HO3).sub (unhide G1).size (Nat.le_refl _)
  ·exact grown_trans (unhide G1) (unhide HG3)
 ·have hN : 0 ≤ n ∧ n ≤ 24 := by
   unfold ok.cnfB at hB
   rw [Bool.and_eq_true, Bool.and_eq_true, decide_eq_true_eq] at hB
   exact hB.1.1
  obtain ⟨N, rfl⟩ := Int.eq_ofNat_of_zero_le hN.1
  have n24 : N ≤ 24 := by omega
  obtain ⟨_, hLL, HI⟩ := in_bd hB
  have HIH := hide HI
  have HLB := hide (lab_ok hB)
  have E := hide (show grpL (N : Int) LL = outs (lab LL LL.length) N N by unfold grpL; rw [hB, Int.toNat_natCast]; rfl)
  have ST : Hid (wo.Made w2 (w2.alloc (.cells #[] 3)) (.slice (some ⟨w2.heap.size, 0, none⟩) 0 0) ((ofL id N).take 0)) := ⟨World.ownsRow_lit w2 #[] 0 (Nat.le_refl _) (Nat.zero_le _) rfl, World.grownBy_alloc _ _ _⟩
  have OL := hide (ofL_len id N)
  have OG := hide (fun u (h : u ≤ N) => show (ofL id N).take (u + 1) = (ofL id N).take u ++ [(u : Int)] from by
   rw [take_snocI _ _ (by rw [ofL_len]; omega)]
   have h2 := ofL_get id N h
   have h3 : (ofL id N).getD u 0 = (u : Int) := by
    simp [ofL, List.getD, show u < N + 1 from by omega]
   rw [h3])
  clear hB hN HI
  have Z0 := hide (fun (wr : World) (g : w2.grownBy wr none) => ((unhide HB1).kept (grown_trans (r := none) (unhide HG3) g)).c0)
  generalize hR : ofL id N = R at *
  have HR := hide hR
  clear hR y1
  go_wp2_with fail
  clear y0
  go_loopw [4, 5] (fun u i wr => ∃ q : Nat, q ≤ N + 1 ∧ i = .int .i64 (q : Int) ∧ Hid (wo.Made w2 wr u (R.take q))) (fun _ i _ => N + 1 - (intOf i).toNat)
  case atStart => exact ⟨0, by omega, rfl, ST⟩
  case round =>
   obtain ⟨q, hq, rfl, hm⟩ := hrel
   clear ST
   have z0 := unhide Z0 _ (unhide hm).2
   obtain ⟨ua, uc, eu, _⟩ := Sl.of_own (unhide hm).1
   subst eu
   have lw : (R.take q).length ≤ 4194304 := by rw [List.length_take]; omega
   by_cases hlt : q ≤ N
   ·have hi' : (q : Int) ≤ (N : Int) := by omega
    have hg := hide (unhide hm).2
    have ho := hide (unhide hm).1
    have rs := unhide OG q hlt
    obtain ⟨P2, hP2⟩ : ∃ P2, P2 = R.take (q + 1) := ⟨_, rfl⟩
    rw [← hP2] at rs
    have HP := hide hP2
    have HQ := hide rs
    clear hP2 rs hm
    generalize R.take q = P1 at *
    go_wp2_with (first | (at_builtin; refine wo.append1 (unhide hg) (unhide ho) lw rfl _ _ rfl rfl rfl ?_) | fail)
    intro v' w3 R2
    have R3 : Hid (wo.Made w2 w3 v' P2) := by
     rw [unhide HQ]
     exact R2
    have z1 := unhide Z0 _ (unhide R3).2
    clear R2 HQ hg ho z0
    go_wp2_with fail
    go_roundw
    case rel => exact ⟨q + 1, by omega, by go_num, by rw [← unhide HP]; exact R3⟩
    case measure => simp [intOf]; omega
   ·have hi' : ¬ (q : Int) ≤ (N : Int) := by omega
    have eq : q = N + 1 := by omega
    have et : R.take q = R := List.take_of_length_le (by rw [unhide OL]; omega)
    rw [et] at hm lw ⊢
    have L0 := unhide hm
    unfold wo.Made at L0
    rw [unhide OL] at L0 ⊢
    have hf := L0.1.2
    rcases hf with ⟨_, h0⟩ | ⟨g, uc', cur, e3, _⟩
    ·omega
    ·cases e3
     have L1 : La w2 wr g uc N R := L0
     rw [← unhide HR, show ofL id N = ofL (lab LL 0) N from rfl] at L1
     have HL1 := hide L1
     have Z1 := hide (fun (wx : World) (g : w2.grownBy wx none) => ((unhide HB1).kept (grown_trans (r := none) (unhide HG3) g)).c1)
     have IB := hide (fun (wx : World) (g : w2.grownBy wx none) => (unhide HV).kept (grown_trans (r := none) (unhide HG3) g))
     clear L0 L1 hm lw et OG OL
     subst eq
     go_wp2_with fail
     clear z0
     go_loopw [6] (fun i wr => ∃ k : Nat, k ≤ LL.length ∧ i = .int .i64 (k : Int) ∧ Hid (La w2 wr g uc N (ofL (lab LL k) N))) (fun i _ => LL.length - (intOf i).toNat)
     case atStart => exact ⟨0, Nat.zero_le _, rfl, HL1⟩
     case round =>
      obtain ⟨k, hk, rfl, hla⟩ := hrel
      clear HL1
      have z0 := unhide Z0 _ (unhide hla).2
      have z1 := unhide Z1 _ (unhide hla).2
      by_cases hkl : k < LL.length
      ·have hk' : (k : Int) < (LL.length : Int) := by omega
       obtain ⟨a', cap', e', ha⟩ := unhide IB w2 (grown_refl _)
       cases e'
       rcases ha with h | ⟨b, off, rfl, hb, hcb⟩
       ·rw [h] at hkl
        simp at hkl
       ·obtain ⟨u, hu, hsl⟩ := hcb k hkl
        obtain ⟨hC48, HI'⟩ := unhide HIH k hkl
        have lbk := unhide HLB k (by omega)
        have labs : ∀ j, j ≤ (LL.getD k []).length → Lab (oT (lab LL k) (LL.getD k []) j) := fun j hj => oT_lab lbk (fun i hi => (HI' i hi).2.2.1) j hj
        have LSx : oT (lab LL k) (LL.getD k []) (LL.getD k []).length = lab LL (k + 1) := rfl
        obtain ⟨va, vc, eu, hua⟩ := hsl
        subst eu
        have LS := hide LSx
        have HUA := hide (fun (wx : World) (g : w2.grownBy wx none) => Sl.kept (row := none) ⟨va, vc, rfl, hua⟩ g (.inl rfl))
        have HII := hide HI'
        have LABS := hide labs
        clear hcb LSx hua HI' lbk labs
        generalize hC : LL.getD k [] = C at *
        clear hC
        generalize lab LL k = o at *
        have L1 : Hid (La w2 wr g uc N (ofL (oT o C 1) N)) := by
         rw [oT_one]
         exact unhide hla
        have c1 := (unhide hla).2.cell hu (fun e => by cases e)
        clear hu hla
        go_wp2_with fail
        clear z0 z1 c1
        go_loopw [8] (fun i wr => ∃ p : Nat, 1 ≤ p ∧ (p ≤ C.length ∨ p = 1) ∧ i = .int .i64 (p : Int) ∧ Hid (La w2 wr g uc N (ofL (oT o C p) N))) (fun i _ => C.length - (intOf i).toNat)
        case atStart => exact ⟨1, Nat.le_refl _, .inr rfl, rfl, L1⟩
        case round =>
         obtain ⟨p, hp1, hp2, rfl, hla⟩ := hrel
         clear L1
         by_cases hpl : p < C.length
         ·have hp' : (p : Int) < (C.length : Int) := by omega
          have h0' : (0 : Int) < (C.length : Int) := by omega
          have h0n : 0 < C.length := by omega
          obtain ⟨a2, cap2, e2, hua⟩ := unhide HUA _ (unhide hla).2
          cases e2
          rcases hua with h | ⟨b2, off2, rfl, hb2, hcb2⟩
          ·rw [h] at hpl
           simp at hpl
          ·have c0 := hcb2 0 (by omega)
           have c0' := c0
           rw [Nat.add_zero] at c0'
           have cp := hcb2 p hpl
           obtain ⟨_, q1, q2, q3⟩ := unhide HII 0 (by omega)
           obtain ⟨_, r1, r2, r3⟩ := unhide HII p hpl
           have LV0 := fun w => lits.specLitVar (C.getD 0 0) w
           have LVp := fun w => lits.specLitVar (C.getD p 0) w
           rw [q1] at LV0
           rw [r1] at LVp
           have LH0 := hide LV0
           have LHp := hide LVp
           have cX := (unhide hla).at q3
           have cY := (unhide hla).at r3
           have LB := unhide LABS p (by omega)
           have ox := LB.pos _ q2
           have oy := LB.pos _ r2
           have EN := oM_end (oT o C p) (vn C 0) (vn C p) N
           rw [show join (oT o C p) (vn C 0) (vn C p) = oT o C (p + 1) from rfl] at EN
           have HLBp := hide LB
           clear hcb2 q1 r1 LV0 LVp LB
           generalize vn C 0 = x at *
           generalize vn C p = y at *
           generalize C.getD 0 0 = l0 at *
           generalize C.getD p 0 = lp at *
           have hx : (x : Int) < (N : Int) + 1 := by omega
           have hy : (y : Int) < (N : Int) + 1 := by omega
           generalize hO : oT o C p = O at *
           by_cases hgt : O y < O x
           ·rw [Nat.min_eq_right (by omega), Nat.max_eq_left (by omega)] at EN
            have HEN := hide EN
            clear EN
            have hB1 : 1 ≤ O x := ox
            generalize O x = B at *
            generalize O y = A at *
            have hgt' : (B : Int) > (A : Int) := by omega
            have HM0 : Hid (∀ m, La w2 (wr.drewN m) g uc N (ofL (oM O A B 1) N)) := fun m => by
             rw [oM_one (unhide HLBp) hB1]
             exact (unhide hla).kept (sl.grown_drewN wr m)
            clear hla
            go_wp2_with fail
            refine wp_region_quiet_lit (by kernel_rfl) (by kernel_rfl) ?_
            iterate 5 (go_big_quiet_step (first | (go_at_call 91; exact Calls.quiet_of_same (unhide LH0 _))))
            iterate 8 (go_big_quiet_step (first | (go_at_call 91; exact Calls.quiet_of_same (unhide LHp _))))
            repeat (go_big_quiet_step (fail))
            refine wpQuiet_nil ?_
            intro _ hw'
            obtain ⟨nq, hw''⟩ := hw'
            subst hw''
            clear cX cY c0 c0' cp
            go_wp2_with fail
            go_loopw [11] (fun i wr => ∃ j : Nat, 1 ≤ j ∧ j ≤ N + 1 ∧ i = .int .i64 (j : Int) ∧ Hid (La w2 wr g uc N (ofL (oM O A B j) N))) (fun i _ => N + 1 - (intOf i).toNat)
            case atStart => exact ⟨1, Nat.le_refl _, by omega, rfl, unhide HM0 _⟩
            case round =>
             obtain ⟨j, j1, j2, rfl, hlj⟩ := hrel
             clear HM0
             have z0 := unhide Z0 _ (unhide hlj).2
             by_cases hjl : j ≤ N
             ·have hj' : (j : Int) ≤ (N : Int) := by omega
              have hj2 : (j : Int) < (N : Int) + 1 := by omega
              have cj := (unhide hlj).at hjl
              have fj := (unhide hlj).frozen j
              rw [oM_at] at cj
              by_cases ej : O j = B
              ·have HP := hide ((unhide hlj).put j (A : Int) (ofL_len _ _) (ofL_len _ _) (oM_yes ej hjl))
               rw [ej] at cj
               clear hlj
               go_wp2_with fail
               go_roundw
               case rel => exact ⟨j + 1, by omega, by omega, by go_num, HP⟩
               case measure => simp [intOf]; omega
              ·have ne : ((O j : Int) == (B : Int)) = false := by
                rw [beq_eq_false_iff_ne]
                omega
               have HP := unhide hlj
               rw [← oM_no ej] at HP
               have HP2 := hide HP
               clear hlj HP
               generalize (O j : Int) = z at *
               go_wp2_with fail
               go_roundw
               case rel => exact ⟨j + 1, by omega, by omega, by go_num, HP2⟩
               case measure => simp [intOf]; omega
             ·have hj' : ¬ (j : Int) ≤ (N : Int) := by omega
              have ej : j = N + 1 := by omega
              have HP := unhide hlj
              rw [ej, unhide HEN] at HP
              have HP2 := hide HP
              clear hlj HP
              go_wp2_with fail
              go_roundw
              case rel => exact ⟨p + 1, by omega, .inl (by omega), by go_num, HP2⟩
              case measure => simp [intOf]; omega
           ·rw [Nat.min_eq_left (by omega), Nat.max_eq_right (by omega)] at EN
            have HEN := hide EN
            clear EN
            have hB1 : 1 ≤ O y := oy
            generalize O x = A at *
            generalize O y = B at *
            have hgt' : ¬ (A : Int) > (B : Int) := by omega
            have HM0 : Hid (∀ m, La w2 (wr.drewN m) g uc N (ofL (oM O A B 1) N)) := fun m => by
             rw [oM_one (unhide HLBp) hB1]
             exact (unhide hla).kept (sl.grown_drewN wr m)
            clear hla
            go_wp2_with fail
            refine wp_region_quiet_lit (by kernel_rfl) (by kernel_rfl) ?_
            iterate 5 (go_big_quiet_step (first | (go_at_call 91; exact Calls.quiet_of_same (unhide LH0 _))))
            iterate 8 (go_big_quiet_step (first | (go_at_call 91; exact Calls.quiet_of_same (unhide LHp _))))
            repeat (go_big_quiet_step (fail))
            refine wpQuiet_nil ?_
            intro _ hw'
            obtain ⟨nq, hw''⟩ := hw'
            subst hw''
            clear cX cY c0 c0' cp
            go_wp2_with fail
            go_loopw [11] (fun i wr => ∃ j : Nat, 1 ≤ j ∧ j ≤ N + 1 ∧ i = .int .i64 (j : Int) ∧ Hid (La w2 wr g uc N (ofL (oM O A B j) N))) (fun i _ => N + 1 - (intOf i).toNat)
            case atStart => exact ⟨1, Nat.le_refl _, by omega, rfl, unhide HM0 _⟩
            case round =>
             obtain ⟨j, j1, j2, rfl, hlj⟩ := hrel
             clear HM0
             have z0 := unhide Z0 _ (unhide hlj).2
             by_cases hjl : j ≤ N
             ·have hj' : (j : Int) ≤ (N : Int) := by omega
              have hj2 : (j : Int) < (N : Int) + 1 := by omega
              have cj := (unhide hlj).at hjl
              have fj := (unhide hlj).frozen j
              rw [oM_at] at cj
              by_cases ej : O j = B
              ·have HP := hide ((unhide hlj).put j (A : Int) (ofL_len _ _) (ofL_len _ _) (oM_yes ej hjl))
               rw [ej] at cj
               clear hlj
               go_wp2_with fail
               go_roundw
               case rel => exact ⟨j + 1, by omega, by omega, by go_num, HP⟩
               case measure => simp [intOf]; omega
              ·have ne : ((O j : Int) == (B : Int)) = false := by
                rw [beq_eq_false_iff_ne]
                omega
               have HP := unhide hlj
               rw [← oM_no ej] at HP
               have HP2 := hide HP
               clear hlj HP
               generalize (O j : Int) = z at *
               go_wp2_with fail
               go_roundw
               case rel => exact ⟨j + 1, by omega, by omega, by go_num, HP2⟩
               case measure => simp [intOf]; omega
             ·have hj' : ¬ (j : Int) ≤ (N : Int) := by omega
              have ej : j = N + 1 := by omega
              have HP := unhide hlj
              rw [ej, unhide HEN] at HP
              have HP2 := hide HP
              clear hlj HP
              go_wp2_with fail
              go_roundw
              case rel => exact ⟨p + 1, by omega, .inl (by omega), by go_num, HP2⟩
              case measure => simp [intOf]; omega
         ·have hp' : ¬ (p : Int) < (C.length : Int) := by omega
          have HP : Hid (La w2 wr g uc N (ofL (lab LL (k + 1)) N)) := by
           rw [← unhide LS]
           by_cases e : p = C.length
           ·rw [← e]
            exact unhide hla
           ·have h : p = 1 := by omega
            have e : C.length = 0 := by omega
            have h2 := unhide hla
            rw [h, oT_one] at h2
            rw [e]
            exact h2
          clear hla
          go_wp2_with fail
          go_roundw
          case rel => exact ⟨k + 1, by omega, by go_num, HP⟩
          case measure => simp [intOf]; omega
      ·have hk' : ¬ (k : Int) < (LL.length : Int) := by omega
       have ek : k = LL.length := by omega
       have LB := unhide HLB LL.length (Nat.le_refl _)
       have hla2 := unhide hla
       rw [ek] at hla2
       have LA : Hid (La W1 wr g uc N (ofL (lab LL LL.length) N)) := ⟨own_mono hla2.1 (unhide HG3).size, grown_trans (unhide HG3) hla2.2⟩
       have OU : Hid (OwnS W1.heap.size wr.heap.size wr (.slice (some ⟨w.heap.size + 1, 0, none⟩) 0 0) (outs (lab LL LL.length) N 0)) := ((unhide HO3).kept hla2.2).sub (Nat.le_refl _) hla2.2.size
       have Z2 := hide (fun (wx : World) (g : W1.grownBy wx none) => ((unhide HB1).kept g).c0)
       have HLO := hide LB
       clear hla hla2 LB HLB HIH IB Z1 HO3
       generalize lab LL LL.length = o at *
       go_wp2_with fail
       clear z0 z1
       go_loopw [3, 12] (fun u i wr => ∃ q : Nat, q ≤ N ∧ i = .int .i64 ((q : Int) + 1) ∧ Hid (La W1 wr g uc N (ofL o N)) ∧ Hid (OwnS W1.heap.size wr.heap.size wr u (outs o N q))) (fun _ i _ => N + 1 - (intOf i).toNat)
       case atStart => exact ⟨0, by omega, rfl, LA, OU⟩
       case round =>
        obtain ⟨q, hq, rfl, hla, ho⟩ := hrel
        clear LA OU
        generalize wr = Wq at *
        obtain ⟨oa, oc, eo⟩ := (unhide ho).len
        subst eo
        have z0 := unhide Z2 _ (unhide hla).2
        by_cases hql : q < N
        ·have hq' : (q : Int) + 1 ≤ (N : Int) := by omega
         have hq2 : (q : Int) + 1 < (N : Int) + 1 := by omega
         have cq0 := (unhide hla).at (show q + 1 ≤ N by omega)
         have ol := outs_len o N q
         obtain ⟨wA, hWA⟩ : ∃ wA, wA = Wq.alloc (.cells #[] 3) := ⟨_, rfl⟩
         have gA : Wq.grownBy wA none := by rw [hWA]; exact World.grownBy_alloc _ _ _
         have mA : wo.Made Wq wA (.slice (some ⟨Wq.heap.size, 0, none⟩) 0 0) [] := by rw [hWA]; exact ⟨World.ownsRow_lit Wq #[] 0 (Nat.le_refl _) (Nat.zero_le _) rfl, World.grownBy_alloc _ _ _⟩
         have HWA := hide hWA
         clear hWA
         by_cases e : o (q + 1) = q + 1
         ·rw [e] at cq0
          have CQ := hide (fun (wx : World) (g2 : Wq.grownBy wx none) => g2.cell cq0 (fun e => by cases e))
          have MA : Hid (wo.Made Wq wA (.slice (some ⟨Wq.heap.size, 0, none⟩) 0 0) (cl (fun u => decide (o u = q + 1)) q)) := by
           rw [cl_start (unhide HLO)]
           exact mA
          have OY := hide (outs_yes (n := N) e)
          have CP := hide (cl_pos (n := N) e hql)
          clear gA mA cq0 e
          go_wp2_with fail
          rw [← unhide HWA]
          clear z0
          go_loopw [13, 14] (fun v i wr => ∃ j : Nat, q ≤ j ∧ j ≤ N ∧ i = .int .i64 ((j : Int) + 1) ∧ Hid (wo.Made Wq wr v (cl (fun u => decide (o u = q + 1)) j))) (fun _ i _ => N + 1 - (intOf i).toNat)
          case atStart => exact ⟨q, Nat.le_refl _, by omega, rfl, MA⟩
          case round =>
           obtain ⟨j, hj1, hj2, rfl, hm⟩ := hrel
           clear MA HWA
           have gm := (unhide hm).2
           have la := (unhide hla).kept gm
           have z1 := unhide Z2 _ la.2
           obtain ⟨va, vc, ev, _⟩ := Sl.of_own (unhide hm).1
           subst ev
           have cq := unhide CQ _ gm
           rw [show ((q + 1 : Nat) : Int) = (q : Int) + 1 from by omega] at cq
           have jl := cl_len (fun u => decide (o u = q + 1)) j
           by_cases hjl : j < N
           ·have hj' : (j : Int) + 1 ≤ (N : Int) := by omega
            have hj3 : (j : Int) + 1 < (N : Int) + 1 := by omega
            have cj := la.at (show j + 1 ≤ N by omega)
            by_cases ej : o (j + 1) = q + 1
            ·have cy := cl_yes (P := fun u => decide (o u = q + 1)) (m := j) (decide_eq_true ej)
             rw [show ((j + 1 : Nat) : Int) = (j : Int) + 1 from by omega] at cy
             rw [ej, show ((q + 1 : Nat) : Int) = (q : Int) + 1 from by omega] at cj
             obtain ⟨P2, hP2⟩ : ∃ P2, P2 = cl (fun u => decide (o u = q + 1)) (j + 1) := ⟨_, rfl⟩
             rw [← hP2] at cy
             have HP := hide hP2
             have HQ := hide cy
             have hg := hide gm
             have hr := hide (unhide hm).1
             have lw : (cl (fun u => decide (o u = q + 1)) j).length ≤ 4194304 := by omega
             clear hP2 cy hm la gm ej
             generalize cl (fun u => decide (o u = q + 1)) j = M at *
             go_wp2_with (first | (at_builtin; refine wo.append1 (unhide hg) (unhide hr) lw rfl _ _ rfl rfl rfl ?_) | fail)
             intro v' w3 R2
             have R3 : Hid (wo.Made Wq w3 v' P2) := by
              rw [unhide HQ]
              exact R2
             clear R2 HQ hg hr cq cj z1
             go_wp2_with fail
             go_roundw
             case rel => exact ⟨j + 1, by omega, by omega, by go_num, by rw [← unhide HP]; exact R3⟩
             case measure => simp [intOf]; omega
            ·have cn := cl_no (P := fun u => decide (o u = q + 1)) (m := j) (decide_eq_false ej)
             have ne : ((o (j + 1) : Int) == (q : Int) + 1) = false := by
              rw [beq_eq_false_iff_ne]
              omega
             have HM := unhide hm
             have HM2 : Hid (wo.Made Wq wr (.slice va (cl (fun u => decide (o u = q + 1)) j).length vc) (cl (fun u => decide (o u = q + 1)) (j + 1))) := by
              rw [cn]
              exact HM
             clear HM cn hm la gm ej
             generalize (o (j + 1) : Int) = z at *
             go_wp2_with fail
             go_roundw
             case rel => exact ⟨j + 1, by omega, by omega, by go_num, HM2⟩
             case measure => simp [intOf]; omega
           ·have ej : j = N := by omega
            have hn' : ¬ (N : Int) + 1 ≤ (N : Int) := by omega
            rw [ej] at hm jl ⊢
            have HO := hide ((unhide ho).kept gm)
            have HR := hide (Own.of (unhide hm).1)
            have l1 := (unhide hla).2.size
            have l2 := gm.size
            have HG := hide gm
            have hL0 := unhide CP
            clear CP hm la gm cq
            generalize cl (fun u => decide (o u = q + 1)) N = L at *
            go_wp2_with (first | (at_builtin; refine gr.appendR (unhide HO) (unhide HR) l1 l2 (by omega) rfl _ _ rfl rfl rfl ?_) | fail)
            intro g7 cap7 w6 o6 g6
            have HL6 := hide ((unhide hla).grow (ofL_len _ _) (unhide ho) (unhide HG) g6)
            have HN6 : Hid (OwnS W1.heap.size w6.heap.size w6 (.slice (some ⟨g7, 0, none⟩) ((outs o N q).length + 1) cap7) (outs o N (q + 1))) := by
             rw [unhide OY]
             exact o6
            clear o6 g6 HO HR HG hla ho z1 CQ
            go_wp2_with fail
            go_roundw
            case rel => exact ⟨q + 1, by omega, by go_num, HL6, HN6⟩
            case measure => simp [intOf]; omega
         ·have on := outs_no (n := N) e
          have ne : ((o (q + 1) : Int) == (q : Int) + 1) = false := by
           rw [beq_eq_false_iff_ne]
           omega
          have cqA := gA.cell cq0 (fun e => by cases e)
          have zA := unhide Z2 _ ((unhide hla).kept gA).2
          have HL6 := hide ((unhide hla).kept gA)
          have HN6 : Hid (OwnS W1.heap.size wA.heap.size wA (.slice oa (outs o N q).length oc) (outs o N (q + 1))) := by
           rw [on]
           exact ((unhide ho).kept gA).sub (Nat.le_refl _) gA.size
          clear mA gA cq0 e on hla ho
          generalize (o (q + 1) : Int) = z at *
          go_wp2_with fail
          rw [← unhide HWA]
          clear z0
          go_loopw [13, 14] (fun v i wr => v = .slice (some ⟨Wq.heap.size, 0, none⟩) 0 0 ∧ i = .int .i64 ((q : Int) + 1) ∧ Hid (wr = wA)) (fun _ i _ => N + 1 - (intOf i).toNat)
          case atStart => exact ⟨rfl, rfl, rfl⟩
          case round =>
           obtain ⟨rfl, rfl, hw⟩ := hrel
           have hw' := unhide hw
           clear hw HWA
           subst hw'
           go_wp2_with fail
           go_roundw
           case rel => exact ⟨q + 1, by omega, by go_num, HL6, HN6⟩
           case measure => simp [intOf]; omega
        ·have hq' : ¬ (q : Int) + 1 ≤ (N : Int) := by omega
         have eq : q = N := by omega
         subst eq
         have GF := hide (unhide hla).2
         clear hla Z0 Z2
         go_wp2_with fail
         go_ret
         refine ⟨_, rfl, ?_, ?_⟩
         ·rw [unhide E]
          exact (unhide ho).sub (unhide G1).size (Nat.le_refl _)
         ·exact grown_trans (unhide G1) (unhide GF)
end Go.Proofs.YtibpnocpafppaaaDoor.fi
namespace Go.Proofs.YtibpnocpafppaaaDoor.fi
open css (Sls OwnS tot)
open ok (cnfB)
open fg
open srt (Tab)
theorem tot_snoc (R : List (List Int)) (L : List Int) : tot (R ++ [L]) = tot R + 1 + L.length := by
 simp [css.tot]
 omega
theorem tot_outs (o : Nat → Nat) (n : Nat) : ∀ m, tot (outs o n m) ≤ m * (n + 1)
 | 0 => by simp [outs, css.tot]
 | m + 1 => by
  have h := tot_outs o n m
  rw [Nat.add_mul, Nat.one_mul]
  by_cases e : o (m + 1) = m + 1
  ·rw [outs_yes e, tot_snoc]
   have := cl_len (fun u => decide (o u = m + 1)) n
   omega
  ·rw [outs_no e]
   omega
theorem tot_grp (n : Int) (LL : List (List Int)) : tot (grpL n LL) ≤ 600 := by
 unfold grpL
 cases hB : cnfB n LL
 ·rw [if_neg (by decide)]
  decide
 ·have hN : 0 ≤ n ∧ n ≤ 24 := by
   unfold ok.cnfB at hB
   rw [Bool.and_eq_true, Bool.and_eq_true, decide_eq_true_eq] at hB
   exact hB.1.1
  have h := tot_outs (lab LL LL.length) n.toNat n.toNat
  have h2 := Nat.mul_le_mul (show n.toNat ≤ 24 by omega) (show n.toNat + 1 ≤ 25 by omega)
  rw [if_pos rfl]
  omega
theorem bothGroups (n : Int) (LL : List (List Int)) (hn : tot LL ≤ 1048576) : ∃ R, tot R ≤ 1048576 ∧
  (∀ v w, Sls w v LL → Calls Tryd.prog 30 #[.agg #[.int .i64 n, v]] w fun e w' => GrpE R w e w') ∧
  ∀ v w, Tab w → Sls w v LL → Calls Tryd.prog 29 #[.agg #[.int .i64 n, v]] w fun e w' => GrpE R w e w' :=
 ⟨grpL n LL, Nat.le_trans (tot_grp n LL) (by decide), fun v w hv => specGroups v n LL w hn hv, fun v w hT hv => implGroups v n LL w hT hn hv⟩
end Go.Proofs.YtibpnocpafppaaaDoor.fi
