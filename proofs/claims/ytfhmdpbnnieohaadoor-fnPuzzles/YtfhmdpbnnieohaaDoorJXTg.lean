/- The subsets of the model; no condition but on sizes. -/
import Derived.Test.YtfhmdpbnnieohaaDoorJPt
import Derived.Test.YtfhmdpbnnieohaaDoorJXT1
import Derived.Deep.RegionHeld3
namespace Go.Proofs.YtfhmdpbnnieohaaDoor.t2
open Go.ChangeShapes Go.WideShapes Go.ChangeAt Go.RowKit
open sl (Sl Own ints hide unhide ret_int ret_bool grown_refl grown_trans grown_drewN)
open css (Sls OwnS tot Apart own_ne own_ne' own_kind own_mono)
open wo (Made)
set_option linter.unusedVariables false
theorem made_nilD (w : World) : (w.alloc (.cells #[] 3)).drew.ownsRow w.heap.size 3 1 (.slice (some ⟨w.heap.size, 0, none⟩) ([] : List Int).length 0) ([] : List Int).length (ints []) := (app.made_nil w).1
theorem nil_one (w : World) (x : Int) : ((w.alloc (.cells #[] 3)).alloc (.cells #[.int .i64 x] 3)).drew.ownsRow w.heap.size 3 1 (.slice (some ⟨w.heap.size, 0, none⟩) ([] : List Int).length 0) ([] : List Int).length (ints []) ∧
  ∀ w2, ((w.alloc (.cells #[] 3)).alloc (.cells #[.int .i64 x] 3)).drew.grownBy w2 (Value.slice (some ⟨w.heap.size, 0, none⟩) ([] : List Int).length 0).ownBlock → Own (w.heap.size + 1) (w.heap.size + 1 + 1) w2 (.slice (some ⟨w.heap.size + 1, 0, none⟩) 1 1) [x] := by
 have h1 := (app.made_nil w).1.alloc (.cells #[.int .i64 x] 3)
 have h2 := t1.own_lit (w.alloc (.cells #[] 3)) x
 rw [World.size_alloc] at h2
 refine ⟨h1, fun w2 g => ?_⟩
 exact (h2.kept (cf.grown_drew _ none)).kept_by (lo' := w.heap.size) (hi' := w.heap.size + 1) (M := []) ⟨h1, fun k e => by cases e; exact Nat.lt_succ_self _⟩ (.inr (Nat.le_refl _)) g
theorem one_nil (w : World) (x : Int) : ((w.alloc (.cells #[.int .i64 x] 3)).alloc (.cells #[] 3)).drew.ownsRow w.heap.size 3 1 (.slice (some ⟨w.heap.size + 1, 0, none⟩) ([] : List Int).length 0) ([] : List Int).length (ints []) ∧
  ∀ w2, ((w.alloc (.cells #[.int .i64 x] 3)).alloc (.cells #[] 3)).drew.grownBy w2 (Value.slice (some ⟨w.heap.size + 1, 0, none⟩) ([] : List Int).length 0).ownBlock → Own w.heap.size (w.heap.size + 1) w2 (.slice (some ⟨w.heap.size, 0, none⟩) 1 1) [x] := by
 have h1 := (app.made_nil (w.alloc (.cells #[.int .i64 x] 3))).1
 rw [World.size_alloc] at h1
 have h2 := (t1.own_lit w x).kept (World.grownBy_alloc _ (.cells #[] 3) none)
 refine ⟨own_mono h1 (Nat.le_succ _), fun w2 g => ?_⟩
 exact (h2.kept (cf.grown_drew _ none)).kept_by (lo' := w.heap.size + 1) (hi' := w.heap.size + 1 + 1) (M := []) ⟨h1, fun k e => by cases e; exact Nat.lt_succ_self _⟩ (.inl (Nat.le_refl _)) g
def Near (w : World) (v v' : Value) : Prop := v'.ownBlock = v.ownBlock ∨ ∃ k, v'.ownBlock = some k ∧ w.heap.size ≤ k
theorem grown_near {w w1 w2 : World} {v v' : Value} (g : w.grownBy w1 v.ownBlock) (n : Near w v v') (k : w1.grownBy w2 v'.ownBlock) : w.grownBy w2 v.ownBlock := by
 refine ⟨k.os.trans g.os, k.tape.trans g.tape, k.output.trans g.output, Nat.le_trans g.size k.size, fun j hj hv => ?_⟩
 have hs := g.size
 rw [k.block j (by omega) ?_]
 ·exact g.block j hj hv
 ·rcases n with e | ⟨q, e, hq⟩
  ·rw [e]; exact hv
  ·rw [e]; intro e'; cases e'; omega
theorem near_trans {w w1 : World} {v v' v'' : Value} (h : Near w v v') (hs : w.heap.size ≤ w1.heap.size) (k : Near w1 v' v'') : Near w v v'' := by
 rcases k with e | ⟨q, e, hq⟩
 ·rcases h with e2 | ⟨q, e2, hq⟩
  ·exact .inl (e.trans e2)
  ·exact .inr ⟨q, e.trans e2, hq⟩
 ·exact .inr ⟨q, e, by omega⟩
structure Sb (W0 w wr : World) (v v' q : Value) (lo hi : Nat) (CC' : List (List Int)) (P : List Int) : Prop where
 g : W0.grownBy wr none
 o : OwnS W0.heap.size wr.heap.size wr v' CC'
 k : w.grownBy wr v.ownBlock
 n : Near w v v'
 p : Own lo hi wr q P
def SubE (W0 w : World) (v : Value) (CC A : List (List Int)) (e : Ending) (w' : World) : Prop :=
 ∃ a n c b, e = .returned (.tuple #[.slice a n c, .bool b]) ∧ b = decide (CC.length + A.length ≤ 120) ∧ W0.grownBy w' none ∧ (b = true → OwnS W0.heap.size w'.heap.size w' (.slice a n c) (CC ++ A) ∧ w.grownBy w' v.ownBlock ∧ Near w v (.slice a n c))
theorem own_by {lo hi lo' hi' : Nat} {w w' : World} {v u : Value} {L : List Int} {LL : List (List Int)} (h : Own lo hi w u L) (o : OwnS lo' hi' w v LL) (g : w.grownBy w' v.ownBlock) : Own lo hi w' u L := by
 obtain ⟨D, _, ho, _⟩ := o
 exact ⟨own_at h.1 (fun k e => g.block k (h.1.lt k e).2 (fun e' => own_ne ho h.1 k e e'.symm)), h.2⟩
theorem Sb.step {W0 w wr w3 w6 : World} {v v' v6 q : Value} {lo hi : Nat} {CC' CC6 : List (List Int)} {P : List Int} (h : Sb W0 w wr v v' q lo hi CC' P) (g : wr.grownBy w3 none) (g0 : W0.grownBy w6 none) (o6 : OwnS W0.heap.size w6.heap.size w6 v6 CC6) (k6 : w3.grownBy w6 v'.ownBlock) (n6 : Near w3 v' v6) :
  Sb W0 w w6 v v6 q lo hi CC6 P := by
 have s1 := h.k.size
 have s2 := g.size
 have g' : wr.grownBy w6 v'.ownBlock := ⟨k6.os.trans g.os, k6.tape.trans g.tape, k6.output.trans g.output, Nat.le_trans g.size k6.size, fun j hj hv => (k6.block j (by omega) hv).trans (g.block j hj (fun e => by cases e))⟩
 exact ⟨g0, o6, grown_near h.k h.n g', near_trans h.n (Nat.le_trans s1 s2) n6, own_by h.p h.o g'⟩
theorem appendN {ops : Array Oper} {rest : List Oper} {o : Oper} {a : Act} {Q : Exit → Act → World → Prop} {lo mid : Nat} {wr : World} {v u : Value} {M : List (List Int)} {L : List Int}
  (h : OwnS lo mid wr v M) (hu : Own mid wr.heap.size wr u L) (hlo : lo ≤ mid) (hmid : mid ≤ wr.heap.size) (hM : M.length ≤ 1048576) (hgd : o.guard = none) (s x : Operand)
  (ho : o.op = .call { callee := .builtin .append, args := #[s, x], argTypes := #[25, 25] }) (hs : a.eval s = v) (hx : a.eval x = .slice (some ⟨wr.heap.size, 0, none⟩) 1 1)
  (hK : ∀ g cap w1, OwnS lo w1.heap.size w1 (.slice (some ⟨g, 0, none⟩) (M.length + 1) cap) (M ++ [L]) → (wr.alloc (.cells #[u] 30)).grownBy w1 v.ownBlock → (v.ownBlock = some g ∨ wr.heap.size ≤ g) → wpList Tryd.prog ops Q rest (a.put o.dst (.slice (some ⟨g, 0, none⟩) (M.length + 1) cap)) w1) :
  wpList Tryd.prog ops Q (o :: rest) a (wr.alloc (.cells #[u] 30)) := by
 obtain ⟨i0, hi, hz0, hz1, hz2⟩ := info_parts css.infoSl
 obtain ⟨D, rfl, hw, hb, hin, hp⟩ := h
 rw [List.length_map] at *
 refine wpList_append_lies _ hgd s x 25 ho lo 30 i0 (.slice none 0 0) 1 24 Tryd.underlying25 hi hz0 hz1 hz2 rfl (by decide) v D.length (D.map (·.1)) hs (hw.alloc _) ⟨wr.heap.size, 0, none⟩ 1 1 [u] hx rfl ?_ ?_ (by decide) ?_ ?_ ?_ (wr.heap.size + 1) (World.size_alloc ..) ?_
 ·intro j y hj
  match j, hj with
  | 0, hj => simp at hj; subst hj; simp [Addr.add]
 ·intro y hy
  simp at hy
  subst hy
  exact gr.own_one hu
 ·unfold maxLen; omega
 ·omega
 ·simp; omega
 ·intro g cap w1 h1 hg hn _
  exact hK g cap w1 (gr.grow hw hin hp hu hlo hmid h1 hg) hg (by rcases hn with e | e; exact .inl e; exact .inr (by omega))
theorem sub_last {W0 w w1 w2 : World} {v y : Value} {CC : List (List Int)} {P : List Int} {g cap : Nat} {o : Obj} {b : Bool} (G : W0.grownBy w none) (O : OwnS W0.heap.size w.heap.size w v CC) (m : Made w w1 y P) (o2 : OwnS W0.heap.size w2.heap.size w2 (.slice (some ⟨g, 0, none⟩) (CC.length + 1) cap) (CC ++ [P])) (g2 : (w1.alloc o).grownBy w2 v.ownBlock) (n2 : v.ownBlock = some g ∨ w1.heap.size ≤ g) (hb : b = decide (CC.length < 120)) :
  SubE W0 w v CC [P] (.returned (.tuple #[.slice (some ⟨g, 0, none⟩) (CC.length + 1) cap, .bool b])) w2 := by
 have s1 := m.2.size
 have g' : w.grownBy w2 v.ownBlock := by
  have gA := grown_trans (r := none) m.2 (World.grownBy_alloc w1 o none)
  exact ⟨g2.os.trans gA.os, g2.tape.trans gA.tape, g2.output.trans gA.output, Nat.le_trans gA.size g2.size, fun j hj hv => (g2.block j (by have := gA.size; omega) hv).trans (gA.block j hj (fun e => by cases e))⟩
 refine ⟨_, _, _, b, rfl, ?_, ?_, fun _ => ⟨o2, g', ?_⟩⟩
 ·rw [hb]
  exact decide_eq_decide.2 (by simp; omega)
 ·obtain ⟨D, _, ho, _⟩ := O
  exact ⟨g'.os.trans G.os, g'.tape.trans G.tape, g'.output.trans G.output, Nat.le_trans G.size g'.size, fun j hj _ => by
   rw [g'.block j (Nat.lt_of_lt_of_le hj G.size) (fun e => by have := (ho.lt j e.symm).1; omega)]
   exact G.block j hj (fun e => by cases e)⟩
 ·rcases n2 with e | e
  ·exact .inl e.symm
  ·exact .inr ⟨g, rfl, by omega⟩
set_option maxRecDepth 10000 in
set_option maxHeartbeats 4000000 in
theorem subs0 (u q v : Value) (L P : List Int) (CC : List (List Int)) (lo hi k : Nat) (W0 w : World) (hL : L.length ≤ 1048576) (hP : P.length ≤ 1048576) (hl : CC.length ≤ 120) (hu : Sl w u L) (hq : Own lo hi w q P) (g : W0.grownBy w none) (ho : OwnS W0.heap.size w.heap.size w v CC) :
  Calls Tryd.prog 76 #[u, .int .i64 0, .int .i64 (k : Int), q, v] w fun e w' => SubE W0 w v CC [P] e w' := by
 obtain ⟨ua, uc, rfl, _⟩ := hu
 obtain ⟨a, cap, rfl⟩ := ho.len
 obtain ⟨qa, qc, rfl, _⟩ := hq.sl
 have O := hide ho
 have Q := hide hq
 have hl' : ¬ (120 : Int) < (CC.length : Int) := by omega
 have mn := hide (app.made_nil w)
 have Q1 := hide (hq.kept (app.made_nil w).2)
 have G := hide g
 clear hq ho g
 go_enter Tryd.func76, Tryd.ntmps76
 go_wp2_with (at_builtin; refine app.appendI (A := []) (unhide mn).2 (unhide mn).1 (unhide Q1) (by show 0 + P.length ≤ 4194304; omega) rfl _ _ rfl rfl rfl ?_)
 intro y w1 m1 g1
 have O1 := hide ((unhide O).kept m1.2)
 have Y1 := hide (Own.of m1.1)
 have L1 := hide m1.2.size
 have M1 := hide m1
 have hM : CC.length ≤ 1048576 := by omega
 obtain ⟨ya, yc, e0, _⟩ := (Own.of m1.1).sl
 subst e0
 clear m1 g1 mn Q1
 go_wp2_with (at_builtin; refine appendN (unhide O1) (unhide Y1) (unhide G).size (unhide L1) hM rfl _ _ rfl rfl rfl ?_)
 intro g2 cap2 w2 o2 g2' n2
 have R := hide (fun b (hb : b = decide (CC.length < 120)) => sub_last (unhide G) (unhide O) (unhide M1) o2 g2' n2 hb)
 clear o2 g2' n2 O1 Y1 L1 M1
 go_wp2_with fail
 all_goals
  go_ret2
  refine unhide R _ ?_
  first
   | rfl
   | (symm; simp; omega)
theorem sub_end {W0 w wr : World} {v q : Value} {lo hi : Nat} {CC CC' A A' : List (List Int)} {P : List Int} {a : Option Addr} {c n : Nat} (h : Sb W0 w wr v (.slice a n c) q lo hi CC' P) (hl : CC'.length ≤ 120) (e : CC' = CC ++ A) (e2 : A' = A) :
  SubE W0 w v CC A' (.returned (.tuple #[.slice a n c, .bool true])) wr := by
 subst e e2
 refine ⟨_, _, _, true, rfl, ?_, h.g, fun _ => ⟨h.o, h.k, h.n⟩⟩
 rw [List.length_append] at hl
 exact (decide_eq_true hl).symm
theorem sub_full {W0 w w6 : World} {v : Value} {CC CC' A A' B C : List (List Int)} {a : Option Addr} {c n : Nat} (g : W0.grownBy w6 none) (e : CC' = CC ++ A) (e2 : A' = A ++ (B ++ C)) (h : false = decide (CC'.length + B.length ≤ 120)) :
  SubE W0 w v CC A' (.returned (.tuple #[.slice a n c, .bool false])) w6 := by
 subst e e2
 refine ⟨_, _, _, false, rfl, ?_, g, fun h => by cases h⟩
 have := of_decide_eq_false h.symm
 rw [List.length_append] at this
 exact (decide_eq_false (by simp only [List.length_append]; omega)).symm
set_option maxRecDepth 100000 in
set_option maxHeartbeats 8000000 in
theorem subsets (u : Value) (L : List Int) (hL : L.length ≤ 1048576) (W0 : World) (hu : ∀ w, W0.grownBy w none → Sl w u L) : ∀ (m : Nat) (w : World) (k : Nat) (q v : Value) (P : List Int) (CC : List (List Int)) (lo hi : Nat), m ≤ 1048576 → k ≤ L.length → P.length + m ≤ 1048576 → CC.length ≤ 120 → Own lo hi w q P → W0.grownBy w none → OwnS W0.heap.size w.heap.size w v CC →
  Calls Tryd.prog 76 #[u, .int .i64 (m : Int), .int .i64 (k : Int), q, v] w fun e w' => SubE W0 w v CC (told P L m k) e w' := by
 intro m
 induction m with
 | zero =>
  intro w k q v P CC lo hi _ _ hP hl hq g ho
  rw [told_zero]
  exact subs0 u q v L P CC lo hi k W0 w hL (by omega) hl (hu w g) hq g ho
 | succ m ih =>
  intro w k q v P CC lo hi hm hk hP hl hq g ho
  have HU := hide hu
  have IH := hide ih
  have ST : Hid (Sb W0 w w v v q lo hi CC P) := ⟨g, ho, ⟨rfl, rfl, rfl, Nat.le_refl _, fun _ _ _ => rfl⟩, .inl rfl, hq⟩
  obtain ⟨ua, uc, rfl, _⟩ := hu w g
  obtain ⟨a, cap, rfl⟩ := ho.len
  obtain ⟨qa, qc, rfl, _⟩ := hq.sl
  have hl' : ¬ (120 : Int) < (CC.length : Int) := by omega
  obtain ⟨M, hM⟩ : ∃ M : Int, M = ((m + 1 : Nat) : Int) := ⟨_, rfl⟩
  rw [← hM]
  have hM0 : (M == 0) = false := by rw [beq_eq_false_iff_ne]; omega
  have hM1 : 1 ≤ M := by omega
  have hM2 : M ≤ 1048576 := by omega
  have HM := hide hM
  have HP := hide hP
  have HL := hide hl
  clear ih hq ho g hu hM hP hm
  go_enter Tryd.func76, Tryd.ntmps76
  go_wp2_with fail
  go_loopw [4, 12] (fun o i wr => ∃ (k' : Nat) (a' : Option Addr) (n' c' : Nat) (CC' A : List (List Int)), o = .slice a' n' c' ∧ i = .int .i64 (k' : Int) ∧ k' ≤ L.length ∧ Hid (Sb W0 w wr (.slice a CC.length cap) (.slice a' n' c') (.slice qa P.length qc) lo hi CC' P) ∧ Hid (told P L (m + 1) k = A ++ told P L (m + 1) k' ∧ CC' = CC ++ A ∧ CC'.length ≤ 120)) (fun _ i _ => L.length + 1 - (intOf i).toNat)
  case atStart => exact ⟨k, _, _, _, CC, [], rfl, rfl, hk, ST, by show _ ∧ _ ∧ _; exact ⟨rfl, (List.append_nil _).symm, unhide HL⟩⟩
  case round =>
   obtain ⟨k', a', n', c', CC', A, rfl, rfl, hk', hs, ha⟩ := hrel
   clear ST
   by_cases hc : k' + (m + 1) ≤ L.length
   ·have hc' : (k' : Int) + M ≤ (L.length : Int) := by have := unhide HM; omega
    have hkl : k' < L.length := by omega
    have hi' : (k' : Int) < (L.length : Int) := by omega
    have hsr := unhide HU wr (unhide hs).g
    obtain ⟨a2, cap2, e2, h2⟩ := hsr
    cases e2
    rcases h2 with h | ⟨b, off, rfl, hb, hcb⟩
    ·rw [h] at hkl
     simp at hkl
    have c1 := hcb k' hkl
    have CQ : Hid (∀ w1 : World, W0.grownBy w1 none → w1.cell? ⟨b, off + k', none⟩ = some (.int .i64 (L.getD k' 0))) := by
     intro w1 g
     obtain ⟨a2, cap2, e2, h2⟩ := unhide HU w1 g
     cases e2
     rcases h2 with h | ⟨b2, off2, e3, _, hc2⟩
     ·rw [h] at hkl
      simp at hkl
     ·cases e3
      exact hc2 k' hkl
    have ts := told_step P L m k' hkl
    obtain ⟨t1, t2, t3⟩ := unhide ha
    rw [ts] at t1
    generalize L.getD k' 0 = x at *
    have TT := hide (And.intro t1 (And.intro t2 t3))
    have PL : P.length ≤ 1048576 := by have := unhide HP; omega
    have CI := hide (fun (v2 : Value) (w3 : World) (z1 z2 : Int) (h1 : z1 = (m : Int)) (h2 : z2 = (k' : Int) + 1) (mm : Made wr w3 v2 (P ++ [x])) => (by
     subst h1
     rw [show z2 = ((k' + 1 : Nat) : Int) by omega]
     exact unhide IH w3 (k' + 1) v2 (.slice a' n' c') (P ++ [x]) CC' _ _ (by omega) (by omega) (by rw [List.length_append]; have := unhide HP; simp only [List.length_cons, List.length_nil]; omega) t3 (Own.of mm.1) (grown_trans (unhide hs).g mm.2) (((unhide hs).o.kept mm.2).sub (Nat.le_refl _) mm.2.size) : Calls Tryd.prog 76 #[.slice (some ⟨b, off, none⟩) L.length uc, .int .i64 z1, .int .i64 z2, v2, .slice a' n' c'] w3 fun e w' => SubE W0 w3 (.slice a' n' c') CC' (told (P ++ [x]) L m (k' + 1)) e w'))
    have hA1 : Hid (wr.grownBy (wr.alloc (.cells #[] 3)).drew none) := hide (grown_trans (World.grownBy_alloc _ _ none) (cf.grown_drew _ none))
    have ho1 := hide (made_nilD wr)
    have hu1 := hide ((unhide hs).p.kept (unhide hA1))
    have hA2 : Hid (wr.grownBy ((wr.alloc (.cells #[] 3)).alloc (.cells #[.int .i64 x] 3)).drew none) := hide (grown_trans (grown_trans (r := none) (World.grownBy_alloc _ _ none) (World.grownBy_alloc _ _ none)) (cf.grown_drew _ none))
    have ho2 := hide (nil_one wr x)
    have hu2 := hide ((unhide hs).p.kept (unhide hA2))
    have hA3 : Hid (wr.grownBy ((wr.alloc (.cells #[.int .i64 x] 3)).alloc (.cells #[] 3)).drew none) := hide (grown_trans (grown_trans (r := none) (World.grownBy_alloc _ _ none) (World.grownBy_alloc _ _ none)) (cf.grown_drew _ none))
    have ho3 := hide (one_nil wr x)
    have hu3 := hide ((unhide hs).p.kept (unhide hA3))
    have CK := hide (fun (w' : World) (g' : wr.grownBy w' none) => g'.cell c1 (fun e => by cases e))
    have hgn : ¬ b = wr.heap.size := by omega
    have hgn2 : ¬ b = wr.heap.size + 1 := by omega
    have hab : Hid (P.length + 1 ≤ 4194304) := hide (by omega)
    have hab0 : Hid (0 + P.length ≤ 4194304) := hide (by omega)
    have hw1 : IntKind.i64.wrap (M - 1) = (m : Int) := by rw [IntKind.wrap_i64]; have := unhide HM; omega
    have hw2 : IntKind.i64.wrap ((k' : Int) + 1) = (k' : Int) + 1 := by rw [IntKind.wrap_i64]; omega
    clear hcb hb ts t1 t2 t3 ha
    go_wp2_with fail
    go_region_held3 (fun w' => w'.cell? ⟨b, off + k', none⟩ = some (.int .i64 x)) (go_keep) (first
      | (go_at_call 76; refine (unhide CI _ _ _ _ rfl rfl (unhide M3)).mono ?_; rintro e w6 ⟨a6, n6, c6, b6, rfl, d6, g6, h6⟩; have p2 := unhide CQ w6 g6; have R6 := hide (And.intro d6 (And.intro g6 h6)); have K3 := hide (unhide M3).2; clear d6 g6 h6)
      | (refine app.stepI (A := []) (unhide hA1) (unhide ho1) (unhide hu1) (unhide hab0) (by rfl) _ _ (by rfl) (by rfl) (by rfl) ?_; intro v4 w4 m4 g4; have M2 : Hid (Made wr w4 v4 P) := hide m4; have q1 := unhide CK _ (unhide M2).2; have ne2 := World.new_ne w4 _ q1; clear m4 g4)
      | (refine app.stepI (A := []) (unhide hA2) (unhide ho2).1 (unhide hu2) (unhide hab0) (by rfl) _ _ (by rfl) (by rfl) (by rfl) ?_; intro v4 w4 m4 g4; have M2 : Hid (Made wr w4 v4 P) := hide m4; have XB := hide ((unhide ho2).2 w4 g4); have q1 := unhide CK _ (unhide M2).2; have ne2 := World.new_ne w4 _ q1; clear m4 g4)
      | (refine app.stepI (A := []) (unhide hA3) (unhide ho3).1 (unhide hu3) (unhide hab0) (by rfl) _ _ (by rfl) (by rfl) (by rfl) ?_; intro v4 w4 m4 g4; have M2 : Hid (Made wr w4 v4 P) := hide m4; have XB := hide ((unhide ho3).2 w4 g4); have q1 := unhide CK _ (unhide M2).2; have ne2 := World.new_ne w4 _ q1; clear m4 g4)
      | (refine app.stepI (unhide M2).2 (unhide M2).1 (unhide XB) (unhide hab) (by rfl) _ _ (by rfl) (by rfl) (by rfl) ?_; intro v5 w5 m5 g5; have M3 := hide m5; have p1 := unhide CK _ m5.2; clear m5 g5)
      | (refine app.stepI (grown_trans (unhide M2).2 (World.grownBy_alloc w4 (.cells #[.int .i64 x] 3) none)) ((unhide M2).1.alloc _) (t1.own_lit w4 x) (unhide hab) (by rfl) _ _ (by rfl) (by rfl) (by rfl) ?_; intro v5 w5 m5 g5; have M3 := hide m5; have p1 := unhide CK _ m5.2; clear m5 g5)
)
    all_goals
     have CC6 : Hid (W0.grownBy w6 none ∧ told P L (m + 1) k = A ++ (told (P ++ [x]) L m (k' + 1) ++ told P L (m + 1) (k' + 1))) := ⟨(unhide R6).2.1, (unhide TT).1⟩
     cases b6
     ·have R : Hid (SubE W0 w (.slice a CC.length cap) CC (told P L (m + 1) k) (.returned (.tuple #[.slice a' n' c', .bool false])) w6) := sub_full (unhide CC6).1 (unhide TT).2.1 (unhide CC6).2 (unhide R6).1
      clear R6 K3 CC6 p1 p2
      go_wp2_with fail
      go_ret2
      exact unhide R
     ·have hb6 := of_decide_eq_true (unhide R6).1.symm
      have S6 := hide ((unhide hs).step (unhide K3) (unhide R6).2.1 ((unhide R6).2.2 rfl).1 ((unhide R6).2.2 rfl).2.1 ((unhide R6).2.2 rfl).2.2)
      have T6 : Hid (told P L (m + 1) k = (A ++ told (P ++ [x]) L m (k' + 1)) ++ told P L (m + 1) (k' + 1) ∧ CC' ++ told (P ++ [x]) L m (k' + 1) = CC ++ (A ++ told (P ++ [x]) L m (k' + 1)) ∧ (CC' ++ told (P ++ [x]) L m (k' + 1)).length ≤ 120) := ⟨by rw [(unhide CC6).2, List.append_assoc], by rw [(unhide TT).2.1, List.append_assoc], by rw [List.length_append]; exact hb6⟩
      clear R6 K3 CC6 p1 p2 hb6
      go_wp2_with fail
      go_roundw
      case rel => exact ⟨k' + 1, _, _, _, _, _, rfl, by go_num, by omega, S6, T6⟩
      case measure => simp [intOf]; omega
   ·have hc' : ¬ (k' : Int) + M ≤ (L.length : Int) := by have := unhide HM; omega
    have te := told_end P L (m + 1) k' (by omega) (by omega)
    have R : Hid (SubE W0 w (.slice a CC.length cap) CC (told P L (m + 1) k) (.returned (.tuple #[.slice a' n' c', .bool true])) wr) := by
     obtain ⟨t1, t2, t3⟩ := unhide ha
     rw [te, List.append_nil] at t1
     exact sub_end (unhide hs) t3 t2 t1
    clear te ha hs
    go_wp2_with fail
    go_ret2
    exact unhide R
end Go.Proofs.YtfhmdpbnnieohaaDoor.t2
