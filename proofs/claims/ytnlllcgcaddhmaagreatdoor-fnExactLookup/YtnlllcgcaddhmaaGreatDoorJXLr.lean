/- What the model's l05From answers: the least assignment from a variable on, where some literals are taken; no condition but that the formula is one, and on the sizes. -/
import Derived.Test.YtnlllcgcaddhmaaGreatDoorJXLq
import Derived.Deep.RegionLaw
import Derived.Deep.DeepCutAuto
namespace Go.Proofs.YtnlllcgcaddhmaaGreatDoor.lq
open Go.ChangeShapes Go.WideShapes Go.ChangeAt Go.RowKit
open lits (okB varI okB_iff varI_yes)
open cls (hasB)
open css (Sls OwnS tot own_mono)
open cf (Box)
open ok (cnfB clB litIn)
open as_ (litAt)
open l4 (emptyB openB)
open wo (Made)
open sl (Sl Own ints hide unhide ret_int ret_bool grown_refl grown_trans grown_drewN)
set_option linter.unusedVariables false
def FromE (w : World) (o : Option (List Int)) (e : Ending) (w' : World) : Prop := ∃ r, e = .returned (.tuple #[r, .bool o.isSome]) ∧ Made w w' r (o.getD [])
theorem lit1 (i : Nat) : litAt i 1 = (i : Int) + 1 := if_pos rfl
theorem lit0 (i : Nat) : litAt i 0 = -((i : Int) + 1) := by
 unfold as_.litAt
 rw [if_neg (by decide)]
 omega
theorem made_sub {w w1 w2 : World} {v : Value} {L : List Int} (g : w.grownBy w1 none) (h : Made w1 w2 v L) : Made w w2 v L := ⟨own_mono h.1 g.size, grown_trans g h.2⟩
theorem lits_in {n : Int} {LL : List (List Int)} (h : cnfB n LL = true) : ∀ c ∈ LL, ∀ x ∈ c, litIn n x = true := by
 unfold ok.cnfB at h
 rw [Bool.and_eq_true, List.all_eq_true] at h
 intro c hc x hx
 have := h.2 c hc
 unfold ok.clB at this
 rw [Bool.and_eq_true, List.all_eq_true] at this
 exact this.1 x hx
theorem made_nilD (w : World) : (w.alloc (.cells #[] 3)).drew.ownsRow w.heap.size 3 1 (.slice (some ⟨w.heap.size, 0, none⟩) ([] : List Int).length 0) ([] : List Int).length (ints []) := (app.made_nil w).1
theorem one_own (w : World) (x : Int) : Own w.heap.size (w.heap.size + 1) (w.alloc (.cells #[.int .i64 x] 3)) (.slice (some ⟨w.heap.size, 0, none⟩) 1 1) [x] :=
 ⟨World.ownsRow_lit w #[.int .i64 x] 1 (Nat.le_refl _) (by decide) rfl, fun k e => by cases e; exact Nat.lt_succ_self _⟩
theorem nil_one (w : World) (x : Int) : ((w.alloc (.cells #[] 3)).alloc (.cells #[.int .i64 x] 3)).drew.ownsRow w.heap.size 3 1 (.slice (some ⟨w.heap.size, 0, none⟩) ([] : List Int).length 0) ([] : List Int).length (ints []) ∧
  ∀ w2, ((w.alloc (.cells #[] 3)).alloc (.cells #[.int .i64 x] 3)).drew.grownBy w2 (Value.slice (some ⟨w.heap.size, 0, none⟩) ([] : List Int).length 0).ownBlock → Own (w.heap.size + 1) (w.heap.size + 1 + 1) w2 (.slice (some ⟨w.heap.size + 1, 0, none⟩) 1 1) [x] := by
 have h1 := (app.made_nil w).1.alloc (.cells #[.int .i64 x] 3)
 have h2 := one_own (w.alloc (.cells #[] 3)) x
 rw [World.size_alloc] at h2
 refine ⟨h1, fun w2 g => ?_⟩
 exact (h2.kept (cf.grown_drew _ none)).kept_by (lo' := w.heap.size) (hi' := w.heap.size + 1) (M := []) ⟨h1, fun k e => by cases e; exact Nat.lt_succ_self _⟩ (.inr (Nat.le_refl _)) g
theorem one_nil (w : World) (x : Int) : ((w.alloc (.cells #[.int .i64 x] 3)).alloc (.cells #[] 3)).drew.ownsRow w.heap.size 3 1 (.slice (some ⟨w.heap.size + 1, 0, none⟩) ([] : List Int).length 0) ([] : List Int).length (ints []) ∧
  ∀ w2, ((w.alloc (.cells #[.int .i64 x] 3)).alloc (.cells #[] 3)).drew.grownBy w2 (Value.slice (some ⟨w.heap.size + 1, 0, none⟩) ([] : List Int).length 0).ownBlock → Own w.heap.size (w.heap.size + 1) w2 (.slice (some ⟨w.heap.size, 0, none⟩) 1 1) [x] := by
 have h1 := (app.made_nil (w.alloc (.cells #[.int .i64 x] 3))).1
 rw [World.size_alloc] at h1
 have h2 := (one_own w x).kept (World.grownBy_alloc _ (.cells #[] 3) none)
 refine ⟨own_mono h1 (Nat.le_succ _), fun w2 g => ?_⟩
 exact (h2.kept (cf.grown_drew _ none)).kept_by (lo' := w.heap.size + 1) (hi' := w.heap.size + 1 + 1) (M := []) ⟨h1, fun k e => by cases e; exact Nat.lt_succ_self _⟩ (.inl (Nat.le_refl _)) g
theorem wrapN {i : Nat} (h : i < 24) : IntKind.i64.wrap (-((i : Int) + 1)) = -((i : Int) + 1) := by
 have key : ∀ j : Fin 24, IntKind.i64.wrap (-((j.val : Int) + 1)) = -((j.val : Int) + 1) := by decide
 exact key ⟨i, h⟩
theorem wrapP {i : Nat} (h : i < 24) : IntKind.i64.wrap ((i : Int) + 1 + 1) = (i : Int) + 1 + 1 := by
 have key : ∀ j : Fin 24, IntKind.i64.wrap ((j.val : Int) + 1 + 1) = (j.val : Int) + 1 + 1 := by decide
 exact key ⟨i, h⟩
theorem callN {n K : Nat} {LL : List (List Int)} {a p : List Int} {x y : Int} {vf v2 : Value} {w1 w3 : World}
  (ih : ∀ (a pre : List Int) (vf u : Value) (lo hi : Nat) (w : World), Ahead n a pre → n - pre.length < K → a.length ≤ 1048576 + pre.length → Sls w vf LL → Own lo hi w u a →
   Calls Tryz.prog 140 #[.agg #[.int .i64 (n : Int), vf], u, .int .i64 ((pre.length : Int) + 1)] w fun e w' => FromE w (rest n LL a pre) e w')
  (hA : Ahead n a p) (hl : p.length < n) (hx : x = 0 ∨ x = 1) (h0 : hasB a (litAt p.length 0) = false) (h1 : hasB a (litAt p.length 1) = false) (hy : y = litAt p.length x) (hK : n - p.length < K + 1) (hal : a.length ≤ 1048576 + p.length) (hv : Sls w1 vf LL) (m : Made w1 w3 v2 (a ++ [y])) :
  Calls Tryz.prog 140 #[.agg #[.int .i64 (n : Int), vf], v2, .int .i64 (IntKind.i64.wrap ((p.length : Int) + 1 + 1))] w3 fun e w' => FromE w3 (rest n LL (a ++ [litAt p.length x]) (p ++ [x])) e w' := by
 subst hy
 have := ih (a ++ [litAt p.length x]) (p ++ [x]) vf v2 w1.heap.size w3.heap.size w3 (ahead_snoc hA hl hx h0 h1) (by rw [List.length_append, List.length_singleton]; omega) (by rw [List.length_append, List.length_append, List.length_singleton, List.length_singleton]; omega) (hv.kept m.2) (Own.of m.1)
 rw [List.length_append, List.length_singleton] at this
 rw [wrapP (by have := hA.n24; omega)]
 exact this
theorem callM {f : Nat} {args : Array Value} {w : World} {o : Option (List Int)} {ob : Bool} {OL : List Int} (h : Calls Tryz.prog f args w fun e w' => FromE w o e w') (h1 : o.isSome = ob) (h2 : o.getD [] = OL) :
  Calls Tryz.prog f args w fun e w' => ∃ r, e = .returned (.tuple #[r, .bool ob]) ∧ Made w w' r OL := by
 subst h1 h2
 exact h
theorem from_some {o a b : Option (List Int)} (h : o = match a with | some r => some r | none => b) (ha : a.isSome = true) : o = some (a.getD []) := by
 cases a with
 | none => cases ha
 | some r => exact h
theorem from_none {o a b : Option (List Int)} (h : o = match a with | some r => some r | none => b) (ha : a.isSome = false) : o = b := by
 cases a with
 | none => exact h
 | some r => cases ha
set_option maxRecDepth 100000 in
set_option maxHeartbeats 8000000 in
theorem from_ (n : Nat) (LL : List (List Int)) (hn : tot LL ≤ 1048576) (hin : ∀ c ∈ LL, ∀ x ∈ c, litIn (n : Int) x = true) (K : Nat) :
  ∀ (a pre : List Int) (vf u : Value) (lo hi : Nat) (w : World), Ahead n a pre → n - pre.length < K → a.length ≤ 1048576 + pre.length → Sls w vf LL → Own lo hi w u a →
   Calls Tryz.prog 140 #[.agg #[.int .i64 (n : Int), vf], u, .int .i64 ((pre.length : Int) + 1)] w fun e w' => FromE w (rest n LL a pre) e w' := by
 have hok : ∀ c ∈ LL, ∀ x ∈ c, okB x = true := fun c hc x hx => (litIn_parts (hin c hc x hx)).1
 induction K with
 | zero =>
  intro a pre vf u lo hi w hA hK
  exact absurd hK (Nat.not_lt_zero _)
 | succ K ih =>
  intro a pre vf u lo hi w hA hK hl hv hu
  have h24 := hA.n24
  have hpl := hA.len
  have hal : a.length ≤ 2097152 := by omega
  have g0 := World.grownBy_alloc w (.cells #[.int .i64 (n : Int), vf] 26) none
  have F0 := hide (Box.new 26 w (.int .i64 (n : Int)) vf)
  have HU := hide (hu.kept g0)
  have HV := hide (hv.kept g0)
  have G0 := hide g0
  have CO := hide (l4.l05Open vf u (n : Int) LL a _ hn hal hok (hv.kept g0) (hu.kept g0).sl)
  obtain ⟨ua, uc, rfl, _⟩ := hu.sl
  have HA := hide hA
  have IH := hide ih
  have x0 := (unhide F0).c0
  have x1 := (unhide F0).c1
  clear g0 hu hv hA ih
  cases hop : openB LL a
  ·rw [hop] at CO
   have E := hide (rest_none (unhide HA) hok hop)
   clear hop IH HU HV
   go_enter Tryz.func140, Tryz.ntmps140
   go_wp2_with fail
   refine (unhide CO).mono ?_; rintro e w1 ⟨rfl, g1⟩
   have G1 := hide (grown_trans (r := none) (unhide G0) g1)
   clear CO g1 x0 x1
   go_wp2_with fail
   go_ret2
   rw [unhide E]
   exact ⟨_, rfl, made_sub (unhide G1) (app.made_nil _)⟩
  rw [hop] at CO
  have HOP := hide hop
  clear hop
  go_enter Tryz.func140, Tryz.ntmps140
  go_wp2_with fail
  refine (unhide CO).mono ?_; rintro e w1 ⟨rfl, g1⟩
  have G1 := hide (grown_trans (r := none) (unhide G0) g1)
  have U1 := hide ((unhide HU).kept g1)
  have V1 := hide ((unhide HV).kept g1)
  have F1 := hide ((unhide F0).kept g1)
  have y0 := (unhide F1).c0
  have y1 := (unhide F1).c1
  have CH := hide (fun x => slw.specClauseHas (.slice ua a.length uc) a x w1 hal (unhide U1).sl)
  clear CO g1 x0 x1 G0 HU HV F0
  go_wp2_with fail
  go_loop [2] (fun v => ∃ p : List Int, v = .int .i64 ((p.length : Int) + 1) ∧ pre.length ≤ p.length ∧ p.length ≤ n ∧ Hid (Ahead n a p) ∧ Hid (rest n LL a pre = rest n LL a p)) (fun v => n + 1 - (intOf v).toNat)
  case atStart => exact ⟨pre, rfl, Nat.le_refl _, hpl, HA, rfl⟩
  case round =>
   obtain ⟨p, rfl, hpp, hpn, hA, hR⟩ := hrel
   clear HA
   by_cases hlt : p.length < n
   ·have hi' : (p.length : Int) + 1 ≤ (n : Int) := by omega
    have c1 := unhide CH ((p.length : Int) + 1)
    have c0 := unhide CH (-((p.length : Int) + 1))
    cases h1 : hasB a ((p.length : Int) + 1)
    ·rw [h1] at c1
     cases h0 : hasB a (-((p.length : Int) + 1))
     ·rw [h0] at c0
      have C0 := hide c0
      have C1 := hide c1
      clear c0 c1
      go_wp2_with fail
      refine (unhide C1).mono ?_; rintro e w2 ⟨rfl, hw⟩; have hw' := hw.symm; clear hw; subst hw'
      go_wp2_with fail
      refine (unhide C0).mono ?_; rintro e w2 ⟨rfl, hw⟩; have hw' := hw.symm; clear hw; subst hw'
      go_wp2_with fail
      go_upto_region 13 with fail
      obtain ⟨ob, hob⟩ : ∃ ob, (rest n LL (a ++ [litAt p.length 0]) (p ++ [0])).isSome = ob := ⟨_, rfl⟩
      obtain ⟨OL, hOL⟩ : ∃ OL, (rest n LL (a ++ [litAt p.length 0]) (p ++ [0])).getD [] = OL := ⟨_, rfl⟩
      have HOB := hide hob
      have HOL := hide hOL
      clear hob hOL
      go_cut [10, 11] (fun q b wx => ∃ r, q = r ∧ b = .bool ob ∧ Hid (Made w1 wx r OL))
      case first =>
       have CI := hide (fun v2 w3 (m : Made w1 w3 v2 (a ++ [(IntKind.i64.wrap (-((p.length : Int) + 1)))])) => callM (callN (unhide IH) (unhide hA) hlt (.inl rfl) (by rw [lit0]; exact h0) (by rw [lit1]; exact h1) ((wrapN (by omega)).trans (lit0 _).symm) (by omega) (by omega) (unhide V1) m) (unhide HOB) (unhide HOL))
       have hA1 : Hid (w1.grownBy (w1.alloc (.cells #[] 3)).drew none) := hide (grown_trans (World.grownBy_alloc _ _ none) (cf.grown_drew _ none))
       have ho1 := hide (made_nilD w1)
       have hu1 := hide ((unhide U1).kept (unhide hA1))
       have hA2 : Hid (w1.grownBy ((w1.alloc (.cells #[] 3)).alloc (.cells #[.int .i64 (IntKind.i64.wrap (-((p.length : Int) + 1)))] 3)).drew none) := hide (grown_trans (grown_trans (r := none) (World.grownBy_alloc _ _ none) (World.grownBy_alloc _ _ none)) (cf.grown_drew _ none))
       have ho2 := hide (nil_one w1 (IntKind.i64.wrap (-((p.length : Int) + 1))))
       have hu2 := hide ((unhide U1).kept (unhide hA2))
       have hA3 : Hid (w1.grownBy ((w1.alloc (.cells #[.int .i64 (IntKind.i64.wrap (-((p.length : Int) + 1)))] 3)).alloc (.cells #[] 3)).drew none) := hide (grown_trans (grown_trans (r := none) (World.grownBy_alloc _ _ none) (World.grownBy_alloc _ _ none)) (cf.grown_drew _ none))
       have ho3 := hide (one_nil w1 (IntKind.i64.wrap (-((p.length : Int) + 1))))
       have hu3 := hide ((unhide U1).kept (unhide hA3))
       have hlw := (unhide F1).lt
       have hne : ¬ w.heap.size = w1.heap.size := by omega
       have hne2 : ¬ w.heap.size = w1.heap.size + 1 := by omega
       have hab : a.length + 1 ≤ 4194304 := by omega
       go_region_law
        (first
         | (go_simp; go_at_call 140; refine (unhide CI _ _ (unhide M3)).mono ?_; rintro e w4 ⟨r, rfl, m4⟩; have M4 := hide (made_sub (unhide M3).2 m4); clear m4)
         | (refine app.stepI (A := []) (unhide hA1) (unhide ho1) (unhide hu1) (by show 0 + a.length ≤ 4194304; omega) (by rfl) _ _ (by rfl) (by rfl) (by rfl) ?_; intro v2 w2 m2 g2; have M2 : Hid (Made w1 w2 v2 a) := hide m2; have kb0 := (((unhide F1).kept (unhide M2).2).kept (World.grownBy_alloc w2 (.cells #[.int .i64 (IntKind.i64.wrap (-((p.length : Int) + 1)))] 3) none)).c0; have kb1 := (((unhide F1).kept (unhide M2).2).kept (World.grownBy_alloc w2 (.cells #[.int .i64 (IntKind.i64.wrap (-((p.length : Int) + 1)))] 3) none)).c1; have k0 := ((unhide F1).kept (unhide M2).2).c0; have k1 := ((unhide F1).kept (unhide M2).2).c1; have hn2 : ¬ w.heap.size = w2.heap.size := Nat.ne_of_lt ((unhide F1).kept (unhide M2).2).lt; clear m2 g2)
         | (refine app.stepI (A := []) (unhide hA2) (unhide ho2).1 (unhide hu2) (by show 0 + a.length ≤ 4194304; omega) (by rfl) _ _ (by rfl) (by rfl) (by rfl) ?_; intro v2 w2 m2 g2; have M2 : Hid (Made w1 w2 v2 a) := hide m2; have XB := hide ((unhide ho2).2 w2 g2); have k0 := ((unhide F1).kept (unhide M2).2).c0; have k1 := ((unhide F1).kept (unhide M2).2).c1; have hn2 : ¬ w.heap.size = w2.heap.size := Nat.ne_of_lt ((unhide F1).kept (unhide M2).2).lt; clear m2 g2)
         | (refine app.stepI (A := []) (unhide hA3) (unhide ho3).1 (unhide hu3) (by show 0 + a.length ≤ 4194304; omega) (by rfl) _ _ (by rfl) (by rfl) (by rfl) ?_; intro v2 w2 m2 g2; have M2 : Hid (Made w1 w2 v2 a) := hide m2; have XB := hide ((unhide ho3).2 w2 g2); have k0 := ((unhide F1).kept (unhide M2).2).c0; have k1 := ((unhide F1).kept (unhide M2).2).c1; have hn2 : ¬ w.heap.size = w2.heap.size := Nat.ne_of_lt ((unhide F1).kept (unhide M2).2).lt; clear m2 g2)
         | (refine app.stepI (unhide M2).2 (unhide M2).1 (unhide XB) hab (by rfl) _ _ (by rfl) (by rfl) (by rfl) ?_; intro v3 w3 m3 g3; have M3 := hide m3; have j0 := ((unhide F1).kept m3.2).c0; have j1 := ((unhide F1).kept m3.2).c1; clear m3 g3)
         | (refine app.stepI (grown_trans (unhide M2).2 (World.grownBy_alloc w2 (.cells #[.int .i64 (IntKind.i64.wrap (-((p.length : Int) + 1)))] 3) none)) ((unhide M2).1.alloc _) (one_own w2 (IntKind.i64.wrap (-((p.length : Int) + 1)))) hab (by rfl) _ _ (by rfl) (by rfl) (by rfl) ?_; intro v3 w3 m3 g3; have M3 := hide m3; have j0 := ((unhide F1).kept m3.2).c0; have j1 := ((unhide F1).kept m3.2).c1; clear m3 g3))
       all_goals (go_wp2_with fail; go_meet; exact ⟨r, rfl, rfl, M4⟩)
      case rest =>
       obtain ⟨r, rfl, rfl, hm⟩ := hcut
       have RB := hide ((unhide hR).trans (rest_branch (unhide hA) hlt))
       have G3 := hide (unhide hm).2
       cases ob
       ·have U2 := hide ((unhide U1).kept (unhide G3))
        have V2 := hide ((unhide V1).kept (unhide G3))
        have F2 := hide ((unhide F1).kept (unhide G3))
        have z0 := (unhide F2).c0
        have z1 := (unhide F2).c1
        obtain ⟨pb, hpb⟩ : ∃ pb, (rest n LL (a ++ [litAt p.length 1]) (p ++ [1])).isSome = pb := ⟨_, rfl⟩
        obtain ⟨PL, hPL⟩ : ∃ PL, (rest n LL (a ++ [litAt p.length 1]) (p ++ [1])).getD [] = PL := ⟨_, rfl⟩
        have HPB := hide hpb
        have HPL := hide hPL
        clear hpb hPL
        have CI := hide (fun v2 w3 (m : Made wc w3 v2 (a ++ [((p.length : Int) + 1)])) => callM (callN (unhide IH) (unhide hA) hlt (.inr rfl) (by rw [lit0]; exact h0) (by rw [lit1]; exact h1) (lit1 _).symm (by omega) (by omega) (unhide V2) m) (unhide HPB) (unhide HPL))
        clear y0 y1 hm
        go_wp2_with fail
        have hA1 : Hid (wc.grownBy (wc.alloc (.cells #[] 3)).drew none) := hide (grown_trans (World.grownBy_alloc _ _ none) (cf.grown_drew _ none))
        have ho1 := hide (made_nilD wc)
        have hu1 := hide ((unhide U2).kept (unhide hA1))
        have hA2 : Hid (wc.grownBy ((wc.alloc (.cells #[] 3)).alloc (.cells #[.int .i64 ((p.length : Int) + 1)] 3)).drew none) := hide (grown_trans (grown_trans (r := none) (World.grownBy_alloc _ _ none) (World.grownBy_alloc _ _ none)) (cf.grown_drew _ none))
        have ho2 := hide (nil_one wc ((p.length : Int) + 1))
        have hu2 := hide ((unhide U2).kept (unhide hA2))
        have hA3 : Hid (wc.grownBy ((wc.alloc (.cells #[.int .i64 ((p.length : Int) + 1)] 3)).alloc (.cells #[] 3)).drew none) := hide (grown_trans (grown_trans (r := none) (World.grownBy_alloc _ _ none) (World.grownBy_alloc _ _ none)) (cf.grown_drew _ none))
        have ho3 := hide (one_nil wc ((p.length : Int) + 1))
        have hu3 := hide ((unhide U2).kept (unhide hA3))
        have hlw := (unhide F2).lt
        have hne : ¬ w.heap.size = wc.heap.size := by omega
        have hne2 : ¬ w.heap.size = wc.heap.size + 1 := by omega
        have hab : a.length + 1 ≤ 4194304 := by omega
        go_region_law
         (first
          | (go_simp; go_at_call 140; refine (unhide CI _ _ (unhide M3)).mono ?_; rintro e w4 ⟨r, rfl, m4⟩; have M4 := hide (made_sub (unhide M3).2 m4); clear m4)
          | (refine app.stepI (A := []) (unhide hA1) (unhide ho1) (unhide hu1) (by show 0 + a.length ≤ 4194304; omega) (by rfl) _ _ (by rfl) (by rfl) (by rfl) ?_; intro v2 w2 m2 g2; have M2 : Hid (Made wc w2 v2 a) := hide m2; have kb0 := (((unhide F2).kept (unhide M2).2).kept (World.grownBy_alloc w2 (.cells #[.int .i64 ((p.length : Int) + 1)] 3) none)).c0; have kb1 := (((unhide F2).kept (unhide M2).2).kept (World.grownBy_alloc w2 (.cells #[.int .i64 ((p.length : Int) + 1)] 3) none)).c1; have k0 := ((unhide F2).kept (unhide M2).2).c0; have k1 := ((unhide F2).kept (unhide M2).2).c1; have hn2 : ¬ w.heap.size = w2.heap.size := Nat.ne_of_lt ((unhide F2).kept (unhide M2).2).lt; clear m2 g2)
          | (refine app.stepI (A := []) (unhide hA2) (unhide ho2).1 (unhide hu2) (by show 0 + a.length ≤ 4194304; omega) (by rfl) _ _ (by rfl) (by rfl) (by rfl) ?_; intro v2 w2 m2 g2; have M2 : Hid (Made wc w2 v2 a) := hide m2; have XB := hide ((unhide ho2).2 w2 g2); have k0 := ((unhide F2).kept (unhide M2).2).c0; have k1 := ((unhide F2).kept (unhide M2).2).c1; have hn2 : ¬ w.heap.size = w2.heap.size := Nat.ne_of_lt ((unhide F2).kept (unhide M2).2).lt; clear m2 g2)
          | (refine app.stepI (A := []) (unhide hA3) (unhide ho3).1 (unhide hu3) (by show 0 + a.length ≤ 4194304; omega) (by rfl) _ _ (by rfl) (by rfl) (by rfl) ?_; intro v2 w2 m2 g2; have M2 : Hid (Made wc w2 v2 a) := hide m2; have XB := hide ((unhide ho3).2 w2 g2); have k0 := ((unhide F2).kept (unhide M2).2).c0; have k1 := ((unhide F2).kept (unhide M2).2).c1; have hn2 : ¬ w.heap.size = w2.heap.size := Nat.ne_of_lt ((unhide F2).kept (unhide M2).2).lt; clear m2 g2)
          | (refine app.stepI (unhide M2).2 (unhide M2).1 (unhide XB) hab (by rfl) _ _ (by rfl) (by rfl) (by rfl) ?_; intro v3 w3 m3 g3; have M3 := hide m3; have j0 := ((unhide F2).kept m3.2).c0; have j1 := ((unhide F2).kept m3.2).c1; clear m3 g3)
          | (refine app.stepI (grown_trans (unhide M2).2 (World.grownBy_alloc w2 (.cells #[.int .i64 ((p.length : Int) + 1)] 3) none)) ((unhide M2).1.alloc _) (one_own w2 ((p.length : Int) + 1)) hab (by rfl) _ _ (by rfl) (by rfl) (by rfl) ?_; intro v3 w3 m3 g3; have M3 := hide m3; have j0 := ((unhide F2).kept m3.2).c0; have j1 := ((unhide F2).kept m3.2).c1; clear m3 g3))
        all_goals
         go_wp2_with fail
         go_ret2
         rw [from_none (unhide RB) (unhide HOB)]
         exact ⟨r, by rw [unhide HPB]; rfl, by rw [unhide HPL]; exact made_sub (grown_trans (r := none) (unhide G1) (unhide G3)) (unhide M4)⟩
       ·clear y0 y1
        go_wp2_with fail
        go_ret2
        rw [from_some (unhide RB) (unhide HOB)]
        exact ⟨_, rfl, by rw [show (some ((rest n LL (a ++ [litAt p.length 0]) (p ++ [0])).getD [])).getD [] = OL from unhide HOL]; exact made_sub (unhide G1) (unhide hm)⟩
     ·rw [h0] at c0
      have C0 := hide c0
      have C1 := hide c1
      have S := rest_skip (LL := LL) (unhide hA) hlt (x := 0) (.inl rfl) (by rw [lit0]; exact h0)
      have S1 := hide ((unhide hR).trans S.1)
      have S2 := hide S.2
      clear c0 c1 h0 h1 S hA hR
      go_wp2_with fail
      refine (unhide C1).mono ?_; rintro e w2 ⟨rfl, hw⟩; have hw' := hw.symm; clear hw; subst hw'
      go_wp2_with fail
      refine (unhide C0).mono ?_; rintro e w2 ⟨rfl, hw⟩; have hw' := hw.symm; clear hw; subst hw'
      go_wp2_with fail
      go_round
      case rel => exact ⟨p ++ [0], by rw [List.length_append, List.length_singleton]; go_num, by rw [List.length_append]; omega, by rw [List.length_append, List.length_singleton]; omega, S2, S1⟩
      case measure => simp [intOf]; omega
    ·rw [h1] at c1
     have C1 := hide c1
     have S := rest_skip (LL := LL) (unhide hA) hlt (x := 1) (.inr rfl) (by rw [lit1]; exact h1)
     have S1 := hide ((unhide hR).trans S.1)
     have S2 := hide S.2
     clear c0 c1 h1 S hA hR
     go_wp2_with fail
     refine (unhide C1).mono ?_; rintro e w2 ⟨rfl, hw⟩; have hw' := hw.symm; clear hw; subst hw'
     go_wp2_with fail
     go_round
     case rel => exact ⟨p ++ [1], by rw [List.length_append, List.length_singleton]; go_num, by rw [List.length_append]; omega, by rw [List.length_append, List.length_singleton]; omega, S2, S1⟩
     case measure => simp [intOf]; omega
   ·have hi' : ¬ (p.length : Int) + 1 ≤ (n : Int) := by omega
    have hi2 : (n : Int) < (p.length : Int) + 1 := by omega
    have E := hide ((unhide hR).trans (rest_end (unhide hA) (by omega) hin (unhide HOP)))
    have OE := hide (fun j (hj : j < p.length) => out_end (unhide hA) hj)
    have hpe : p.length = n := by omega
    have HPE := hide hpe
    have st := hide (app.made_nil w1)
    clear hA hR hpe hpl hpp
    go_wp2_with fail
    go_loopw [8, 9] (fun q k wr => ∃ (j : Nat), j ≤ n ∧ k = .int .i64 ((j : Int) + 1) ∧ Hid (Made w1 wr q (p.take j))) (fun _ k _ => n + 1 - (intOf k).toNat)
    case atStart => exact ⟨0, Nat.zero_le _, rfl, st⟩
    case round =>
     obtain ⟨j, hj, rfl, hm⟩ := hrel
     clear st
     have hg := hide (unhide hm).2
     have z0 := ((unhide F1).kept (unhide hg)).c0
     by_cases hlt2 : j < n
     ·have hi3 : (j : Int) + 1 ≤ (n : Int) := by omega
      have hjp : j < p.length := by have := unhide HPE; omega
      have e1 : p.take (j + 1) = p.take j ++ [p.getD j 0] := by rw [List.take_succ_eq_append_getElem hjp, show p.getD j 0 = p[j] by simp [hjp]]
      rw [unhide OE j hjp] at e1
      have ct := slw.specClauseHas (.slice ua a.length uc) a ((j : Int) + 1) wr hal ((unhide U1).kept (unhide hg)).sl
      have hM : (p.take j).length ≤ 4194304 := by rw [List.length_take]; omega
      cases hb : hasB a ((j : Int) + 1)
      ·rw [hb] at e1 ct
       have HT := hide (show p.take (j + 1) = p.take j ++ [0] from e1)
       have C := hide ct
       clear e1 ct hb
       generalize p.take j = M at *
       go_wp2_with fail
       refine (unhide C).mono ?_; rintro e w2 ⟨rfl, hw⟩; have hw' := hw.symm; clear hw; subst hw'
       go_wp2_with (at_builtin; refine wo.append1 (unhide hm).2 (unhide hm).1 hM rfl _ _ rfl rfl rfl ?_)
       intro v' w3 R
       have R3 := hide R
       clear R hm hg z0
       go_wp2_with fail
       go_roundw
       case rel => exact ⟨j + 1, by omega, by go_num, by rw [unhide HT]; exact R3⟩
       case measure => simp [intOf]; omega
      ·rw [hb] at e1 ct
       have HT := hide (show p.take (j + 1) = p.take j ++ [1] from e1)
       have C := hide ct
       clear e1 ct hb
       generalize p.take j = M at *
       go_wp2_with fail
       refine (unhide C).mono ?_; rintro e w2 ⟨rfl, hw⟩; have hw' := hw.symm; clear hw; subst hw'
       go_wp2_with (at_builtin; refine wo.append1 (unhide hm).2 (unhide hm).1 hM rfl _ _ rfl rfl rfl ?_)
       intro v' w3 R
       have R3 := hide R
       clear R hm hg z0
       go_wp2_with fail
       go_roundw
       case rel => exact ⟨j + 1, by omega, by go_num, by rw [unhide HT]; exact R3⟩
       case measure => simp [intOf]; omega
     ·have hi3 : ¬ (j : Int) + 1 ≤ (n : Int) := by omega
      have et : p.take j = p := List.take_of_length_le (by have := unhide HPE; omega)
      rw [et] at hm
      clear et
      go_wp2_with fail
      go_ret2
      rw [unhide E]
      exact ⟨_, rfl, made_sub (unhide G1) (unhide hm)⟩
end Go.Proofs.YtnlllcgcaddhmaaGreatDoor.lq
