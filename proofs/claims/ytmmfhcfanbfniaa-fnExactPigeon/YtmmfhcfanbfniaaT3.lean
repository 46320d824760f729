/- The program's builder of clauses: formula, clausesOf and gateOf with any condition. -/
import Derived.Test.YtmmfhcfanbfniaaT2
import Derived.Test.YtmmfhcfanbfniaaOk
namespace Go.Proofs.Ytmmfhcfanbfniaa.t2
open Go.ChangeShapes Go.WideShapes Go.ChangeAt Go.RowKit
open Go.Proofs.Ytmmfhcfanbfniaa.lits (okB okB_iff)
open Go.Proofs.Ytmmfhcfanbfniaa.sl (Sl Own ints hide unhide ret_int ret_bool grown_refl grown_trans grown_drewN)
open Go.Proofs.Ytmmfhcfanbfniaa.css (Sls OwnS tot Apart own_ne own_ne' own_kind own_mono)
open Go.Proofs.Ytmmfhcfanbfniaa.cf (Box)
set_option linter.unusedVariables false

theorem lits_bd (x : Int) : lits.varI x ≤ 24 := by
  by_cases h : x ≠ 0 ∧ -24 ≤ x ∧ x ≤ 24
  · rw [lits.varI_yes h]; split <;> omega
  · rw [lits.varI_no h]; omega
theorem ownS_nil (lo hi : Nat) (w : World) : OwnS lo hi w (.slice none 0 0) [] := ⟨[], rfl, ⟨rfl, .inl ⟨rfl, rfl⟩⟩, (fun k e => by cases e), (fun p hp => by cases hp), .nil⟩
def FormE (W0 : World) (v : Value) (r : Bool) (CC : List (List Int)) (n : Int) (w : World) (e : Ending) (w' : World) : Prop :=
  ∃ q, e = .returned (.tuple #[.agg #[.int .i64 (if r then 0 else n), q], .bool (!r)]) ∧ OwnS W0.heap.size w'.heap.size w' q (if r then [] else CC) ∧ w.grownBy w' none
theorem formula (p : Nat) (v : Value) (r : Bool) (CC : List (List Int)) (n : Int) (W0 w : World) (hb : Bld W0 w p v r CC) :
    Calls Try.prog 84 #[.pointer (some ⟨p, 0, none⟩), .int .i64 n] w fun e w' => FormE W0 v r CC n w e w' := by
  have g0 := World.grownBy_alloc w (.cells #[.int .i64 0, .slice none 0 0] 52) none
  obtain ⟨a, cap, rfl⟩ := hb.o.len
  have c0 := (hb.kept g0).b.c0
  have c1 := (hb.kept g0).b.c1
  have hp := hb.b.lt
  have B0 := Box.new 52 w (.int .i64 0) (.slice none 0 0)
  have d0 := B0.c0
  have d1 := B0.c1
  have HO := hb.o
  clear hb B0 g0
  have L1 : Hid (OwnS W0.heap.size (w.heap.size + 1) (w.alloc (.cells #[.int .i64 n, .slice a CC.length cap] 52)) (.slice a CC.length cap) CC) := (HO.kept (World.grownBy_alloc w _ none)).sub (Nat.le_refl _) (Nat.le_succ _)
  clear HO
  cases r
  · go_enter Try.func84, Try.ntmps84
    go_wp2
    (try simp only [Exit.inBlock, Exit.then])
    refine bodyPost_ret (cf.ret_box2 rfl rfl (Box.new 52 w (.int .i64 n) (.slice a CC.length cap))) rfl ⟨_, rfl, ?_, World.grownBy_alloc ..⟩
    rw [World.size_alloc]
    exact unhide L1
  · go_enter Try.func84, Try.ntmps84
    go_wp2
    (try simp only [Exit.inBlock, Exit.then])
    exact bodyPost_ret (cf.ret_box2 rfl rfl (Box.new 52 w (.int .i64 0) (.slice none 0 0))) rfl ⟨_, rfl, ownS_nil .., World.grownBy_alloc ..⟩

/-- whether a list is one of literals, and not too long -/
def listB (L : List Int) : Bool := decide (L.length ≤ 24) && L.all okB
theorem in24 (x : Int) : ok.litIn 24 x = okB x := by
  unfold ok.litIn
  rw [decide_eq_true (lits_bd x), Bool.and_true]
theorem all24 (L : List Int) : L.all (ok.litIn 24) = L.all okB := by
  rw [show ok.litIn 24 = okB from funext in24]
/-- what is answered: clauses of the call's own, and whether they are -/
def AnsE (W0 : World) (b : Bool) (CC : List (List Int)) (e : Ending) (w' : World) : Prop :=
  ∃ q, e = .returned (.tuple #[q, .bool b]) ∧ OwnS W0.heap.size w'.heap.size w' q (if b then CC else []) ∧ W0.grownBy w' none
/-- a condition asked for: what the builder is behind it -/
def MetE (W0 : World) (p : Nat) (r : Bool) (CC : List (List Int)) (e : Ending) (w' : World) : Prop :=
  e = .returned (.tuple #[]) ∧ ∃ v', Bld W0 w' p v' r CC
theorem ans_no {W0 w : World} {CC : List (List Int)} (g : W0.grownBy w none) : AnsE W0 false CC (.returned (.tuple #[.slice (some ⟨w.heap.size, 0, none⟩) 0 0, .bool false])) (w.alloc (.cells #[] 24)) :=
  ⟨_, rfl, ⟨[], rfl, own_mono (World.ownsRow_lit w #[] 0 (Nat.le_refl _) (Nat.zero_le _) rfl) g.size, (fun k e => by cases e; rw [World.size_alloc]; exact Nat.lt_succ_self _), (fun p hp => by cases hp), .nil⟩, grown_trans g (World.grownBy_alloc _ _ _)⟩
theorem ans_yes {W0 w2 : World} {CC : List (List Int)} {n qc : Nat} {qa : Option Addr} {x : Value} (o : OwnS W0.heap.size w2.heap.size w2 (.slice qa n qc) CC) (g : W0.grownBy w2 none) :
    AnsE W0 true CC (.returned (.tuple #[.slice qa n qc, .bool true])) (w2.alloc (.cells #[x, .slice qa n qc] 52)) := by
  have ga := World.grownBy_alloc w2 (.cells #[x, .slice qa n qc] 52) none
  exact ⟨_, rfl, (o.kept ga).sub (Nat.le_refl _) ga.size, grown_trans g ga⟩
theorem ans_ref {W0 w2 : World} {CC : List (List Int)} {n qc : Nat} {qa : Option Addr} {x : Value} (o : OwnS W0.heap.size w2.heap.size w2 (.slice qa n qc) []) (g : W0.grownBy w2 none) :
    AnsE W0 false CC (.returned (.tuple #[.slice qa n qc, .bool false])) (w2.alloc (.cells #[x, .slice qa n qc] 52)) := by
  have ga := World.grownBy_alloc w2 (.cells #[x, .slice qa n qc] 52) none
  exact ⟨_, rfl, (o.kept ga).sub (Nat.le_refl _) ga.size, grown_trans g ga⟩
set_option maxRecDepth 10000 in
set_option maxHeartbeats 4000000 in
theorem clauses_atMost (p : Nat) (v u : Value) (r r' : Bool) (CC CC' : List (List Int)) (k : Int) (L : List Int) (W0 w : World) (hL : L.length ≤ 1048576) (hb : Bld W0 w p v r CC) (hu : Sl w u L)
    (hm : listB L = true → Calls Try.prog 60 #[.pointer (some ⟨p, 0, none⟩), .int .i64 k, u] w fun e w' => MetE W0 p r' CC' e w') :
    Calls Try.prog 59 #[.pointer (some ⟨p, 0, none⟩), .func (.func 60) #[.pointer (some ⟨p, 0, none⟩)] #[], .int .i64 k, u] w fun e w' => AnsE W0 (listB L && !r') CC' e w' := by
  have cl := ok.literalsOf u L 24 w hL hu
  rw [all24] at cl
  obtain ⟨a, cap, rfl, _⟩ := hu
  have HB := hide hb
  clear hb
  by_cases h24 : L.length ≤ 24
  · have hi : ¬ (24 : Int) < (L.length : Int) := by omega
    cases hx : L.all okB
    · have e1 : listB L = false := by simp [listB, hx]
      rw [hx] at cl
      rw [e1]
      have CL := hide cl
      clear cl hm hx e1 h24
      go_enter Try.func59, Try.ntmps59
      go_wp2_with (go_at_call 91; refine (unhide CL).mono ?_; rintro e w' ⟨rfl, rfl⟩)
      go_ret2
      exact ans_no (unhide HB).g
    · have e1 : listB L = true := by simp [listB, hx, h24]
      have HM := hide (hm e1)
      rw [hx] at cl
      rw [e1]
      have CL := hide cl
      clear cl hm hx e1 h24
      go_enter Try.func59, Try.ntmps59
      go_wp2_with fail
      refine (unhide CL).mono ?_; rintro e w' ⟨rfl, hw⟩; have hw' := hw.symm; clear hw; subst hw'
      go_wp2_with fail
      refine (unhide HM).mono ?_; rintro e w1 ⟨rfl, v', b1⟩
      have B1 := hide b1
      have FM := hide (formula p v' r' CC' 24 W0 w1 b1)
      clear b1 HM CL
      go_wp2_with fail
      refine (unhide FM).mono ?_; rintro e w2 ⟨q, rfl, o2, g2⟩
      have G2 := hide (grown_trans (r := none) (unhide B1).g g2)
      clear g2 FM B1 HB
      cases r'
      · have o3 : OwnS W0.heap.size w2.heap.size w2 q CC' := o2
        obtain ⟨qa, qc, rfl⟩ := o3.len
        have O2 := hide o3
        clear o2 o3
        go_wp2_with fail
        go_ret2
        exact ans_yes (unhide O2) (unhide G2)
      · have o3 : OwnS W0.heap.size w2.heap.size w2 q [] := o2
        obtain ⟨qa, qc, rfl⟩ := o3.len
        have O2 := hide o3
        clear o2 o3
        go_wp2_with fail
        go_ret2
        exact ans_ref (unhide O2) (unhide G2)
  · have hi : (24 : Int) < (L.length : Int) := by omega
    have e1 : listB L = false := by simp [listB, h24]
    rw [e1]
    clear cl hm e1 h24
    go_enter Try.func59, Try.ntmps59
    go_wp2
    go_ret2
    exact ans_no (unhide HB).g
set_option maxRecDepth 10000 in
set_option maxHeartbeats 4000000 in
theorem clauses_atLeast (p : Nat) (v u : Value) (r r' : Bool) (CC CC' : List (List Int)) (k : Int) (L : List Int) (W0 w : World) (hL : L.length ≤ 1048576) (hb : Bld W0 w p v r CC) (hu : Sl w u L)
    (hm : listB L = true → Calls Try.prog 61 #[.pointer (some ⟨p, 0, none⟩), .int .i64 k, u] w fun e w' => MetE W0 p r' CC' e w') :
    Calls Try.prog 59 #[.pointer (some ⟨p, 0, none⟩), .func (.func 61) #[.pointer (some ⟨p, 0, none⟩)] #[], .int .i64 k, u] w fun e w' => AnsE W0 (listB L && !r') CC' e w' := by
  have cl := ok.literalsOf u L 24 w hL hu
  rw [all24] at cl
  obtain ⟨a, cap, rfl, _⟩ := hu
  have HB := hide hb
  clear hb
  by_cases h24 : L.length ≤ 24
  · have hi : ¬ (24 : Int) < (L.length : Int) := by omega
    cases hx : L.all okB
    · have e1 : listB L = false := by simp [listB, hx]
      rw [hx] at cl
      rw [e1]
      have CL := hide cl
      clear cl hm hx e1 h24
      go_enter Try.func59, Try.ntmps59
      go_wp2_with (go_at_call 91; refine (unhide CL).mono ?_; rintro e w' ⟨rfl, rfl⟩)
      go_ret2
      exact ans_no (unhide HB).g
    · have e1 : listB L = true := by simp [listB, hx, h24]
      have HM := hide (hm e1)
      rw [hx] at cl
      rw [e1]
      have CL := hide cl
      clear cl hm hx e1 h24
      go_enter Try.func59, Try.ntmps59
      go_wp2_with fail
      refine (unhide CL).mono ?_; rintro e w' ⟨rfl, hw⟩; have hw' := hw.symm; clear hw; subst hw'
      go_wp2_with fail
      refine (unhide HM).mono ?_; rintro e w1 ⟨rfl, v', b1⟩
      have B1 := hide b1
      have FM := hide (formula p v' r' CC' 24 W0 w1 b1)
      clear b1 HM CL
      go_wp2_with fail
      refine (unhide FM).mono ?_; rintro e w2 ⟨q, rfl, o2, g2⟩
      have G2 := hide (grown_trans (r := none) (unhide B1).g g2)
      clear g2 FM B1 HB
      cases r'
      · have o3 : OwnS W0.heap.size w2.heap.size w2 q CC' := o2
        obtain ⟨qa, qc, rfl⟩ := o3.len
        have O2 := hide o3
        clear o2 o3
        go_wp2_with fail
        go_ret2
        exact ans_yes (unhide O2) (unhide G2)
      · have o3 : OwnS W0.heap.size w2.heap.size w2 q [] := o2
        obtain ⟨qa, qc, rfl⟩ := o3.len
        have O2 := hide o3
        clear o2 o3
        go_wp2_with fail
        go_ret2
        exact ans_ref (unhide O2) (unhide G2)
  · have hi : (24 : Int) < (L.length : Int) := by omega
    have e1 : listB L = false := by simp [listB, h24]
    rw [e1]
    clear cl hm e1 h24
    go_enter Try.func59, Try.ntmps59
    go_wp2
    go_ret2
    exact ans_no (unhide HB).g
set_option maxRecDepth 10000 in
set_option maxHeartbeats 4000000 in
theorem clauses_exactly (p : Nat) (v u : Value) (r r' : Bool) (CC CC' : List (List Int)) (k : Int) (L : List Int) (W0 w : World) (hL : L.length ≤ 1048576) (hb : Bld W0 w p v r CC) (hu : Sl w u L)
    (hm : listB L = true → Calls Try.prog 62 #[.pointer (some ⟨p, 0, none⟩), .int .i64 k, u] w fun e w' => MetE W0 p r' CC' e w') :
    Calls Try.prog 59 #[.pointer (some ⟨p, 0, none⟩), .func (.func 62) #[.pointer (some ⟨p, 0, none⟩)] #[], .int .i64 k, u] w fun e w' => AnsE W0 (listB L && !r') CC' e w' := by
  have cl := ok.literalsOf u L 24 w hL hu
  rw [all24] at cl
  obtain ⟨a, cap, rfl, _⟩ := hu
  have HB := hide hb
  clear hb
  by_cases h24 : L.length ≤ 24
  · have hi : ¬ (24 : Int) < (L.length : Int) := by omega
    cases hx : L.all okB
    · have e1 : listB L = false := by simp [listB, hx]
      rw [hx] at cl
      rw [e1]
      have CL := hide cl
      clear cl hm hx e1 h24
      go_enter Try.func59, Try.ntmps59
      go_wp2_with (go_at_call 91; refine (unhide CL).mono ?_; rintro e w' ⟨rfl, rfl⟩)
      go_ret2
      exact ans_no (unhide HB).g
    · have e1 : listB L = true := by simp [listB, hx, h24]
      have HM := hide (hm e1)
      rw [hx] at cl
      rw [e1]
      have CL := hide cl
      clear cl hm hx e1 h24
      go_enter Try.func59, Try.ntmps59
      go_wp2_with fail
      refine (unhide CL).mono ?_; rintro e w' ⟨rfl, hw⟩; have hw' := hw.symm; clear hw; subst hw'
      go_wp2_with fail
      refine (unhide HM).mono ?_; rintro e w1 ⟨rfl, v', b1⟩
      have B1 := hide b1
      have FM := hide (formula p v' r' CC' 24 W0 w1 b1)
      clear b1 HM CL
      go_wp2_with fail
      refine (unhide FM).mono ?_; rintro e w2 ⟨q, rfl, o2, g2⟩
      have G2 := hide (grown_trans (r := none) (unhide B1).g g2)
      clear g2 FM B1 HB
      cases r'
      · have o3 : OwnS W0.heap.size w2.heap.size w2 q CC' := o2
        obtain ⟨qa, qc, rfl⟩ := o3.len
        have O2 := hide o3
        clear o2 o3
        go_wp2_with fail
        go_ret2
        exact ans_yes (unhide O2) (unhide G2)
      · have o3 : OwnS W0.heap.size w2.heap.size w2 q [] := o2
        obtain ⟨qa, qc, rfl⟩ := o3.len
        have O2 := hide o3
        clear o2 o3
        go_wp2_with fail
        go_ret2
        exact ans_ref (unhide O2) (unhide G2)
  · have hi : (24 : Int) < (L.length : Int) := by omega
    have e1 : listB L = false := by simp [listB, h24]
    rw [e1]
    clear cl hm e1 h24
    go_enter Try.func59, Try.ntmps59
    go_wp2
    go_ret2
    exact ans_no (unhide HB).g
set_option maxRecDepth 10000 in
set_option maxHeartbeats 4000000 in
theorem clauses_parity (p : Nat) (v u : Value) (r r' : Bool) (CC CC' : List (List Int)) (k : Int) (L : List Int) (W0 w : World) (hL : L.length ≤ 1048576) (hb : Bld W0 w p v r CC) (hu : Sl w u L)
    (hm : listB L = true → Calls Try.prog 70 #[.pointer (some ⟨p, 0, none⟩), .int .i64 k, u] w fun e w' => MetE W0 p r' CC' e w') :
    Calls Try.prog 59 #[.pointer (some ⟨p, 0, none⟩), .func (.func 70) #[.pointer (some ⟨p, 0, none⟩)] #[], .int .i64 k, u] w fun e w' => AnsE W0 (listB L && !r') CC' e w' := by
  have cl := ok.literalsOf u L 24 w hL hu
  rw [all24] at cl
  obtain ⟨a, cap, rfl, _⟩ := hu
  have HB := hide hb
  clear hb
  by_cases h24 : L.length ≤ 24
  · have hi : ¬ (24 : Int) < (L.length : Int) := by omega
    cases hx : L.all okB
    · have e1 : listB L = false := by simp [listB, hx]
      rw [hx] at cl
      rw [e1]
      have CL := hide cl
      clear cl hm hx e1 h24
      go_enter Try.func59, Try.ntmps59
      go_wp2_with (go_at_call 91; refine (unhide CL).mono ?_; rintro e w' ⟨rfl, rfl⟩)
      go_ret2
      exact ans_no (unhide HB).g
    · have e1 : listB L = true := by simp [listB, hx, h24]
      have HM := hide (hm e1)
      rw [hx] at cl
      rw [e1]
      have CL := hide cl
      clear cl hm hx e1 h24
      go_enter Try.func59, Try.ntmps59
      go_wp2_with fail
      refine (unhide CL).mono ?_; rintro e w' ⟨rfl, hw⟩; have hw' := hw.symm; clear hw; subst hw'
      go_wp2_with fail
      refine (unhide HM).mono ?_; rintro e w1 ⟨rfl, v', b1⟩
      have B1 := hide b1
      have FM := hide (formula p v' r' CC' 24 W0 w1 b1)
      clear b1 HM CL
      go_wp2_with fail
      refine (unhide FM).mono ?_; rintro e w2 ⟨q, rfl, o2, g2⟩
      have G2 := hide (grown_trans (r := none) (unhide B1).g g2)
      clear g2 FM B1 HB
      cases r'
      · have o3 : OwnS W0.heap.size w2.heap.size w2 q CC' := o2
        obtain ⟨qa, qc, rfl⟩ := o3.len
        have O2 := hide o3
        clear o2 o3
        go_wp2_with fail
        go_ret2
        exact ans_yes (unhide O2) (unhide G2)
      · have o3 : OwnS W0.heap.size w2.heap.size w2 q [] := o2
        obtain ⟨qa, qc, rfl⟩ := o3.len
        have O2 := hide o3
        clear o2 o3
        go_wp2_with fail
        go_ret2
        exact ans_ref (unhide O2) (unhide G2)
  · have hi : (24 : Int) < (L.length : Int) := by omega
    have e1 : listB L = false := by simp [listB, h24]
    rw [e1]
    clear cl hm e1 h24
    go_enter Try.func59, Try.ntmps59
    go_wp2
    go_ret2
    exact ans_no (unhide HB).g
set_option maxRecDepth 10000 in
set_option maxHeartbeats 4000000 in
theorem clauses_same (p : Nat) (v u : Value) (r r' : Bool) (CC CC' : List (List Int)) (k : Int) (L : List Int) (W0 w : World) (hL : L.length ≤ 1048576) (hb : Bld W0 w p v r CC) (hu : Sl w u L)
    (hm : listB L = true → Calls Try.prog 78 #[.pointer (some ⟨p, 0, none⟩), .int .i64 k, u] w fun e w' => MetE W0 p r' CC' e w') :
    Calls Try.prog 59 #[.pointer (some ⟨p, 0, none⟩), .func (.func 78) #[.pointer (some ⟨p, 0, none⟩)] #[], .int .i64 k, u] w fun e w' => AnsE W0 (listB L && !r') CC' e w' := by
  have cl := ok.literalsOf u L 24 w hL hu
  rw [all24] at cl
  obtain ⟨a, cap, rfl, _⟩ := hu
  have HB := hide hb
  clear hb
  by_cases h24 : L.length ≤ 24
  · have hi : ¬ (24 : Int) < (L.length : Int) := by omega
    cases hx : L.all okB
    · have e1 : listB L = false := by simp [listB, hx]
      rw [hx] at cl
      rw [e1]
      have CL := hide cl
      clear cl hm hx e1 h24
      go_enter Try.func59, Try.ntmps59
      go_wp2_with (go_at_call 91; refine (unhide CL).mono ?_; rintro e w' ⟨rfl, rfl⟩)
      go_ret2
      exact ans_no (unhide HB).g
    · have e1 : listB L = true := by simp [listB, hx, h24]
      have HM := hide (hm e1)
      rw [hx] at cl
      rw [e1]
      have CL := hide cl
      clear cl hm hx e1 h24
      go_enter Try.func59, Try.ntmps59
      go_wp2_with fail
      refine (unhide CL).mono ?_; rintro e w' ⟨rfl, hw⟩; have hw' := hw.symm; clear hw; subst hw'
      go_wp2_with fail
      refine (unhide HM).mono ?_; rintro e w1 ⟨rfl, v', b1⟩
      have B1 := hide b1
      have FM := hide (formula p v' r' CC' 24 W0 w1 b1)
      clear b1 HM CL
      go_wp2_with fail
      refine (unhide FM).mono ?_; rintro e w2 ⟨q, rfl, o2, g2⟩
      have G2 := hide (grown_trans (r := none) (unhide B1).g g2)
      clear g2 FM B1 HB
      cases r'
      · have o3 : OwnS W0.heap.size w2.heap.size w2 q CC' := o2
        obtain ⟨qa, qc, rfl⟩ := o3.len
        have O2 := hide o3
        clear o2 o3
        go_wp2_with fail
        go_ret2
        exact ans_yes (unhide O2) (unhide G2)
      · have o3 : OwnS W0.heap.size w2.heap.size w2 q [] := o2
        obtain ⟨qa, qc, rfl⟩ := o3.len
        have O2 := hide o3
        clear o2 o3
        go_wp2_with fail
        go_ret2
        exact ans_ref (unhide O2) (unhide G2)
  · have hi : (24 : Int) < (L.length : Int) := by omega
    have e1 : listB L = false := by simp [listB, h24]
    rw [e1]
    clear cl hm e1 h24
    go_enter Try.func59, Try.ntmps59
    go_wp2
    go_ret2
    exact ans_no (unhide HB).g
set_option maxRecDepth 10000 in
set_option maxHeartbeats 4000000 in
theorem clauses_and (p : Nat) (v u : Value) (r r' : Bool) (CC CC' : List (List Int)) (k : Int) (L : List Int) (W0 w : World) (hL : L.length ≤ 1048576) (hb : Bld W0 w p v r CC) (hu : Sl w u L)
    (hm : listB L = true → Calls Try.prog 77 #[.pointer (some ⟨p, 0, none⟩), .int .i64 k, u] w fun e w' => MetE W0 p r' CC' e w') :
    Calls Try.prog 59 #[.pointer (some ⟨p, 0, none⟩), .func (.func 77) #[.pointer (some ⟨p, 0, none⟩)] #[], .int .i64 k, u] w fun e w' => AnsE W0 (listB L && !r') CC' e w' := by
  have cl := ok.literalsOf u L 24 w hL hu
  rw [all24] at cl
  obtain ⟨a, cap, rfl, _⟩ := hu
  have HB := hide hb
  clear hb
  by_cases h24 : L.length ≤ 24
  · have hi : ¬ (24 : Int) < (L.length : Int) := by omega
    cases hx : L.all okB
    · have e1 : listB L = false := by simp [listB, hx]
      rw [hx] at cl
      rw [e1]
      have CL := hide cl
      clear cl hm hx e1 h24
      go_enter Try.func59, Try.ntmps59
      go_wp2_with (go_at_call 91; refine (unhide CL).mono ?_; rintro e w' ⟨rfl, rfl⟩)
      go_ret2
      exact ans_no (unhide HB).g
    · have e1 : listB L = true := by simp [listB, hx, h24]
      have HM := hide (hm e1)
      rw [hx] at cl
      rw [e1]
      have CL := hide cl
      clear cl hm hx e1 h24
      go_enter Try.func59, Try.ntmps59
      go_wp2_with fail
      refine (unhide CL).mono ?_; rintro e w' ⟨rfl, hw⟩; have hw' := hw.symm; clear hw; subst hw'
      go_wp2_with fail
      refine (unhide HM).mono ?_; rintro e w1 ⟨rfl, v', b1⟩
      have B1 := hide b1
      have FM := hide (formula p v' r' CC' 24 W0 w1 b1)
      clear b1 HM CL
      go_wp2_with fail
      refine (unhide FM).mono ?_; rintro e w2 ⟨q, rfl, o2, g2⟩
      have G2 := hide (grown_trans (r := none) (unhide B1).g g2)
      clear g2 FM B1 HB
      cases r'
      · have o3 : OwnS W0.heap.size w2.heap.size w2 q CC' := o2
        obtain ⟨qa, qc, rfl⟩ := o3.len
        have O2 := hide o3
        clear o2 o3
        go_wp2_with fail
        go_ret2
        exact ans_yes (unhide O2) (unhide G2)
      · have o3 : OwnS W0.heap.size w2.heap.size w2 q [] := o2
        obtain ⟨qa, qc, rfl⟩ := o3.len
        have O2 := hide o3
        clear o2 o3
        go_wp2_with fail
        go_ret2
        exact ans_ref (unhide O2) (unhide G2)
  · have hi : (24 : Int) < (L.length : Int) := by omega
    have e1 : listB L = false := by simp [listB, h24]
    rw [e1]
    clear cl hm e1 h24
    go_enter Try.func59, Try.ntmps59
    go_wp2
    go_ret2
    exact ans_no (unhide HB).g
set_option maxRecDepth 10000 in
set_option maxHeartbeats 4000000 in
theorem clauses_choice (p : Nat) (v u : Value) (r r' : Bool) (CC CC' : List (List Int)) (k : Int) (L : List Int) (W0 w : World) (hL : L.length ≤ 1048576) (hb : Bld W0 w p v r CC) (hu : Sl w u L)
    (hm : listB L = true → Calls Try.prog 75 #[.pointer (some ⟨p, 0, none⟩), .int .i64 k, u] w fun e w' => MetE W0 p r' CC' e w') :
    Calls Try.prog 59 #[.pointer (some ⟨p, 0, none⟩), .func (.func 75) #[.pointer (some ⟨p, 0, none⟩)] #[], .int .i64 k, u] w fun e w' => AnsE W0 (listB L && !r') CC' e w' := by
  have cl := ok.literalsOf u L 24 w hL hu
  rw [all24] at cl
  obtain ⟨a, cap, rfl, _⟩ := hu
  have HB := hide hb
  clear hb
  by_cases h24 : L.length ≤ 24
  · have hi : ¬ (24 : Int) < (L.length : Int) := by omega
    cases hx : L.all okB
    · have e1 : listB L = false := by simp [listB, hx]
      rw [hx] at cl
      rw [e1]
      have CL := hide cl
      clear cl hm hx e1 h24
      go_enter Try.func59, Try.ntmps59
      go_wp2_with (go_at_call 91; refine (unhide CL).mono ?_; rintro e w' ⟨rfl, rfl⟩)
      go_ret2
      exact ans_no (unhide HB).g
    · have e1 : listB L = true := by simp [listB, hx, h24]
      have HM := hide (hm e1)
      rw [hx] at cl
      rw [e1]
      have CL := hide cl
      clear cl hm hx e1 h24
      go_enter Try.func59, Try.ntmps59
      go_wp2_with fail
      refine (unhide CL).mono ?_; rintro e w' ⟨rfl, hw⟩; have hw' := hw.symm; clear hw; subst hw'
      go_wp2_with fail
      refine (unhide HM).mono ?_; rintro e w1 ⟨rfl, v', b1⟩
      have B1 := hide b1
      have FM := hide (formula p v' r' CC' 24 W0 w1 b1)
      clear b1 HM CL
      go_wp2_with fail
      refine (unhide FM).mono ?_; rintro e w2 ⟨q, rfl, o2, g2⟩
      have G2 := hide (grown_trans (r := none) (unhide B1).g g2)
      clear g2 FM B1 HB
      cases r'
      · have o3 : OwnS W0.heap.size w2.heap.size w2 q CC' := o2
        obtain ⟨qa, qc, rfl⟩ := o3.len
        have O2 := hide o3
        clear o2 o3
        go_wp2_with fail
        go_ret2
        exact ans_yes (unhide O2) (unhide G2)
      · have o3 : OwnS W0.heap.size w2.heap.size w2 q [] := o2
        obtain ⟨qa, qc, rfl⟩ := o3.len
        have O2 := hide o3
        clear o2 o3
        go_wp2_with fail
        go_ret2
        exact ans_ref (unhide O2) (unhide G2)
  · have hi : (24 : Int) < (L.length : Int) := by omega
    have e1 : listB L = false := by simp [listB, h24]
    rw [e1]
    clear cl hm e1 h24
    go_enter Try.func59, Try.ntmps59
    go_wp2
    go_ret2
    exact ans_no (unhide HB).g
set_option maxRecDepth 10000 in
set_option maxHeartbeats 4000000 in
theorem gate_same (p : Nat) (v u : Value) (r r' : Bool) (CC CC' : List (List Int)) (x : Int) (L : List Int) (lo hi : Nat) (W0 w : World) (hL : L.length ≤ 1048576) (hb : Bld W0 w p v r CC) (hu : Own lo hi w u L)
    (hm : listB L = true → ∀ w1, Bld W0 w1 p v (!okB x) CC → Own lo hi w1 u L → w.heap.size = w1.heap.size → Calls Try.prog 78 #[.pointer (some ⟨p, 0, none⟩), .int .i64 x, u] w1 fun e w' => MetE W0 p r' CC' e w') :
    Calls Try.prog 74 #[.pointer (some ⟨p, 0, none⟩), .func (.func 78) #[.pointer (some ⟨p, 0, none⟩)] #[], .int .i64 x, u] w fun e w' => AnsE W0 (listB L && !r') CC' e w' := by
  have cx := lits.implLitOk x
  obtain ⟨W1, hW1⟩ : ∃ W1, W1 = w.setCell ⟨p, 1, none⟩ (.bool (!okB x)) := ⟨_, rfl⟩
  have B1 : Bld W0 W1 p v (!okB x) CC := by rw [hW1]; exact hb.flag _
  have U1 : Own lo hi W1 u L := by rw [hW1]; exact ⟨own_set hu.1 tyB.2 hb.b, hu.2⟩
  have CM := hide (clauses_same p v u _ r' CC CC' x L W0 W1 hL B1 U1.sl (fun h => hm h W1 B1 U1 (by rw [hW1, cf.size_set])))
  have c1 := hb.b.c1
  have f1 := hb.b.f 1
  have CX := hide cx
  generalize okB x = bx at *
  clear hm B1 U1 hb hu cx
  go_enter Try.func74, Try.ntmps74
  go_wp2_with fail
  refine (unhide CX _).mono ?_; rintro e w' ⟨rfl, hw⟩; have hw' := hw.symm; clear hw; subst hw'
  go_upto_region 2 with fail
  rw [← hW1]
  clear hW1 c1 f1
  go_wp2_with fail
  refine (unhide CM).mono ?_; rintro e w2 ⟨q, rfl, o2, g2⟩
  have O2 := hide (And.intro o2 g2)
  clear o2 g2 CM
  go_wp2_with fail
  go_ret2
  exact ⟨_, rfl, (unhide O2).1, (unhide O2).2⟩
set_option maxRecDepth 10000 in
set_option maxHeartbeats 4000000 in
theorem gate_and (p : Nat) (v u : Value) (r r' : Bool) (CC CC' : List (List Int)) (x : Int) (L : List Int) (lo hi : Nat) (W0 w : World) (hL : L.length ≤ 1048576) (hb : Bld W0 w p v r CC) (hu : Own lo hi w u L)
    (hm : listB L = true → ∀ w1, Bld W0 w1 p v (!okB x) CC → Own lo hi w1 u L → w.heap.size = w1.heap.size → Calls Try.prog 77 #[.pointer (some ⟨p, 0, none⟩), .int .i64 x, u] w1 fun e w' => MetE W0 p r' CC' e w') :
    Calls Try.prog 74 #[.pointer (some ⟨p, 0, none⟩), .func (.func 77) #[.pointer (some ⟨p, 0, none⟩)] #[], .int .i64 x, u] w fun e w' => AnsE W0 (listB L && !r') CC' e w' := by
  have cx := lits.implLitOk x
  obtain ⟨W1, hW1⟩ : ∃ W1, W1 = w.setCell ⟨p, 1, none⟩ (.bool (!okB x)) := ⟨_, rfl⟩
  have B1 : Bld W0 W1 p v (!okB x) CC := by rw [hW1]; exact hb.flag _
  have U1 : Own lo hi W1 u L := by rw [hW1]; exact ⟨own_set hu.1 tyB.2 hb.b, hu.2⟩
  have CM := hide (clauses_and p v u _ r' CC CC' x L W0 W1 hL B1 U1.sl (fun h => hm h W1 B1 U1 (by rw [hW1, cf.size_set])))
  have c1 := hb.b.c1
  have f1 := hb.b.f 1
  have CX := hide cx
  generalize okB x = bx at *
  clear hm B1 U1 hb hu cx
  go_enter Try.func74, Try.ntmps74
  go_wp2_with fail
  refine (unhide CX _).mono ?_; rintro e w' ⟨rfl, hw⟩; have hw' := hw.symm; clear hw; subst hw'
  go_upto_region 2 with fail
  rw [← hW1]
  clear hW1 c1 f1
  go_wp2_with fail
  refine (unhide CM).mono ?_; rintro e w2 ⟨q, rfl, o2, g2⟩
  have O2 := hide (And.intro o2 g2)
  clear o2 g2 CM
  go_wp2_with fail
  go_ret2
  exact ⟨_, rfl, (unhide O2).1, (unhide O2).2⟩
set_option maxRecDepth 10000 in
set_option maxHeartbeats 4000000 in
theorem gate_choice (p : Nat) (v u : Value) (r r' : Bool) (CC CC' : List (List Int)) (x : Int) (L : List Int) (lo hi : Nat) (W0 w : World) (hL : L.length ≤ 1048576) (hb : Bld W0 w p v r CC) (hu : Own lo hi w u L)
    (hm : listB L = true → ∀ w1, Bld W0 w1 p v (!okB x) CC → Own lo hi w1 u L → w.heap.size = w1.heap.size → Calls Try.prog 75 #[.pointer (some ⟨p, 0, none⟩), .int .i64 x, u] w1 fun e w' => MetE W0 p r' CC' e w') :
    Calls Try.prog 74 #[.pointer (some ⟨p, 0, none⟩), .func (.func 75) #[.pointer (some ⟨p, 0, none⟩)] #[], .int .i64 x, u] w fun e w' => AnsE W0 (listB L && !r') CC' e w' := by
  have cx := lits.implLitOk x
  obtain ⟨W1, hW1⟩ : ∃ W1, W1 = w.setCell ⟨p, 1, none⟩ (.bool (!okB x)) := ⟨_, rfl⟩
  have B1 : Bld W0 W1 p v (!okB x) CC := by rw [hW1]; exact hb.flag _
  have U1 : Own lo hi W1 u L := by rw [hW1]; exact ⟨own_set hu.1 tyB.2 hb.b, hu.2⟩
  have CM := hide (clauses_choice p v u _ r' CC CC' x L W0 W1 hL B1 U1.sl (fun h => hm h W1 B1 U1 (by rw [hW1, cf.size_set])))
  have c1 := hb.b.c1
  have f1 := hb.b.f 1
  have CX := hide cx
  generalize okB x = bx at *
  clear hm B1 U1 hb hu cx
  go_enter Try.func74, Try.ntmps74
  go_wp2_with fail
  refine (unhide CX _).mono ?_; rintro e w' ⟨rfl, hw⟩; have hw' := hw.symm; clear hw; subst hw'
  go_upto_region 2 with fail
  rw [← hW1]
  clear hW1 c1 f1
  go_wp2_with fail
  refine (unhide CM).mono ?_; rintro e w2 ⟨q, rfl, o2, g2⟩
  have O2 := hide (And.intro o2 g2)
  clear o2 g2 CM
  go_wp2_with fail
  go_ret2
  exact ⟨_, rfl, (unhide O2).1, (unhide O2).2⟩
end Go.Proofs.Ytmmfhcfanbfniaa.t2
