/- The program's builder of clauses: formula, clausesOf and gateOf with any condition. -/
import Derived.Test.YtmmmldcnadidkaaT2
import Derived.Test.YtmmmldcnadidkaaOk
namespace Go.Proofs.Ytmmmldcnadidkaa.t2
open Go.ChangeShapes Go.WideShapes Go.ChangeAt Go.RowKit
open Go.Proofs.Ytmmmldcnadidkaa.lits (okB okB_iff)
open Go.Proofs.Ytmmmldcnadidkaa.sl (Sl Own ints hide unhide ret_int ret_bool grown_refl grown_trans grown_drewN)
open Go.Proofs.Ytmmmldcnadidkaa.css (Sls OwnS tot Apart own_ne own_ne' own_kind own_mono)
open Go.Proofs.Ytmmmldcnadidkaa.cf (Box)
set_option linter.unusedVariables false

theorem lits_bd (x : Int) : lits.varI x ≤ 24 := by
  by_cases h : x ≠ 0 ∧ -24 ≤ x ∧ x ≤ 24
  · rw [lits.varI_yes h]; split <;> omega
  · rw [lits.varI_no h]; omega
theorem ownS_nil (lo hi : Nat) (w : World) : OwnS lo hi w (.slice none 0 0) [] := ⟨[], rfl, ⟨rfl, .inl ⟨rfl, rfl⟩⟩, (fun k e => by cases e), (fun p hp => by cases hp), .nil⟩
def FormE (W0 : World) (v : Value) (r : Bool) (CC : List (List Int)) (n : Int) (w : World) (e : Ending) (w' : World) : Prop :=
  ∃ q, e = .returned (.tuple #[.agg #[.int .i64 (if r then 0 else n), q], .bool (!r)]) ∧ OwnS W0.heap.size w'.heap.size w' q (if r then [] else CC) ∧ w.grownBy w' none
theorem formula (p : Nat) (v : Value) (r : Bool) (CC : List (List Int)) (n : Int) (W0 w : World) (hb : Bld W0 w p v r CC) :
    Calls Try.prog 21 #[.pointer (some ⟨p, 0, none⟩), .int .i64 n] w fun e w' => FormE W0 v r CC n w e w' := by
  have g0 := World.grownBy_alloc w (.cells #[.int .i64 0, .slice none 0 0] 26) none
  obtain ⟨a, cap, rfl⟩ := hb.o.len
  have c0 := (hb.kept g0).b.c0
  have c1 := (hb.kept g0).b.c1
  have hp := hb.b.lt
  have B0 := Box.new 26 w (.int .i64 0) (.slice none 0 0)
  have d0 := B0.c0
  have d1 := B0.c1
  have HO := hb.o
  clear hb B0 g0
  have L1 : Hid (OwnS W0.heap.size (w.heap.size + 1) (w.alloc (.cells #[.int .i64 n, .slice a CC.length cap] 26)) (.slice a CC.length cap) CC) := (HO.kept (World.grownBy_alloc w _ none)).sub (Nat.le_refl _) (Nat.le_succ _)
  clear HO
  cases r
  · go_enter Try.func21, Try.ntmps21
    go_wp2
    (try simp only [Exit.inBlock, Exit.then])
    refine bodyPost_ret (cf.ret_box2 rfl rfl (Box.new 26 w (.int .i64 n) (.slice a CC.length cap))) rfl ⟨_, rfl, ?_, World.grownBy_alloc ..⟩
    rw [World.size_alloc]
    exact unhide L1
  · go_enter Try.func21, Try.ntmps21
    go_wp2
    (try simp only [Exit.inBlock, Exit.then])
    exact bodyPost_ret (cf.ret_box2 rfl rfl (Box.new 26 w (.int .i64 0) (.slice none 0 0))) rfl ⟨_, rfl, ownS_nil .., World.grownBy_alloc ..⟩

/-- whether a list is one of literals, and not too long -/
def listB (L : List Int) : Bool := decide (L.length ≤ 24) && L.all okB
theorem in24 (x : Int) : ok.litIn 24 x = okB x := by
  unfold ok.litIn
  rw [decide_eq_true (lits_bd x), Bool.and_true]
theorem all24 (L : List Int) : L.all (ok.litIn 24) = L.all okB := by
  rw [show ok.litIn 24 = okB from funext in24]
/-- what is answered: clauses of the call's own, and whether they are -/
def AnsE (W0 : World) (b : Bool) (CC : List (List Int)) (e : Ending) (w' : World) : Prop :=
  ∃ q, e = .returned (.tuple #[q, .bool b]) ∧ OwnS W0.heap.size w'.heap.size w' q (if b then CC else []) ∧ W0.grownBy w' none
/-- a condition asked for: what the builder is behind it -/
def MetE (W0 : World) (p : Nat) (r : Bool) (CC : List (List Int)) (e : Ending) (w' : World) : Prop :=
  e = .returned (.tuple #[]) ∧ ∃ v', Bld W0 w' p v' r CC
theorem ans_no {W0 w : World} {CC : List (List Int)} (g : W0.grownBy w none) : AnsE W0 false CC (.returned (.tuple #[.slice (some ⟨w.heap.size, 0, none⟩) 0 0, .bool false])) (w.alloc (.cells #[] 35)) :=
  ⟨_, rfl, ⟨[], rfl, own_mono (World.ownsRow_lit w #[] 0 (Nat.le_refl _) (Nat.zero_le _) rfl) g.size, (fun k e => by cases e; rw [World.size_alloc]; exact Nat.lt_succ_self _), (fun p hp => by cases hp), .nil⟩, grown_trans g (World.grownBy_alloc _ _ _)⟩
theorem ans_yes {W0 w2 : World} {CC : List (List Int)} {n qc : Nat} {qa : Option Addr} {x : Value} (o : OwnS W0.heap.size w2.heap.size w2 (.slice qa n qc) CC) (g : W0.grownBy w2 none) :
    AnsE W0 true CC (.returned (.tuple #[.slice qa n qc, .bool true])) (w2.alloc (.cells #[x, .slice qa n qc] 26)) := by
  have ga := World.grownBy_alloc w2 (.cells #[x, .slice qa n qc] 26) none
  exact ⟨_, rfl, (o.kept ga).sub (Nat.le_refl _) ga.size, grown_trans g ga⟩
theorem ans_ref {W0 w2 : World} {CC : List (List Int)} {n qc : Nat} {qa : Option Addr} {x : Value} (o : OwnS W0.heap.size w2.heap.size w2 (.slice qa n qc) []) (g : W0.grownBy w2 none) :
    AnsE W0 false CC (.returned (.tuple #[.slice qa n qc, .bool false])) (w2.alloc (.cells #[x, .slice qa n qc] 26)) := by
  have ga := World.grownBy_alloc w2 (.cells #[x, .slice qa n qc] 26) none
  exact ⟨_, rfl, (o.kept ga).sub (Nat.le_refl _) ga.size, grown_trans g ga⟩
end Go.Proofs.Ytmmmldcnadidkaa.t2
