/- eachSubset with add told: what it does to the builder; no condition but on sizes. -/
import Derived.Test.YtmmmldcnadidkaaTc
import Derived.Test.YtmmmldcnadidkaaGd
import Derived.Laws.EntriesVeiled
namespace Go.Proofs.Ytmmmldcnadidkaa.t2
open Go.ChangeShapes Go.WideShapes Go.ChangeAt Go.RowKit
open Go.Proofs.Ytmmmldcnadidkaa.sl (Sl Own ints hide unhide ret_int ret_bool grown_refl grown_trans grown_drewN)
open Go.Proofs.Ytmmmldcnadidkaa.css (Sls OwnS tot Apart own_ne own_ne' own_kind own_mono)
open Go.Proofs.Ytmmmldcnadidkaa.cf (Box)
set_option linter.unusedVariables false

theorem told_all (L : List Int) (m : Nat) : told [] L m 0 = subs L m := by
  unfold told
  simp
/-- the world in which picking begins -/
def ini6 (w : World) (u : Value) (m p : Nat) : World :=
  (((((w.alloc (.cells #[u] 35)).alloc (.cells #[.int .i64 (m : Int)] 3)).alloc (.cells #[tellV p] 53)).alloc (.cells (madeCells #[.int .i64 0] m) 3)).alloc (.cells #[.slice (some ⟨w.heap.size + 3, 0, none⟩) 0 m] 35)).alloc (.cells #[pickV (w.heap.size + 1) (w.heap.size + 4) (w.heap.size + 2) w.heap.size (w.heap.size + 5)] 57)
theorem Var.kept {t : TypeId} {w w' : World} {c : Nat} {x : Value} (h : Var t w c x) (g : w.grownBy w' none) : Var t w' c x := h.same (g.block _ h.lt (fun e => by cases e))
theorem ini6_pk {W0 w : World} {p m : Nat} {v u : Value} {r : Bool} {D : List (Value × List Int)} {L : List Int} {lo hi : Nat} (hm : m ≤ 1048576) (hb : BldD W0 w p v r D) (hl : D.length ≤ 120) (hu : Own lo hi w u L) :
    Pk W0 w (ini6 w u m p) p (w.heap.size + 1) (w.heap.size + 4) (w.heap.size + 2) w.heap.size (w.heap.size + 5) m 53 57 (tellV p) (pickV (w.heap.size + 1) (w.heap.size + 4) (w.heap.size + 2) w.heap.size (w.heap.size + 5)) u v L [] (.slice (some ⟨w.heap.size + 3, 0, none⟩) 0 m) v r D := by
  have g1 := World.grownBy_alloc w (.cells #[u] 35) none
  have v1 := Var.new 35 w u
  unfold ini6
  generalize hw1 : w.alloc (.cells #[u] 35) = w1 at *
  have s1 : w1.heap.size = w.heap.size + 1 := by rw [← hw1]; exact World.size_alloc ..
  have g2 := World.grownBy_alloc w1 (.cells #[.int .i64 (m : Int)] 3) none
  have v2 := Var.new 3 w1 (.int .i64 (m : Int))
  generalize hw2 : w1.alloc (.cells #[.int .i64 (m : Int)] 3) = w2 at *
  have s2 : w2.heap.size = w.heap.size + 2 := by rw [← hw2, World.size_alloc]; omega
  have g3 := World.grownBy_alloc w2 (.cells #[tellV p] 53) none
  have v3 := Var.new 53 w2 (tellV p)
  generalize hw3 : w2.alloc (.cells #[tellV p] 53) = w3 at *
  have s3 : w3.heap.size = w.heap.size + 3 := by rw [← hw3, World.size_alloc]; omega
  have g4 := World.grownBy_alloc w3 (.cells (madeCells #[.int .i64 0] m) 3) none
  have o4 := (gc.madeI w3 m hm).1
  generalize hw4 : w3.alloc (.cells (madeCells #[.int .i64 0] m) 3) = w4 at *
  have s4 : w4.heap.size = w.heap.size + 4 := by rw [← hw4, World.size_alloc]; omega
  rw [s3] at o4
  have g5 := World.grownBy_alloc w4 (.cells #[.slice (some ⟨w.heap.size + 3, 0, none⟩) 0 m] 35) none
  have v5 := Var.new 35 w4 (.slice (some ⟨w.heap.size + 3, 0, none⟩) 0 m)
  generalize hw5 : w4.alloc (.cells #[.slice (some ⟨w.heap.size + 3, 0, none⟩) 0 m] 35) = w5 at *
  have s5 : w5.heap.size = w.heap.size + 5 := by rw [← hw5, World.size_alloc]; omega
  generalize pickV (w.heap.size + 1) (w.heap.size + 4) (w.heap.size + 2) w.heap.size (w.heap.size + 5) = pk at *
  have g6 := World.grownBy_alloc w5 (.cells #[pk] 57) none
  have v6 := Var.new 57 w5 pk
  generalize hw6 : w5.alloc (.cells #[pk] 57) = w6 at *
  rw [s1] at v2
  rw [s2] at v3
  rw [s4] at v5
  rw [s5] at v6
  have h56 := g6
  have h46 := grown_trans (r := none) g5 g6
  have h36 := grown_trans (r := none) g4 h46
  have h26 := grown_trans (r := none) g3 h36
  have h16 := grown_trans (r := none) g2 h26
  have h06 := grown_trans (r := none) g1 h16
  have vb := v_lt hb.bld
  have ub : ∀ k, u.ownBlock = some k → k < w.heap.size := fun k e => (hu.1.lt k e).2
  refine ⟨hb.kept h06, hl, hb.g.size, Fr.more (Fr.refl p v w) h06, v2.kept h26, v5.kept g6, v3.kept h36, v1.kept h16, v6, Nat.le_add_right _ _, ?_, ?_, ?_, ?_, ?_, ?_, ?_, ?_, ?_, ?_⟩
  · exact own_mono (rowk o4 h46) (by omega)
  · exact own_mono (hu.kept h06).1 (Nat.zero_le _)
  · intro e; have e2 : w.heap.size + 3 = w.heap.size + 1 := Option.some.inj e; omega
  · intro e; have := vb _ e; omega
  · intro e; have := vb _ e; omega
  · omega
  · intro k e e'; have e2 : w.heap.size + 3 = k := Option.some.inj e'; have := ub k e; omega
  · intro q hq k e e'; have e2 : w.heap.size + 3 = k := Option.some.inj e'; have := (hb.o.2.2.1 q hq).2 k e; omega
  · decide
  · decide

set_option maxRecDepth 10000 in
set_option maxHeartbeats 4000000 in
theorem eachSubset (p m : Nat) (v u : Value) (r : Bool) (CC : List (List Int)) (L : List Int) (lo hi : Nat) (W0 w : World) (hm : m ≤ 1048576) (hL : L.length ≤ 1048576) (hl : CC.length ≤ 120) (hb : Bld W0 w p v r CC) (hu : Own lo hi w u L) :
    Calls Try.prog 29 #[u, .int .i64 (m : Int), tellV p] w fun e w' => MetF W0 p v w (addsR r CC (subs L m)) (addsC r CC (subs L m)) e w' := by
  obtain ⟨D, rfl, hd⟩ := hb.withD
  rw [List.length_map] at hl
  have K := ini6_pk (m := m) hm hd hl hu
  have C := hide (pick W0 w p _ _ _ _ _ m _ _ u v L hm hL m _ 0 _ v [] r D (by simp) (Nat.zero_le _) K)
  have mk := hide (gc.mkI m hm)
  obtain ⟨ua, uc, rfl, _⟩ := hu.sl
  clear hd hb hu K hl
  have z := unhide mk
  unfold tellV
  go_enter Try.func29, Try.ntmps29
  go_wp2_with fail
  refine (unhide C).mono ?_; rintro e w1 ⟨b, P', pv', v', r', D', rfl, pk, e1, e2, _, _⟩
  have R : Hid (MetF W0 p v w (addsR r (D.map (·.2)) (subs L m)) (addsC r (D.map (·.2)) (subs L m)) (.returned (.tuple #[])) w1) := by
    rw [told_all] at e1 e2
    refine ⟨rfl, v', ?_, pk.fr⟩
    rw [← e1, ← e2]
    exact pk.bld.bld
  clear pk e1 e2 C mk z
  go_wp2_with fail
  exact end0 rfl rfl (unhide R)
end Go.Proofs.Ytmmmldcnadidkaa.t2
