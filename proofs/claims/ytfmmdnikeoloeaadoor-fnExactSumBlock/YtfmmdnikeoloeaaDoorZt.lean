/- Arrays of eight words as the laws handle them (a copy, an equality, one that came in); no condition. -/
import Derived.Test.YtfmmdnikeoloeaaDoorZm
import Derived.OpenShut
namespace Go.Proofs.YtfmmdnikeoloeaaDoor.zt
open Go.ChangeShapes Go.WideShapes Go.ChangeAt Go.RowKit
open Go.Proofs.YtfmmdnikeoloeaaDoor.sl (hide unhide ret_int ret_bool grown_refl grown_trans grown_drewN)
open Go.Proofs.YtfmmdnikeoloeaaDoor.za (Wd)
open Go.Proofs.YtfmmdnikeoloeaaDoor.zs (ints)
open Go.Proofs.YtfmmdnikeoloeaaDoor.zl (v8 Wd8 wd8_parts wd8_of set_new)
open Go.Proofs.YtfmmdnikeoloeaaDoor.zm (Bx)
set_option linter.unusedVariables false

def cpy (L : List Int) : Nat → List Int
  | 0 => [0, 0, 0, 0, 0, 0, 0, 0]
  | k + 1 => (cpy L k).set k (L.getD k 0)
theorem cpy_length (L : List Int) : ∀ k, (cpy L k).length = 8
  | 0 => rfl
  | k + 1 => by rw [cpy, List.length_set, cpy_length L k]
set_option maxRecDepth 100000 in
set_option maxHeartbeats 2000000 in
theorem toA8 (L : List Int) (w : World) (hL : Wd8 L) : Calls Tryd.prog 30 #[v8 L] w fun r w' => r = .returned (v8 L) ∧ w.grownBy w' none := by
  obtain ⟨a, b, c, d, e, f, g, i, rfl, _⟩ := wd8_parts hL
  clear hL
  show Calls Tryd.prog 30 #[.agg #[.int .u32 a, .int .u32 b, .int .u32 c, .int .u32 d, .int .u32 e, .int .u32 f, .int .u32 g, .int .u32 i]] w fun r w' => r = .returned (.agg #[.int .u32 a, .int .u32 b, .int .u32 c, .int .u32 d, .int .u32 e, .int .u32 f, .int .u32 g, .int .u32 i]) ∧ w.grownBy w' none
  obtain ⟨W, hW⟩ : ∃ W, W = ((w.alloc (.cells (ints [a, b, c, d, e, f, g, i]).toArray 27)).alloc (.cells (ints [0, 0, 0, 0, 0, 0, 0, 0]).toArray 27)).alloc (.cells (ints [0, 0, 0, 0, 0, 0, 0, 0]).toArray 27) := ⟨_, rfl⟩
  have I0 : Hid (Bx W w.heap.size [a, b, c, d, e, f, g, i] ∧ Bx W (w.heap.size + 1) [0, 0, 0, 0, 0, 0, 0, 0] ∧ Bx W (w.heap.size + 1 + 1) [0, 0, 0, 0, 0, 0, 0, 0] ∧ w.grownBy W none) := by
    have h0 := Bx.new w [a, b, c, d, e, f, g, i]
    have h1 := Bx.new (w.alloc (.cells (ints [a, b, c, d, e, f, g, i]).toArray 27)) [0, 0, 0, 0, 0, 0, 0, 0]
    have h2 := Bx.new ((w.alloc (.cells (ints [a, b, c, d, e, f, g, i]).toArray 27)).alloc (.cells (ints [0, 0, 0, 0, 0, 0, 0, 0]).toArray 27)) [0, 0, 0, 0, 0, 0, 0, 0]
    rw [World.size_alloc] at h1
    rw [World.size_alloc, World.size_alloc] at h2
    rw [hW]
    exact ⟨(h0.kept (World.grownBy_alloc _ _ none)).kept (World.grownBy_alloc _ _ none), h1.kept (World.grownBy_alloc _ _ none), h2, grown_trans (r := none) (grown_trans (r := none) (World.grownBy_alloc _ _ none) (World.grownBy_alloc _ _ none)) (World.grownBy_alloc _ _ none)⟩
  subst hW
  go_enter Tryd.func30, Tryd.ntmps30
  go_wp2
  go_loopw [4] (fun t wr => ∃ k : Nat, k ≤ 8 ∧ t = .int .i64 k ∧ Bx wr w.heap.size [a, b, c, d, e, f, g, i] ∧ Bx wr (w.heap.size + 1) [0, 0, 0, 0, 0, 0, 0, 0] ∧ Bx wr (w.heap.size + 1 + 1) (cpy [a, b, c, d, e, f, g, i] k) ∧ w.grownBy wr none) (fun t _ => 8 - (intOf t).toNat)
  case atStart => exact ⟨0, by omega, rfl, unhide I0⟩
  case round =>
    obtain ⟨k, hk, rfl, h0, h1, h2, hg⟩ := hrel
    clear I0
    have cl := cpy_length [a, b, c, d, e, f, g, i] k
    by_cases hlt : k < 8
    · have i0 : (k : Int) < 8 := by omega
      have c0 := h0.cell k hlt
      have c1 := h2.cell k (by omega)
      have c2 := h2.frozen k
      have R : Hid (Bx (wr.setCell ⟨w.heap.size + 1 + 1, k, none⟩ (.int .u32 ([a, b, c, d, e, f, g, i].getD k 0))) w.heap.size [a, b, c, d, e, f, g, i] ∧ Bx (wr.setCell ⟨w.heap.size + 1 + 1, k, none⟩ (.int .u32 ([a, b, c, d, e, f, g, i].getD k 0))) (w.heap.size + 1) [0, 0, 0, 0, 0, 0, 0, 0] ∧ Bx (wr.setCell ⟨w.heap.size + 1 + 1, k, none⟩ (.int .u32 ([a, b, c, d, e, f, g, i].getD k 0))) (w.heap.size + 1 + 1) (cpy [a, b, c, d, e, f, g, i] (k + 1)) ∧ w.grownBy (wr.setCell ⟨w.heap.size + 1 + 1, k, none⟩ (.int .u32 ([a, b, c, d, e, f, g, i].getD k 0))) none) :=
        ⟨h0.other (by omega) k _, h1.other (by omega) k _, h2.set k _, set_new hg (by omega) k _⟩
      generalize [a, b, c, d, e, f, g, i].getD k 0 = x at *
      generalize (cpy [a, b, c, d, e, f, g, i] k).getD k 0 = y at *
      clear h0 h1 h2 hg cl
      go_wp2
      go_roundw
      case rel => exact ⟨k + 1, by omega, by go_num, unhide R⟩
      case measure => simp [intOf]; omega
    · have i0 : ¬ (k : Int) < 8 := by omega
      have hk' : k = 8 := by omega
      subst hk'
      have h3 : Bx wr (w.heap.size + 1 + 1) [a, b, c, d, e, f, g, i] := h2
      obtain ⟨q0, q1, q2, q3, q4, q5, q6, q7, q8⟩ := h3.parts
      obtain ⟨r0, r1, r2, r3, r4, r5, r6, r7, r8⟩ := h1.parts
      have G := hide hg
      clear h0 h1 h2 h3 hg cl hlt hk
      go_wp2
      refine bodyPost_ret (v := .agg #[.int .u32 a, .int .u32 b, .int .u32 c, .int .u32 d, .int .u32 e, .int .u32 f, .int .u32 g, .int .u32 i]) (by simp [results, Tryd.results30, go_sem, r0, r1, r2, r3, r4, r5, r6, r7]) rfl ⟨rfl, ?_⟩
      exact set_new (set_new (set_new (set_new (set_new (set_new (set_new (set_new (unhide G) (by omega) _ _) (by omega) _ _) (by omega) _ _) (by omega) _ _) (by omega) _ _) (by omega) _ _) (by omega) _ _) (by omega) _ _

set_option maxRecDepth 100000 in
set_option maxHeartbeats 2000000 in
theorem eqA8 (L : List Int) (w : World) (hL : Wd8 L) : Calls Tryd.prog 31 #[v8 L, v8 L] w fun r w' => r = .returned (.bool true) ∧ w.grownBy w' none := by
  obtain ⟨a, b, c, d, e, f, g, i, rfl, _⟩ := wd8_parts hL
  clear hL
  show Calls Tryd.prog 31 #[.agg #[.int .u32 a, .int .u32 b, .int .u32 c, .int .u32 d, .int .u32 e, .int .u32 f, .int .u32 g, .int .u32 i], .agg #[.int .u32 a, .int .u32 b, .int .u32 c, .int .u32 d, .int .u32 e, .int .u32 f, .int .u32 g, .int .u32 i]] w fun r w' => r = .returned (.bool true) ∧ w.grownBy w' none
  have I0 := hide (zm.start (w := w) (L := [a, b, c, d, e, f, g, i]) (Z := [a, b, c, d, e, f, g, i]) (grown_refl _))
  go_enter Tryd.func31, Tryd.ntmps31
  go_wp2
  go_loopw [5] (fun t wr => ∃ k : Nat, k ≤ 8 ∧ t = .int .i64 k ∧ Bx wr w.heap.size [a, b, c, d, e, f, g, i] ∧ Bx wr (w.heap.size + 1) [a, b, c, d, e, f, g, i] ∧ w.grownBy wr none) (fun t _ => 8 - (intOf t).toNat)
  case atStart => exact ⟨0, by omega, rfl, unhide I0⟩
  case round =>
    obtain ⟨k, hk, rfl, h0, h1, hg⟩ := hrel
    clear I0
    by_cases hlt : k < 8
    · have i0 : (k : Int) < 8 := by omega
      have c0 := h0.cell k hlt
      have c1 := h1.cell k hlt
      have R := hide (fun n => And.intro (h0.kept (grown_drewN wr n)) (And.intro (h1.kept (grown_drewN wr n)) (grown_trans (r := none) hg (grown_drewN wr n))))
      generalize [a, b, c, d, e, f, g, i].getD k 0 = x at *
      clear h0 h1 hg
      go_wp2
      go_quiet (fail)
      go_wp2
      go_roundw
      case rel => exact ⟨k + 1, by omega, by go_num, unhide R _⟩
      case measure => simp [intOf]; omega
    · have i0 : ¬ (k : Int) < 8 := by omega
      have G := hide hg
      clear h0 h1 hg
      go_wp2
      go_ret
      exact ⟨rfl, unhide G⟩

theorem cells8 : Tryd.prog.cellsOf 27 = 8 := by kernel_rfl
theorem cells1 : Tryd.prog.cellsOf 26 = 1 := by kernel_rfl
theorem wf_wd {n : Int} (h : (Lit.int .u32 n).wf = true) : Wd n := by
  simp [Lit.wf, IntKind.min, IntKind.max, IntKind.signed, IntKind.bits] at h
  unfold za.Wd
  omega
/-- an array that came in -/
theorem open_a8 {H : Type} {enc : TypeId × Value → H} {w : World} {fuel : Nat} {cs : List Value} {x : DataW H × List MemPlace} (h : DataW.trod enc Tryd.prog w 0 (fun _ => true) true fuel 27 cs = some x) :
    ∃ L : List Int, cs = L.map (Value.int .u32) ∧ Wd8 L := by
  obtain ⟨xs, m, rfl, rfl, hl, hx, hf⟩ := DataW.trod_array Tryd.underlying27 h
  rw [cells8] at hl
  have one : ∀ i, i < 8 → ∃ n, cs[i]? = some (.int .u32 n) ∧ Wd n := by
    intro i hi
    have h0 := hf i hi
    rw [cells1, Nat.mul_one, List.getElem?_eq_getElem (by omega)] at h0
    obtain ⟨n, e, _, hw⟩ := DataW.trod_int Tryd.underlying26 h0
    refine ⟨n, ?_, wf_wd hw⟩
    have : ((cs.drop i).take 1)[0]? = some (.int .u32 n) := by rw [e]; rfl
    simpa using this
  clear hf h
  match cs, hl, one with
  | [y0, y1, y2, y3, y4, y5, y6, y7], _, one =>
    obtain ⟨n0, e0, w0⟩ := one 0 (by decide)
    obtain ⟨n1, e1, w1⟩ := one 1 (by decide)
    obtain ⟨n2, e2, w2⟩ := one 2 (by decide)
    obtain ⟨n3, e3, w3⟩ := one 3 (by decide)
    obtain ⟨n4, e4, w4⟩ := one 4 (by decide)
    obtain ⟨n5, e5, w5⟩ := one 5 (by decide)
    obtain ⟨n6, e6, w6⟩ := one 6 (by decide)
    obtain ⟨n7, e7, w7⟩ := one 7 (by decide)
    obtain rfl : y0 = .int .u32 n0 := Option.some.inj e0
    obtain rfl : y1 = .int .u32 n1 := Option.some.inj e1
    obtain rfl : y2 = .int .u32 n2 := Option.some.inj e2
    obtain rfl : y3 = .int .u32 n3 := Option.some.inj e3
    obtain rfl : y4 = .int .u32 n4 := Option.some.inj e4
    obtain rfl : y5 = .int .u32 n5 := Option.some.inj e5
    obtain rfl : y6 = .int .u32 n6 := Option.some.inj e6
    obtain rfl : y7 = .int .u32 n7 := Option.some.inj e7
    exact ⟨[n0, n1, n2, n3, n4, n5, n6, n7], rfl, wd8_of w0 w1 w2 w3 w4 w5 w6 w7⟩
end Go.Proofs.YtfmmdnikeoloeaaDoor.zt
