/- Gates: what the builder's same and choice do, Same and IfGate of the program and of its model, at any numbers. -/
import Derived.Test.YtmmfhcfanbfniaaT3
namespace Go.Proofs.Ytmmfhcfanbfniaa.t2
open Go.ChangeShapes Go.WideShapes Go.ChangeAt Go.RowKit
open Go.Proofs.Ytmmfhcfanbfniaa.lits (okB okB_iff)
open Go.Proofs.Ytmmfhcfanbfniaa.sl (Sl Own ints hide unhide ret_int ret_bool grown_refl grown_trans grown_drewN)
open Go.Proofs.Ytmmfhcfanbfniaa.css (Sls OwnS tot Apart own_ne own_ne' own_kind own_mono)
open Go.Proofs.Ytmmfhcfanbfniaa.cf (Box)
set_option linter.unusedVariables false

/-- clauses added one behind the other -/
def addsR : Bool → List (List Int) → List (List Int) → Bool
  | r, _, [] => r
  | r, CC, C :: Cs => addsR (addR r CC) (addC r CC C) Cs
def addsC : Bool → List (List Int) → List (List Int) → List (List Int)
  | _, CC, [] => CC
  | r, CC, C :: Cs => addsC (addR r CC) (addC r CC C) Cs
theorem adds_yes (Cs : List (List Int)) : ∀ CC, addsR true CC Cs = true ∧ addsC true CC Cs = CC := by
  induction Cs with
  | nil => exact fun CC => ⟨rfl, rfl⟩
  | cons C Cs ih => exact fun CC => ih CC
theorem adds_no (Cs : List (List Int)) : ∀ CC, CC.length + Cs.length ≤ 120 → addsR false CC Cs = false ∧ addsC false CC Cs = CC ++ Cs := by
  induction Cs with
  | nil => exact fun CC _ => ⟨rfl, (List.append_nil _).symm⟩
  | cons C Cs ih =>
    intro CC h
    simp only [List.length_cons] at h
    have e : addR false CC = false := by simp [addR]; omega
    have e2 : addC false CC C = CC ++ [C] := by simp [addC, e]
    simp only [addsR, addsC, e, e2]
    have := ih (CC ++ [C]) (by simp; omega)
    rw [List.append_assoc] at this
    exact this
theorem addC_len (r : Bool) (CC : List (List Int)) (C : List Int) (h : CC.length ≤ 120) : (addC r CC C).length ≤ 120 := by
  unfold addC
  split
  · exact h
  · rename_i hn
    simp [addR] at hn
    simp
    omega
theorem own_litN (w : World) (n : Nat) (L : List Int) (xs : Array Value) (hx : xs.toList = ints L) (hn : L.length = n) (hl : n ≤ 1048576) : Own w.heap.size (w.heap.size + 1) (w.alloc (.cells xs 3)) (.slice (some ⟨w.heap.size, 0, none⟩) n n) L := by
  subst hn
  have h := World.ownsRow_lit (e := 3) (size := 1) w xs L.length (Nat.le_refl _) (by unfold maxLen; omega) (by rw [← Array.length_toList, hx, sl.ints_length, Nat.mul_one])
  rw [hx] at h
  exact ⟨h, fun k e => by cases e; exact Nat.lt_succ_self _⟩

theorem end0 {P : Program} {fn : Func} {R : Ending → World → Prop} {a : Act} {w : World} (h : fn.results = #[]) (hd : a.defers = []) (hr : R (.returned (.tuple #[])) w) : bodyPost P fn R .normal a w :=
  ⟨hd, _, by simp [results, h], hr⟩
def MetF (W0 : World) (p : Nat) (v : Value) (w : World) (r : Bool) (CC : List (List Int)) (e : Ending) (w' : World) : Prop :=
  e = .returned (.tuple #[]) ∧ ∃ v', Bld W0 w' p v' r CC ∧ Fr p v v' w w'
theorem MetF.met {W0 : World} {p : Nat} {v : Value} {w : World} {r : Bool} {CC : List (List Int)} {e : Ending} {w' : World} (h : MetF W0 p v w r CC e w') : MetE W0 p r CC e w' := by
  obtain ⟨h1, v', h2, _⟩ := h
  exact ⟨h1, v', h2⟩
theorem v_lt {W0 w : World} {p : Nat} {v : Value} {r : Bool} {CC : List (List Int)} (h : Bld W0 w p v r CC) : ∀ k, v.ownBlock = some k → k < w.heap.size := by
  obtain ⟨D, _, _, hb, _⟩ := h.o
  exact hb

/-- one of a list of one's own: where it lies -/
theorem own_cell {lo hi n : Nat} {w : World} {u : Value} {L : List Int} (h : Own lo hi w u L) (hn : L.length = n) (h0 : 0 < n) : ∃ b cap, u = .slice (some ⟨b, 0, none⟩) n cap ∧ ∀ k, k < n → w.cell? ⟨b, k, none⟩ = some (.int .i64 (L.getD k 0)) := by
  subst hn
  have hc := h.1
  obtain ⟨_, h2⟩ := h.1
  rcases h2 with ⟨_, h1⟩ | ⟨g, cap, cur, rfl, _⟩
  · omega
  · refine ⟨g, cap, rfl, fun k hk => ?_⟩
    rw [hc.cellAt k (by omega)]
    simp [ints, hk]
set_option maxRecDepth 10000 in
set_option maxHeartbeats 4000000 in
theorem same (p : Nat) (v u : Value) (r : Bool) (CC : List (List Int)) (x y : Int) (lo hi : Nat) (W0 w : World) (hx : -24 ≤ x ∧ x ≤ 24) (hy : -24 ≤ y ∧ y ≤ 24) (hl : CC.length ≤ 120) (hb : Bld W0 w p v r CC) (hu : Own lo hi w u [y]) :
    Calls Try.prog 78 #[.pointer (some ⟨p, 0, none⟩), .int .i64 x, u] w fun e w' => MetF W0 p v w (addsR r CC [[(-x), y], [x, (-y)]]) (addsC r CC [[(-x), y], [x, (-y)]]) e w' := by
  obtain ⟨b_, cap, rfl, cc⟩ := own_cell (n := 1) hu rfl (by decide)
  have c0 : w.cell? ⟨b_, 0, none⟩ = some (.int .i64 y) := cc 0 (by decide)
  clear cc
  have gA := World.grownBy_alloc w (.cells #[.int .i64 (-x), .int .i64 y] 3) none
  have A0 := hide (add p v _ r CC [(-x), y] _ _ W0 _ (by simp) hl (hb.kept gA) (own_litN w 2 [(-x), y] #[.int .i64 (-x), .int .i64 y] rfl rfl (by decide)))
  have A1 := hide (fun (w1 : World) (v1 : Value) (b1 : Bld W0 w1 p v1 (addR r CC) (addC r CC [(-x), y])) (hl1 : ((addC r CC [(-x), y])).length ≤ 120) => add p v1 _ _ _ [x, (-y)] _ _ W0 _ (by simp) hl1 (b1.kept (World.grownBy_alloc w1 (.cells #[.int .i64 x, .int .i64 (-y)] 3) none)) (own_litN w1 2 [x, (-y)] #[.int .i64 x, .int .i64 (-y)] rfl rfl (by decide)))
  have hl1 : Hid (((addC r CC [(-x), y])).length ≤ 120) := (addC_len _ _ _ hl)
  have VL := hide (v_lt hb)
  have GA := hide gA
  clear hb hu gA hl
  obtain ⟨x0, x1⟩ := hx
  obtain ⟨y0, y1⟩ := hy
  go_enter Try.func78, Try.ntmps78
  go_wp2_with fail
  refine (unhide A0).mono ?_; rintro e w1 ⟨rfl, v1, b1, f1⟩
  have F1 := hide (Fr.up (unhide GA) f1 (unhide VL))
  have B1 := hide b1
  have A1' := hide (unhide A1 w1 v1 b1 (unhide hl1))
  clear A0 b1 f1 VL GA A1 hl1
  go_wp2_with fail
  refine (unhide A1').mono ?_; rintro e w2 ⟨rfl, v2, b2, f2⟩
  have F2 := hide ((unhide F1).trans (Fr.up (World.grownBy_alloc w1 _ none) f2 (v_lt (unhide B1))))
  have B2 := hide b2
  clear A1' b2 f2 F1 B1
  go_wp2_with fail
  exact end0 rfl rfl ⟨rfl, _, unhide B2, unhide F2⟩
set_option maxRecDepth 10000 in
set_option maxHeartbeats 4000000 in
theorem sameX (p : Nat) (v u : Value) (CC : List (List Int)) (x y : Int) (lo hi : Nat) (W0 w : World) (hy : -24 ≤ y ∧ y ≤ 24) (hl : CC.length ≤ 120) (hb : Bld W0 w p v true CC) (hu : Own lo hi w u [y]) :
    Calls Try.prog 78 #[.pointer (some ⟨p, 0, none⟩), .int .i64 x, u] w fun e w' => MetF W0 p v w true CC e w' := by
  obtain ⟨b_, cap, rfl, cc⟩ := own_cell (n := 1) hu rfl (by decide)
  have c0 : w.cell? ⟨b_, 0, none⟩ = some (.int .i64 y) := cc 0 (by decide)
  clear cc
  have gA := World.grownBy_alloc w (.cells #[.int .i64 (wrap64 (-x)), .int .i64 y] 3) none
  have A0 := hide (add p v _ true CC [(wrap64 (-x)), y] _ _ W0 _ (by simp) hl (hb.kept gA) (own_litN w 2 [(wrap64 (-x)), y] #[.int .i64 (wrap64 (-x)), .int .i64 y] rfl rfl (by decide)))
  have A1 := hide (fun (w1 : World) (v1 : Value) (b1 : Bld W0 w1 p v1 true CC) (hl1 : (CC).length ≤ 120) => add p v1 _ _ _ [x, (-y)] _ _ W0 _ (by simp) hl1 (b1.kept (World.grownBy_alloc w1 (.cells #[.int .i64 x, .int .i64 (-y)] 3) none)) (own_litN w1 2 [x, (-y)] #[.int .i64 x, .int .i64 (-y)] rfl rfl (by decide)))
  have hl1 : Hid (CC.length ≤ 120) := hl
  have VL := hide (v_lt hb)
  have GA := hide gA
  clear hb hu gA hl
  obtain ⟨y0, y1⟩ := hy
  go_enter Try.func78, Try.ntmps78
  go_wp2_with fail
  refine (unhide A0).mono ?_; rintro e w1 ⟨rfl, v1, b1, f1⟩
  have F1 := hide (Fr.up (unhide GA) f1 (unhide VL))
  have B1 := hide b1
  have A1' := hide (unhide A1 w1 v1 b1 (unhide hl1))
  clear A0 b1 f1 VL GA A1 hl1
  go_wp2_with fail
  refine (unhide A1').mono ?_; rintro e w2 ⟨rfl, v2, b2, f2⟩
  have F2 := hide ((unhide F1).trans (Fr.up (World.grownBy_alloc w1 _ none) f2 (v_lt (unhide B1))))
  have B2 := hide b2
  clear A1' b2 f2 F1 B1
  go_wp2_with fail
  exact end0 rfl rfl ⟨rfl, _, unhide B2, unhide F2⟩
set_option maxRecDepth 10000 in
set_option maxHeartbeats 4000000 in
theorem choice (p : Nat) (v u : Value) (r : Bool) (CC : List (List Int)) (x a b c : Int) (lo hi : Nat) (W0 w : World) (hx : -24 ≤ x ∧ x ≤ 24) (ha : -24 ≤ a ∧ a ≤ 24) (hb : -24 ≤ b ∧ b ≤ 24) (hc : -24 ≤ c ∧ c ≤ 24) (hl : CC.length ≤ 120) (hb : Bld W0 w p v r CC) (hu : Own lo hi w u [a, b, c]) :
    Calls Try.prog 75 #[.pointer (some ⟨p, 0, none⟩), .int .i64 x, u] w fun e w' => MetF W0 p v w (addsR r CC [[(-a), (-b), x], [(-a), b, (-x)], [a, (-c), x], [a, c, (-x)]]) (addsC r CC [[(-a), (-b), x], [(-a), b, (-x)], [a, (-c), x], [a, c, (-x)]]) e w' := by
  obtain ⟨b_, cap, rfl, cc⟩ := own_cell (n := 3) hu rfl (by decide)
  have c0 : w.cell? ⟨b_, 0, none⟩ = some (.int .i64 a) := cc 0 (by decide)
  have c1 : w.cell? ⟨b_, 1, none⟩ = some (.int .i64 b) := cc 1 (by decide)
  have c2 : w.cell? ⟨b_, 2, none⟩ = some (.int .i64 c) := cc 2 (by decide)
  clear cc
  have gA := grown_trans (r := none) (World.grownBy_alloc w (.cells #[.int .i64 (-a), .int .i64 (-b), .int .i64 x] 3) none) (cf.grown_drew _ none)
  have A0 := hide (add p v _ r CC [(-a), (-b), x] _ _ W0 _ (by simp) hl (hb.kept gA) ((own_litN w 3 [(-a), (-b), x] #[.int .i64 (-a), .int .i64 (-b), .int .i64 x] rfl rfl (by decide)).kept (cf.grown_drew _ none)))
  have A1 := hide (fun (w1 : World) (v1 : Value) (b1 : Bld W0 w1 p v1 (addR r CC) (addC r CC [(-a), (-b), x])) (hl1 : ((addC r CC [(-a), (-b), x])).length ≤ 120) => add p v1 _ _ _ [(-a), b, (-x)] _ _ W0 _ (by simp) hl1 (b1.kept (World.grownBy_alloc w1 (.cells #[.int .i64 (-a), .int .i64 b, .int .i64 (-x)] 3) none)) (own_litN w1 3 [(-a), b, (-x)] #[.int .i64 (-a), .int .i64 b, .int .i64 (-x)] rfl rfl (by decide)))
  have A2 := hide (fun (w1 : World) (v1 : Value) (b1 : Bld W0 w1 p v1 (addR (addR r CC) (addC r CC [(-a), (-b), x])) (addC (addR r CC) (addC r CC [(-a), (-b), x]) [(-a), b, (-x)])) (hl1 : ((addC (addR r CC) (addC r CC [(-a), (-b), x]) [(-a), b, (-x)])).length ≤ 120) => add p v1 _ _ _ [a, (-c), x] _ _ W0 _ (by simp) hl1 (b1.kept (World.grownBy_alloc w1 (.cells #[.int .i64 a, .int .i64 (-c), .int .i64 x] 3) none)) (own_litN w1 3 [a, (-c), x] #[.int .i64 a, .int .i64 (-c), .int .i64 x] rfl rfl (by decide)))
  have A3 := hide (fun (w1 : World) (v1 : Value) (b1 : Bld W0 w1 p v1 (addR (addR (addR r CC) (addC r CC [(-a), (-b), x])) (addC (addR r CC) (addC r CC [(-a), (-b), x]) [(-a), b, (-x)])) (addC (addR (addR r CC) (addC r CC [(-a), (-b), x])) (addC (addR r CC) (addC r CC [(-a), (-b), x]) [(-a), b, (-x)]) [a, (-c), x])) (hl1 : ((addC (addR (addR r CC) (addC r CC [(-a), (-b), x])) (addC (addR r CC) (addC r CC [(-a), (-b), x]) [(-a), b, (-x)]) [a, (-c), x])).length ≤ 120) => add p v1 _ _ _ [a, c, (-x)] _ _ W0 _ (by simp) hl1 (b1.kept (World.grownBy_alloc w1 (.cells #[.int .i64 a, .int .i64 c, .int .i64 (-x)] 3) none)) (own_litN w1 3 [a, c, (-x)] #[.int .i64 a, .int .i64 c, .int .i64 (-x)] rfl rfl (by decide)))
  have hl1 : Hid (((addC r CC [(-a), (-b), x])).length ≤ 120) := (addC_len _ _ _ hl)
  have hl2 : Hid (((addC (addR r CC) (addC r CC [(-a), (-b), x]) [(-a), b, (-x)])).length ≤ 120) := (addC_len _ _ _ (unhide hl1))
  have hl3 : Hid (((addC (addR (addR r CC) (addC r CC [(-a), (-b), x])) (addC (addR r CC) (addC r CC [(-a), (-b), x]) [(-a), b, (-x)]) [a, (-c), x])).length ≤ 120) := (addC_len _ _ _ (unhide hl2))
  have VL := hide (v_lt hb)
  have GA := hide gA
  clear hb hu gA hl
  obtain ⟨x0, x1⟩ := hx
  obtain ⟨a0, a1⟩ := ha
  obtain ⟨b0, b1⟩ := hb
  obtain ⟨c0, c1⟩ := hc
  go_enter Try.func75, Try.ntmps75
  go_upto_region 0 with fail
  go_wp2_with fail
  go_region
  go_wp2_with fail
  refine (unhide A0).mono ?_; rintro e w1 ⟨rfl, v1, b1, f1⟩
  have F1 := hide (Fr.up (unhide GA) f1 (unhide VL))
  have B1 := hide b1
  have A1' := hide (unhide A1 w1 v1 b1 (unhide hl1))
  clear A0 b1 f1 VL GA A1 hl1
  go_wp2_with fail
  refine (unhide A1').mono ?_; rintro e w2 ⟨rfl, v2, b2, f2⟩
  have F2 := hide ((unhide F1).trans (Fr.up (World.grownBy_alloc w1 _ none) f2 (v_lt (unhide B1))))
  have B2 := hide b2
  have A2' := hide (unhide A2 w2 v2 b2 (unhide hl2))
  clear A1' b2 f2 F1 B1 A2 hl2
  go_wp2_with fail
  refine (unhide A2').mono ?_; rintro e w3 ⟨rfl, v3, b3, f3⟩
  have F3 := hide ((unhide F2).trans (Fr.up (World.grownBy_alloc w2 _ none) f3 (v_lt (unhide B2))))
  have B3 := hide b3
  have A3' := hide (unhide A3 w3 v3 b3 (unhide hl3))
  clear A2' b3 f3 F2 B2 A3 hl3
  go_wp2_with fail
  refine (unhide A3').mono ?_; rintro e w4 ⟨rfl, v4, b4, f4⟩
  have F4 := hide ((unhide F3).trans (Fr.up (World.grownBy_alloc w3 _ none) f4 (v_lt (unhide B3))))
  have B4 := hide b4
  clear A3' b4 f4 F3 B3
  go_wp2_with fail
  exact end0 rfl rfl ⟨rfl, _, unhide B4, unhide F4⟩
set_option maxRecDepth 10000 in
set_option maxHeartbeats 4000000 in
theorem choiceX (p : Nat) (v u : Value) (CC : List (List Int)) (x a b c : Int) (lo hi : Nat) (W0 w : World) (ha : -24 ≤ a ∧ a ≤ 24) (hb : -24 ≤ b ∧ b ≤ 24) (hc : -24 ≤ c ∧ c ≤ 24) (hl : CC.length ≤ 120) (hb : Bld W0 w p v true CC) (hu : Own lo hi w u [a, b, c]) :
    Calls Try.prog 75 #[.pointer (some ⟨p, 0, none⟩), .int .i64 x, u] w fun e w' => MetF W0 p v w true CC e w' := by
  obtain ⟨b_, cap, rfl, cc⟩ := own_cell (n := 3) hu rfl (by decide)
  have c0 : w.cell? ⟨b_, 0, none⟩ = some (.int .i64 a) := cc 0 (by decide)
  have c1 : w.cell? ⟨b_, 1, none⟩ = some (.int .i64 b) := cc 1 (by decide)
  have c2 : w.cell? ⟨b_, 2, none⟩ = some (.int .i64 c) := cc 2 (by decide)
  clear cc
  have gA := grown_trans (r := none) (World.grownBy_alloc w (.cells #[.int .i64 (-a), .int .i64 (-b), .int .i64 x] 3) none) (cf.grown_drew _ none)
  have A0 := hide (add p v _ true CC [(-a), (-b), x] _ _ W0 _ (by simp) hl (hb.kept gA) ((own_litN w 3 [(-a), (-b), x] #[.int .i64 (-a), .int .i64 (-b), .int .i64 x] rfl rfl (by decide)).kept (cf.grown_drew _ none)))
  have A1 := hide (fun (w1 : World) (v1 : Value) (b1 : Bld W0 w1 p v1 true CC) (hl1 : (CC).length ≤ 120) => add p v1 _ _ _ [(-a), b, (wrap64 (-x))] _ _ W0 _ (by simp) hl1 (b1.kept (World.grownBy_alloc w1 (.cells #[.int .i64 (-a), .int .i64 b, .int .i64 (wrap64 (-x))] 3) none)) (own_litN w1 3 [(-a), b, (wrap64 (-x))] #[.int .i64 (-a), .int .i64 b, .int .i64 (wrap64 (-x))] rfl rfl (by decide)))
  have A2 := hide (fun (w1 : World) (v1 : Value) (b1 : Bld W0 w1 p v1 true CC) (hl1 : (CC).length ≤ 120) => add p v1 _ _ _ [a, (-c), x] _ _ W0 _ (by simp) hl1 (b1.kept (World.grownBy_alloc w1 (.cells #[.int .i64 a, .int .i64 (-c), .int .i64 x] 3) none)) (own_litN w1 3 [a, (-c), x] #[.int .i64 a, .int .i64 (-c), .int .i64 x] rfl rfl (by decide)))
  have A3 := hide (fun (w1 : World) (v1 : Value) (b1 : Bld W0 w1 p v1 true CC) (hl1 : (CC).length ≤ 120) => add p v1 _ _ _ [a, c, (wrap64 (-x))] _ _ W0 _ (by simp) hl1 (b1.kept (World.grownBy_alloc w1 (.cells #[.int .i64 a, .int .i64 c, .int .i64 (wrap64 (-x))] 3) none)) (own_litN w1 3 [a, c, (wrap64 (-x))] #[.int .i64 a, .int .i64 c, .int .i64 (wrap64 (-x))] rfl rfl (by decide)))
  have hl1 : Hid (CC.length ≤ 120) := hl
  have hl2 : Hid (CC.length ≤ 120) := hl
  have hl3 : Hid (CC.length ≤ 120) := hl
  have VL := hide (v_lt hb)
  have GA := hide gA
  clear hb hu gA hl
  obtain ⟨a0, a1⟩ := ha
  obtain ⟨b0, b1⟩ := hb
  obtain ⟨c0, c1⟩ := hc
  go_enter Try.func75, Try.ntmps75
  go_upto_region 0 with fail
  go_wp2_with fail
  go_region
  go_wp2_with fail
  refine (unhide A0).mono ?_; rintro e w1 ⟨rfl, v1, b1, f1⟩
  have F1 := hide (Fr.up (unhide GA) f1 (unhide VL))
  have B1 := hide b1
  have A1' := hide (unhide A1 w1 v1 b1 (unhide hl1))
  clear A0 b1 f1 VL GA A1 hl1
  go_wp2_with fail
  refine (unhide A1').mono ?_; rintro e w2 ⟨rfl, v2, b2, f2⟩
  have F2 := hide ((unhide F1).trans (Fr.up (World.grownBy_alloc w1 _ none) f2 (v_lt (unhide B1))))
  have B2 := hide b2
  have A2' := hide (unhide A2 w2 v2 b2 (unhide hl2))
  clear A1' b2 f2 F1 B1 A2 hl2
  go_wp2_with fail
  refine (unhide A2').mono ?_; rintro e w3 ⟨rfl, v3, b3, f3⟩
  have F3 := hide ((unhide F2).trans (Fr.up (World.grownBy_alloc w2 _ none) f3 (v_lt (unhide B2))))
  have B3 := hide b3
  have A3' := hide (unhide A3 w3 v3 b3 (unhide hl3))
  clear A2' b3 f3 F2 B2 A3 hl3
  go_wp2_with fail
  refine (unhide A3').mono ?_; rintro e w4 ⟨rfl, v4, b4, f4⟩
  have F4 := hide ((unhide F3).trans (Fr.up (World.grownBy_alloc w3 _ none) f4 (v_lt (unhide B3))))
  have B4 := hide b4
  clear A3' b4 f4 F3 B3
  go_wp2_with fail
  exact end0 rfl rfl ⟨rfl, _, unhide B4, unhide F4⟩
end Go.Proofs.Ytmmfhcfanbfniaa.t2
