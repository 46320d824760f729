/- Same and IfGate: what the program and its model answer at any numbers. -/
import Derived.Test.YtmmfhcfanbfniaaT4
namespace Go.Proofs.Ytmmfhcfanbfniaa.t2
open Go.ChangeShapes Go.WideShapes Go.ChangeAt Go.RowKit
open Go.Proofs.Ytmmfhcfanbfniaa.lits (okB okB_iff)
open Go.Proofs.Ytmmfhcfanbfniaa.sl (Sl Own ints hide unhide ret_int ret_bool grown_refl grown_trans grown_drewN)
open Go.Proofs.Ytmmfhcfanbfniaa.css (Sls OwnS tot Apart own_ne own_ne' own_kind own_mono)
open Go.Proofs.Ytmmfhcfanbfniaa.cf (Box)
set_option linter.unusedVariables false

/-- a list of lists, laid at once -/
theorem ownS_lit {lo n : Nat} {w : World} (D : List (Value × List Int)) (hin : ∀ p ∈ D, Own lo w.heap.size w p.1 p.2) (hp : D.Pairwise Apart) (hlo : lo ≤ w.heap.size) (xs : Array Value) (hx : xs.toList = D.map (·.1)) (hn : D.length = n) (hl : n ≤ 1048576) :
    OwnS lo (w.heap.size + 1) (w.alloc (.cells xs 24)) (.slice (some ⟨w.heap.size, 0, none⟩) n n) (D.map (·.2)) := by
  subst hn
  have h := World.ownsRow_lit (e := 24) (size := 1) w xs D.length hlo (by unfold maxLen; omega) (by rw [← Array.length_toList, hx, List.length_map, Nat.mul_one])
  rw [hx] at h
  exact ⟨D, rfl, h, (fun k e => by cases e; exact Nat.lt_succ_self _), fun p hp' => css.own_sub ((hin p hp').kept (World.grownBy_alloc ..)) (Nat.le_refl _) (Nat.le_succ _), hp⟩
theorem ans_no0 (w : World) (CC : List (List Int)) : AnsE w false CC (.returned (.tuple #[.slice (some ⟨w.heap.size, 0, none⟩) 0 0, .bool false])) (w.alloc (.cells #[] 24)) := ans_no (grown_refl w)
theorem ok_bd {x : Int} (h : okB x = true) : -24 ≤ x ∧ x ≤ 24 := by
  have := okB_iff.1 h
  omega
theorem AnsE.eq {W0 : World} {b b' : Bool} {CC CC' : List (List Int)} {e : Ending} {w' : World} (h : AnsE W0 b CC e w') (hb : b = b') (hc : b = true → CC = CC') : AnsE W0 b' CC' e w' := by
  subst hb
  obtain ⟨q, h1, h2, h3⟩ := h
  refine ⟨q, h1, ?_, h3⟩
  cases b
  · exact h2
  · rw [hc rfl] at h2
    exact h2

theorem apart_of {i j n m : Nat} {L M : List Int} {a b : Nat} (h : i ≠ j) : Apart (.slice (some ⟨i, 0, none⟩) n a, L) (.slice (some ⟨j, 0, none⟩) m b, M) := by
  intro g e e'
  cases e
  cases e'
  exact h rfl
def sameC (x y : Int) : List (List Int) := [[-x, y], [x, -y]]
def ifC (x a b c : Int) : List (List Int) := [[-a, -b, x], [-a, b, -x], [a, -c, x], [a, c, -x]]
set_option maxRecDepth 10000 in
set_option maxHeartbeats 4000000 in
theorem implSame (x y : Int) (w : World) : Calls Try.prog 34 #[.int .i64 x, .int .i64 y] w fun e w' => AnsE w (okB x && okB y) (sameC x y) e w' := by
  have gB := World.grownBy_alloc (w.alloc (.cells #[.slice none 0 0, .bool false] 70)) (.cells #[.int .i64 y] 3) none
  have hb := (Bld.new w).kept gB
  have hu := own_litN (w.alloc (.cells #[.slice none 0 0, .bool false] 70)) 1 [y] #[.int .i64 y] rfl rfl (by decide)
  have hy : listB [y] = (okB y) := by simp [listB]
  have CM := gate_same w.heap.size _ _ false (!okB x) [] (if okB x then (sameC x y) else []) x [y] _ _ w _ (by simp) hb hu (by
    intro h w1 b1 u1 hs
    rw [hy] at h
    (try simp only [Bool.and_eq_true] at h)
    cases hx : okB x
    · rw [hx] at b1
      exact (sameX _ _ _ [] x y _ _ w w1 (ok_bd h) (by simp) b1 u1).mono (fun e w' h => h.met)
    · rw [hx] at b1
      exact (same _ _ _ _ [] x y _ _ w w1 (ok_bd hx) (ok_bd h) (by simp) b1 u1).mono (fun e w' h => h.met))
  rw [hy] at CM
  have CM' := CM.mono (fun e w' h => h.eq (b' := okB x && okB y) (CC' := (sameC x y)) (by cases okB x <;> cases okB y <;> rfl) (by cases okB x <;> simp))
  clear gB hb hu hy CM
  simp only [World.size_alloc] at CM'
  generalize (okB x && okB y) = bb at *
  have CC := hide CM'
  clear CM'
  go_enter Try.func34, Try.ntmps34
  go_wp2_with fail
  refine (unhide CC).mono ?_; rintro e w2 ⟨q, rfl, o2, g2⟩
  have O2 := hide (And.intro o2 g2)
  clear o2 g2 CC
  go_wp2_with fail
  go_ret2
  exact ⟨_, rfl, (unhide O2).1, (unhide O2).2⟩
set_option maxRecDepth 10000 in
set_option maxHeartbeats 4000000 in
theorem specSame (x y : Int) (w : World) : Calls Try.prog 35 #[.int .i64 x, .int .i64 y] w fun e w' => AnsE w (okB x && okB y) (sameC x y) e w' := by
  have cx := lits.specLitOk x
  have cy := lits.specLitOk y
  cases hx : okB x
  · rw [hx] at cx
    have Dx := hide cx
    clear cx cy hx
    go_enter Try.func35, Try.ntmps35
    go_wp2_with fail
    refine (unhide Dx _).mono ?_; rintro e w' ⟨rfl, hw⟩; have hw' := hw.symm; clear hw; subst hw'
    go_wp2_with fail
    go_ret2
    exact ans_no (grown_refl _)
  rw [hx] at cx
  cases hy : okB y
  · rw [hy] at cy
    have Dx := hide cx
    have Dy := hide cy
    clear cx cy hx hy
    go_enter Try.func35, Try.ntmps35
    go_wp2_with fail
    refine (unhide Dx _).mono ?_; rintro e w' ⟨rfl, hw⟩; have hw' := hw.symm; clear hw; subst hw'
    go_wp2_with fail
    refine (unhide Dy _).mono ?_; rintro e w' ⟨rfl, hw⟩; have hw' := hw.symm; clear hw; subst hw'
    go_wp2_with fail
    go_ret2
    exact ans_no (grown_refl _)
  rw [hy] at cy
  obtain ⟨x0, x1⟩ := ok_bd hx
  obtain ⟨y0, y1⟩ := ok_bd hy
  have Dx := hide cx
  have Dy := hide cy
  clear cx cy hx hy
  have o0 := own_litN w 2 [(-x), y] #[.int .i64 (-x), .int .i64 y] rfl rfl (by decide)
  have g0 := World.grownBy_alloc w (.cells #[.int .i64 (-x), .int .i64 y] 3) none
  have o1 := own_litN (w.alloc (.cells #[.int .i64 (-x), .int .i64 y] 3)) 2 [x, (-y)] #[.int .i64 x, .int .i64 (-y)] rfl rfl (by decide)
  have g1 := World.grownBy_alloc (w.alloc (.cells #[.int .i64 (-x), .int .i64 y] 3)) (.cells #[.int .i64 x, .int .i64 (-y)] 3) none
  simp only [World.size_alloc] at o1
  have h0 := g0
  have h1 := grown_trans (r := none) h0 g1
  have hs : ((w.alloc (.cells #[.int .i64 (-x), .int .i64 y] 3)).alloc (.cells #[.int .i64 x, .int .i64 (-y)] 3)).heap.size = w.heap.size + 1 + 1 := by simp only [World.size_alloc]
  have OO := ownS_lit (lo := w.heap.size) (n := 2) (w := ((w.alloc (.cells #[.int .i64 (-x), .int .i64 y] 3)).alloc (.cells #[.int .i64 x, .int .i64 (-y)] 3))) [(.slice (some ⟨w.heap.size, 0, none⟩) 2 2, [(-x), y]), (.slice (some ⟨w.heap.size + 1, 0, none⟩) 2 2, [x, (-y)])] (by
      intro p hp
      simp only [List.mem_cons, List.not_mem_nil, or_false] at hp
      rcases hp with rfl | rfl
      · exact css.own_sub (o0.kept g1) (by omega) (by omega)
      · exact css.own_sub o1 (by omega) (by omega)
      ) (by
      simp only [List.pairwise_cons, List.mem_cons, List.not_mem_nil, or_false, forall_eq, false_implies, implies_true, and_true, List.Pairwise.nil]
      exact apart_of (by omega)
      ) (by omega) #[.slice (some ⟨w.heap.size, 0, none⟩) 2 2, .slice (some ⟨w.heap.size + 1, 0, none⟩) 2 2] rfl rfl (by decide)
  rw [hs] at OO
  have GG := grown_trans (r := none) h1 (World.grownBy_alloc ((w.alloc (.cells #[.int .i64 (-x), .int .i64 y] 3)).alloc (.cells #[.int .i64 x, .int .i64 (-y)] 3)) (.cells #[.slice (some ⟨w.heap.size, 0, none⟩) 2 2, .slice (some ⟨w.heap.size + 1, 0, none⟩) 2 2] 24) none)
  have sz : (((w.alloc (.cells #[.int .i64 (-x), .int .i64 y] 3)).alloc (.cells #[.int .i64 x, .int .i64 (-y)] 3)).alloc (.cells #[.slice (some ⟨w.heap.size, 0, none⟩) 2 2, .slice (some ⟨w.heap.size + 1, 0, none⟩) 2 2] 24)).heap.size = w.heap.size + 1 + 1 + 1 := by simp only [World.size_alloc]
  have AN : Hid (AnsE w true (sameC x y) (.returned (.tuple #[.slice (some ⟨w.heap.size + 1 + 1, 0, none⟩) 2 2, .bool true])) (((w.alloc (.cells #[.int .i64 (-x), .int .i64 y] 3)).alloc (.cells #[.int .i64 x, .int .i64 (-y)] 3)).alloc (.cells #[.slice (some ⟨w.heap.size, 0, none⟩) 2 2, .slice (some ⟨w.heap.size + 1, 0, none⟩) 2 2] 24))) := ⟨_, rfl, by rw [sz]; exact OO, GG⟩
  clear OO GG sz hs o0 g0 h0 o1 g1 h1
  go_enter Try.func35, Try.ntmps35
  go_wp2_with fail
  refine (unhide Dx _).mono ?_; rintro e w' ⟨rfl, hw⟩; have hw' := hw.symm; clear hw; subst hw'
  go_wp2_with fail
  refine (unhide Dy _).mono ?_; rintro e w' ⟨rfl, hw⟩; have hw' := hw.symm; clear hw; subst hw'
  go_wp2_with fail
  go_ret2
  exact unhide AN
set_option maxRecDepth 10000 in
set_option maxHeartbeats 4000000 in
theorem implIfGate (x a b c : Int) (w : World) : Calls Try.prog 29 #[.int .i64 x, .int .i64 a, .int .i64 b, .int .i64 c] w fun e w' => AnsE w (okB x && okB a && okB b && okB c) (ifC x a b c) e w' := by
  have gB := World.grownBy_alloc (w.alloc (.cells #[.slice none 0 0, .bool false] 70)) (.cells #[.int .i64 a, .int .i64 b, .int .i64 c] 3) none
  have hb := (Bld.new w).kept gB
  have hu := own_litN (w.alloc (.cells #[.slice none 0 0, .bool false] 70)) 3 [a, b, c] #[.int .i64 a, .int .i64 b, .int .i64 c] rfl rfl (by decide)
  have hy : listB [a, b, c] = (okB a && okB b && okB c) := by simp [listB, Bool.and_assoc]
  have CM := gate_choice w.heap.size _ _ false (!okB x) [] (if okB x then (ifC x a b c) else []) x [a, b, c] _ _ w _ (by simp) hb hu (by
    intro h w1 b1 u1 hs
    rw [hy] at h
    (try simp only [Bool.and_eq_true] at h)
    cases hx : okB x
    · rw [hx] at b1
      exact (choiceX _ _ _ [] x a b c _ _ w w1 (ok_bd h.1.1) (ok_bd h.1.2) (ok_bd h.2) (by simp) b1 u1).mono (fun e w' h => h.met)
    · rw [hx] at b1
      exact (choice _ _ _ _ [] x a b c _ _ w w1 (ok_bd hx) (ok_bd h.1.1) (ok_bd h.1.2) (ok_bd h.2) (by simp) b1 u1).mono (fun e w' h => h.met))
  rw [hy] at CM
  have CM' := CM.mono (fun e w' h => h.eq (b' := okB x && okB a && okB b && okB c) (CC' := (ifC x a b c)) (by cases okB x <;> cases okB a <;> cases okB b <;> cases okB c <;> rfl) (by cases okB x <;> simp))
  clear gB hb hu hy CM
  simp only [World.size_alloc] at CM'
  generalize (okB x && okB a && okB b && okB c) = bb at *
  have CC := hide CM'
  clear CM'
  go_enter Try.func29, Try.ntmps29
  go_wp2_with fail
  refine (unhide CC).mono ?_; rintro e w2 ⟨q, rfl, o2, g2⟩
  have O2 := hide (And.intro o2 g2)
  clear o2 g2 CC
  go_wp2_with fail
  go_ret2
  exact ⟨_, rfl, (unhide O2).1, (unhide O2).2⟩
set_option maxRecDepth 10000 in
set_option maxHeartbeats 4000000 in
theorem specIfGate (x a b c : Int) (w : World) : Calls Try.prog 30 #[.int .i64 x, .int .i64 a, .int .i64 b, .int .i64 c] w fun e w' => AnsE w (okB x && okB a && okB b && okB c) (ifC x a b c) e w' := by
  have cx := lits.specLitOk x
  have ca := lits.specLitOk a
  have cb := lits.specLitOk b
  have cc := lits.specLitOk c
  cases hx : okB x
  · rw [hx] at cx
    have Dx := hide cx
    clear cx ca cb cc hx
    go_enter Try.func30, Try.ntmps30
    go_wp2_with fail
    refine (unhide Dx _).mono ?_; rintro e w' ⟨rfl, hw⟩; have hw' := hw.symm; clear hw; subst hw'
    go_wp2_with fail
    go_ret2
    exact ans_no (grown_refl _)
  rw [hx] at cx
  cases ha : okB a
  · rw [ha] at ca
    have Dx := hide cx
    have Da := hide ca
    clear cx ca cb cc hx ha
    go_enter Try.func30, Try.ntmps30
    go_wp2_with fail
    refine (unhide Dx _).mono ?_; rintro e w' ⟨rfl, hw⟩; have hw' := hw.symm; clear hw; subst hw'
    go_wp2_with fail
    refine (unhide Da _).mono ?_; rintro e w' ⟨rfl, hw⟩; have hw' := hw.symm; clear hw; subst hw'
    go_wp2_with fail
    go_ret2
    exact ans_no (grown_refl _)
  rw [ha] at ca
  cases hb : okB b
  · rw [hb] at cb
    have Dx := hide cx
    have Da := hide ca
    have Db := hide cb
    clear cx ca cb cc hx ha hb
    go_enter Try.func30, Try.ntmps30
    go_wp2_with fail
    refine (unhide Dx _).mono ?_; rintro e w' ⟨rfl, hw⟩; have hw' := hw.symm; clear hw; subst hw'
    go_wp2_with fail
    refine (unhide Da _).mono ?_; rintro e w' ⟨rfl, hw⟩; have hw' := hw.symm; clear hw; subst hw'
    go_wp2_with fail
    refine (unhide Db _).mono ?_; rintro e w' ⟨rfl, hw⟩; have hw' := hw.symm; clear hw; subst hw'
    go_wp2_with fail
    go_ret2
    exact ans_no (grown_refl _)
  rw [hb] at cb
  cases hc : okB c
  · rw [hc] at cc
    have Dx := hide cx
    have Da := hide ca
    have Db := hide cb
    have Dc := hide cc
    clear cx ca cb cc hx ha hb hc
    go_enter Try.func30, Try.ntmps30
    go_wp2_with fail
    refine (unhide Dx _).mono ?_; rintro e w' ⟨rfl, hw⟩; have hw' := hw.symm; clear hw; subst hw'
    go_wp2_with fail
    refine (unhide Da _).mono ?_; rintro e w' ⟨rfl, hw⟩; have hw' := hw.symm; clear hw; subst hw'
    go_wp2_with fail
    refine (unhide Db _).mono ?_; rintro e w' ⟨rfl, hw⟩; have hw' := hw.symm; clear hw; subst hw'
    go_wp2_with fail
    refine (unhide Dc _).mono ?_; rintro e w' ⟨rfl, hw⟩; have hw' := hw.symm; clear hw; subst hw'
    go_wp2_with fail
    go_ret2
    exact ans_no (grown_refl _)
  rw [hc] at cc
  obtain ⟨x0, x1⟩ := ok_bd hx
  obtain ⟨a0, a1⟩ := ok_bd ha
  obtain ⟨b0, b1⟩ := ok_bd hb
  obtain ⟨c0, c1⟩ := ok_bd hc
  have Dx := hide cx
  have Da := hide ca
  have Db := hide cb
  have Dc := hide cc
  clear cx ca cb cc hx ha hb hc
  have o0 := own_litN w 3 [(-a), (-b), x] #[.int .i64 (-a), .int .i64 (-b), .int .i64 x] rfl rfl (by decide)
  have g0 := World.grownBy_alloc w (.cells #[.int .i64 (-a), .int .i64 (-b), .int .i64 x] 3) none
  have o1 := own_litN (w.alloc (.cells #[.int .i64 (-a), .int .i64 (-b), .int .i64 x] 3)) 3 [(-a), b, (-x)] #[.int .i64 (-a), .int .i64 b, .int .i64 (-x)] rfl rfl (by decide)
  have g1 := World.grownBy_alloc (w.alloc (.cells #[.int .i64 (-a), .int .i64 (-b), .int .i64 x] 3)) (.cells #[.int .i64 (-a), .int .i64 b, .int .i64 (-x)] 3) none
  have o2 := own_litN ((w.alloc (.cells #[.int .i64 (-a), .int .i64 (-b), .int .i64 x] 3)).alloc (.cells #[.int .i64 (-a), .int .i64 b, .int .i64 (-x)] 3)) 3 [a, (-c), x] #[.int .i64 a, .int .i64 (-c), .int .i64 x] rfl rfl (by decide)
  have g2 := World.grownBy_alloc ((w.alloc (.cells #[.int .i64 (-a), .int .i64 (-b), .int .i64 x] 3)).alloc (.cells #[.int .i64 (-a), .int .i64 b, .int .i64 (-x)] 3)) (.cells #[.int .i64 a, .int .i64 (-c), .int .i64 x] 3) none
  have o3 := own_litN (((w.alloc (.cells #[.int .i64 (-a), .int .i64 (-b), .int .i64 x] 3)).alloc (.cells #[.int .i64 (-a), .int .i64 b, .int .i64 (-x)] 3)).alloc (.cells #[.int .i64 a, .int .i64 (-c), .int .i64 x] 3)) 3 [a, c, (-x)] #[.int .i64 a, .int .i64 c, .int .i64 (-x)] rfl rfl (by decide)
  have g3 := World.grownBy_alloc (((w.alloc (.cells #[.int .i64 (-a), .int .i64 (-b), .int .i64 x] 3)).alloc (.cells #[.int .i64 (-a), .int .i64 b, .int .i64 (-x)] 3)).alloc (.cells #[.int .i64 a, .int .i64 (-c), .int .i64 x] 3)) (.cells #[.int .i64 a, .int .i64 c, .int .i64 (-x)] 3) none
  simp only [World.size_alloc] at o1 o2 o3
  have h0 := g0
  have h1 := grown_trans (r := none) h0 g1
  have h2 := grown_trans (r := none) h1 g2
  have h3 := grown_trans (r := none) h2 g3
  have hs : ((((w.alloc (.cells #[.int .i64 (-a), .int .i64 (-b), .int .i64 x] 3)).alloc (.cells #[.int .i64 (-a), .int .i64 b, .int .i64 (-x)] 3)).alloc (.cells #[.int .i64 a, .int .i64 (-c), .int .i64 x] 3)).alloc (.cells #[.int .i64 a, .int .i64 c, .int .i64 (-x)] 3)).heap.size = w.heap.size + 1 + 1 + 1 + 1 := by simp only [World.size_alloc]
  have OO := ownS_lit (lo := w.heap.size) (n := 4) (w := ((((w.alloc (.cells #[.int .i64 (-a), .int .i64 (-b), .int .i64 x] 3)).alloc (.cells #[.int .i64 (-a), .int .i64 b, .int .i64 (-x)] 3)).alloc (.cells #[.int .i64 a, .int .i64 (-c), .int .i64 x] 3)).alloc (.cells #[.int .i64 a, .int .i64 c, .int .i64 (-x)] 3))) [(.slice (some ⟨w.heap.size, 0, none⟩) 3 3, [(-a), (-b), x]), (.slice (some ⟨w.heap.size + 1, 0, none⟩) 3 3, [(-a), b, (-x)]), (.slice (some ⟨w.heap.size + 1 + 1, 0, none⟩) 3 3, [a, (-c), x]), (.slice (some ⟨w.heap.size + 1 + 1 + 1, 0, none⟩) 3 3, [a, c, (-x)])] (by
      intro p hp
      simp only [List.mem_cons, List.not_mem_nil, or_false] at hp
      rcases hp with rfl | rfl | rfl | rfl
      · exact css.own_sub (((o0.kept g1).kept g2).kept g3) (by omega) (by omega)
      · exact css.own_sub ((o1.kept g2).kept g3) (by omega) (by omega)
      · exact css.own_sub (o2.kept g3) (by omega) (by omega)
      · exact css.own_sub o3 (by omega) (by omega)
      ) (by
      simp only [List.pairwise_cons, List.mem_cons, List.not_mem_nil, or_false, forall_eq_or_imp, forall_eq, false_implies, implies_true, and_true, List.Pairwise.nil]
      refine ⟨⟨apart_of (by omega), apart_of (by omega), apart_of (by omega)⟩, ⟨apart_of (by omega), apart_of (by omega)⟩, apart_of (by omega)⟩
      ) (by omega) #[.slice (some ⟨w.heap.size, 0, none⟩) 3 3, .slice (some ⟨w.heap.size + 1, 0, none⟩) 3 3, .slice (some ⟨w.heap.size + 1 + 1, 0, none⟩) 3 3, .slice (some ⟨w.heap.size + 1 + 1 + 1, 0, none⟩) 3 3] rfl rfl (by decide)
  rw [hs] at OO
  have GG := grown_trans (r := none) h3 (World.grownBy_alloc ((((w.alloc (.cells #[.int .i64 (-a), .int .i64 (-b), .int .i64 x] 3)).alloc (.cells #[.int .i64 (-a), .int .i64 b, .int .i64 (-x)] 3)).alloc (.cells #[.int .i64 a, .int .i64 (-c), .int .i64 x] 3)).alloc (.cells #[.int .i64 a, .int .i64 c, .int .i64 (-x)] 3)) (.cells #[.slice (some ⟨w.heap.size, 0, none⟩) 3 3, .slice (some ⟨w.heap.size + 1, 0, none⟩) 3 3, .slice (some ⟨w.heap.size + 1 + 1, 0, none⟩) 3 3, .slice (some ⟨w.heap.size + 1 + 1 + 1, 0, none⟩) 3 3] 24) none)
  have sz : (((((w.alloc (.cells #[.int .i64 (-a), .int .i64 (-b), .int .i64 x] 3)).alloc (.cells #[.int .i64 (-a), .int .i64 b, .int .i64 (-x)] 3)).alloc (.cells #[.int .i64 a, .int .i64 (-c), .int .i64 x] 3)).alloc (.cells #[.int .i64 a, .int .i64 c, .int .i64 (-x)] 3)).alloc (.cells #[.slice (some ⟨w.heap.size, 0, none⟩) 3 3, .slice (some ⟨w.heap.size + 1, 0, none⟩) 3 3, .slice (some ⟨w.heap.size + 1 + 1, 0, none⟩) 3 3, .slice (some ⟨w.heap.size + 1 + 1 + 1, 0, none⟩) 3 3] 24)).heap.size = w.heap.size + 1 + 1 + 1 + 1 + 1 := by simp only [World.size_alloc]
  have AN : Hid (AnsE w true (ifC x a b c) (.returned (.tuple #[.slice (some ⟨w.heap.size + 1 + 1 + 1 + 1, 0, none⟩) 4 4, .bool true])) (((((w.alloc (.cells #[.int .i64 (-a), .int .i64 (-b), .int .i64 x] 3)).alloc (.cells #[.int .i64 (-a), .int .i64 b, .int .i64 (-x)] 3)).alloc (.cells #[.int .i64 a, .int .i64 (-c), .int .i64 x] 3)).alloc (.cells #[.int .i64 a, .int .i64 c, .int .i64 (-x)] 3)).alloc (.cells #[.slice (some ⟨w.heap.size, 0, none⟩) 3 3, .slice (some ⟨w.heap.size + 1, 0, none⟩) 3 3, .slice (some ⟨w.heap.size + 1 + 1, 0, none⟩) 3 3, .slice (some ⟨w.heap.size + 1 + 1 + 1, 0, none⟩) 3 3] 24))) := ⟨_, rfl, by rw [sz]; exact OO, GG⟩
  clear OO GG sz hs o0 g0 h0 o1 g1 h1 o2 g2 h2 o3 g3 h3
  go_enter Try.func30, Try.ntmps30
  go_wp2_with fail
  refine (unhide Dx _).mono ?_; rintro e w' ⟨rfl, hw⟩; have hw' := hw.symm; clear hw; subst hw'
  go_wp2_with fail
  refine (unhide Da _).mono ?_; rintro e w' ⟨rfl, hw⟩; have hw' := hw.symm; clear hw; subst hw'
  go_wp2_with fail
  refine (unhide Db _).mono ?_; rintro e w' ⟨rfl, hw⟩; have hw' := hw.symm; clear hw; subst hw'
  go_wp2_with fail
  refine (unhide Dc _).mono ?_; rintro e w' ⟨rfl, hw⟩; have hw' := hw.symm; clear hw; subst hw'
  go_wp2_with fail
  go_ret2
  exact unhide AN
theorem bothSame (x y : Int) : ∃ (R : List (List Int)) (bo : Bool), tot R ≤ 1048576 ∧ (∀ w, Calls Try.prog 35 #[.int .i64 x, .int .i64 y] w fun e w' => ∃ u, e = .returned (.tuple #[u, .bool bo]) ∧ OwnS w.heap.size w'.heap.size w' u R ∧ w.grownBy w' none)
    ∧ ∀ w, Calls Try.prog 34 #[.int .i64 x, .int .i64 y] w fun e w' => ∃ u, e = .returned (.tuple #[u, .bool bo]) ∧ OwnS w.heap.size w'.heap.size w' u R ∧ w.grownBy w' none :=
  ⟨if (okB x && okB y) then sameC x y else [], (okB x && okB y), by cases okB x <;> cases okB y <;> simp [tot, sameC], fun w => specSame x y w, fun w => implSame x y w⟩
theorem bothIfGate (x a b c : Int) : ∃ (R : List (List Int)) (bo : Bool), tot R ≤ 1048576 ∧ (∀ w, Calls Try.prog 30 #[.int .i64 x, .int .i64 a, .int .i64 b, .int .i64 c] w fun e w' => ∃ u, e = .returned (.tuple #[u, .bool bo]) ∧ OwnS w.heap.size w'.heap.size w' u R ∧ w.grownBy w' none)
    ∧ ∀ w, Calls Try.prog 29 #[.int .i64 x, .int .i64 a, .int .i64 b, .int .i64 c] w fun e w' => ∃ u, e = .returned (.tuple #[u, .bool bo]) ∧ OwnS w.heap.size w'.heap.size w' u R ∧ w.grownBy w' none :=
  ⟨if (okB x && okB a && okB b && okB c) then ifC x a b c else [], (okB x && okB a && okB b && okB c), by cases okB x <;> cases okB a <;> cases okB b <;> cases okB c <;> simp [tot, ifC], fun w => specIfGate x a b c w, fun w => implIfGate x a b c w⟩
end Go.Proofs.Ytmmfhcfanbfniaa.t2
