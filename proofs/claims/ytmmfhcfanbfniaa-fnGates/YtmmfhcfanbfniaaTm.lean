/- Counting the ones of a number below 128; no other condition. -/
import Derived.Test.YtmmfhcfanbfniaaTj
import Derived.Test.YtmmfhcfanbfniaaOg
import Derived.Test.YtmmfhcfanbfniaaT4
namespace Go.Proofs.Ytmmfhcfanbfniaa.t2
open Go.ChangeShapes Go.WideShapes Go.ChangeAt Go.RowKit
open Go.Proofs.Ytmmfhcfanbfniaa.sl (Sl Own ints hide unhide ret_int ret_bool grown_refl grown_trans grown_drewN)
open Go.Proofs.Ytmmfhcfanbfniaa.lits (okB okB_iff)
open Go.Proofs.Ytmmfhcfanbfniaa.wo (Made)
open Go.Proofs.Ytmmfhcfanbfniaa.sp (negL)
open Go.Proofs.Ytmmfhcfanbfniaa.cnt (asg asg_out asg_len)
set_option linter.unusedVariables false

/-- how many of the lowest n bits are ones -/
def pn : Nat → Nat → Nat
  | 0, _ => 0
  | n + 1, k => pn n (k / 2) + k % 2
theorem pn_asg (n : Nat) : ∀ k, (asg n k []).sum = (pn n k : Int) := by
  induction n with
  | zero => intro k; rfl
  | succ n ih =>
    intro k
    rw [asg_succ, List.sum_append, ih]
    show _ = ((pn n (k / 2) + k % 2 : Nat) : Int)
    simp
theorem pn_zero (n : Nat) : pn n 0 = 0 := by
  induction n with
  | zero => rfl
  | succ n ih => show pn n 0 + 0 = 0; omega
theorem pn_up (n : Nat) : ∀ (m k : Nat), k < 2 ^ n → pn (n + m) k = pn n k := by
  induction n with
  | zero =>
    intro m k h
    have : k = 0 := by simpa using h
    subst this
    rw [pn_zero, pn_zero]
  | succ n ih =>
    intro m k h
    rw [show n + 1 + m = (n + m) + 1 by omega]
    show pn (n + m) (k / 2) + k % 2 = pn n (k / 2) + k % 2
    rw [ih m (k / 2) (by rw [Nat.pow_succ] at h; omega)]
theorem odd_pn {n k : Nat} (hn : n ≤ 7) (hk : k < 2 ^ n) : oddB (asg n k []) = decide (pn 7 k % 2 = 1) := by
  unfold oddB
  rw [pn_asg, ← pn_up n (7 - n) k hk, show n + (7 - n) = 7 by omega]
  exact decide_eq_decide.2 (by omega)
def ones (x : Int) : Int :=
  let y1 := IntKind.u64.wrap (bits .and .u64 (x / 2) 6148914691236517205 + bits .and .u64 x 6148914691236517205)
  let y2 := IntKind.u64.wrap (bits .and .u64 (y1 / 4) 3689348814741910323 + bits .and .u64 y1 3689348814741910323)
  let y3 := bits .and .u64 (IntKind.u64.wrap (y2 / 16 + y2)) 1085102592571150095
  let y4 := IntKind.u64.wrap (y3 + y3 / 256)
  let y5 := IntKind.u64.wrap (y4 + y4 / 65536)
  let y6 := IntKind.u64.wrap (y5 + y5 / 4294967296)
  bits .and .i64 (wrap64 y6) 127
theorem ones_tab : ∀ x : Nat, x < 128 → ones (x : Int) = (pn 7 x : Int) := by decide +kernel
set_option maxRecDepth 10000 in
set_option maxHeartbeats 4000000 in
theorem ones64 (x : Nat) (hx : x < 128) (w : World) :
    Calls Try.prog 104 #[.int .u64 (x : Int)] w fun e w' => e = .returned (.int .i64 (pn 7 x : Int)) ∧ w' = w := by
  go_enter Try.func104, Try.ntmps104
  go_upto_region 2 with fail
  generalize e1 : IntKind.u64.wrap (bits .and .u64 ((x : Int) / 2) 6148914691236517205 + bits .and .u64 (x : Int) 6148914691236517205) = y1
  have E1 := hide e1
  clear e1
  go_upto_region 3 with fail
  generalize e2 : IntKind.u64.wrap (bits .and .u64 (y1 / 4) 3689348814741910323 + bits .and .u64 y1 3689348814741910323) = y2
  have E2 := hide e2
  clear e2
  go_upto_region 4 with fail
  generalize e3 : bits .and .u64 (IntKind.u64.wrap (y2 / 16 + y2)) 1085102592571150095 = y3
  have E3 := hide e3
  clear e3
  go_upto_region 5 with fail
  generalize e4 : IntKind.u64.wrap (y3 + y3 / 256) = y4
  have E4 := hide e4
  clear e4
  go_upto_region 6 with fail
  generalize e5 : IntKind.u64.wrap (y4 + y4 / 65536) = y5
  have E5 := hide e5
  clear e5
  go_upto_region 7 with fail
  generalize e6 : IntKind.u64.wrap (y5 + y5 / 4294967296) = y6
  have E6 := hide e6
  clear e6
  have R : Hid (bits .and .i64 (wrap64 y6) 127 = (pn 7 x : Int)) := by
    have h := ones_tab x hx
    unfold ones at h
    simp only [unhide E1, unhide E2, unhide E3, unhide E4, unhide E5, unhide E6] at h
    exact h
  clear E1 E2 E3 E4 E5 E6
  go_wp2_with fail
  go_ret
  exact ⟨ret_int (unhide R), rfl⟩
set_option maxRecDepth 10000 in
theorem onesCount (x : Nat) (hx : x < 128) (w : World) :
    Calls Try.prog 95 #[.int .u64 (x : Int)] w fun e w' => e = .returned (.int .i64 (pn 7 x : Int)) ∧ w' = w := by
  have C := hide (ones64 x hx w)
  go_enter Try.func95, Try.ntmps95
  go_wp2_with fail
  refine (unhide C).mono ?_; rintro e w' ⟨rfl, hw⟩; have hw' := hw.symm; clear hw; subst hw'
  go_wp2_with fail
  go_ret
  exact ⟨rfl, rfl⟩

theorem asg_get (n : Nat) : ∀ (k i : Nat), i < n → (asg n k []).getD i 0 = ((k / 2 ^ (n - 1 - i) % 2 : Nat) : Int) := by
  induction n with
  | zero => intro k i h; omega
  | succ n ih =>
    intro k i h
    have hl : (asg n (k / 2) []).length = n := by rw [asg_len]; rfl
    rw [asg_succ]
    by_cases hi : i < n
    · have e := ih (k / 2) i hi
      simp only [List.getD_eq_getElem?_getD] at e ⊢
      rw [List.getElem?_append_left (by omega), e, show n + 1 - 1 - i = (n - 1 - i) + 1 by omega, Nat.pow_succ, Nat.mul_comm, ← Nat.div_div_eq_div_mul]
    · have hi' : i = n := by omega
      subst hi'
      simp only [List.getD_eq_getElem?_getD]
      rw [List.getElem?_append_right (by omega), hl]
      simp
/-- the first so many of one list, the rest of another -/
def mix (A B : List Int) (i : Nat) : List Int := A.take i ++ B.drop i
theorem mix_len {A B : List Int} (h : A.length = B.length) (i : Nat) (hi : i ≤ B.length) : (mix A B i).length = B.length := by
  unfold mix
  rw [List.length_append, List.length_take, List.length_drop]
  omega
theorem mix_set : ∀ (A B : List Int) (i : Nat), A.length = B.length → i < A.length → (mix A B i).set i (A.getD i 0) = mix A B (i + 1)
  | [], _, _, _, h => by simp at h
  | x :: A, [], _, h, _ => by simp at h
  | x :: A, y :: B, 0, _, _ => rfl
  | x :: A, y :: B, i + 1, h, hi => by
    have ih := mix_set A B i (by simpa using h) (by simpa using hi)
    show x :: (mix A B i).set i (A.getD i 0) = x :: mix A B (i + 1)
    rw [ih]
theorem mix_same : ∀ (A B : List Int) (i : Nat), A.length = B.length → i < A.length → A.getD i 0 = B.getD i 0 → mix A B i = mix A B (i + 1)
  | [], _, _, _, h, _ => by simp at h
  | x :: A, [], _, h, _, _ => by simp at h
  | x :: A, y :: B, 0, _, _, e => by
    have e' : x = y := e
    subst e'
    rfl
  | x :: A, y :: B, i + 1, h, hi, e => by
    have ih := mix_same A B i (by simpa using h) (by simpa using hi) e
    show x :: mix A B i = x :: mix A B (i + 1)
    rw [ih]
theorem way_len (L a : List Int) (h : a.length = L.length) : (wayC L a).length = L.length := by
  unfold wayC
  rw [List.length_zipWith, h, Nat.min_self]
theorem way_get : ∀ (L a : List Int) (i : Nat), a.length = L.length → i < L.length → (wayC L a).getD i 0 = if a.getD i 0 = 1 then -(L.getD i 0) else L.getD i 0
  | [], _, _, _, h => by simp at h
  | x :: L, [], _, h, _ => by simp at h
  | x :: L, b :: a, 0, _, _ => rfl
  | x :: L, b :: a, i + 1, h, hi => by
    have ih := way_get L a i (by simpa using h) (by simpa using hi)
    exact ih
theorem and1 (n : Int) : bits .and .i64 n 1 = n % 2 := by
  have h1 : (BitVec.ofInt 64 1).toNat = 2 ^ 1 - 1 := by decide
  have key : (BitVec.ofInt 64 n &&& BitVec.ofInt 64 1).toNat = (n % ((2 ^ 64 : Nat) : Int)).toNat % 2 ^ 1 := by
    rw [BitVec.toNat_and, BitVec.toNat_ofInt, h1, Nat.and_two_pow_sub_one_eq_mod]
  show IntKind.i64.wrap ((BitVec.ofInt 64 n &&& BitVec.ofInt 64 1).toNat : Nat) = n % 2
  rw [key, IntKind.wrap_i64]
  omega
theorem bit_at {way e : Nat} {b : Bool} (h : decide (way / 2 ^ e % 2 = 1) = b) : (bits .and .i64 ((way : Int) / 2 ^ e) 1 == 0) = !b := by
  have e1 : (way : Int) / 2 ^ e = ((way / 2 ^ e : Nat) : Int) := by
    rw [Int.natCast_ediv, Int.natCast_pow]
    rfl
  rw [and1, e1, ← h]
  generalize way / 2 ^ e = z
  rw [Bool.eq_iff_iff]
  simp
  omega
theorem made_set {w wr : World} {g cap n : Nat} {M M' : List Int} {j : Nat} {x : Int} (h : Made w wr (.slice (some ⟨g, 0, none⟩) n cap) M) (hn : M.length = n) (e : M.set j x = M') (hg : w.heap.size ≤ g) : Made w (wr.setCell ⟨g, j, none⟩ (.int .i64 x)) (.slice (some ⟨g, 0, none⟩) n cap) M' := by
  subst e
  have ho := h.1
  rw [hn] at ho
  refine ⟨?_, cf.grown_set h.2 hg⟩
  rw [List.length_set, hn]
  exact sl.own_stored n hn (by rw [List.length_set, hn]) ho j x (by simp [ints, List.map_set])
theorem neg_get (L : List Int) (i : Nat) (h : i < L.length) : (negL L).getD i 0 = -(L.getD i 0) := by
  unfold negL
  simp [h]
set_option maxRecDepth 10000 in
set_option maxHeartbeats 4000000 in
theorem falseAt (way : Nat) (u : Value) (L : List Int) (w : World) (hL : L.length ≤ 24) (hw : way < 16777216) (hc : ∀ y ∈ L, okB y = true) (hu : Sl w u L) :
    Calls Try.prog 96 #[.int .i64 (way : Int), u] w fun e w' => ∃ r, e = .returned r ∧ Made w w' r (wayC L (asg L.length way [])) := by
  have OP := hide (sp.oppositesOf u L w (by omega) hc hu)
  have HU := hide (fun (wr : World) (g : w.grownBy wr none) => hu.kept g (.inl rfl))
  have hl := asg_len L.length way []
  rw [List.length_nil, Nat.add_zero] at hl
  have GA := hide (asg_get L.length way)
  have GW := hide (way_get L (asg L.length way []) · hl)
  have GL := hide (way_len L (asg L.length way []) hl)
  obtain ⟨ua, uc, rfl, _⟩ := hu
  generalize asg L.length way [] = a at *
  generalize hW : wayC L a = W at *
  clear hc hl hW
  go_enter Try.func96, Try.ntmps96
  go_wp2_with fail
  refine (unhide OP).mono ?_; rintro e w1 ⟨q, rfl, m1⟩
  have ST : Hid (Made w w1 q (mix W (negL L) 0)) := m1
  have hnl : (negL L).length = L.length := by unfold negL; rw [List.length_map]
  obtain ⟨qa, qc, rfl, _⟩ := (Own.of m1.1).sl
  rw [hnl]
  rw [hnl] at ST
  have NL := hide hnl
  clear m1 OP hnl
  go_wp2_with fail
  go_loopw [12] (fun i wr => ∃ k : Nat, k ≤ L.length ∧ i = .int .i64 (k : Int) ∧ Hid (Made w wr (.slice qa L.length qc) (mix W (negL L) k))) (fun i _ => L.length - (intOf i).toNat)
  case atStart => exact ⟨0, Nat.zero_le _, rfl, ST⟩
  case round =>
    obtain ⟨k, hk, rfl, hm⟩ := hrel
    clear ST
    by_cases hlt : k < L.length
    · obtain ⟨a2, cap2, e2, h2⟩ := unhide HU wr (unhide hm).2
      cases e2
      rcases h2 with h | ⟨b, off, rfl, hb, hcb⟩
      · rw [h] at hlt
        simp at hlt
      have c1 := hcb k hlt
      have hi' : (k : Int) < (L.length : Int) := by omega
      have hml : (mix W (negL L) k).length = L.length := by rw [mix_len (by rw [unhide GL, unhide NL]) k (by rw [unhide NL]; exact hk), unhide NL]
      have hmo := (unhide hm).1
      rw [hml] at hmo
      have hlow := fun k e => (hmo.lt k e).1
      obtain ⟨g, cap3, e3, c3⟩ := own_cell (n := L.length) (Own.of (unhide hm).1) hml (by omega)
      cases e3
      have c4 := c3 k hlt
      have f4 := hmo.frozenAt k
      have hg := hlow g rfl
      have HM := hide hml
      clear hml hmo hlow
      have gw := unhide GW k hlt
      rw [unhide GA k hlt] at gw
      have EM := hide (And.intro (mix_set W (negL L) k (by rw [unhide GL, unhide NL]) (by rw [unhide GL]; exact hlt)) (mix_same W (negL L) k (by rw [unhide GL, unhide NL]) (by rw [unhide GL]; exact hlt)))
      have ng := neg_get L k hlt
      generalize hb2 : decide (way / 2 ^ (L.length - 1 - k) % 2 = 1) = bt
      have bt1 := bit_at hb2
      generalize L.getD k 0 = x at *
      clear hcb c3 hb
      cases bt
      · have gx : W.getD k 0 = x := by
          rw [gw, if_neg]
          have := of_decide_eq_false hb2
          omega
        have R : Hid (Made w (wr.setCell ⟨g, k, none⟩ (.int .i64 x)) (.slice (some ⟨g, 0, none⟩) L.length qc) (mix W (negL L) (k + 1))) := made_set (unhide hm) (unhide HM) (by rw [← gx]; exact (unhide EM).1) hg
        clear gw hb2 gx ng EM
        go_wp2_with fail
        go_roundw
        case rel => exact ⟨k + 1, by omega, by go_num, R⟩
        case measure => simp [intOf]; omega
      · have gx : W.getD k 0 = (negL L).getD k 0 := by
          rw [gw, if_pos, ng]
          have := of_decide_eq_true hb2
          omega
        have R : Hid (Made w wr (.slice (some ⟨g, 0, none⟩) L.length qc) (mix W (negL L) (k + 1))) := by
          rw [← (unhide EM).2 gx]
          exact unhide hm
        clear gw hb2 gx ng EM c4 f4
        go_wp2_with fail
        go_roundw
        case rel => exact ⟨k + 1, by omega, by go_num, R⟩
        case measure => simp [intOf]; omega
    · have hi' : ¬ (k : Int) < (L.length : Int) := by omega
      have R : Hid (Made w wr (.slice qa L.length qc) W) := by
        have h := unhide hm
        unfold mix at h
        rw [List.take_of_length_le (by rw [unhide GL]; omega), List.drop_of_length_le (by rw [unhide NL]; omega), List.append_nil] at h
        exact h
      clear hm
      go_wp2_with fail
      go_ret
      exact ⟨_, rfl, unhide R⟩
end Go.Proofs.Ytmmfhcfanbfniaa.t2
