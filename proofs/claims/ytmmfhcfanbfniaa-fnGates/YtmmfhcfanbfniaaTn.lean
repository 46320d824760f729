/- Parity of the program, at any list of at most 2^20 numbers that somebody owns. -/
import Derived.Test.YtmmfhcfanbfniaaTm
import Derived.Test.YtmmfhcfanbfniaaTf
namespace Go.Proofs.Ytmmfhcfanbfniaa.t2
open Go.ChangeShapes Go.WideShapes Go.ChangeAt Go.RowKit
open Go.Proofs.Ytmmfhcfanbfniaa.lits (okB okB_iff)
open Go.Proofs.Ytmmfhcfanbfniaa.sl (Sl Own ints hide unhide ret_int ret_bool grown_refl grown_trans grown_drewN)
open Go.Proofs.Ytmmfhcfanbfniaa.css (Sls OwnS tot Apart own_ne own_ne' own_kind own_mono)
open Go.Proofs.Ytmmfhcfanbfniaa.cf (Box)
open Go.Proofs.Ytmmfhcfanbfniaa.wo (Made)
open Go.Proofs.Ytmmfhcfanbfniaa.cnt (asg asg_out asg_len)
set_option linter.unusedVariables false

/-- the clauses of the first k ways -/
def parT (L : List Int) (odd : Bool) (k : Nat) : List (List Int) := ((List.range k).filter fun k => oddB (asg L.length k []) != odd).map fun k => wayC L (asg L.length k [])
theorem parT_all (L : List Int) (odd : Bool) : parT L odd (2 ^ L.length) = parC L odd := rfl
theorem parT_yes {L : List Int} {odd : Bool} {k : Nat} (h : (oddB (asg L.length k []) != odd) = true) : parT L odd (k + 1) = parT L odd k ++ [wayC L (asg L.length k [])] := by
  unfold parT
  rw [List.range_succ, List.filter_append, List.map_append, List.filter_cons_of_pos (by exact h)]
  rfl
theorem parT_no {L : List Int} {odd : Bool} {k : Nat} (h : (oddB (asg L.length k []) != odd) = false) : parT L odd (k + 1) = parT L odd k := by
  unfold parT
  rw [List.range_succ, List.filter_append, List.map_append, List.filter_cons_of_neg (by rw [h]; simp)]
  simp
theorem odd_ne {z : Nat} {o odd : Bool} {q : Int} (ho : o = decide (z % 2 = 1)) (hq : (q = 0 ∧ odd = false) ∨ (q = 1 ∧ odd = true)) : ((z : Int) % 2 != q) = (o != odd) := by
  subst ho
  have h : z % 2 = 0 ∨ z % 2 = 1 := by omega
  rcases hq with ⟨rfl, rfl⟩ | ⟨rfl, rfl⟩ <;> rcases h with h | h
  · rw [h, show (z : Int) % 2 = 0 by omega]; rfl
  · rw [h, show (z : Int) % 2 = 1 by omega]; rfl
  · rw [h, show (z : Int) % 2 = 0 by omega]; rfl
  · rw [h, show (z : Int) % 2 = 1 by omega]; rfl
set_option maxRecDepth 10000 in
set_option maxHeartbeats 4000000 in
theorem parity (p : Nat) (v u : Value) (r odd : Bool) (q : Int) (CC : List (List Int)) (L : List Int) (lo hi : Nat) (W0 w : World) (hL : L.length ≤ 7) (hq : (q = 0 ∧ odd = false) ∨ (q = 1 ∧ odd = true)) (hc : ∀ y ∈ L, okB y = true) (hl : CC.length ≤ 120) (hb : Bld W0 w p v r CC) (hu : Own lo hi w u L) (hh : hi ≤ w.heap.size) :
    Calls Try.prog 70 #[.pointer (some ⟨p, 0, none⟩), .int .i64 q, u] w fun e w' => MetF W0 p v w (addsR r CC (parC L odd)) (addsC r CC (parC L odd)) e w' := by
  obtain ⟨ua, uc, rfl, _⟩ := hu.sl
  have ST : Hid (AndI W0 p v w r CC (parT L odd 0) w) := ⟨v, hb, Fr.refl ..⟩
  have UF := hide (fun (wr : World) (v' : Value) (f : Fr p v v' w wr) => f.list hb hu hh)
  have HQ := hide hq
  have HC := hide hc
  have HL := hide hl
  have hi7 : ¬ (7 : Int) < (L.length : Int) := by omega
  obtain ⟨N, hN⟩ : ∃ N : Nat, N = 2 ^ L.length := ⟨_, rfl⟩
  have hN1 : N ≤ 128 := by rw [hN]; exact Nat.pow_le_pow_right (by decide) hL
  have hpow : wrap64 (2 ^ L.length) = (N : Int) := by
    have e : ((2 : Int) ^ L.length) = (N : Int) := by rw [hN, Int.natCast_pow]; rfl
    rw [e]
    unfold wrap64
    omega
  have HN := hide hN
  clear hb hu hc hl hq hN
  go_enter Try.func70, Try.ntmps70
  go_wp2_with fail
  go_loopw [16] (fun i wr => ∃ k : Nat, k ≤ N ∧ i = .int .i64 (k : Int) ∧ Hid (AndI W0 p v w r CC (parT L odd k) wr)) (fun i _ => N - (intOf i).toNat)
  case atStart => exact ⟨0, Nat.zero_le _, rfl, ST⟩
  case round =>
    obtain ⟨k, hk, rfl, hm⟩ := hrel
    clear ST hpow
    by_cases hlt : k < N
    · have hi' : (k : Int) < (N : Int) := by omega
      have OC := hide (onesCount k (by omega) wr)
      have ho := odd_pn hL (k := k) (by rw [← unhide HN]; exact hlt)
      have hne := odd_ne ho (unhide HQ)
      have PY := hide (@parT_yes L odd k)
      have PN := hide (@parT_no L odd k)
      have WL := hide (way_len L (asg L.length k []) (by rw [asg_len]; rfl))
      obtain ⟨v1, b1, f1⟩ := unhide hm
      have hu1 := unhide UF wr v1 f1
      have FA := hide (falseAt k _ L wr (by omega) (by omega) (unhide HC) hu1.sl)
      have ln := adds_len (parT L odd k) r CC (unhide HL)
      have B1 := hide b1
      have F1 := hide f1
      have LN := hide ln
      have AD := hide (adds_snoc (wayC L (asg L.length k [])) (parT L odd k) r CC)
      generalize hb2 : (oddB (asg L.length k []) != odd) = bt at *
      clear hb2 ho hm hu1 b1 f1 ln
      generalize wayC L (asg L.length k []) = C at *
      cases bt
      · have R : Hid (AndI W0 p v w r CC (parT L odd (k + 1)) wr) := by
          rw [unhide PN rfl]
          exact ⟨v1, unhide B1, unhide F1⟩
        clear B1 F1 AD PY PN FA LN
        go_wp2_with fail
        refine (unhide OC).mono ?_; rintro e w' ⟨rfl, hw⟩; have hw' := hw.symm; clear hw; subst hw'
        go_wp2_with fail
        go_roundw
        case rel => exact ⟨k + 1, by omega, by go_num, R⟩
        case measure => simp [intOf]; omega
      · have hP := unhide PY rfl
        clear PY PN
        obtain ⟨P2, hP2⟩ : ∃ P2, P2 = parT L odd (k + 1) := ⟨_, rfl⟩
        rw [← hP2] at hP
        have HE := hide hP2
        clear hP2
        generalize parT L odd k = P1 at *
        generalize addsR r CC P1 = r1 at *
        generalize addsC r CC P1 = C1 at *
        have HP := hide hP
        clear hP
        go_wp2_with fail
        refine (unhide OC).mono ?_; rintro e w' ⟨rfl, hw⟩; have hw' := hw.symm; clear hw; subst hw'
        clear OC
        go_wp2_with fail
        refine (unhide FA).mono ?_; rintro e w1 ⟨y, rfl, m1⟩
        have A1 := hide (add p v1 y r1 C1 C _ _ W0 w1 (by rw [unhide WL]; omega) (unhide LN) ((unhide B1).kept m1.2) (Own.of m1.1))
        have G1 := hide m1.2
        obtain ⟨ya, yc, rfl, _⟩ := (Own.of m1.1).sl
        clear m1 FA
        go_wp2_with fail
        refine (unhide A1).mono ?_; rintro e w2 ⟨rfl, v2, b2, f2⟩
        have R : Hid (AndI W0 p v w r CC P2 w2) := by
          rw [unhide HP]
          refine ⟨v2, ?_, (unhide F1).trans (Fr.up (unhide G1) f2 (v_lt (unhide B1)))⟩
          rw [(unhide AD).1, (unhide AD).2]
          exact b2
        clear b2 f2 A1 AD F1 B1 G1 HP
        go_wp2_with fail
        go_roundw
        case rel => exact ⟨k + 1, by omega, by go_num, by rw [← unhide HE]; exact R⟩
        case measure => simp [intOf]; omega
    · have hi' : ¬ (k : Int) < (N : Int) := by omega
      have e : k = N := by omega
      rw [e, unhide HN, parT_all] at hm
      have R := hide (unhide hm)
      clear hm e
      go_wp2_with fail
      exact end0 rfl rfl ⟨rfl, unhide R⟩
def parB (L : List Int) : Bool := listB L && decide (L.length ≤ 7)
theorem parityX (p : Nat) (v u : Value) (r : Bool) (q : Int) (CC : List (List Int)) (L : List Int) (lo hi : Nat) (W0 w : World) (hL : 7 < L.length) (hL1 : L.length ≤ 1048576) (hb : Bld W0 w p v r CC) (hu : Own lo hi w u L) :
    Calls Try.prog 70 #[.pointer (some ⟨p, 0, none⟩), .int .i64 q, u] w fun e w' => MetF W0 p v w true CC e w' := by
  obtain ⟨ua, uc, rfl, _⟩ := hu.sl
  have c1 := hb.b.c1
  have f1 := hb.b.f 1
  have R := hide (hb.flag true)
  have hi7 : (7 : Int) < (L.length : Int) := by omega
  clear hb hu
  go_enter Try.func70, Try.ntmps70
  go_wp2_with fail
  exact end0 rfl rfl ⟨rfl, v, unhide R, Fr.flag _⟩
set_option maxRecDepth 10000 in
set_option maxHeartbeats 4000000 in
theorem parClauses (odd : Bool) (q : Int) (u : Value) (L : List Int) (lo hi : Nat) (w : World) (hL : L.length ≤ 1048576) (hq : (q = 0 ∧ odd = false) ∨ (q = 1 ∧ odd = true)) (hu : Own lo hi w u L) (hh : hi ≤ w.heap.size) :
    Calls Try.prog 59 #[.pointer (some ⟨w.heap.size, 0, none⟩), .func (.func 70) #[.pointer (some ⟨w.heap.size, 0, none⟩)] #[], .int .i64 q, u] (w.alloc (.cells #[.slice none 0 0, .bool false] 70)) fun e w' => AnsE w (parB L) (parC L odd) e w' := by
  have gB := World.grownBy_alloc w (.cells #[.slice none 0 0, .bool false] 70) none
  have hb := Bld.new w
  have hs := gB.size
  have CM := clauses_parity w.heap.size _ u false (if L.length ≤ 7 then false else true) [] (if L.length ≤ 7 then parC L odd else []) q L w _ hL hb (hu.kept gB).sl (by
    intro h
    have lo_ := list_ok h
    by_cases hk : L.length ≤ 7
    · rw [if_pos hk, if_pos hk]
      have hle := par_le (L := L) odd hk
      have h := (parity _ _ u false odd q [] L lo hi w _ hk hq lo_.2 (by simp) hb (hu.kept gB) (by omega)).mono (fun e w' h => h.met)
      rw [adds_fine, decide_eq_true (by omega), adds_list (by omega)] at h
      exact h
    · rw [if_neg hk, if_neg hk]
      exact (parityX _ _ u false q [] L lo hi w _ (by omega) hL hb (hu.kept gB)).mono (fun e w' h => h.met))
  have E : (listB L && !if L.length ≤ 7 then false else true) = parB L := by
    unfold parB
    by_cases hk : L.length ≤ 7
    · rw [if_pos hk, decide_eq_true hk]; rfl
    · rw [if_neg hk, decide_eq_false hk]; rfl
  exact CM.mono (fun e w' h => h.eq (b' := parB L) (CC' := parC L odd) E (by
    intro hb
    rw [E] at hb
    simp only [parB, Bool.and_eq_true, decide_eq_true_eq] at hb
    rw [if_pos hb.2]))
set_option maxRecDepth 10000 in
set_option maxHeartbeats 4000000 in
theorem implParity (odd : Bool) (u : Value) (L : List Int) (lo hi : Nat) (w : World) (hL : L.length ≤ 1048576) (hu : Own lo hi w u L) (hh : hi ≤ w.heap.size) :
    Calls Try.prog 26 #[u, .bool odd] w fun e w' => AnsE w (parB L) (parC L odd) e w' := by
  have C0 := hide (fun h => parClauses odd 0 u L lo hi w hL (.inl ⟨rfl, h⟩) hu hh)
  have C1 := hide (fun h => parClauses odd 1 u L lo hi w hL (.inr ⟨rfl, h⟩) hu hh)
  obtain ⟨ua, uc, rfl, _⟩ := hu.sl
  clear hu
  cases odd
  · have CC := hide (unhide C0 rfl)
    clear C0 C1
    go_enter Try.func26, Try.ntmps26
    go_wp2_with fail
    refine (unhide CC).mono ?_; rintro e w2 ⟨q, rfl, o2, g2⟩
    have O2 := hide (And.intro o2 g2)
    clear o2 g2 CC
    go_wp2_with fail
    go_ret2
    exact ⟨_, rfl, (unhide O2).1, (unhide O2).2⟩
  · have CC := hide (unhide C1 rfl)
    clear C0 C1
    go_enter Try.func26, Try.ntmps26
    go_wp2_with fail
    refine (unhide CC).mono ?_; rintro e w2 ⟨q, rfl, o2, g2⟩
    have O2 := hide (And.intro o2 g2)
    clear o2 g2 CC
    go_wp2_with fail
    go_ret2
    exact ⟨_, rfl, (unhide O2).1, (unhide O2).2⟩
end Go.Proofs.Ytmmfhcfanbfniaa.t2
