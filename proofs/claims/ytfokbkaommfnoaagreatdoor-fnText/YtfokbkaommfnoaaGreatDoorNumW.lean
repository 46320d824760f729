/- What spec.l01Num answers at every text of at most 2^20 bytes. -/
import Derived.Test.YtfokbkaommfnoaaGreatDoorRdM
import Derived.WalkSpells
namespace Go.Proofs.YtfokbkaommfnoaaGreatDoor.rd
open Go.ChangeShapes Go.WideShapes Go.ChangeAt Go.RowKit
open Go.Proofs.YtfokbkaommfnoaaGreatDoor.dec (str)
open Go.Proofs.YtfokbkaommfnoaaGreatDoor.sl (hide unhide ret_bool ret_int)
set_option linter.unusedVariables false

/-- the bytes of a text -/
def bytes (s : ByteArray) : List UInt8 := s.data.toList
theorem toList_bytes (s : ByteArray) : s.toList = bytes s := ByteArray.toList_eq s
theorem bytes_len (s : ByteArray) : (bytes s).length = s.size := by unfold bytes; rw [Array.length_toList]; rfl
theorem bytes_extract (s : ByteArray) (a b : Nat) : bytes (s.extract a b) = ((bytes s).take b).drop a := by
  unfold bytes
  rw [ByteArray.data_extract, Array.toList_extract, List.drop_take]
theorem bytes_take (s : ByteArray) (k : Nat) (h : k < s.size) : (bytes s).take (k + 1) = (bytes s).take k ++ [s[k]] := by
  unfold bytes
  rw [List.take_succ_eq_append_getElem (by rw [Array.length_toList]; exact h)]
  rfl
theorem bytes_mem (s : ByteArray) (k : Nat) (h : k < s.size) : s[k] ∈ bytes s := by
  unfold bytes
  exact Array.getElem_mem_toList (h := h)
theorem val_lt (l : List UInt8) (h : l.all (fun c => decide (48 ≤ c.toNat ∧ c.toNat ≤ 57)) = true) : val l < 10 ^ l.length := by
  have gen : ∀ (l : List UInt8) (a k : Nat), l.all (fun c => decide (48 ≤ c.toNat ∧ c.toNat ≤ 57)) = true → a < 10 ^ k → l.foldl (fun a c => 10 * a + (c.toNat - 48)) a < 10 ^ (k + l.length) := by
    intro l
    induction l with
    | nil => intro a k _ h; exact h
    | cons c l ih =>
      intro a k hl ha
      rw [List.all_cons, Bool.and_eq_true, decide_eq_true_iff] at hl
      rw [List.foldl_cons, List.length_cons, show k + (l.length + 1) = (k + 1) + l.length from by omega]
      refine ih _ _ hl.2 ?_
      rw [Nat.pow_succ]
      omega
  have := gen l 0 0 h (by decide)
  rwa [Nat.zero_add] at this

theorem inC (x : Int) (w : World) : Calls Tryz.prog 51 #[.int .i64 x, .int .i64 48, .int .i64 57] w fun e w' => e = .returned (.bool (decide (48 ≤ x ∧ x ≤ 57))) ∧ w' = w := by
  by_cases h1 : 48 ≤ x
  · by_cases h2 : x ≤ 57
    · rw [decide_eq_true ⟨h1, h2⟩]
      go_enter Tryz.func51, Tryz.ntmps51
      go_wp2
      go_ret
      exact ⟨rfl, rfl⟩
    · rw [decide_eq_false (fun h => h2 h.2)]
      go_enter Tryz.func51, Tryz.ntmps51
      go_wp2
      go_ret
      exact ⟨rfl, rfl⟩
  · rw [decide_eq_false (fun h => h1 h.1)]
    have h1' : decide (48 ≤ x) = false := decide_eq_false h1
    go_enter Tryz.func51, Tryz.ntmps51
    go_wp2
    go_ret
    exact ⟨rfl, rfl⟩

/-- every byte is a digit -/
def dig (l : List UInt8) : Bool := l.all fun c => decide (48 ≤ c.toNat ∧ c.toNat ≤ 57)
theorem dig_hit (s : ByteArray) (k : Nat) (h : k < s.size) (hx : decide (48 ≤ (s[k].toNat : Int) ∧ (s[k].toNat : Int) ≤ 57) = false) : dig (bytes s) = false := by
  unfold dig
  rw [List.all_eq_false]
  refine ⟨s[k], bytes_mem s k h, ?_⟩
  rw [decide_eq_false_iff_not] at hx
  simp only [decide_eq_true_iff]
  omega
theorem dig_step (s : ByteArray) (k : Nat) (h : k < s.size) (hd : dig ((bytes s).take k) = true) (hx : decide (48 ≤ (s[k].toNat : Int) ∧ (s[k].toNat : Int) ≤ 57) = true) : dig ((bytes s).take (k + 1)) = true := by
  unfold dig at *
  rw [bytes_take s k h, List.all_append, hd]
  rw [decide_eq_true_iff] at hx
  simp only [List.all_cons, List.all_nil, Bool.and_true, Bool.true_and, decide_eq_true_iff]
  omega
theorem val_step (s : ByteArray) (k : Nat) (h : k < s.size) (hx : decide (48 ≤ (s[k].toNat : Int) ∧ (s[k].toNat : Int) ≤ 57) = true) : ((val ((bytes s).take (k + 1)) : Nat) : Int) = 10 * ((val ((bytes s).take k) : Nat) : Int) + (s[k].toNat : Int) - 48 := by
  rw [decide_eq_true_iff] at hx
  rw [bytes_take s k h, val_snoc]
  omega
theorem val_small (s : ByteArray) (k : Nat) (h9 : s.size ≤ 9) (hd : dig ((bytes s).take k) = true) : val ((bytes s).take k) < 1000000000 := by
  have h1 := val_lt _ hd
  have h2 : ((bytes s).take k).length ≤ 9 := by
    rw [List.length_take, bytes_len]
    omega
  have h3 : 10 ^ ((bytes s).take k).length ≤ 10 ^ 9 := Nat.pow_le_pow_right (by decide) h2
  omega
theorem ret_eq (n : Int) (q : List UInt8) (s : ByteArray) : Ending.returned (.tuple #[.int .i64 n, .bool (q == s.toList)]) = .returned (.tuple #[.int .i64 n, .bool (decide (q = bytes s))]) := by
  rw [show (q == s.toList) = decide (q = bytes s) from by rw [Bool.eq_iff_iff, beq_iff_eq, decide_eq_true_iff, toList_bytes]]
/-- what is answered where there are one to nine digits -/
def fin (neg : Bool) (s d : List UInt8) : Int × Bool := if dig d then ((if neg then -((val d : Nat) : Int) else ((val d : Nat) : Int)), decide (Lib.itoa (if neg then -((val d : Nat) : Int) else ((val d : Nat) : Int)) = s)) else (0, false)
theorem fin_no {neg : Bool} {s d : List UInt8} (h : dig d = false) : fin neg s d = (0, false) := by unfold fin; rw [h]; rfl
theorem fin_neg {s d : List UInt8} (h : dig d = true) : fin true s d = (-((val d : Nat) : Int), decide (Lib.itoa (-((val d : Nat) : Int)) = s)) := by unfold fin; rw [h]; rfl
theorem fin_pos {s d : List UInt8} (h : dig d = true) : fin false s d = (((val d : Nat) : Int), decide (Lib.itoa ((val d : Nat) : Int) = s)) := by unfold fin; rw [h]; rfl

set_option maxHeartbeats 1600000 in
set_option maxRecDepth 100000 in
theorem numMinus (s d : ByteArray) (w : World) (hs : 0 < s.size) (h45 : ((s[0].toNat : Int) == 45) = true) (hex : s.extract 1 s.size = d) (hsz : d.size + 1 = s.size) (h1 : 1 ≤ d.size) (h9 : d.size ≤ 9) :
    Calls Tryz.prog 63 #[.string s] w fun e w' => e = .returned (.tuple #[.int .i64 (fin true (bytes s) (bytes d)).1, .bool (fin true (bytes s) (bytes d)).2]) ∧ w' = w := by
  have e0 : (((d.size : Nat) : Int) == 0) = false := by rw [beq_eq_false_iff_ne]; omega
  have e9 : decide ((9 : Int) < ((d.size : Nat) : Int)) = false := decide_eq_false (by omega)
  have hlt0 : ((d.size : Nat) : Int) < ((s.size : Nat) : Int) := by omega
  have hs0 : (0 : Int) < ((s.size : Nat) : Int) := by omega
  go_enter Tryz.func63, Tryz.ntmps63
  go_wp2
  go_loop [5, 6] (fun n i => ∃ k : Nat, k ≤ d.size ∧ i = .int .i64 k ∧ n = .int .i64 ((val ((bytes d).take k) : Nat) : Int) ∧ Hid (dig ((bytes d).take k) = true)) (fun _ i => d.size - (intOf i).toNat)
  case atStart => exact ⟨0, Nat.zero_le _, rfl, rfl, rfl⟩
  case round =>
    obtain ⟨k, hk, rfl, rfl, hd⟩ := hrel
    have hvs := val_small d k h9 (unhide hd)
    by_cases hlt : k < d.size
    · have hi' : (k : Int) < (d.size : Int) := by omega
      have vs := val_step d k hlt
      have ds := dig_step d k hlt (unhide hd)
      have dh := dig_hit d k hlt
      have hb : (d[k].toNat : Int) < 256 := by have := d[k].toNat_lt; omega
      have CI := hide (inC (d[k].toNat : Int) w)
      generalize ((val ((bytes d).take k) : Nat)) = m at *
      cases hx : decide (48 ≤ (d[k].toNat : Int) ∧ (d[k].toNat : Int) ≤ 57)
      · rw [hx] at CI
        have H := hide (dh hx)
        clear vs ds dh hx hd
        go_wp2_with (go_at_call 51; refine (unhide CI).mono ?_; rintro e w2 ⟨rfl, hw⟩; have hw' := hw.symm; clear hw; subst hw')
        go_ret2
        exact ⟨by rw [fin_no (unhide H)]; rfl, rfl⟩
      · rw [hx] at CI
        have V := hide (vs hx)
        have D := hide (ds hx)
        rw [decide_eq_true_iff] at hx
        obtain ⟨x0, x1⟩ := hx
        clear vs ds dh hd
        go_wp2_with (go_at_call 51; refine (unhide CI).mono ?_; rintro e w2 ⟨rfl, hw⟩; have hw' := hw.symm; clear hw; subst hw')
        go_round
        case rel => exact ⟨k + 1, by omega, by go_num, by rw [unhide V], D⟩
        case measure => simp [intOf]; omega
    · have hi' : ¬ (k : Int) < (d.size : Int) := by omega
      have e : (bytes d).take k = bytes d := List.take_of_length_le (by rw [bytes_len]; omega)
      rw [e] at hd hvs
      rw [e]
      clear e
      have CD := hide (dec.l01Dec (-((val (bytes d) : Nat) : Int)) w (by omega) (by omega))
      unfold str at CD
      have hd' := unhide hd
      have HD := hide hd'
      clear hd hd'
      generalize hm : val (bytes d) = m at *
      generalize hq : Lib.itoa (-(m : Int)) = q at *
      have HM := hide hm
      have HQ := hide hq
      clear hm hq
      go_wp2_with (go_at_call 26; refine (unhide CD).mono ?_; rintro e w2 ⟨rfl, hw⟩; have hw' := hw.symm; clear hw; subst hw')
      go_ret2
      refine ⟨?_, rfl⟩
      rw [fin_neg (unhide HD)]
      show _ = Ending.returned (.tuple #[.int .i64 (-((val (bytes d) : Nat) : Int)), .bool (decide (Lib.itoa (-((val (bytes d) : Nat) : Int)) = bytes s))])
      rw [unhide HM, unhide HQ]
      exact ret_eq _ _ _

set_option maxHeartbeats 1600000 in
set_option maxRecDepth 100000 in
theorem numPlain (d : ByteArray) (w : World) (hs : 0 < d.size) (h45 : ((d[0].toNat : Int) == 45) = false) (h1 : 1 ≤ d.size) (h9 : d.size ≤ 9) :
    Calls Tryz.prog 63 #[.string d] w fun e w' => e = .returned (.tuple #[.int .i64 (fin false (bytes d) (bytes d)).1, .bool (fin false (bytes d) (bytes d)).2]) ∧ w' = w := by
  have e0 : (((d.size : Nat) : Int) == 0) = false := by rw [beq_eq_false_iff_ne]; omega
  have e9 : decide ((9 : Int) < ((d.size : Nat) : Int)) = false := decide_eq_false (by omega)
  have hs0 : (0 : Int) < ((d.size : Nat) : Int) := by omega
  go_enter Tryz.func63, Tryz.ntmps63
  go_wp2
  go_loop [5, 6] (fun n i => ∃ k : Nat, k ≤ d.size ∧ i = .int .i64 k ∧ n = .int .i64 ((val ((bytes d).take k) : Nat) : Int) ∧ Hid (dig ((bytes d).take k) = true)) (fun _ i => d.size - (intOf i).toNat)
  case atStart => exact ⟨0, Nat.zero_le _, rfl, rfl, rfl⟩
  case round =>
    obtain ⟨k, hk, rfl, rfl, hd⟩ := hrel
    have hvs := val_small d k h9 (unhide hd)
    by_cases hlt : k < d.size
    · have hi' : (k : Int) < (d.size : Int) := by omega
      have vs := val_step d k hlt
      have ds := dig_step d k hlt (unhide hd)
      have dh := dig_hit d k hlt
      have hb : (d[k].toNat : Int) < 256 := by have := d[k].toNat_lt; omega
      have CI := hide (inC (d[k].toNat : Int) w)
      generalize ((val ((bytes d).take k) : Nat)) = m at *
      cases hx : decide (48 ≤ (d[k].toNat : Int) ∧ (d[k].toNat : Int) ≤ 57)
      · rw [hx] at CI
        have H := hide (dh hx)
        clear vs ds dh hx hd
        go_wp2_with (go_at_call 51; refine (unhide CI).mono ?_; rintro e w2 ⟨rfl, hw⟩; have hw' := hw.symm; clear hw; subst hw')
        go_ret2
        exact ⟨by rw [fin_no (unhide H)]; rfl, rfl⟩
      · rw [hx] at CI
        have V := hide (vs hx)
        have D := hide (ds hx)
        rw [decide_eq_true_iff] at hx
        obtain ⟨x0, x1⟩ := hx
        clear vs ds dh hd
        go_wp2_with (go_at_call 51; refine (unhide CI).mono ?_; rintro e w2 ⟨rfl, hw⟩; have hw' := hw.symm; clear hw; subst hw')
        go_round
        case rel => exact ⟨k + 1, by omega, by go_num, by rw [unhide V], D⟩
        case measure => simp [intOf]; omega
    · have hi' : ¬ (k : Int) < (d.size : Int) := by omega
      have e : (bytes d).take k = bytes d := List.take_of_length_le (by rw [bytes_len]; omega)
      rw [e] at hd hvs
      rw [e]
      clear e
      have CD := hide (dec.l01Dec (((val (bytes d) : Nat) : Int)) w (by omega) (by omega))
      unfold str at CD
      have hd' := unhide hd
      have HD := hide hd'
      clear hd hd'
      generalize hm : val (bytes d) = m at *
      generalize hq : Lib.itoa ((m : Int)) = q at *
      have HM := hide hm
      have HQ := hide hq
      clear hm hq
      go_wp2_with (go_at_call 26; refine (unhide CD).mono ?_; rintro e w2 ⟨rfl, hw⟩; have hw' := hw.symm; clear hw; subst hw')
      go_ret2
      refine ⟨?_, rfl⟩
      rw [fin_pos (unhide HD)]
      show _ = Ending.returned (.tuple #[.int .i64 (((val (bytes d) : Nat) : Int)), .bool (decide (Lib.itoa (((val (bytes d) : Nat) : Int)) = bytes d))])
      rw [unhide HM, unhide HQ]
      exact ret_eq _ _ _

theorem num_fin {l : List UInt8} (h : decide (1 ≤ (numDig l).length ∧ (numDig l).length ≤ 9) = true) (neg : Bool) (hn : neg = decide ((numDig l).length < l.length)) : num l = fin neg l (numDig l) := by
  unfold num numOk numV fin
  rw [h, Bool.true_and, hn]
  show (if dig (numDig l) then _ else _) = _
  by_cases h2 : (numDig l).length < l.length
  · rw [decide_eq_true h2, if_pos h2]
    rfl
  · rw [decide_eq_false h2, if_neg h2]
    rfl
theorem num_no {l : List UInt8} (h : decide (1 ≤ (numDig l).length ∧ (numDig l).length ≤ 9) = false) : num l = (0, false) := by
  unfold num numOk
  rw [h]
  rfl

/-- the number of a word -/
theorem l01Num (s : ByteArray) (w : World) (hmax : s.size ≤ 1048576) :
    Calls Tryz.prog 63 #[.string s] w fun e w' => e = .returned (.tuple #[.int .i64 (num (bytes s)).1, .bool (num (bytes s)).2]) ∧ w' = w := by
  by_cases hs : 0 < s.size
  · have hhead : (bytes s).head? = some s[0] := by
      unfold bytes
      rw [List.head?_eq_getElem?, Array.getElem?_toList]
      exact Array.getElem?_eq_getElem hs
    cases h45 : ((s[0].toNat : Int) == 45)
    · have hne : ¬ s[0] = 45 := by
        intro e
        rw [e] at h45
        cases h45
      have hd : numDig (bytes s) = bytes s := by
        unfold numDig
        rw [if_neg (by rw [hhead]; exact fun e => hne (Option.some.inj e))]
      by_cases h9 : s.size ≤ 9
      · have e := num_fin (l := bytes s) (by rw [hd, bytes_len]; exact decide_eq_true ⟨hs, h9⟩) false (by rw [hd]; simp)
        rw [e, hd]
        exact numPlain s w hs h45 hs h9
      · rw [num_no (by rw [hd, bytes_len]; exact decide_eq_false (by omega))]
        have e0 : (((s.size : Nat) : Int) == 0) = false := by rw [beq_eq_false_iff_ne]; omega
        have e9 : decide ((9 : Int) < ((s.size : Nat) : Int)) = true := decide_eq_true (by omega)
        have hs0 : (0 : Int) < ((s.size : Nat) : Int) := by omega
        clear hd hne hhead
        go_enter Tryz.func63, Tryz.ntmps63
        go_wp2
        go_ret2
        exact ⟨rfl, rfl⟩
    · have hye : s[0] = 45 := by
        have := beq_iff_eq.1 h45
        apply UInt8.toNat_inj.1
        show s[0].toNat = 45
        omega
      obtain ⟨d, hex⟩ : ∃ d, s.extract 1 s.size = d := ⟨_, rfl⟩
      have hbd : bytes d = (bytes s).tail := by
        rw [← hex, bytes_extract, List.take_of_length_le (by rw [bytes_len]; exact Nat.le_refl _), List.drop_one]
      have hsz : d.size + 1 = s.size := by
        have h1 := bytes_len d
        rw [hbd, List.length_tail, bytes_len] at h1
        omega
      have hd : numDig (bytes s) = bytes d := by
        unfold numDig
        rw [if_pos (by rw [hhead, hye]), hbd]
      by_cases h9 : 1 ≤ d.size ∧ d.size ≤ 9
      · have e := num_fin (l := bytes s) (by rw [hd, bytes_len]; exact decide_eq_true h9) true (by rw [hd, bytes_len, bytes_len]; exact (decide_eq_true (by omega)).symm)
        rw [e, hd]
        exact numMinus s d w hs h45 hex hsz h9.1 h9.2
      · rw [num_no (by rw [hd, bytes_len]; exact decide_eq_false h9)]
        clear hd hbd hye hhead
        have hs0 : (0 : Int) < ((s.size : Nat) : Int) := by omega
        by_cases hz : d.size = 0
        · have e0 : (((d.size : Nat) : Int) == 0) = true := by rw [beq_iff_eq]; omega
          clear h9 hz
          go_enter Tryz.func63, Tryz.ntmps63
          go_wp2
          go_ret2
          exact ⟨rfl, rfl⟩
        · have e0 : (((d.size : Nat) : Int) == 0) = false := by rw [beq_eq_false_iff_ne]; omega
          have e9 : decide ((9 : Int) < ((d.size : Nat) : Int)) = true := decide_eq_true (by omega)
          clear h9 hz
          go_enter Tryz.func63, Tryz.ntmps63
          go_wp2
          go_ret2
          exact ⟨rfl, rfl⟩
  · have e : bytes s = [] := List.eq_nil_of_length_eq_zero (by rw [bytes_len]; omega)
    rw [e]
    have hz : s.size = 0 := by omega
    have hz' : decide ((0 : Int) < ((s.size : Nat) : Int)) = false := decide_eq_false (by omega)
    have e0 : (((s.size : Nat) : Int) == 0) = true := by rw [beq_iff_eq]; omega
    clear hs e hz
    go_enter Tryz.func63, Tryz.ntmps63
    go_wp2
    go_ret2
    exact ⟨rfl, rfl⟩
end Go.Proofs.YtfokbkaommfnoaaGreatDoor.rd
