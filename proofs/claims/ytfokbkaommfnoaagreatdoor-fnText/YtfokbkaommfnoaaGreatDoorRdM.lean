/- Plain mathematics: which clause a text is the text of; words of a text; the number that a word spells. -/
import Derived.Test.YtfokbkaommfnoaaGreatDoorTxtM
import Derived.Lib.AtoiAll
import Derived.Lib.IndexMore
namespace Go.Proofs.YtfokbkaommfnoaaGreatDoor.rd
open Go.RowKit
open Go.Proofs.YtfokbkaommfnoaaGreatDoor.lits (okB okB_iff okB_yes)
open Go.Proofs.YtfokbkaommfnoaaGreatDoor.cls (okAll)
open Go.Proofs.YtfokbkaommfnoaaGreatDoor.txt (body text itoa_len)

/-! ### digits -/
theorem dec_mem (u : Nat) : ∀ c ∈ Lib.decDigits u, 48 ≤ c.toNat ∧ c.toNat ≤ 57 := by
  induction u using Nat.strongRecOn with
  | _ u ih =>
    intro c hc
    have one : ∀ d, d < 10 → 48 ≤ (UInt8.ofNat (48 + d)).toNat ∧ (UInt8.ofNat (48 + d)).toNat ≤ 57 := by decide
    by_cases h : u < 10
    · rw [dec.dec_small h] at hc
      rw [List.mem_singleton] at hc
      rw [hc]
      exact one _ (Nat.mod_lt _ (by decide))
    · rw [dec.dec_big h, List.mem_append] at hc
      rcases hc with hc | hc
      · exact ih (u / 10) (by omega) c hc
      · rw [List.mem_singleton] at hc
        rw [hc]
        exact one _ (Nat.mod_lt _ (by decide))
/-- the number that digits spell -/
def val (l : List UInt8) : Nat := l.foldl (fun a c => 10 * a + (c.toNat - 48)) 0
theorem val_snoc (l : List UInt8) (c : UInt8) : val (l ++ [c]) = 10 * val l + (c.toNat - 48) := by simp [val]
theorem digit_val : ∀ d, d < 10 → (UInt8.ofNat (48 + d)).toNat - 48 = d := by decide
theorem val_dec (u : Nat) : val (Lib.decDigits u) = u := by
  induction u using Nat.strongRecOn with
  | _ u ih =>
    by_cases h : u < 10
    · rw [dec.dec_small h]
      show 10 * 0 + ((UInt8.ofNat (48 + u % 10)).toNat - 48) = u
      rw [digit_val _ (Nat.mod_lt _ (by decide))]
      omega
    · rw [dec.dec_big h, val_snoc, ih (u / 10) (by omega), digit_val _ (Nat.mod_lt _ (by decide))]
      omega
theorem dec_ne (u : Nat) : Lib.decDigits u ≠ [] := by
  intro h
  have := Lib.decDigits_length u
  rw [h] at this
  have := Lib.nDigits_pos u
  simp at *
  omega
theorem dec_head (u : Nat) : ∀ c r, Lib.decDigits u = c :: r → c ≠ 45 := by
  intro c r h e
  have := dec_mem u c (by rw [h]; exact List.mem_cons_self)
  rw [e] at this
  simp at this
theorem itoa_blank (x : Int) : (32 : UInt8) ∉ Lib.itoa x := by
  unfold Lib.itoa
  split
  · intro h
    rcases List.mem_cons.1 h with h | h
    · cases h
    · have := dec_mem _ _ h
      simp at this
  · intro h
    have := dec_mem _ _ h
    simp at this

/-! ### words -/
def scan (st : List (List UInt8) × List UInt8) (l : List UInt8) : List (List UInt8) × List UInt8 :=
  l.foldl (fun st c => if c = 32 then (st.1 ++ [st.2], []) else (st.1, st.2 ++ [c])) st
def words (l : List UInt8) : List (List UInt8) := (scan ([], []) l).1 ++ [(scan ([], []) l).2]
theorem scan_plain (st : List (List UInt8) × List UInt8) (a : List UInt8) (h : (32 : UInt8) ∉ a) : scan st a = (st.1, st.2 ++ a) := by
  induction a generalizing st with
  | nil => simp [scan]
  | cons c a ih =>
    rw [List.mem_cons, not_or] at h
    have e : scan st (c :: a) = scan (st.1, st.2 ++ [c]) a := by
      show scan (if c = 32 then _ else _) a = _
      rw [if_neg (fun e => h.1 e.symm)]
    rw [e, ih _ h.2]
    simp
theorem scan_append (st : List (List UInt8) × List UInt8) (a b : List UInt8) : scan st (a ++ b) = scan (scan st a) b := by simp [scan]
theorem scan_word (st : List (List UInt8) × List UInt8) (a r : List UInt8) (h : (32 : UInt8) ∉ a) : scan st (a ++ 32 :: r) = scan (st.1 ++ [st.2 ++ a], []) r := by
  rw [scan_append, scan_plain _ _ h]
  rfl
theorem body_cons (x : Int) (l : List Int) : body (x :: l) = Lib.itoa x ++ 32 :: body l := by simp [body]
theorem scan_body (d : List (List UInt8)) (L : List Int) : scan (d, []) (body L ++ [48]) = (d ++ L.map Lib.itoa, [48]) := by
  induction L generalizing d with
  | nil => simp [body, scan]
  | cons x l ih =>
    rw [body_cons, List.append_assoc, List.cons_append, scan_word _ _ _ (itoa_blank x), List.nil_append, ih]
    simp
theorem words_body (L : List Int) : words (body L ++ [48]) = L.map Lib.itoa ++ [[48]] := by
  unfold words
  rw [scan_body]
  simp

/-! ### a number out of a word -/
def numDig (s : List UInt8) : List UInt8 := if s.head? = some 45 then s.tail else s
def numOk (s : List UInt8) : Bool := decide (1 ≤ (numDig s).length ∧ (numDig s).length ≤ 9) && (numDig s).all fun c => decide (48 ≤ c.toNat ∧ c.toNat ≤ 57)
def numV (s : List UInt8) : Int := if (numDig s).length < s.length then -(val (numDig s) : Int) else (val (numDig s) : Int)
def num (s : List UInt8) : Int × Bool := if numOk s then (numV s, decide (Lib.itoa (numV s) = s)) else (0, false)
theorem dec_all (u : Nat) : (Lib.decDigits u).all (fun c => decide (48 ≤ c.toNat ∧ c.toNat ≤ 57)) = true := by
  rw [List.all_eq_true]
  intro c hc
  exact decide_eq_true (dec_mem u c hc)
theorem dec_len {u : Nat} (h : u < 10 ^ 9) : 1 ≤ (Lib.decDigits u).length ∧ (Lib.decDigits u).length ≤ 9 := by
  rw [Lib.decDigits_length]
  exact ⟨Lib.nDigits_pos u, dec.nDigits_le 9 u (by decide) h⟩
theorem dig_pos (u : Nat) : numDig (Lib.decDigits u) = Lib.decDigits u := by
  unfold numDig
  rw [if_neg]
  intro h
  cases e : Lib.decDigits u with
  | nil => exact dec_ne u e
  | cons c r =>
    rw [e] at h
    exact dec_head u c r e (Option.some.inj h)
theorem num_itoa {x : Int} (h1 : -1000000000 < x) (h2 : x < 1000000000) : num (Lib.itoa x) = (x, true) := by
  have key : numOk (Lib.itoa x) = true ∧ numV (Lib.itoa x) = x := by
    unfold numOk numV Lib.itoa
    split
    · have e : numDig (45 :: Lib.decDigits x.natAbs) = Lib.decDigits x.natAbs := by simp [numDig]
      rw [e, dec_all, decide_eq_true (dec_len (by omega)), if_pos (by simp), val_dec]
      exact ⟨rfl, by omega⟩
    · rw [dig_pos, dec_all, decide_eq_true (dec_len (by omega)), if_neg (by omega), val_dec]
      exact ⟨rfl, by omega⟩
  unfold num
  rw [key.1, key.2, decide_eq_true rfl]
  rfl

/-! ### a literal out of a word -/
def lit (s : List UInt8) : Option Int := match Lib.atoiAll s with
  | .ok v => if okB v && decide (Lib.itoa v = s) then some v else none
  | _ => none

/-! ### a clause out of a text -/
def cutW (s : List UInt8) : List UInt8 × List UInt8 × Bool := Lib.cut s [32]
def clause : Nat → List UInt8 → Option (List Int)
  | 0, s => if s = [48] then some [] else none
  | n + 1, s => if s = [48] then some [] else if (cutW s).2.2 then (match lit (cutW s).1 with
    | some x => (clause n (cutW s).2.1).map (x :: ·)
    | none => none) else none
theorem index_cons (b : UInt8) (l : List UInt8) : Lib.index (b :: l) [32] = if b = 32 then 0 else if Lib.index l [32] = -1 then -1 else Lib.index l [32] + 1 := by
  conv => lhs; unfold Lib.index
  by_cases h : b = 32
  · rw [if_pos (by simp [h]), if_pos h]
  · rw [if_neg (by simp; exact fun e => h e.symm), if_neg h]
    simp [beq_iff_eq]
theorem cut_spec (s : List UInt8) : (∃ a r, s = a ++ 32 :: r ∧ (32 : UInt8) ∉ a ∧ Lib.index s [32] = (a.length : Int)) ∨ ((32 : UInt8) ∉ s ∧ Lib.index s [32] = -1) := by
  induction s with
  | nil => exact .inr ⟨by simp, by simp [Lib.index]⟩
  | cons b l ih =>
    rw [index_cons]
    by_cases h : b = 32
    · exact .inl ⟨[], l, by simp [h], by simp, by simp [h]⟩
    · rw [if_neg h]
      rcases ih with ⟨a, r, e, ha, hi⟩ | ⟨ha, hi⟩
      · refine .inl ⟨b :: a, r, by simp [e], ?_, ?_⟩
        · rw [List.mem_cons, not_or]
          exact ⟨fun e => h e.symm, ha⟩
        · rw [hi, if_neg (by omega)]
          simp
      · refine .inr ⟨?_, by rw [hi]; rfl⟩
        rw [List.mem_cons, not_or]
        exact ⟨fun e => h e.symm, ha⟩
theorem blank_unique {a b r t : List UInt8} (ha : (32 : UInt8) ∉ a) (hb : (32 : UInt8) ∉ b) (h : a ++ 32 :: r = b ++ 32 :: t) : a = b ∧ r = t := by
  induction a generalizing b with
  | nil =>
    cases b with
    | nil => simp at h; exact ⟨rfl, h⟩
    | cons c b => simp at h; exact absurd h.1.symm (fun e => hb (by rw [e]; exact List.mem_cons_self))
  | cons d a ih =>
    cases b with
    | nil => simp at h; exact absurd h.1 (fun e => ha (by rw [e]; exact List.mem_cons_self))
    | cons c b =>
      simp at h
      rw [List.mem_cons, not_or] at ha hb
      have := ih ha.2 hb.2 h.2
      exact ⟨by rw [h.1, this.1], this.2⟩
theorem cut_word {a : List UInt8} (r : List UInt8) (ha : (32 : UInt8) ∉ a) : cutW (a ++ 32 :: r) = (a, r, true) := by
  rcases cut_spec (a ++ 32 :: r) with ⟨b, t, e, hb, hi⟩ | ⟨h, _⟩
  · obtain ⟨rfl, rfl⟩ := blank_unique ha hb e
    unfold cutW Lib.cut
    rw [hi, if_pos (by omega)]
    simp
  · exact absurd (by simp) h
theorem cut_sound {s : List UInt8} (h : (cutW s).2.2 = true) : s = (cutW s).1 ++ 32 :: (cutW s).2.1 ∧ (cutW s).2.1.length < s.length := by
  rcases cut_spec s with ⟨b, t, e, hb, hi⟩ | ⟨_, hi⟩
  · rw [e, cut_word t hb]
    exact ⟨rfl, by simp; omega⟩
  · unfold cutW Lib.cut at h
    rw [hi] at h
    simp at h

/-! ### a literal's text spells it -/
/-- the digits of a number below 100 -/
def dec2 (u : Nat) : List UInt8 := if u < 10 then [UInt8.ofNat (48 + u % 10)] else [UInt8.ofNat (48 + u / 10 % 10), UInt8.ofNat (48 + u % 10)]
theorem dec_dec2 {u : Nat} (h : u < 100) : Lib.decDigits u = dec2 u := by
  unfold dec2
  split
  · exact dec.dec_small ‹_›
  · rw [dec.dec_big ‹_›, dec.dec_small (by omega)]
    rfl
theorem atoi_pos : ∀ u : Fin 25, (match Lib.atoiAll (dec2 u.val) with | .ok v => decide (v = (u.val : Int)) | _ => false) = true := by decide
theorem atoi_neg : ∀ u : Fin 25, (match Lib.atoiAll (45 :: dec2 u.val) with | .ok v => decide (v = -(u.val : Int)) | _ => false) = true := by decide
theorem ok_of {e : Lib.NumEnd Int} {x : Int} (h : (match e with | .ok v => decide (v = x) | _ => false) = true) : e = .ok x := by
  cases e with
  | ok v => rw [of_decide_eq_true h]
  | _ => cases h
theorem atoi_lit {x : Int} (h : okB x = true) : Lib.atoiAll (Lib.itoa x) = .ok x := by
  have a := okB_iff.1 h
  unfold Lib.itoa
  split
  · rw [dec_dec2 (by omega)]
    have := ok_of (atoi_neg ⟨x.natAbs, by omega⟩)
    rw [this]
    congr 1
    simp
    omega
  · rw [dec_dec2 (by omega)]
    have := ok_of (atoi_pos ⟨x.toNat, by omega⟩)
    rw [this]
    congr 1
    simp
    omega
theorem lit_itoa {x : Int} (h : okB x = true) : lit (Lib.itoa x) = some x := by
  unfold lit
  rw [atoi_lit h]
  simp [h]
theorem lit_sound {s : List UInt8} {x : Int} (h : lit s = some x) : okB x = true ∧ Lib.itoa x = s := by
  unfold lit at h
  split at h
  · split at h
    · rename_i v _ hv
      rw [Bool.and_eq_true, decide_eq_true_iff] at hv
      obtain rfl := Option.some.inj h
      exact hv
    · cases h
  · cases h

theorem clause_sound {n : Nat} {s : List UInt8} {L : List Int} (h : clause n s = some L) : L.all okB = true ∧ L.length ≤ n ∧ body L ++ [48] = s := by
  induction n generalizing s L with
  | zero =>
    unfold clause at h
    split at h
    · obtain rfl := Option.some.inj h
      exact ⟨rfl, Nat.le_refl _, by rw [‹s = [48]›]; rfl⟩
    · cases h
  | succ n ih =>
    unfold clause at h
    split at h
    · obtain rfl := Option.some.inj h
      exact ⟨rfl, Nat.zero_le _, by rw [‹s = [48]›]; rfl⟩
    · split at h
      · rename_i hf
        cases hl : lit (cutW s).1 with
        | none => rw [hl] at h; cases h
        | some x =>
          rw [hl] at h
          obtain ⟨l, hc, rfl⟩ := Option.map_eq_some_iff.1 h
          have h1 := ih hc
          have h2 := lit_sound hl
          have h3 := cut_sound hf
          refine ⟨by rw [List.all_cons, h2.1, h1.1]; rfl, by rw [List.length_cons]; omega, ?_⟩
          rw [body_cons, List.append_assoc, List.cons_append, h1.2.2, h2.2]
          exact h3.1.symm
      · cases h
theorem clause_full {L : List Int} (hok : L.all okB = true) : ∀ n, L.length ≤ n → clause n (body L ++ [48]) = some L := by
  induction L with
  | nil => intro n _; cases n <;> rfl
  | cons x l ih =>
    intro n hn
    cases n with
    | zero => simp at hn
    | succ n =>
      rw [List.all_cons, Bool.and_eq_true] at hok
      have hw : cutW (body (x :: l) ++ [48]) = (Lib.itoa x, body l ++ [48], true) := by
        rw [body_cons, List.append_assoc, List.cons_append]
        exact cut_word _ (itoa_blank x)
      have hne : ¬ body (x :: l) ++ [48] = [48] := by
        intro e
        have : (32 : UInt8) ∈ body (x :: l) ++ [48] := by rw [body_cons]; simp
        rw [e] at this
        simp at this
      unfold clause
      rw [if_neg hne, hw]
      simp only [if_true, lit_itoa hok.1, ih hok.2 n (by simpa using hn), Option.map_some]

/-- the clause whose text s is -/
def read (s : List UInt8) : Option (List Int) := clause 48 s
def readL (s : List UInt8) : List Int := (read s).getD []
def readB (s : List UInt8) : Bool := (read s).isSome
theorem read_sound {s : List UInt8} {L : List Int} (h : read s = some L) : okAll L = true ∧ text L = s := by
  have h1 := clause_sound h
  have hok : okAll L = true := by
    unfold okAll
    rw [h1.1, decide_eq_true h1.2.1]
    rfl
  exact ⟨hok, by rw [txt.text_yes hok]; exact h1.2.2⟩
theorem read_full {L : List Int} (hok : okAll L = true) : read (text L) = some L := by
  rw [txt.text_yes hok]
  unfold okAll at hok
  rw [Bool.and_eq_true, decide_eq_true_iff] at hok
  exact clause_full hok.1 48 hok.2
theorem read_len (s : List UInt8) : (readL s).length ≤ 48 := by
  unfold readL
  cases h : read s with
  | none => exact Nat.zero_le _
  | some L => exact (clause_sound h).2.1
end Go.Proofs.YtfokbkaommfnoaaGreatDoor.rd
