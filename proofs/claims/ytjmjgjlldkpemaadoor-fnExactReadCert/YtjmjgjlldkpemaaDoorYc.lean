/- Plain mathematics of the text of a certificate: which certificate a text is that of; no condition. -/
import Derived.Test.YtjmjgjlldkpemaaDoorYa
import Derived.Test.YtjmjgjlldkpemaaDoorZg
import Derived.Test.YtjmjgjlldkpemaaDoorHw
namespace Go.Proofs.YtjmjgjlldkpemaaDoor.yc
open Go.Proofs.YtjmjgjlldkpemaaDoor.rd (words)
open Go.Proofs.YtjmjgjlldkpemaaDoor.ya (partB wordB certB)
open Go.Proofs.YtjmjgjlldkpemaaDoor.ze (hexT hexL bts dg)
open Go.Proofs.YtjmjgjlldkpemaaDoor.zg (dv vl hexOk hexB)
open Go.Proofs.YtjmjgjlldkpemaaDoor.zb (at_)
set_option linter.unusedVariables false
theorem dg_all : ∀ d : Fin 16, dg d.val ≠ 32 ∧ dg d.val ≠ 10 ∧ dv ((dg d.val).toNat : Int) = (d.val : Int) := by decide +kernel
theorem hex_mem : ∀ (l : List UInt8) (c : UInt8), c ∈ hexL l → ∃ d : Fin 16, c = dg d.val
  | [], c, h => by cases h
  | x :: l, c, h => by
    rw [ze.hexL] at h
    rcases List.mem_cons.1 h with h | h
    · exact ⟨⟨x.toNat / 16, by have := x.toNat_lt; omega⟩, h⟩
    rcases List.mem_cons.1 h with h | h
    · exact ⟨⟨x.toNat % 16, by omega⟩, h⟩
    · exact hex_mem l c h
theorem hexL_at : ∀ (l : List UInt8) (j : Nat), j < l.length → (hexL l).getD (2 * j) 0 = dg ((l.getD j 0).toNat / 16) ∧ (hexL l).getD (2 * j + 1) 0 = dg ((l.getD j 0).toNat % 16)
  | [], j, h => by cases h
  | x :: l, 0, h => ⟨rfl, rfl⟩
  | x :: l, j + 1, h => by
    have := hexL_at l j (by rw [List.length_cons] at h; omega)
    rw [ze.hexL, show 2 * (j + 1) = 2 * j + 1 + 1 by omega]
    simpa using this
/-- the text of two digits a byte -/
def tx (l : List UInt8) : ByteArray := ⟨(hexL l).toArray⟩
theorem at_tx (l : List UInt8) (k : Nat) : at_ (tx l) k = (((hexL l).getD k 0).toNat : Int) := rfl
theorem dv_hi (x : UInt8) : dv ((dg (x.toNat / 16)).toNat : Int) = ((x.toNat / 16 : Nat) : Int) := (dg_all ⟨x.toNat / 16, by have := x.toNat_lt; omega⟩).2.2
theorem dv_lo (x : UInt8) : dv ((dg (x.toNat % 16)).toNat : Int) = ((x.toNat % 16 : Nat) : Int) := (dg_all ⟨x.toNat % 16, by omega⟩).2.2
theorem vl_tx (l : List UInt8) : ∀ j, j ≤ l.length → vl (tx l) j = l.take j
  | 0, _ => rfl
  | j + 1, h => by
    have h' := hexL_at l j (by omega)
    rw [zg.vl, vl_tx l j (by omega), at_tx, at_tx, h'.1, h'.2, dv_hi, dv_lo, List.take_succ_eq_append_getElem (by omega)]
    congr 2
    rw [List.getD, List.getElem?_eq_getElem (by omega), Option.getD_some]
    generalize l[j] = x
    have e : (16 * ((x.toNat / 16 : Nat) : Int) + ((x.toNat % 16 : Nat) : Int)).toNat = x.toNat := by omega
    rw [e]
    exact UInt8.ofNat_toNat
theorem size_tx (l : List UInt8) : (tx l).size = 2 * l.length := by
  show (hexL l).toArray.size = _
  rw [List.size_toArray, ze.hexL_length]
theorem good_tx (l : List UInt8) : zg.Good (tx l) (tx l).size := by
  intro k hk
  rw [size_tx] at hk
  rw [at_tx]
  have h := hexL_at l (k / 2) (by omega)
  rcases Nat.mod_two_eq_zero_or_one k with q | q
  · rw [show k = 2 * (k / 2) by omega, h.1, dv_hi]
    omega
  · rw [show k = 2 * (k / 2) + 1 by omega, h.2, dv_lo]
    omega
theorem ok_tx {l : List UInt8} (h : l.length ≤ 60000) : hexOk (tx l) = true := zg.hexOk_yes (by rw [size_tx]; omega) (by rw [size_tx]; omega) (good_tx l)
theorem hex_back {l : List UInt8} (h : l.length ≤ 60000) : hexB (tx l) = l := by
  unfold zg.hexB
  rw [if_pos (ok_tx h), size_tx, vl_tx l _ (by omega), List.take_of_length_le (by omega)]
theorem part_none {d : ByteArray} (h : rd.bytes d = []) : partB d = ⟨#[45]⟩ := by
  unfold ya.partB
  rw [if_pos (by rw [rd.toList_bytes, h]; rfl)]
theorem part_some {d : ByteArray} (h : ¬ rd.bytes d = []) (hd : d.size ≤ 60000) : partB d = tx (rd.bytes d) := by
  unfold ya.partB
  rw [if_neg (by rw [rd.toList_bytes, beq_iff_eq]; exact h)]
  unfold ze.hexT
  rw [if_pos hd]
  rfl
theorem part_back {d : ByteArray} (hd : d.size ≤ 60000) : hexB (partB d) = rd.bytes d := by
  by_cases h : rd.bytes d = []
  · rw [part_none h, h]
    rfl
  · rw [part_some h hd, hex_back (by rw [rd.bytes_len]; exact hd)]
theorem part_ok {d : ByteArray} (hd : d.size ≤ 60000) : rd.bytes (partB d) = [45] ∨ hexOk (partB d) = true := by
  by_cases h : rd.bytes d = []
  · rw [part_none h]
    exact .inl rfl
  · rw [part_some h hd]
    exact .inr (ok_tx (by rw [rd.bytes_len]; exact hd))
theorem part_mem {d : ByteArray} (hd : d.size ≤ 60000) : (32 : UInt8) ∉ rd.bytes (partB d) ∧ (10 : UInt8) ∉ rd.bytes (partB d) := by
  by_cases h : rd.bytes d = []
  · rw [part_none h]
    decide
  · rw [part_some h hd]
    constructor
    · intro q
      obtain ⟨k, e⟩ := hex_mem (rd.bytes d) _ q
      exact (dg_all k).1 e.symm
    · intro q
      obtain ⟨k, e⟩ := hex_mem (rd.bytes d) _ q
      exact (dg_all k).2.1 e.symm
theorem word_mem (sat : Bool) : (32 : UInt8) ∉ rd.bytes (wordB sat) ∧ (10 : UInt8) ∉ rd.bytes (wordB sat) := by cases sat <;> decide
/-- the head line -/
def hdL (d : ByteArray) (sat : Bool) (m : ByteArray) : List UInt8 := rd.bytes (partB d) ++ 32 :: (rd.bytes (wordB sat) ++ 32 :: rd.bytes (partB m))
theorem bytes_app (a b : ByteArray) : rd.bytes (a ++ b) = rd.bytes a ++ rd.bytes b := by
  unfold rd.bytes
  rw [ByteArray.data_append, Array.toList_append]
theorem cert_bytes (d : ByteArray) (sat : Bool) (b m : ByteArray) : rd.bytes (certB d sat b m) = hdL d sat m ++ 10 :: rd.bytes b := by
  unfold ya.certB hdL
  rw [bytes_app, bytes_app, bytes_app, bytes_app, bytes_app, bytes_app]
  show _ ++ [32] ++ _ ++ [32] ++ _ ++ [10] ++ _ = _
  simp
theorem hd_words {d m : ByteArray} (sat : Bool) (hd : d.size ≤ 60000) (hm : m.size ≤ 60000) : words (hdL d sat m) = [rd.bytes (partB d), rd.bytes (wordB sat), rd.bytes (partB m)] := by
  unfold hdL
  rw [ln.words_cons _ (part_mem hd).1, ln.words_cons _ (word_mem sat).1, ln.words_plain (part_mem hm).1]
theorem hd_line {d m : ByteArray} (sat : Bool) (hd : d.size ≤ 60000) (hm : m.size ≤ 60000) : (10 : UInt8) ∉ hdL d sat m := by
  unfold hdL
  simp only [List.mem_append, List.mem_cons, not_or]
  exact ⟨(part_mem hd).2, by decide, (word_mem sat).2, by decide, (part_mem hm).2⟩
theorem line_unique {a b r t : List UInt8} (ha : (10 : UInt8) ∉ a) (hb : (10 : UInt8) ∉ b) (h : a ++ 10 :: r = b ++ 10 :: t) : a = b ∧ r = t := by
  induction a generalizing b with
  | nil =>
    cases b with
    | nil => exact ⟨rfl, by simpa using h⟩
    | cons y b =>
      simp only [List.nil_append, List.cons_append, List.cons.injEq] at h
      exact absurd (by rw [h.1]; exact List.mem_cons_self) hb
  | cons x a ih =>
    cases b with
    | nil =>
      simp only [List.nil_append, List.cons_append, List.cons.injEq] at h
      exact absurd (by rw [← h.1]; exact List.mem_cons_self) ha
    | cons y b =>
      simp only [List.cons_append, List.cons.injEq] at h
      have := ih (fun q => ha (List.mem_cons_of_mem _ q)) (fun q => hb (List.mem_cons_of_mem _ q)) h.2
      exact ⟨by rw [h.1, this.1], this.2⟩
theorem eq_of_bytes {a b : ByteArray} (h : rd.bytes a = rd.bytes b) : a = b := by
  cases a
  cases b
  congr
  exact Array.toList_inj.1 h
theorem word_inj (sat : Bool) : decide (rd.bytes (wordB sat) = [115, 97, 116]) = sat := by cases sat <;> decide
abbrev Cr := ByteArray × Bool × ByteArray × ByteArray
/-- which certificate a text is that of -/
def RC (s : ByteArray) (O : Option Cr) : Prop := match O with
  | some c => (c.1.size ≤ 60000 ∧ c.2.2.2.size ≤ 60000) ∧ certB c.1 c.2.1 c.2.2.1 c.2.2.2 = s
  | none => ∀ d sat b m, d.size ≤ 60000 → m.size ≤ 60000 → certB d sat b m ≠ s
/-- what the parts of the head line are read as -/
def got (x y z : List UInt8) (r : List UInt8) : Cr := (⟨(hexB ⟨x.toArray⟩).toArray⟩, decide (y = [115, 97, 116]), ⟨r.toArray⟩, ⟨(hexB ⟨z.toArray⟩).toArray⟩)
theorem mk_bytes (a : ByteArray) : (⟨(rd.bytes a).toArray⟩ : ByteArray) = a := eq_of_bytes rfl
theorem got_part {d m : ByteArray} (sat : Bool) (b : ByteArray) (hd : d.size ≤ 60000) (hm : m.size ≤ 60000) : got (rd.bytes (partB d)) (rd.bytes (wordB sat)) (rd.bytes (partB m)) (rd.bytes b) = (d, sat, b, m) := by
  unfold got
  simp only [mk_bytes, part_back hd, part_back hm, word_inj]
theorem rc_line {s : ByteArray} (h : (10 : UInt8) ∉ rd.bytes s) : RC s none := fun d sat b m hd hm e => by
  rw [← e, cert_bytes] at h
  exact h (by simp)
theorem no_line {s : ByteArray} (h : (10 : UInt8) ∉ rd.bytes s) (d : ByteArray) (sat : Bool) (b m : ByteArray) : certB d sat b m ≠ s := fun e => by
  rw [← e, cert_bytes] at h
  exact h (by simp)
theorem rc_parts {s : ByteArray} {a r : List UInt8} (e : rd.bytes s = a ++ 10 :: r) (ha : (10 : UInt8) ∉ a) {d m : ByteArray} {sat : Bool} {b : ByteArray} (hd : d.size ≤ 60000) (hm : m.size ≤ 60000) (h : certB d sat b m = s) : words a = [rd.bytes (partB d), rd.bytes (wordB sat), rd.bytes (partB m)] ∧ r = rd.bytes b := by
  rw [← h, cert_bytes] at e
  have := line_unique (hd_line sat hd hm) ha e
  rw [← this.1, hd_words sat hd hm]
  exact ⟨rfl, this.2.symm⟩
theorem rc_short {s : ByteArray} {a r : List UInt8} (e : rd.bytes s = a ++ 10 :: r) (ha : (10 : UInt8) ∉ a) (h : (words a).length ≠ 3) : RC s none := fun d sat b m hd hm q => by
  rw [(rc_parts e ha hd hm q).1] at h
  exact h rfl
theorem rc_no {s : ByteArray} {a r x y z : List UInt8} (e : rd.bytes s = a ++ 10 :: r) (ha : (10 : UInt8) ∉ a) (hw : words a = [x, y, z]) (h : certB (got x y z r).1 (got x y z r).2.1 (got x y z r).2.2.1 (got x y z r).2.2.2 ≠ s) : RC s none := fun d sat b m hd hm q => by
  have p := rc_parts e ha hd hm q
  rw [hw] at p
  simp only [List.cons.injEq, and_true] at p
  obtain ⟨⟨rfl, rfl, rfl⟩, rfl⟩ := p
  rw [got_part sat b hd hm] at h
  exact h q
theorem rc_bad {s : ByteArray} {a r x y z : List UInt8} (e : rd.bytes s = a ++ 10 :: r) (ha : (10 : UInt8) ∉ a) (hw : words a = [x, y, z]) (h : (decide (x = [45]) || hexOk ⟨x.toArray⟩) = false ∨ (decide (z = [45]) || hexOk ⟨z.toArray⟩) = false) : RC s none := fun d sat b m hd hm q => by
  have p := rc_parts e ha hd hm q
  rw [hw] at p
  simp only [List.cons.injEq, and_true] at p
  obtain ⟨⟨rfl, rfl, rfl⟩, rfl⟩ := p
  rw [mk_bytes, mk_bytes] at h
  rcases h with h | h
  · rw [Bool.or_eq_false_iff] at h
    rcases part_ok hd with q | q
    · exact absurd q (of_decide_eq_false h.1)
    · rw [q] at h; cases h.2
  · rw [Bool.or_eq_false_iff] at h
    rcases part_ok hm with q | q
    · exact absurd q (of_decide_eq_false h.1)
    · rw [q] at h; cases h.2
theorem hexB_len (s : ByteArray) : (hexB s).length ≤ 60000 := by
  unfold zg.hexB
  split
  · rename_i h
    rw [zg.vl_length]
    have : s.size % 2 = 0 ∧ s.size ≤ 120000 := by
      unfold zg.hexOk at h
      rw [Bool.and_eq_true] at h
      exact of_decide_eq_true h.1
    omega
  · exact Nat.zero_le _
theorem hexB_size (s : ByteArray) : (⟨(hexB s).toArray⟩ : ByteArray).size ≤ 60000 := by
  show (hexB s).toArray.size ≤ _
  rw [List.size_toArray]
  exact hexB_len s
theorem rc_yes {s : ByteArray} {x y z r : List UInt8} (h : certB (got x y z r).1 (got x y z r).2.1 (got x y z r).2.2.1 (got x y z r).2.2.2 = s) : RC s (some (got x y z r)) := ⟨⟨hexB_size _, hexB_size _⟩, h⟩
theorem cert_inj {d m d' m' b b' : ByteArray} {sat sat' : Bool} (hd : d.size ≤ 60000) (hm : m.size ≤ 60000) (hd' : d'.size ≤ 60000) (hm' : m'.size ≤ 60000) (h : certB d sat b m = certB d' sat' b' m') : (d, sat, b, m) = (d', sat', b', m') := by
  have h1 := (rc_parts (cert_bytes d sat b m) (hd_line sat hd hm) hd' hm' h.symm)
  rw [hd_words sat hd hm] at h1
  simp only [List.cons.injEq, and_true] at h1
  obtain ⟨⟨e1, e2, e3⟩, e4⟩ := h1
  rw [← got_part sat b hd hm, ← got_part sat' b' hd' hm', e1, e2, e3, e4]
theorem RC.one {s : ByteArray} {O O' : Option Cr} (h : RC s O) (h' : RC s O') : O = O' := by
  cases O with
  | none =>
    cases O' with
    | none => rfl
    | some c => exact absurd h'.2 (h _ _ _ _ h'.1.1 h'.1.2)
  | some c =>
    cases O' with
    | none => exact absurd h.2 (h' _ _ _ _ h.1.1 h.1.2)
    | some c' =>
      congr 1
      exact cert_inj h.1.1 h.1.2 h'.1.1 h'.1.2 (h.2.trans h'.2.symm)
theorem rc_is {d m : ByteArray} (sat : Bool) (b : ByteArray) (hd : d.size ≤ 60000) (hm : m.size ≤ 60000) : RC (certB d sat b m) (some (d, sat, b, m)) := ⟨⟨hd, hm⟩, rfl⟩
end Go.Proofs.YtjmjgjlldkpemaaDoor.yc
