/- The head line: what strings.Split and strconv.Atoi tell of it. -/
import Derived.Test.YtaepnofheiepmaaGreatDoorLm
import Derived.Lib.Split
import Derived.Lib.AtoiAllCases
namespace Go.Proofs.YtaepnofheiepmaaGreatDoor.ln
open Go.Proofs.YtaepnofheiepmaaGreatDoor.rd (words scan)
open Go.Proofs.YtaepnofheiepmaaGreatDoor.cx (hd)
set_option linter.unusedVariables false
theorem scan_front (d : List (List UInt8)) (p l : List UInt8) : scan (d, p) l = (d ++ (scan ([], p) l).1, (scan ([], p) l).2) := by
  induction l generalizing d p with
  | nil => simp [scan]
  | cons c l ih =>
    by_cases h : c = 32
    · have e : ∀ d, scan (d, p) (c :: l) = scan (d ++ [p], []) l := fun d => by
        show scan (if c = 32 then _ else _) l = _
        rw [if_pos h]
      rw [e, e, ih, List.nil_append, ih [p]]
      simp
    · have e : ∀ d, scan (d, p) (c :: l) = scan (d, p ++ [c]) l := fun d => by
        show scan (if c = 32 then _ else _) l = _
        rw [if_neg h]
      rw [e, e, ih]
theorem words_plain {s : List UInt8} (h : (32 : UInt8) ∉ s) : words s = [s] := by
  unfold words
  rw [rd.scan_plain _ _ h]
  rfl
theorem words_cons {a : List UInt8} (r : List UInt8) (h : (32 : UInt8) ∉ a) : words (a ++ 32 :: r) = a :: words r := by
  unfold words
  rw [rd.scan_word _ _ _ h, scan_front]
  simp
theorem split_words (s : List UInt8) : Lib.splitK [32] 0 (Lib.count s [32]) s = words s := by
  generalize hn : s.length = n
  induction n using Nat.strongRecOn generalizing s with
  | _ n ih =>
    rcases rd.cut_spec s with ⟨a, r, e, ha, hi⟩ | ⟨h, hi⟩
    · have hd1 : s.drop (a.length + 1) = r := by rw [e]; simp
      have ht : s.take (a.length + 0) = a := by rw [e]; simp
      rw [Lib.count_hit (by decide) hi]
      show Lib.splitK [32] 0 (1 + Lib.count (s.drop (a.length + 1)) [32]) s = _
      rw [hd1, Nat.add_comm, Lib.splitK, hi, if_neg (by rw [beq_iff_eq]; omega)]
      show s.take (a.length + 0) :: Lib.splitK [32] 0 _ (s.drop (a.length + 1)) = _
      rw [hd1, ht, ih r.length (by rw [← hn, e]; simp; omega) r rfl, e, words_cons r ha]
    · rw [Lib.count_miss hi, words_plain h]
      rfl
/-- the pieces of a text, as the library lays them -/
def pieces (s : ByteArray) : List ByteArray := Lib.splitB ⟨#[32]⟩ 0 (Lib.countB s ⟨#[32]⟩) s
theorem pieces_words (s : ByteArray) : (pieces s).map rd.bytes = words (rd.bytes s) := (Lib.splitB_data ⟨#[32]⟩ 0 _ s).trans (split_words _)
/-- the digits of a number below 1000 -/
def dec3 (u : Nat) : List UInt8 := if u < 100 then rd.dec2 u else [UInt8.ofNat (48 + u / 10 / 10 % 10), UInt8.ofNat (48 + u / 10 % 10), UInt8.ofNat (48 + u % 10)]
theorem dec_dec3 {u : Nat} (h : u < 1000) : Lib.decDigits u = dec3 u := by
  unfold dec3
  split
  · exact rd.dec_dec2 ‹_›
  · rw [dec.dec_big (by omega), dec.dec_big (by omega), dec.dec_small (by omega)]
    rfl
set_option maxRecDepth 100000 in
theorem atoi_121 : ∀ u : Fin 121, (match Lib.atoiAll (dec3 u.val) with | .ok v => decide (v = (u.val : Int)) | _ => false) = true := by decide
theorem atoi_head {x : Int} (h0 : 0 ≤ x) (h1 : x ≤ 120) : Lib.atoiAll (Lib.itoa x) = .ok x := by
  have e : Lib.itoa x = dec3 x.toNat := by
    unfold Lib.itoa
    rw [if_neg (by omega)]
    first | exact dec_dec3 (by omega) | (rw [← dec_dec3 (by omega)]; congr 1; omega)
  rw [e]
  have := rd.ok_of (atoi_121 ⟨x.toNat, by omega⟩)
  rw [this]
  simp
  omega
theorem four {α : Type} {D : List α} (h : D.length = 4) : ∃ a b c d, D = [a, b, c, d] := by
  rcases D with _ | ⟨a, _ | ⟨b, _ | ⟨c, _ | ⟨d, _ | ⟨e, r⟩⟩⟩⟩⟩
  · simp at h
  · simp at h
  · simp at h
  · simp at h
  · exact ⟨a, b, c, d, rfl⟩
  · simp at h
/-- a head line's third and fourth piece spell its numbers -/
theorem head_pieces {s : ByteArray} {n c : Int} (h : headOf (rd.bytes s) = some (n, c)) :
    ∃ d0 d1 d2 d3, pieces s = [d0, d1, d2, d3] ∧ Lib.atoiAll (rd.bytes d2) = .ok n ∧ Lib.atoiAll (rd.bytes d3) = .ok c := by
  obtain ⟨e, hn, hc⟩ := (head_iff _ _ _).1 h
  have hp := pieces_words s
  rw [e, words_hd] at hp
  obtain ⟨d0, d1, d2, d3, hq⟩ := four (D := pieces s) (by have := congrArg List.length hp; simpa using this)
  rw [hq] at hp
  simp only [List.map_cons, List.map_nil, List.cons.injEq, and_true] at hp
  exact ⟨d0, d1, d2, d3, hq, by rw [hp.2.2.1]; exact atoi_head (by omega) (by omega), by rw [hp.2.2.2]; exact atoi_head (by omega) (by omega)⟩
end Go.Proofs.YtaepnofheiepmaaGreatDoor.ln
