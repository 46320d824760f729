/- The head line: what strings.Split and strconv.Atoi tell of it. -/
import Derived.Test.YtfokbkaommfnoaaGreatDoorLm
import Derived.Test.YtfokbkaommfnoaaGreatDoorHw
import Derived.Lib.AtoiAllCases
namespace Go.Proofs.YtfokbkaommfnoaaGreatDoor.ln
open Go.Proofs.YtfokbkaommfnoaaGreatDoor.rd (words scan)
open Go.Proofs.YtfokbkaommfnoaaGreatDoor.cx (hd)
set_option linter.unusedVariables false
/-- the digits of a number below 1000 -/
def dec3 (u : Nat) : List UInt8 := if u < 100 then rd.dec2 u else [UInt8.ofNat (48 + u / 10 / 10 % 10), UInt8.ofNat (48 + u / 10 % 10), UInt8.ofNat (48 + u % 10)]
theorem dec_dec3 {u : Nat} (h : u < 1000) : Lib.decDigits u = dec3 u := by
  unfold dec3
  split
  · exact rd.dec_dec2 ‹_›
  · rw [dec.dec_big (by omega), dec.dec_big (by omega), dec.dec_small (by omega)]
    rfl
set_option maxRecDepth 100000 in
theorem atoi_121 : ∀ u : Fin 121, (match Lib.atoiAll (dec3 u.val) with | .ok v => decide (v = (u.val : Int)) | _ => false) = true := by decide
theorem atoi_head {x : Int} (h0 : 0 ≤ x) (h1 : x ≤ 120) : Lib.atoiAll (Lib.itoa x) = .ok x := by
  have e : Lib.itoa x = dec3 x.toNat := by
    unfold Lib.itoa
    rw [if_neg (by omega)]
    first | exact dec_dec3 (by omega) | (rw [← dec_dec3 (by omega)]; congr 1; omega)
  rw [e]
  have := rd.ok_of (atoi_121 ⟨x.toNat, by omega⟩)
  rw [this]
  simp
  omega
theorem four {α : Type} {D : List α} (h : D.length = 4) : ∃ a b c d, D = [a, b, c, d] := by
  rcases D with _ | ⟨a, _ | ⟨b, _ | ⟨c, _ | ⟨d, _ | ⟨e, r⟩⟩⟩⟩⟩
  · simp at h
  · simp at h
  · simp at h
  · simp at h
  · exact ⟨a, b, c, d, rfl⟩
  · simp at h
/-- a head line's third and fourth piece spell its numbers -/
theorem head_pieces {s : ByteArray} {n c : Int} (h : headOf (rd.bytes s) = some (n, c)) :
    ∃ d0 d1 d2 d3, pieces s = [d0, d1, d2, d3] ∧ Lib.atoiAll (rd.bytes d2) = .ok n ∧ Lib.atoiAll (rd.bytes d3) = .ok c := by
  obtain ⟨e, hn, hc⟩ := (head_iff _ _ _).1 h
  have hp := pieces_words s
  rw [e, words_hd] at hp
  obtain ⟨d0, d1, d2, d3, hq⟩ := four (D := pieces s) (by have := congrArg List.length hp; simpa using this)
  rw [hq] at hp
  simp only [List.map_cons, List.map_nil, List.cons.injEq, and_true] at hp
  exact ⟨d0, d1, d2, d3, hq, by rw [hp.2.2.1]; exact atoi_head (by omega) (by omega), by rw [hp.2.2.2]; exact atoi_head (by omega) (by omega)⟩
end Go.Proofs.YtfokbkaommfnoaaGreatDoor.ln
