/- The mathematics of FnSum: what is padded begins with the text, a sum's bytes make up its words again; no condition but on sizes. -/
import Derived.Test.YtfmmdnikeoloeaaDoorZu
namespace Go.Proofs.YtfmmdnikeoloeaaDoor.zx
open Go.ChangeShapes Go.WideShapes Go.ChangeAt Go.RowKit
open Go.Proofs.YtfmmdnikeoloeaaDoor.ze (bts bts_length)
open Go.Proofs.YtfmmdnikeoloeaaDoor.zb (at_ at_bd at_eq)
open Go.Proofs.YtfmmdnikeoloeaaDoor.za (Wd g4)
open Go.Proofs.YtfmmdnikeoloeaaDoor.zi (put4)
open Go.Proofs.YtfmmdnikeoloeaaDoor.zj (padL mid zn)
open Go.Proofs.YtfmmdnikeoloeaaDoor.zo (padB padB_size out4 out4_length sumL sumT stt stt_wd)
set_option linter.unusedVariables false

theorem pad_head (s : ByteArray) : (padB s).extract 0 s.size = s := by
  apply ByteArray.ext
  have h : (padL (bts s)).take s.size = bts s := by
    unfold zj.padL zj.mid
    rw [List.append_assoc, List.append_assoc, List.append_assoc, List.take_append_of_le_length (by rw [bts_length]; exact Nat.le_refl _), List.take_of_length_le (by rw [bts_length]; exact Nat.le_refl _)]
  have e : ((padB s).extract 0 s.size).data = (padB s).data.extract 0 s.size := by simp
  rw [e]
  apply Array.toList_inj.1
  rw [Array.toList_extract]
  show List.extract (padL (bts s)).toArray.toList 0 s.size = bts s
  simp only [List.extract_eq_take_drop, List.drop_zero, Nat.sub_zero]
  simpa using h
theorem pad_mark (s : ByteArray) (h : s.size < (padB s).size) : (((padB s)[s.size]'h).toNat : Int) = 128 := by
  rw [at_eq]
  unfold zb.at_
  show ((((padL (bts s)).toArray.toList).getD s.size 0).toNat : Int) = 128
  have e : (padL (bts s)).toArray.toList = padL (bts s) := by simp
  rw [e]
  unfold zj.padL zj.mid
  rw [List.append_assoc, List.append_assoc, List.append_assoc, List.getD, List.getElem?_append_right (by rw [bts_length]; exact Nat.le_refl _), bts_length, Nat.sub_self]
  rfl
theorem out_at (N : List Int) : ∀ m k j, k < m → j < 4 → (out4 N m)[4 * k + j]? = (put4 (N.getD k 0).toNat)[j]?
  | 0, k, j, h, _ => by omega
  | m + 1, k, j, h, hj => by
    have hl := out4_length N m
    rw [out4]
    by_cases e : k = m
    · rw [e, List.getElem?_append_right (by omega), hl, show 4 * m + j - 4 * m = j by omega]
    · rw [List.getElem?_append_left (by omega)]
      exact out_at N m k j (by omega) hj
theorem at_out4 (N : List Int) (k j : Nat) (h : k < 8) (hj : j < 4) : at_ ⟨(out4 N 8).toArray⟩ (4 * k + j) = (((put4 (N.getD k 0).toNat).getD j 0).toNat : Int) := by
  unfold zb.at_
  show ((((out4 N 8).toArray.toList).getD (4 * k + j) 0).toNat : Int) = _
  have e : (out4 N 8).toArray.toList = out4 N 8 := by simp
  rw [e, List.getD, out_at N 8 k j h hj]
  rfl
theorem word_back (N : List Int) (k : Nat) (h : k < 8) (hw : Wd (N.getD k 0)) :
    at_ ⟨(out4 N 8).toArray⟩ (4 * k) * 16777216 + at_ ⟨(out4 N 8).toArray⟩ (4 * k + 1) * 65536 + at_ ⟨(out4 N 8).toArray⟩ (4 * k + 2) * 256 + at_ ⟨(out4 N 8).toArray⟩ (4 * k + 3) = N.getD k 0 := by
  have e0 := at_out4 N k 0 h (by decide)
  rw [Nat.add_zero] at e0
  rw [e0, at_out4 N k 1 h (by decide), at_out4 N k 2 h (by decide), at_out4 N k 3 h (by decide)]
  obtain ⟨h1, h2⟩ := hw
  generalize N.getD k 0 = x at *
  obtain ⟨n, rfl⟩ := Int.eq_ofNat_of_zero_le h1
  show ((UInt8.ofNat (n / 16777216)).toNat : Int) * 16777216 + ((UInt8.ofNat (n / 65536)).toNat : Int) * 65536 + ((UInt8.ofNat (n / 256)).toNat : Int) * 256 + ((UInt8.ofNat n).toNat : Int) = (n : Int)
  simp only [UInt8.toNat_ofNat']
  omega
theorem sum_is (s : ByteArray) (h : s.size ≤ 60000) : sumT s = out4 (stt (padB s) ((padB s).size / 64)) 8 := by
  unfold zo.sumT
  rw [if_pos h]
  rfl
end Go.Proofs.YtfmmdnikeoloeaaDoor.zx
