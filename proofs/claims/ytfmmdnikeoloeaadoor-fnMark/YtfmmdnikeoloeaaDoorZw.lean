/- The mathematics of FnMark: a key with a nought behind it has the same marks, a mark has thirty-two bytes, a hexadecimal text comes back; no condition but on sizes. -/
import Derived.Test.YtfmmdnikeoloeaaDoorZv
namespace Go.Proofs.YtfmmdnikeoloeaaDoor.zw
open Go.ChangeShapes Go.WideShapes Go.ChangeAt Go.RowKit
open Go.Proofs.YtfmmdnikeoloeaaDoor.sl (hide unhide)
open Go.Proofs.YtfmmdnikeoloeaaDoor.ze (bts bts_length dg hexL hexL_length hexT)
open Go.Proofs.YtfmmdnikeoloeaaDoor.zb (at_ at_bd)
open Go.Proofs.YtfmmdnikeoloeaaDoor.zr (macT in1 in2 in2_size in1_size mk_size okM)
open Go.Proofs.YtfmmdnikeoloeaaDoor.zg (dv vl vl_length hexOk hexOk_yes hexB)
open Go.Proofs.YtfmmdnikeoloeaaDoor.zq (kx kb)
open Go.Proofs.YtfmmdnikeoloeaaDoor.dec (str)
set_option linter.unusedVariables false

def z1 : ByteArray := ⟨#[0]⟩
theorem data_app (a b : ByteArray) : (a ++ b).data.toList = a.data.toList ++ b.data.toList := by simp
theorem at_zero (key : ByteArray) (i : Nat) : at_ (key ++ z1) i = at_ key i := by
  unfold zb.at_
  rw [data_app]
  have e : z1.data.toList = [0] := rfl
  rw [e]
  congr 2
  rw [List.getD, List.getD]
  by_cases h : i < key.data.toList.length
  · rw [List.getElem?_append_left h]
  · rw [List.getElem?_append_right (by omega), List.getElem?_eq_none (by omega : key.data.toList.length ≤ i)]
    cases hj : i - key.data.toList.length with
    | zero => rfl
    | succ j => rfl
theorem kb_zero (key : ByteArray) (x : Int) : ∀ k, kb (key ++ z1) x k = kb key x k
  | 0 => rfl
  | k + 1 => by
    rw [kb, kb, kb_zero key x k]
    unfold zq.kx
    rw [at_zero]
theorem mac_zero (key s : ByteArray) (h : key.size < 64) : macT (key ++ z1) s = macT key s := by
  have hz : (key ++ z1).size = key.size + 1 := by rw [ByteArray.size_append]; rfl
  have e1 : in1 (key ++ z1) s = in1 key s := by unfold zr.in1; rw [kb_zero]
  have e2 : in2 (key ++ z1) s = in2 key s := by unfold zr.in2; rw [kb_zero, e1]
  unfold zr.macT
  rw [e2, hz]
  by_cases k2 : s.size ≤ 59800
  · rw [if_pos ⟨by omega, k2⟩, if_pos ⟨by omega, k2⟩]
  · rw [if_neg (fun h => k2 h.2), if_neg (fun h => k2 h.2)]
theorem mac_len (key s : ByteArray) (h : key.size ≤ 64) (h2 : s.size ≤ 59800) : (macT key s).length = 32 := by
  unfold zr.macT
  rw [if_pos ⟨h, h2⟩]
  unfold zo.sumT
  rw [if_pos (by have := in2_size key s; omega)]
  unfold zo.sumL
  rw [zo.out4_length]
theorem mac_none (key s : ByteArray) (h : 64 < key.size) : macT key s = [] := by
  unfold zr.macT
  rw [if_neg (fun k => by omega)]
theorem bts_mk (l : List UInt8) : bts ⟨l.toArray⟩ = l := by simp [ze.bts]
theorem ok_own (key s : ByteArray) (h : key.size ≤ 64) (h2 : s.size ≤ 59800) : okM key s ⟨(macT key s).toArray⟩ = true := by
  unfold zr.okM
  rw [bts_mk]
  refine decide_eq_true ⟨fun e => ?_, rfl⟩
  have := mac_len key s h h2
  rw [e] at this
  simp at this
theorem ok_none (key s m : ByteArray) (h : 64 < key.size) : okM key s m = false := by
  unfold zr.okM
  rw [mac_none key s h]
  exact decide_eq_false (fun h => h.1 rfl)
theorem dv_dg : ∀ d : Fin 16, dv ((dg d.val).toNat : Int) = (d.val : Int) := by decide +kernel
theorem hexL_at (l : List UInt8) : ∀ j, (hj : j < l.length) → (hexL l).getD (2 * j) 0 = dg (l[j].toNat / 16) ∧ (hexL l).getD (2 * j + 1) 0 = dg (l[j].toNat % 16) := by
  induction l with
  | nil => intro j hj; simp at hj
  | cons b t ih =>
    intro j hj
    cases j with
    | zero => exact ⟨rfl, rfl⟩
    | succ j =>
      have := ih j (by simpa using hj)
      rw [hexL, show 2 * (j + 1) = 2 * j + 1 + 1 by omega, show 2 * j + 1 + 1 + 1 = (2 * j + 1) + 1 + 1 by omega]
      simpa [List.getD] using this
theorem at_hex (l : List UInt8) (j : Nat) (hj : j < l.length) : dv (at_ ⟨(hexL l).toArray⟩ (2 * j)) = ((l[j].toNat / 16 : Nat) : Int) ∧ dv (at_ ⟨(hexL l).toArray⟩ (2 * j + 1)) = ((l[j].toNat % 16 : Nat) : Int) := by
  have h := hexL_at l j hj
  have hb := l[j].toNat_lt
  unfold zb.at_
  show dv (((((hexL l).toArray.toList).getD (2 * j) 0).toNat : Nat) : Int) = _ ∧ dv (((((hexL l).toArray.toList).getD (2 * j + 1) 0).toNat : Nat) : Int) = _
  rw [show (hexL l).toArray.toList = hexL l by simp, h.1, h.2]
  exact ⟨dv_dg ⟨l[j].toNat / 16, by omega⟩, dv_dg ⟨l[j].toNat % 16, by omega⟩⟩
theorem vl_hex (l : List UInt8) : ∀ j, j ≤ l.length → vl ⟨(hexL l).toArray⟩ j = l.take j
  | 0, _ => rfl
  | j + 1, hj => by
    have h := at_hex l j (by omega)
    rw [vl, vl_hex l j (by omega), h.1, h.2, List.take_succ_eq_append_getElem (by omega : j < l.length)]
    congr 2
    apply UInt8.toNat_inj.1
    rw [UInt8.toNat_ofNat']
    have hb := l[j].toNat_lt
    omega
theorem hex_back (l : List UInt8) (hl : l.length ≤ 60000) : hexT ⟨l.toArray⟩ = hexL l ∧ hexOk ⟨(hexL l).toArray⟩ = true ∧ hexB ⟨(hexL l).toArray⟩ = l := by
  have hs : (ByteArray.mk l.toArray).size = l.length := mk_size l
  have hz : (ByteArray.mk (hexL l).toArray).size = 2 * l.length := by rw [mk_size, hexL_length]
  have ok : hexOk ⟨(hexL l).toArray⟩ = true := by
    refine hexOk_yes (by rw [hz]; omega) (by rw [hz]; omega) (fun i hi => ?_)
    rw [hz] at hi
    have h := at_hex l (i / 2) (by omega)
    by_cases e : i = 2 * (i / 2)
    · rw [e, h.1]
      omega
    · rw [show i = 2 * (i / 2) + 1 by omega, h.2]
      omega
  refine ⟨?_, ok, ?_⟩
  · unfold ze.hexT
    rw [if_pos (by rw [hs]; exact hl), bts_mk]
  · unfold zg.hexB
    rw [if_pos ok, hz, show 2 * l.length / 2 = l.length by omega, vl_hex l _ (Nat.le_refl _), List.take_length]
theorem one_zero (W : World) : (convert 22 9 (.slice (some ⟨W.heap.size, 0, none⟩) 1 1)).run Tryd.prog (W.alloc (.cells #[.int .u8 0] 5)) = .ok (.string ⟨#[0]⟩) (W.alloc (.cells #[.int .u8 0] 5)) :=
  run_convert_bytes_back (P := Tryd.prog) _ 22 9 5 ⟨W.heap.size, 0, none⟩ 1 [0] Tryd.underlying22 Tryd.underlying5 Tryd.underlying9 (fun j hj => by
    rw [ze.cell_new]
    match j, hj with
    | 0, _ => rfl)
end Go.Proofs.YtfmmdnikeoloeaaDoor.zw
