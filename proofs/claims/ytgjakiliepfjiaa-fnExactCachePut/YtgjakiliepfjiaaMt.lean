/- What the text of a mark is; no condition but on sizes. -/
import Derived.Test.YtgjakiliepfjiaaCss
import Derived.Deep.RegionHeld3
import Derived.Deep.DeepCutAuto
import Derived.Laws.IdiomStrings
import Derived.Laws.NewBlocks
namespace Go.Proofs.Ytgjakiliepfjiaa.ua
open Go.ChangeShapes Go.WideShapes Go.ChangeAt Go.RowKit
open Go.Proofs.Ytgjakiliepfjiaa.sl (Sl Own ints marks hide unhide ret_int ret_bool grown_refl grown_trans grown_drewN below_of of_below)
set_option linter.unusedVariables false
/-- the digits of a mark -/
def mtd : Nat → Nat → List UInt8
  | 0, _ => []
  | f + 1, k => if k = 0 then [] else mtd f (k / 10) ++ [UInt8.ofNat (48 + k % 10)]
/-- the text of a mark -/
def mtB (k : Int) : ByteArray := if k ≤ 0 then ⟨#[109, 48]⟩ else ⟨(109 :: mtd 20 k.toNat).toArray⟩
theorem one_back (wr : World) (x : UInt8) (k : Nat) (hk : wr.heap.size = k) : (convert 22 9 (.slice (some ⟨k, 0, none⟩) 1 1)).run Try.prog (wr.alloc (.cells #[.int .u8 x.toNat] 5)) = .ok (.string ⟨#[x]⟩) (wr.alloc (.cells #[.int .u8 x.toNat] 5)) := by
  subst hk
  refine run_convert_bytes_back (P := Try.prog) _ 22 9 5 ⟨wr.heap.size, 0, none⟩ 1 [x] Try.underlying22 Try.underlying5 Try.underlying9 fun j hj => ?_
  obtain rfl : j = 0 := by simp only [List.length_cons, List.length_nil] at hj; omega
  have hb := Go.heap_alloc_new wr (.cells #[.int .u8 x.toNat] 5)
  show (wr.alloc (.cells #[.int .u8 x.toNat] 5)).cell? ⟨wr.heap.size, 0 + 0, none⟩ = _
  unfold World.cell?
  rw [hb]
  rfl
theorem digit (j : Nat) : ((UInt8.ofNat (48 + j % 10)).toNat : Int) = 48 + (j : Int) % 10 := by
  have : (UInt8.ofNat (48 + j % 10)).toNat = 48 + j % 10 := by
    rw [UInt8.toNat_ofNat']
    omega
  rw [this]
  omega
theorem cat1 (a : UInt8) (X : List UInt8) : (⟨#[a]⟩ : ByteArray) ++ ⟨X.toArray⟩ = ⟨(a :: X).toArray⟩ := by
  apply ByteArray.ext
  rw [ByteArray.data_append]
  simp
theorem cat2 (a : UInt8) (X : List UInt8) : (⟨#[a]⟩ : ByteArray) ++ ⟨#[]⟩ ++ ⟨X.toArray⟩ = ⟨(a :: X).toArray⟩ := by
  apply ByteArray.ext
  rw [ByteArray.data_append, ByteArray.data_append]
  simp
set_option maxHeartbeats 800000 in
theorem markText (k : Int) (w : World) (h0 : 0 ≤ k) (h1 : k ≤ 9223372036854775807) :
    Calls Try.prog 61 #[.int .i64 k] w fun e w' => e = .returned (.string (mtB k)) ∧ w.grownBy w' none := by
  by_cases hk : k ≤ 0
  · obtain rfl : k = 0 := by omega
    have e : Hid (mtB 0 = ⟨#[109, 48]⟩) := if_pos hk
    clear hk h0 h1
    go_enter Try.func61, Try.ntmps61
    go_wp2
    go_ret
    exact ⟨by rw [unhide e]; rfl, grown_refl _⟩
  · obtain ⟨q, rfl⟩ := Int.eq_ofNat_of_zero_le h0
    have e : Hid (mtB (q : Int) = ⟨(109 :: mtd 20 q).toArray⟩) := if_neg hk
    go_enter Try.func61, Try.ntmps61
    go_wp2
    go_loopw [0, 3] (fun i s wr => ∃ (f j : Nat) (X : List UInt8), i = .int .i64 j ∧ s = .string ⟨X.toArray⟩ ∧ j < 10 ^ f ∧ (j : Int) ≤ 9223372036854775807 ∧ X.length + f = 20 ∧ Hid (mtd 20 q = mtd f j ++ X) ∧ Hid (w.grownBy wr none)) (fun i _ _ => (intOf i).toNat)
    case atStart => exact ⟨20, q, [], rfl, rfl, by omega, h1, rfl, (List.append_nil _).symm, grown_refl _⟩
    case round =>
      obtain ⟨f, j, X, rfl, rfl, hj, hj2, hX, he, hg⟩ := hrel
      by_cases hz : 0 < j
      · have hi : (0 : Int) < (j : Int) := by omega
        obtain ⟨g, rfl⟩ : ∃ g, f = g + 1 := by
          cases f with
          | zero => rw [Nat.pow_zero] at hj; omega
          | succ g => exact ⟨g, rfl⟩
        have hj' : j / 10 < 10 ^ g := by rw [Nat.pow_succ] at hj; omega
        have cv := one_back wr (UInt8.ofNat (48 + j % 10)) wr.heap.size rfl
        rw [digit j] at cv
        have hm : (j : Int).tmod 10 = (j : Int) % 10 := Int.tmod_eq_emod_of_nonneg (by omega)
        have hd : (j : Int).tdiv 10 = ((j / 10 : Nat) : Int) := by rw [Int.tdiv_eq_ediv_of_nonneg (by omega)]; omega
        have HE : Hid (mtd 20 q = mtd g (j / 10) ++ (UInt8.ofNat (48 + j % 10) :: X)) := by
          show _ = _
          rw [unhide he, mtd, if_neg (by omega), List.append_assoc]
          rfl
        have HG := hide (grown_trans (r := none) (unhide hg) (World.grownBy_alloc wr (.cells #[.int .u8 (48 + (j : Int) % 10)] 5) none))
        clear he hg hj
        generalize UInt8.ofNat (48 + j % 10) = x at *
        go_wp2
        go_roundw
        case rel => exact ⟨g, j / 10, x :: X, by rw [← hd]; rfl, by first | (rw [← cat2]; rfl) | (rw [← cat1]; rfl), hj', by omega, by rw [List.length_cons]; omega, HE, HG⟩
        case measure => simp [intOf]; omega
      · obtain rfl : j = 0 := by omega
        clear hz hj
        have HE : Hid (mtd 20 q = X) := by
          show _ = _
          rw [unhide he]
          cases f <;> rfl
        go_wp2
        go_ret
        exact ⟨by rw [unhide e, unhide HE, ← cat1]; rfl, unhide hg⟩
end Go.Proofs.Ytgjakiliepfjiaa.ua
