/- HexBytes of the program: digit by digit into a row of its own; no condition but on sizes. -/
import Derived.Test.YtjmjgjlldkpemaaDoorZg
namespace Go.Proofs.YtjmjgjlldkpemaaDoor.zh
open Go.ChangeShapes Go.WideShapes Go.ChangeAt Go.RowKit
open Go.Proofs.YtjmjgjlldkpemaaDoor.sl (hide unhide ret_int ret_bool grown_refl grown_trans grown_drewN)
open Go.Proofs.YtjmjgjlldkpemaaDoor.zb (at_ at_bd at_eq wrap64)
open Go.Proofs.YtjmjgjlldkpemaaDoor.byt (Byt MadeB run_app run_back run_of)
open Go.Proofs.YtjmjgjlldkpemaaDoor.ze (of_own made_nil MadeB.kept wpB appB cell_new one_at bts bts_length)
open Go.Proofs.YtjmjgjlldkpemaaDoor.zg (dv dv_bd vl vl_length hexOk hexOk_yes hexOk_no hexOk_size hexB)
open Go.Proofs.YtjmjgjlldkpemaaDoor.dec (str)
set_option linter.unusedVariables false

theorem index_all : ∀ n : Fin 256, Lib.indexByte [48, 49, 50, 51, 52, 53, 54, 55, 56, 57, 97, 98, 99, 100, 101, 102] n.val.toUInt8 = dv (n.val : Int) := by decide +kernel
theorem index_dv (c : Int) (h : 0 ≤ c ∧ c < 256) : Lib.indexByte [48, 49, 50, 51, 52, 53, 54, 55, 56, 57, 97, 98, 99, 100, 101, 102] c.toNat.toUInt8 = dv c := by
  have := index_all ⟨c.toNat, by omega⟩
  simp only [Int.toNat_of_nonneg h.1] at this
  exact this
set_option maxRecDepth 100000 in
theorem liteIndexByte (s : ByteArray) (c : Int) (w : World) :
    Calls Tryd.prog 102 #[.string s, .int .u8 c] w fun e w' => e = .returned (.int .i64 (Lib.indexByte s.data.toList c.toNat.toUInt8)) ∧ w' = w := by
  go_enter Tryd.func102, Tryd.ntmps102
  go_wp2
  rw [run_callFunc_extern Tryd.func125 (by kernel_rfl) (by kernel_rfl) (by kernel_rfl) (e := Extern.BytealgIndexByte.indexByte) (by kernel_rfl), Lib.run_indexByteString]
  simp only [Result.andThen]
  rw [Oper.upon_value]
  go_wp2
  go_ret
  exact ⟨rfl, rfl⟩
set_option maxRecDepth 100000 in
theorem indexByte (c : Int) (w : World) (h : 0 ≤ c ∧ c < 256) :
    Calls Tryd.prog 70 #[.string ⟨#[48, 49, 50, 51, 52, 53, 54, 55, 56, 57, 97, 98, 99, 100, 101, 102]⟩, .int .u8 c] w fun e w' => e = .returned (.int .i64 (dv c)) ∧ w' = w := by
  have C := hide (liteIndexByte ⟨#[48, 49, 50, 51, 52, 53, 54, 55, 56, 57, 97, 98, 99, 100, 101, 102]⟩ c)
  rw [show (⟨#[48, 49, 50, 51, 52, 53, 54, 55, 56, 57, 97, 98, 99, 100, 101, 102]⟩ : ByteArray).data.toList = [48, 49, 50, 51, 52, 53, 54, 55, 56, 57, 97, 98, 99, 100, 101, 102] from rfl, index_dv c h] at C
  go_enter Tryd.func70, Tryd.ntmps70
  go_wp2_with fail
  refine (unhide C _).mono ?_; rintro e w' ⟨rfl, rfl⟩
  go_wp2
  go_ret
  exact ⟨rfl, rfl⟩

/-- a byte in the making -/
def hc (s : ByteArray) (k m : Nat) : UInt8 :=
  if 2 * m + 1 < k then UInt8.ofNat (16 * dv (at_ s (2 * m)) + dv (at_ s (2 * m + 1))).toNat else if 2 * m < k then UInt8.ofNat (dv (at_ s (2 * m))).toNat else 0
def rowH (s : ByteArray) (k : Nat) : List UInt8 := (List.range (s.size / 2)).map (hc s k)
theorem rowH_length (s : ByteArray) (k : Nat) : (rowH s k).length = s.size / 2 := by simp [rowH]
theorem rowH_zero (s : ByteArray) : rowH s 0 = List.replicate (s.size / 2) 0 := by
  apply List.ext_getElem
  · simp [rowH]
  · intro i h1 h2
    simp [rowH, hc]
theorem hc_full (s : ByteArray) (k m : Nat) (h : 2 * m + 1 < k) : hc s k m = UInt8.ofNat (16 * dv (at_ s (2 * m)) + dv (at_ s (2 * m + 1))).toNat := by unfold hc; rw [if_pos h]
theorem rowH_all (s : ByteArray) : rowH s s.size = vl s (s.size / 2) := by
  have key : ∀ n, n ≤ s.size / 2 → (List.range n).map (hc s s.size) = vl s n := by
    intro n
    induction n with
    | zero => intro _; rfl
    | succ n ih =>
      intro hn
      rw [List.range_succ, List.map_append, ih (by omega), vl]
      simp only [List.map_cons, List.map_nil]
      rw [hc_full s s.size n (by omega)]
  exact key _ (Nat.le_refl _)
theorem rowH_set (s : ByteArray) (k : Nat) (h : k < s.size) (h2 : s.size % 2 = 0) : (Lib.byteCells (rowH s k)).set (k / 2) (.int .u8 ((hc s (k + 1) (k / 2)).toNat : Int)) = Lib.byteCells (rowH s (k + 1)) := by
  unfold Lib.byteCells
  apply List.ext_getElem
  · simp [rowH]
  · intro i h1 h2
    rw [List.getElem_set]
    split
    · rename_i e
      subst e
      simp [rowH]
    · rename_i e
      have : hc s k i = hc s (k + 1) i := by
        unfold hc
        by_cases a : 2 * i + 1 < k
        · rw [if_pos a, if_pos (by omega)]
        · rw [if_neg a, if_neg (show ¬ 2 * i < k by omega), if_neg (show ¬ 2 * i + 1 < k + 1 by omega), if_neg (show ¬ 2 * i < k + 1 by omega)]
      simp [rowH, this]
/-- a digit put behind what is there -/
theorem hc_step (s : ByteArray) (k : Nat) (hG : zg.Good s k) (h1 : 0 ≤ dv (at_ s k)) :
    bits .or .u8 (((hc s k (k / 2)).toNat : Int) * 16 % 256) (dv (at_ s k)) = ((hc s (k + 1) (k / 2)).toNat : Int) := by
  have hb := dv_bd (at_ s k)
  obtain ⟨m, hm⟩ : ∃ m, m = k / 2 := ⟨_, rfl⟩
  rw [← hm]
  by_cases e : k = 2 * m
  · have e1 : hc s k m = 0 := by unfold hc; rw [if_neg (by omega), if_neg (by omega)]
    have e2 : hc s (k + 1) m = UInt8.ofNat (dv (at_ s k)).toNat := by unfold hc; rw [if_neg (by omega), if_pos (by omega), e]
    rw [e1, e2, UInt8.toNat_ofNat']
    have := bits_join .u8 8 (by decide) wraps_u8 4 0 (dv (at_ s k)) (by decide) (by decide) (by decide) h1 (by omega) (by omega)
    simp only [Int.zero_add] at this
    show bits .or .u8 0 (dv (at_ s k)) = _
    rw [this]
    omega
  · have e' : k = 2 * m + 1 := by omega
    have g0 := hG (2 * m) (by omega)
    have g1 := dv_bd (at_ s (2 * m))
    have e1 : hc s k m = UInt8.ofNat (dv (at_ s (2 * m))).toNat := by unfold hc; rw [if_neg (by omega), if_pos (by omega)]
    have e2 : hc s (k + 1) m = UInt8.ofNat (16 * dv (at_ s (2 * m)) + dv (at_ s k)).toNat := by unfold hc; rw [if_pos (by omega), e']
    rw [e1, e2, UInt8.toNat_ofNat', UInt8.toNat_ofNat']
    generalize dv (at_ s (2 * m)) = a at *
    generalize dv (at_ s k) = b at *
    rw [show (((a.toNat % 2 ^ 8 : Nat) : Int) * 16 % 256) = a * 16 by omega]
    rw [bits_join .u8 8 (by decide) wraps_u8 4 (a * 16) b (by omega) (by omega) (by omega) h1 (by omega) (by omega)]
    omega

set_option maxRecDepth 100000 in
set_option maxHeartbeats 2000000 in
theorem implHexBytes (s : ByteArray) (w : World) (hs : s.size ≤ 1048576) :
    Calls Tryd.prog 39 #[.string s] w fun e w' => e = .returned (.tuple #[str (hexB s), .bool (hexOk s)]) ∧ w.grownBy w' none := by
  have tm : (s.size : Int).tmod 2 = ((s.size % 2 : Nat) : Int) := by rw [Int.tmod_eq_emod_of_nonneg (by omega)]; omega
  by_cases h2 : s.size % 2 = 0
  · rw [h2] at tm
    by_cases h6 : s.size ≤ 120000
    · have hb : ¬ (120000 : Int) < (s.size : Int) := by omega
      obtain ⟨i0, hi, hz0, hz1, hz2⟩ := info_parts byt.infoU
      obtain ⟨n, hn⟩ : ∃ n, n = s.size / 2 := ⟨_, rfl⟩
      have td : (s.size : Int).tdiv 2 = (n : Int) := by rw [Int.tdiv_eq_ediv_of_nonneg (by omega)]; omega
      have td' : (s.size : Int) / 2 = (n : Int) := by omega
      have zero : Hid (∀ w' : World, w'.ownsRow w.heap.size 5 1 (.slice (some ⟨w.heap.size, 0, none⟩) n n) n (madeCells #[Value.int .u8 0] n).toList → w'.ownsRow w.heap.size 5 1 (.slice (some ⟨w.heap.size, 0, none⟩) n n) n (Lib.byteCells (rowH s 0))) := by
        intro w' h
        have e : (madeCells #[Value.int .u8 0] n).toList = Lib.byteCells (rowH s 0) := by
          rw [toList_madeCells_one, rowH_zero, hn]
          simp [Lib.byteCells]
        rw [e] at h
        exact h
      have HN := hide hn
      have hn2 : n ≤ 60000 := by omega
      have hn3 : 2 * n = s.size := by omega
      have HN3 := hide hn3
      clear hn hn3
      go_enter Tryd.func39, Tryd.ntmps39
      go_wp2_with (first | (at_make; refine wpList_make_full _ rfl _ _ 22 rfl w.heap.size 5 i0 (.int .u8 0) 1 Tryd.underlying22 hi hz0 hz1 _ _ _ _ n rfl rfl (by rfl) (by rfl) ?b1 ?b2 ?b3 ?_) | go_in)
      case b1 => first | (rw [hz2]; omega) | omega
      case b2 => unfold maxLen; omega
      try (case b3 => exact Nat.le_refl _)
      intro w1 hown hgrow
      have O := hide (unhide zero w1 hown)
      have G := hide hgrow
      clear hown hgrow zero hi hz0 hz1 hz2 i0
      go_wp2
      go_loopw [5, 6, 22] (fun _ _ i wr => ∃ k : Nat, k ≤ s.size ∧ i = .int .i64 k ∧ zg.Good s k ∧ wr.ownsRow w.heap.size 5 1 (.slice (some ⟨w.heap.size, 0, none⟩) n n) n (Lib.byteCells (rowH s k)) ∧ w.grownBy wr none) (fun _ _ i _ => s.size - (intOf i).toNat)
      case atStart => exact ⟨0, Nat.zero_le _, rfl, fun j hj => by omega, unhide O, unhide G⟩
      case round =>
        obtain ⟨k, hk, rfl, hG, hown, hg⟩ := hrel
        clear O G
        by_cases hlt : k < s.size
        · have i0 : (k : Int) < (s.size : Int) := by omega
          have e0 := at_eq s k hlt
          have b0 := at_bd s k
          have C := hide (fun w => indexByte (at_ s k) w b0)
          have N0 := hide (fun h => hexOk_no (s := s) hlt h)
          have G2 := hide (fun (h1 : 0 ≤ dv (at_ s k)) => zg.Good.succ hG h1)
          have ST := hide (fun (h1 : 0 ≤ dv (at_ s k)) => hc_step s k hG h1)
          have v0 := dv_bd (at_ s k)
          obtain ⟨m, hm⟩ : ∃ m, m = k / 2 := ⟨_, rfl⟩
          have RS := rowH_set s k hlt h2
          rw [← hm] at ST RS
          have hmn : m < n := by have := unhide HN3; omega
          have m0 : (k : Int).tdiv 2 = (m : Int) := by rw [Int.tdiv_eq_ediv_of_nonneg (by omega)]; omega
          have m0' : (k : Int) / 2 = (m : Int) := by omega
          have m1 : (m : Int) < (n : Int) := by omega
          have c2 : wr.cell? ⟨w.heap.size, m, none⟩ = some (.int .u8 ((hc s k m).toNat : Int)) := by
            rw [hown.cellAt m (by omega)]
            have : m < s.size / 2 := by rw [← unhide HN]; exact hmn
            simp [Lib.byteCells, rowH, this]
          have c3 : wr.frozen? ⟨w.heap.size, m, none⟩ = false := hown.frozenAt m
          have d2 := (hc s k m).toNat_lt
          generalize hc s (k + 1) m = y at *
          generalize hc s k m = x at *
          have R : Hid ((wr.setCell ⟨w.heap.size, m, none⟩ (.int .u8 (y.toNat : Int))).ownsRow w.heap.size 5 1 (.slice (some ⟨w.heap.size, 0, none⟩) n n) n (Lib.byteCells (rowH s (k + 1))) ∧ w.grownBy (wr.setCell ⟨w.heap.size, m, none⟩ (.int .u8 (y.toNat : Int))) none) := by
            refine ⟨?_, ⟨hg.os, hg.tape, hg.output, by simpa [World.setCell] using hg.size, fun j hj _ => (Below.heap_setCell _ _ _ _ (by show j ≠ w.heap.size; omega)).trans (hg.block j hj (fun e => by cases e))⟩⟩
            rw [← RS]
            exact (hown.stored m _).1
          have HGr := hide hg
          generalize dv (at_ s k) = x0 at *
          generalize at_ s k = c0 at *
          clear hG hown hg RS hm
          by_cases a0 : x0 < 0
          · have N := hide (unhide N0 a0)
            have HX : Hid (hexB s = []) := by show _ = _; unfold zg.hexB; rw [if_neg (by rw [unhide N]; simp)]
            clear N0 G2 ST v0 R
            go_wp2_with fail
            refine (unhide C _).mono ?_; rintro e w' ⟨rfl, rfl⟩
            go_wp2
            go_ret2
            rw [unhide N, unhide HX]
            exact ⟨rfl, unhide HGr⟩
          · have GG := hide (unhide G2 (by omega))
            have ST' := unhide ST (by omega)
            clear N0 G2 ST HGr
            go_wp2_with fail
            refine (unhide C _).mono ?_; rintro e w' ⟨rfl, rfl⟩
            go_wp2
            go_roundw
            case rel => exact ⟨k + 1, by omega, by go_num, unhide GG, (unhide R).1, (unhide R).2⟩
            case measure => simp [intOf]; omega
        · have i0 : ¬ (k : Int) < (s.size : Int) := by omega
          have hk' : k = s.size := by omega
          have hOK := hide (hexOk_yes h2 h6 (by rw [← hk']; exact hG))
          have hX : Hid (hexB s = vl s n) := by
            show _ = _
            unfold zg.hexB
            rw [if_pos (unhide hOK), unhide HN]
          rw [hk', rowH_all, ← unhide HN] at hown
          have B : Byt w.heap.size wr (.slice (some ⟨w.heap.size, 0, none⟩) n n) (vl s n) := by
            have hl := vl_length s n
            have := of_own (lo := w.heap.size) (w := wr) (a := ⟨w.heap.size, 0, none⟩) (cap := n) (l := vl s n) (by rw [hl]; exact hown)
            rw [hl] at this
            exact this
          have CV := run_back wr _ _ _ B
          have G := hide hg
          clear hown hg hG B hk'
          go_wp2
          go_ret2
          rw [unhide hOK, unhide hX]
          exact ⟨rfl, unhide G⟩
    · have hb : (120000 : Int) < (s.size : Int) := by omega
      have hOK := hexOk_size (s := s) (fun h => h6 h.2)
      have hX : hexB s = [] := by unfold zg.hexB; rw [if_neg (by rw [hOK]; simp)]
      rw [hOK, hX]
      clear hOK hX
      go_enter Tryd.func39, Tryd.ntmps39
      go_wp2
      go_ret2
      exact ⟨rfl, grown_refl _⟩
  · have h3 : s.size % 2 = 1 := by omega
    rw [h3] at tm
    have hOK := hexOk_size (s := s) (fun h => h2 h.1)
    have hX : hexB s = [] := by unfold zg.hexB; rw [if_neg (by rw [hOK]; simp)]
    rw [hOK, hX]
    clear hOK hX
    go_enter Tryd.func39, Tryd.ntmps39
    go_wp2
    go_ret2
    exact ⟨rfl, grown_refl _⟩
end Go.Proofs.YtjmjgjlldkpemaaDoor.zh
