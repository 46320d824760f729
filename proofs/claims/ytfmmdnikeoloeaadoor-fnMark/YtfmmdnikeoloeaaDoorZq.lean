/- A key's block (keyBlock, l08Key): its bytes and noughts behind them, each together with another byte; no condition but that the key has at most 64 bytes. -/
import Derived.Test.YtfmmdnikeoloeaaDoorZe
import Derived.Lib.BufferWrite
namespace Go.Proofs.YtfmmdnikeoloeaaDoor.zq
open Go.ChangeShapes Go.WideShapes Go.ChangeAt Go.RowKit
open Go.Proofs.YtfmmdnikeoloeaaDoor.sl (hide unhide ret_int ret_bool grown_refl grown_trans grown_drewN)
open Go.Proofs.YtfmmdnikeoloeaaDoor.zb (at_ at_bd at_eq wrap64)
open Go.Proofs.YtfmmdnikeoloeaaDoor.byt (Byt MadeB run_app run_back run_of)
open Go.Proofs.YtfmmdnikeoloeaaDoor.ze (of_own made_nil MadeB.kept wpB appB cell_new one_at bts bts_length)
open Go.Proofs.YtfmmdnikeoloeaaDoor.dec (str)
set_option linter.unusedVariables false

/-- a byte of the key's block -/
def kx (key : ByteArray) (x : Int) (i : Nat) : UInt8 := UInt8.ofNat (bits .xor .u8 (at_ key i) x).toNat
theorem kx_eq (key : ByteArray) (x : Int) (i : Nat) : bits .xor .u8 (at_ key i) x = ((kx key x i).toNat : Int) := by
  unfold kx
  have h : 0 ≤ bits .xor .u8 (at_ key i) x ∧ bits .xor .u8 (at_ key i) x < 256 := by
    unfold bits
    rw [IntKind.wrap_u8]
    omega
  rw [UInt8.toNat_ofNat']
  omega
theorem at_out (key : ByteArray) (i : Nat) (h : ¬ i < key.size) : at_ key i = 0 := by
  unfold zb.at_
  rw [List.getD, List.getElem?_eq_none (by show key.data.size ≤ i; exact Nat.le_of_not_lt h)]
  rfl
def kb (key : ByteArray) (x : Int) : Nat → List UInt8
  | 0 => []
  | i + 1 => kb key x i ++ [kx key x i]
theorem kb_length (key : ByteArray) (x : Int) : ∀ k, (kb key x k).length = k
  | 0 => rfl
  | k + 1 => by rw [kb, List.length_append, kb_length key x k]; rfl

set_option maxRecDepth 100000 in
set_option maxHeartbeats 2000000 in
theorem specKey (key : ByteArray) (x : Int) (w : World) (hk : key.size ≤ 64) (hx : 0 ≤ x ∧ x < 256) :
    Calls Tryd.prog 42 #[.string key, .int .u8 x] w fun e w' => e = .returned (str (kb key x 64)) ∧ w.grownBy w' none := by
  have start := hide (made_nil w)
  clear hx
  go_enter Tryd.func42, Tryd.ntmps42
  go_wp2
  go_loopw [5, 6, 7] (fun u i _ wr => ∃ k : Nat, k ≤ 64 ∧ i = .int .i64 k ∧ MadeB w wr u (kb key x k)) (fun _ i _ _ => 64 - (intOf i).toNat)
  case atStart => exact ⟨0, by omega, rfl, unhide start⟩
  case round =>
    obtain ⟨k, hk', rfl, hm⟩ := hrel
    clear start
    have kl := kb_length key x k
    by_cases hlt : k < 64
    · have i0 : (k : Int) < 64 := by omega
      have E := kx_eq key x k
      have H : Hid (kb key x (k + 1) = kb key x k ++ [kx key x k]) := rfl
      have HL : Hid ((kb key x k).length + 1 ≤ 4194304) := by show _ ≤ _; omega
      have M1 : Hid (MadeB w (wr.alloc (.cells #[.int .u8 (kx key x k).toNat] 5)) _ (kb key x k)) := MadeB.kept hm (World.grownBy_alloc _ _ none)
      have HB := hide (one_at wr (kx key x k))
      by_cases hin : k < key.size
      · have i1 : (k : Int) < (key.size : Int) := by omega
        have e0 := at_eq key k hin
        generalize kx key x k = y at *
        generalize kb key x k = A at *
        generalize at_ key k = c at *
        clear hm kl
        go_wp2_with (at_builtin; refine appB (unhide M1) (unhide HB) (unhide HL) rfl rfl (.tmp 20) (.tmp 24) rfl rfl rfl ?_; intro v2 w2 m2; have M2 := hide m2; clear m2)
        go_roundw
        case rel => exact ⟨k + 1, by omega, by go_num, by rw [unhide H]; exact unhide M2⟩
        case measure => simp [intOf]; omega
      · have i1 : ¬ (k : Int) < (key.size : Int) := by omega
        rw [at_out key k hin] at E
        generalize kx key x k = y at *
        generalize kb key x k = A at *
        clear hm kl
        go_wp2_with (at_builtin; refine appB (unhide M1) (unhide HB) (unhide HL) rfl rfl (.tmp 20) (.tmp 24) rfl rfl rfl ?_; intro v2 w2 m2; have M2 := hide m2; clear m2)
        go_roundw
        case rel => exact ⟨k + 1, by omega, by go_num, by rw [unhide H]; exact unhide M2⟩
        case measure => simp [intOf]; omega
    · have i0 : ¬ (k : Int) < 64 := by omega
      have hk2 : k = 64 := by omega
      subst hk2
      obtain ⟨g, cap, e⟩ := hm.1.form
      have CV := run_back wr _ _ _ hm.1
      rw [e] at CV
      unfold dec.str at CV
      have G := hide hm.2
      clear hm kl
      go_wp2
      go_ret
      exact ⟨rfl, unhide G⟩

/-- a variable of bytes -/
def Bb (w : World) (b : Nat) (L : List UInt8) : Prop := w.heap[b]? = some (.cells (Lib.byteCells L).toArray 69 (0, 0))
theorem Bb.cell {w : World} {b : Nat} {L : List UInt8} (h : Bb w b L) (j : Nat) (hj : j < L.length) : w.cell? ⟨b, j, none⟩ = some (.int .u8 ((L[j]).toNat : Int)) := by
  unfold Bb at h
  simp only [World.cell?, h]
  show (Lib.byteCells L).toArray[j]? = _
  rw [List.getElem?_toArray, Lib.byteCells, List.getElem?_map, List.getElem?_eq_getElem hj]
  rfl
theorem Bb.frozen {w : World} {b : Nat} {L : List UInt8} (h : Bb w b L) (j : Nat) : w.frozen? ⟨b, j, none⟩ = false := by
  unfold Bb at h
  simp [World.frozen?, h]
theorem Bb.set {w : World} {b : Nat} {L M : List UInt8} (h : Bb w b L) (j : Nat) (x : UInt8) (hM : M = L.set j x) : Bb (w.setCell ⟨b, j, none⟩ (.int .u8 (x.toNat : Int))) b M := by
  unfold Bb at *
  have e : Lib.byteCells M = (Lib.byteCells L).set j (.int .u8 (x.toNat : Int)) := by rw [hM]; simp [Lib.byteCells, List.map_set]
  rw [e]
  simp [World.setCell, Array.getElem?_modify, h]
def ka (key : ByteArray) (i : Nat) : UInt8 := key.data.toList.getD i 0
/-- the key's block, its first k bytes put together with x -/
def rk (key : ByteArray) (x : Int) (k : Nat) : List UInt8 := (List.range 64).map fun i => if i < k then kx key x i else ka key i
theorem rk_length (key : ByteArray) (x : Int) (k : Nat) : (rk key x k).length = 64 := by simp [rk]
theorem rk_at (key : ByteArray) (x : Int) (k : Nat) (h : k < 64) : (rk key x k)[k]'(by rw [rk_length]; exact h) = ka key k := by simp [rk]
theorem rk_set (key : ByteArray) (x : Int) (k : Nat) (h : k < 64) : rk key x (k + 1) = (rk key x k).set k (kx key x k) := by
  apply List.ext_getElem
  · simp [rk]
  · intro i h1 h2
    rw [List.getElem_set]
    split
    · rename_i e
      subst e
      simp [rk]
    · rename_i e
      have : (i < k + 1) = (i < k) := by apply propext; omega
      simp [rk, this]
theorem rk_all (key : ByteArray) (x : Int) : rk key x 64 = kb key x 64 := by
  have key' : ∀ n, n ≤ 64 → (List.range n).map (fun i => if i < 64 then kx key x i else ka key i) = kb key x n := by
    intro n
    induction n with
    | zero => intro _; rfl
    | succ n ih =>
      intro hn
      rw [List.range_succ, List.map_append, ih (by omega), kb]
      simp only [List.map_cons, List.map_nil]
      rw [if_pos (by omega)]
  exact key' 64 (Nat.le_refl _)
theorem rk_zero (key : ByteArray) (x : Int) (h : key.size ≤ 64) : rk key x 0 = bts key ++ List.replicate (64 - key.size) 0 := by
  have hl := bts_length key
  apply List.ext_getElem
  · simp [rk, hl]
    omega
  · intro i h1 h2
    have hi : i < 64 := by rw [rk_length] at h1; exact h1
    refine (show (rk key x 0)[i]'h1 = ka key i by simp [rk]).trans ?_
    unfold ka
    by_cases hin : i < key.size
    · rw [List.getElem_append_left (by rw [hl]; exact hin), List.getD, List.getElem?_eq_getElem (show i < key.data.toList.length from by show i < (bts key).length; rw [hl]; exact hin)]
      rfl
    · rw [List.getElem_append_right (by rw [hl]; omega), List.getElem_replicate, List.getD, List.getElem?_eq_none (by show (bts key).length ≤ i; rw [hl]; omega)]
      rfl
theorem infoB : (Tryd.prog.info? 5).map (·.size) = some 1 := by kernel_rfl
set_option maxRecDepth 100000 in
theorem copy_key (key : ByteArray) (x : Int) (w : World) (h : key.size ≤ 64) : ∃ W1, (Builtin.copy_ #[22, 9] 3 #[.slice (some ⟨w.heap.size, 0, none⟩) 64 64, .string key]).run Tryd.prog (w.alloc (.cells #[.int .u8 0, .int .u8 0, .int .u8 0, .int .u8 0, .int .u8 0, .int .u8 0, .int .u8 0, .int .u8 0, .int .u8 0, .int .u8 0, .int .u8 0, .int .u8 0, .int .u8 0, .int .u8 0, .int .u8 0, .int .u8 0, .int .u8 0, .int .u8 0, .int .u8 0, .int .u8 0, .int .u8 0, .int .u8 0, .int .u8 0, .int .u8 0, .int .u8 0, .int .u8 0, .int .u8 0, .int .u8 0, .int .u8 0, .int .u8 0, .int .u8 0, .int .u8 0, .int .u8 0, .int .u8 0, .int .u8 0, .int .u8 0, .int .u8 0, .int .u8 0, .int .u8 0, .int .u8 0, .int .u8 0, .int .u8 0, .int .u8 0, .int .u8 0, .int .u8 0, .int .u8 0, .int .u8 0, .int .u8 0, .int .u8 0, .int .u8 0, .int .u8 0, .int .u8 0, .int .u8 0, .int .u8 0, .int .u8 0, .int .u8 0, .int .u8 0, .int .u8 0, .int .u8 0, .int .u8 0, .int .u8 0, .int .u8 0, .int .u8 0, .int .u8 0] 69)) = .ok (.int .i64 (key.size : Int)) W1 ∧ Bb W1 w.heap.size (rk key x 0) ∧ w.grownBy W1 none := by
  have hg := Go.heap_alloc_new w (.cells #[.int .u8 0, .int .u8 0, .int .u8 0, .int .u8 0, .int .u8 0, .int .u8 0, .int .u8 0, .int .u8 0, .int .u8 0, .int .u8 0, .int .u8 0, .int .u8 0, .int .u8 0, .int .u8 0, .int .u8 0, .int .u8 0, .int .u8 0, .int .u8 0, .int .u8 0, .int .u8 0, .int .u8 0, .int .u8 0, .int .u8 0, .int .u8 0, .int .u8 0, .int .u8 0, .int .u8 0, .int .u8 0, .int .u8 0, .int .u8 0, .int .u8 0, .int .u8 0, .int .u8 0, .int .u8 0, .int .u8 0, .int .u8 0, .int .u8 0, .int .u8 0, .int .u8 0, .int .u8 0, .int .u8 0, .int .u8 0, .int .u8 0, .int .u8 0, .int .u8 0, .int .u8 0, .int .u8 0, .int .u8 0, .int .u8 0, .int .u8 0, .int .u8 0, .int .u8 0, .int .u8 0, .int .u8 0, .int .u8 0, .int .u8 0, .int .u8 0, .int .u8 0, .int .u8 0, .int .u8 0, .int .u8 0, .int .u8 0, .int .u8 0, .int .u8 0] 69)
  have hr := Lib.run_copy_row_string (P := Tryd.prog) (w.alloc (.cells #[.int .u8 0, .int .u8 0, .int .u8 0, .int .u8 0, .int .u8 0, .int .u8 0, .int .u8 0, .int .u8 0, .int .u8 0, .int .u8 0, .int .u8 0, .int .u8 0, .int .u8 0, .int .u8 0, .int .u8 0, .int .u8 0, .int .u8 0, .int .u8 0, .int .u8 0, .int .u8 0, .int .u8 0, .int .u8 0, .int .u8 0, .int .u8 0, .int .u8 0, .int .u8 0, .int .u8 0, .int .u8 0, .int .u8 0, .int .u8 0, .int .u8 0, .int .u8 0, .int .u8 0, .int .u8 0, .int .u8 0, .int .u8 0, .int .u8 0, .int .u8 0, .int .u8 0, .int .u8 0, .int .u8 0, .int .u8 0, .int .u8 0, .int .u8 0, .int .u8 0, .int .u8 0, .int .u8 0, .int .u8 0, .int .u8 0, .int .u8 0, .int .u8 0, .int .u8 0, .int .u8 0, .int .u8 0, .int .u8 0, .int .u8 0, .int .u8 0, .int .u8 0, .int .u8 0, .int .u8 0, .int .u8 0, .int .u8 0, .int .u8 0, .int .u8 0] 69)) 22 9 3 5 w.heap.size 0 64 64 key _ _ Tryd.underlying22 infoB hg h (by simpa using h)
  refine ⟨_, hr, ?_, ?_⟩
  · unfold Bb
    rw [setRow_heap _ _ _ _ _ _ hg, rk_zero key x h]
    have e0 : (#[.int .u8 0, .int .u8 0, .int .u8 0, .int .u8 0, .int .u8 0, .int .u8 0, .int .u8 0, .int .u8 0, .int .u8 0, .int .u8 0, .int .u8 0, .int .u8 0, .int .u8 0, .int .u8 0, .int .u8 0, .int .u8 0, .int .u8 0, .int .u8 0, .int .u8 0, .int .u8 0, .int .u8 0, .int .u8 0, .int .u8 0, .int .u8 0, .int .u8 0, .int .u8 0, .int .u8 0, .int .u8 0, .int .u8 0, .int .u8 0, .int .u8 0, .int .u8 0, .int .u8 0, .int .u8 0, .int .u8 0, .int .u8 0, .int .u8 0, .int .u8 0, .int .u8 0, .int .u8 0, .int .u8 0, .int .u8 0, .int .u8 0, .int .u8 0, .int .u8 0, .int .u8 0, .int .u8 0, .int .u8 0, .int .u8 0, .int .u8 0, .int .u8 0, .int .u8 0, .int .u8 0, .int .u8 0, .int .u8 0, .int .u8 0, .int .u8 0, .int .u8 0, .int .u8 0, .int .u8 0, .int .u8 0, .int .u8 0, .int .u8 0, .int .u8 0] : Array Value).toList = List.replicate 64 (Value.int .u8 0) := rfl
    have e1 : Lib.byteCells (List.replicate (64 - key.size) 0) = List.replicate (64 - key.size) (Value.int .u8 0) := by simp [Lib.byteCells]
    rw [e0, Lib.byteCells_append, e1, List.take_zero, List.nil_append, Nat.zero_add, List.drop_replicate]
    rfl
  · exact ⟨rfl, rfl, rfl, by simp, fun j hj _ => (setRow_other _ _ _ _ (by omega)).trans (Go.heap_alloc_old w _ hj)⟩

set_option maxRecDepth 100000 in
set_option maxHeartbeats 2000000 in
theorem implKey (key : ByteArray) (x : Int) (w : World) (hk : key.size ≤ 64) (hx : 0 ≤ x ∧ x < 256) :
    Calls Tryd.prog 41 #[.string key, .int .u8 x] w fun e w' => e = .returned (str (kb key x 64)) ∧ w.grownBy w' none := by
  clear hx
  obtain ⟨W1, hr, hB, hg⟩ := copy_key key x w hk
  have B1 := hide hB
  have G1 := hide hg
  clear hB hg
  go_enter Tryd.func41, Tryd.ntmps41
  go_wp2_with fail
  go_loopw [6, 10] (fun _ t wr => ∃ k : Nat, k ≤ 64 ∧ t = .int .i64 k ∧ Bb wr w.heap.size (rk key x k) ∧ w.grownBy wr none) (fun _ t _ => 64 - (intOf t).toNat)
  case atStart => exact ⟨0, by omega, rfl, unhide B1, unhide G1⟩
  case round =>
    obtain ⟨k, hk', rfl, hB, hg⟩ := hrel
    clear B1 G1 hr
    have kl := rk_length key x k
    by_cases hlt : k < 64
    · have i0 : (k : Int) < 64 := by omega
      have E := kx_eq key x k
      have c0 := hB.cell k (by omega)
      rw [rk_at key x k hlt, show ((ka key k).toNat : Int) = at_ key k from rfl] at c0
      have c1 := hB.frozen k
      have R : Hid (Bb (wr.setCell ⟨w.heap.size, k, none⟩ (.int .u8 ((kx key x k).toNat : Int))) w.heap.size (rk key x (k + 1)) ∧ w.grownBy (wr.setCell ⟨w.heap.size, k, none⟩ (.int .u8 ((kx key x k).toNat : Int))) none) :=
        ⟨hB.set k _ (rk_set key x k hlt), ⟨hg.os, hg.tape, hg.output, by simpa [World.setCell] using hg.size, fun j hj _ => (Below.heap_setCell _ _ _ _ (by show j ≠ w.heap.size; omega)).trans (hg.block j hj (fun e => by cases e))⟩⟩
      generalize kx key x k = y at *
      generalize at_ key k = c at *
      clear hB hg kl
      go_wp2_with fail
      go_roundw
      case rel => exact ⟨k + 1, by omega, by go_num, (unhide R).1, (unhide R).2⟩
      case measure => simp [intOf]; omega
    · have i0 : ¬ (k : Int) < 64 := by omega
      have hk2 : k = 64 := by omega
      subst hk2
      rw [rk_all] at hB
      have CV : (convert 22 9 (.slice (some ⟨w.heap.size, 0, none⟩) 64 64)).run Tryd.prog wr = .ok (str (kb key x 64)) wr := by
        have kl2 := kb_length key x 64
        have := run_convert_bytes_back (P := Tryd.prog) wr 22 9 5 ⟨w.heap.size, 0, none⟩ 64 (kb key x 64) Tryd.underlying22 Tryd.underlying5 Tryd.underlying9 (fun j hj => by
          rw [Addr.add_lit, Nat.zero_add]
          exact hB.cell j hj)
        rw [kl2] at this
        exact this
      unfold dec.str at CV
      have G := hide hg
      clear hB hg kl
      go_wp2_with fail
      go_ret
      exact ⟨rfl, unhide G⟩
end Go.Proofs.YtfmmdnikeoloeaaDoor.zq
