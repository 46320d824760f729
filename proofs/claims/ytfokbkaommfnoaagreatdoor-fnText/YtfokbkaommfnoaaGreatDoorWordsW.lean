/- What spec.l01Words answers at every text of at most 2^20 bytes: its words, in memory of its own. -/
import Derived.Test.YtfokbkaommfnoaaGreatDoorNumW
import Derived.Test.YtfokbkaommfnoaaGreatDoorSl
namespace Go.Proofs.YtfokbkaommfnoaaGreatDoor.rd
open Go.ChangeShapes Go.WideShapes Go.ChangeAt Go.RowKit
open Go.Proofs.YtfokbkaommfnoaaGreatDoor.sl (hide unhide grown_refl grown_trans)
set_option linter.unusedVariables false

theorem infoS : (Tryz.prog.info? 9).map (fun i => (i.zero, i.size, i.bytes)) = some (some (.string ⟨#[]⟩), 1, 16) := by kernel_rfl
/-- texts as cells -/
def strs (D : List ByteArray) : List Value := D.map Value.string
/-- v is a slice of texts of the call's own, made since w -/
def MadeS (w w1 : World) (v : Value) (D : List ByteArray) : Prop := w1.ownsRow w.heap.size 9 1 v D.length (strs D) ∧ w.grownBy w1 none
theorem strs_oneCell (D : List ByteArray) : ∀ u ∈ strs D, u.oneCell' = true := by
  intro u hu
  obtain ⟨_, _, rfl⟩ := List.mem_map.1 hu
  rfl
theorem appendS {ops : Array Oper} {rest : List Oper} {o : Oper} {a : Act} {Q : Exit → Act → World → Prop} {w wr : World} {v : Value} {D : List ByteArray} {y : ByteArray}
    (hm : MadeS w wr v D) (hM : D.length ≤ 4194304) (hgd : o.guard = none) (s x : Operand)
    (ho : o.op = .call { callee := .builtin .append, args := #[s, x], argTypes := #[62, 62] }) (hs : a.eval s = v) (hx : a.eval x = .slice (some ⟨wr.heap.size, 0, none⟩) 1 1)
    (h : ∀ v' w1, MadeS w w1 v' (D ++ [y]) → wpList Tryz.prog ops Q rest (a.put o.dst v') w1) :
    wpList Tryz.prog ops Q (o :: rest) a (wr.alloc (.cells #[.string y] 9)) := by
  obtain ⟨i0, hi, hz0, hz1, hz2⟩ := info_parts infoS
  obtain ⟨hown, hg⟩ := hm
  have hsz := hg.size
  refine wpList_append_own _ hgd s x 62 ho w.heap.size 9 i0 (.string ⟨#[]⟩) 1 16 Tryz.underlying62 hi hz0 hz1 hz2 rfl (by decide) v D.length (strs D) hs (hown.alloc _) ⟨wr.heap.size, 0, none⟩ 1 1 [.string y] hx rfl ?_ ?_ ?_ ?_ ?_ ?_
  · intro j u hj
    match j, hj with
    | 0, hj => simp at hj; subst hj; simp [Addr.add]
  · intro u hu
    simp at hu
    subst hu
    rfl
  · unfold maxLen
    omega
  · omega
  · simp
    omega
  · intro v' w1 hown' hgrow _
    refine h v' w1 ⟨?_, ⟨hgrow.os.trans hg.os, hgrow.tape.trans hg.tape, hgrow.output.trans hg.output, ?_, fun k hk _ => ?_⟩⟩
    · have e1 : (D ++ [y]).length = D.length + 1 := by simp
      have e2 : strs (D ++ [y]) = strs D ++ [.string y] := by simp [strs]
      rw [e1, e2]
      exact hown'
    · have h1 := hgrow.size
      simp at h1
      omega
    · rw [hgrow.block k (by simp; omega) (fun e => by have := (hown.lt k e.symm).1; omega), Below.heap_alloc _ _ _ (by omega)]
      exact hg.block k hk (fun e => by cases e)

/-- the scan in the middle -/
def MidS (s : ByteArray) (k f : Nat) (D : List ByteArray) : Prop := D.map bytes = (scan ([], []) ((bytes s).take k)).1 ∧ ((bytes s).take k).drop f = (scan ([], []) ((bytes s).take k)).2 ∧ f ≤ k ∧ D.length ≤ k
theorem midS_blank {s : ByteArray} {k f : Nat} {D : List ByteArray} (h : MidS s k f D) (hk : k < s.size) (hb : s[k] = 32) : MidS s (k + 1) (k + 1) (D ++ [s.extract f k]) := by
  obtain ⟨h1, h2, h3, h4⟩ := h
  have e : scan ([], []) ((bytes s).take (k + 1)) = ((scan ([], []) ((bytes s).take k)).1 ++ [(scan ([], []) ((bytes s).take k)).2], []) := by
    rw [bytes_take s k hk, scan_append, hb]
    rfl
  refine ⟨?_, ?_, Nat.le_refl _, by simp; omega⟩
  · rw [e, List.map_append, h1, List.map_cons, List.map_nil, bytes_extract, h2]
  · rw [e]
    exact List.drop_eq_nil_of_le (by rw [List.length_take]; omega)
theorem midS_other {s : ByteArray} {k f : Nat} {D : List ByteArray} (h : MidS s k f D) (hk : k < s.size) (hb : ¬ s[k] = 32) : MidS s (k + 1) f D := by
  obtain ⟨h1, h2, h3, h4⟩ := h
  have e : scan ([], []) ((bytes s).take (k + 1)) = ((scan ([], []) ((bytes s).take k)).1, (scan ([], []) ((bytes s).take k)).2 ++ [s[k]]) := by
    rw [bytes_take s k hk, scan_append]
    show (if s[k] = 32 then _ else _) = _
    rw [if_neg hb]
  refine ⟨by rw [e]; exact h1, ?_, by omega, by omega⟩
  rw [e, bytes_take s k hk, List.drop_append_of_le_length (by rw [List.length_take, bytes_len]; omega), h2]
theorem midS_end {s : ByteArray} {k f : Nat} {D : List ByteArray} (h : MidS s k f D) (hk : ¬ k < s.size) : (D ++ [s.extract f s.size]).map bytes = words (bytes s) ∧ (D ++ [s.extract f s.size]).length ≤ k + 1 := by
  obtain ⟨h1, h2, h3, h4⟩ := h
  have e : (bytes s).take k = bytes s := List.take_of_length_le (by rw [bytes_len]; omega)
  rw [e] at h1 h2
  refine ⟨?_, by simp; omega⟩
  unfold words
  rw [List.map_append, h1, List.map_cons, List.map_nil, bytes_extract, List.take_of_length_le (by rw [bytes_len]; exact Nat.le_refl _), h2]
theorem byte32 (c : UInt8) : ((c.toNat : Int) == 32) = decide (c = 32) := by
  rw [Bool.eq_iff_iff, beq_iff_eq, decide_eq_true_iff]
  constructor
  · intro h
    apply UInt8.toNat_inj.1
    show c.toNat = 32
    omega
  · intro h
    rw [h]
    rfl

set_option maxHeartbeats 800000 in
set_option maxRecDepth 100000 in
theorem l01Words (s : ByteArray) (w : World) (hmax : s.size ≤ 1048576) :
    Calls Tryz.prog 62 #[.string s] w fun e w' => ∃ u D, e = .returned u ∧ MadeS w w' u D ∧ D.map bytes = words (bytes s) ∧ D.length ≤ 1048577 := by
  have START : MadeS w (w.alloc (.cells #[] 9)) (.slice (some ⟨w.heap.size, 0, none⟩) 0 0) [] :=
    ⟨World.ownsRow_lit w #[] 0 (Nat.le_refl _) (Nat.zero_le _) rfl, World.grownBy_alloc _ _ _⟩
  go_enter Tryz.func62, Tryz.ntmps62
  go_wp2
  go_loopw [3, 4, 5] (fun u f i wr => ∃ (k q : Nat) (D : List ByteArray), k ≤ s.size ∧ i = .int .i64 k ∧ f = .int .i64 q ∧ q ≤ k ∧ D.length ≤ k ∧ MidS s k q D ∧ MadeS w wr u D) (fun _ _ i _ => s.size - (intOf i).toNat)
  case atStart => exact ⟨0, 0, [], Nat.zero_le _, rfl, rfl, Nat.le_refl _, Nat.le_refl _, ⟨rfl, rfl, Nat.le_refl _, Nat.le_refl _⟩, START⟩
  case round =>
    obtain ⟨k, q, D, hk, rfl, rfl, hqk, hDk, hm, hmade⟩ := hrel
    clear START
    by_cases hlt : k < s.size
    · have hi' : (k : Int) < (s.size : Int) := by omega
      have hb := byte32 s[k]
      by_cases h32 : s[k] = 32
      · rw [decide_eq_true h32] at hb
        have M := midS_blank hm hlt h32
        clear hm h32
        go_wp2_with (at_builtin; refine appendS hmade (by omega) rfl _ _ rfl rfl rfl ?_)
        intro v' w1 R
        clear hmade
        go_wp2
        go_roundw
        case rel => exact ⟨k + 1, k + 1, _, by omega, by go_num, by go_num, Nat.le_refl _, by simp; omega, M, R⟩
        case measure => simp [intOf]; omega
      · rw [decide_eq_false h32] at hb
        have M := midS_other hm hlt h32
        clear hm h32
        go_wp2
        go_roundw
        case rel => exact ⟨k + 1, q, D, by omega, by go_num, rfl, by omega, by omega, M, hmade⟩
        case measure => simp [intOf]; omega
    · have hi' : ¬ (k : Int) < (s.size : Int) := by omega
      have E := midS_end hm hlt
      have hkk : k ≤ 1048576 := by omega
      clear hm
      go_wp2_with (at_builtin; refine appendS hmade (by omega) rfl _ _ rfl rfl rfl ?_)
      intro v' w1 R
      clear hmade
      go_wp2
      go_ret
      exact ⟨_, _, rfl, R, E.1, by have := E.2; omega⟩
end Go.Proofs.YtfokbkaommfnoaaGreatDoor.rd
