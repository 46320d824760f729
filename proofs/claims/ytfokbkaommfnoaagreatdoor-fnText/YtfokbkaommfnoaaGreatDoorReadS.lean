/- What ReadClause of the model answers at every text of at most 2^20 bytes. -/
import Derived.Test.YtfokbkaommfnoaaGreatDoorNs
import Derived.Test.YtfokbkaommfnoaaGreatDoorWordsW
import Derived.Test.YtfokbkaommfnoaaGreatDoorHw
import Derived.Test.YtfokbkaommfnoaaGreatDoorTxtW
import Derived.Test.YtfokbkaommfnoaaGreatDoorMn
namespace Go.Proofs.YtfokbkaommfnoaaGreatDoor.rd
open Go.ChangeShapes Go.WideShapes Go.ChangeAt Go.RowKit
open Go.Proofs.YtfokbkaommfnoaaGreatDoor.lits (okB okB_iff okB_yes)
open Go.Proofs.YtfokbkaommfnoaaGreatDoor.cls (okAll)
open Go.Proofs.YtfokbkaommfnoaaGreatDoor.dec (str)
open Go.Proofs.YtfokbkaommfnoaaGreatDoor.wo (Made)
open Go.Proofs.YtfokbkaommfnoaaGreatDoor.mn (made_nil made_trans)
open Go.Proofs.YtfokbkaommfnoaaGreatDoor.sl (hide unhide grown_refl grown_trans of_below below_of ints)
set_option linter.unusedVariables false

/-- 'out = append(out, y)' beside a slice of texts -/
theorem appendB {ops : Array Oper} {rest : List Oper} {o : Oper} {a : Act} {Q : Exit → Act → World → Prop} {w wr : World} {v u : Value} {M : List Int} {y : Int} {bD : Nat} {D : List ByteArray}
    (hm : Made w wr v M) (hD : wr.ownsRow bD 9 1 u D.length (strs D)) (hM : M.length ≤ 4194304) (hgd : o.guard = none) (s x : Operand)
    (ho : o.op = .call { callee := .builtin .append, args := #[s, x], argTypes := #[49, 49] }) (hs : a.eval s = v) (hx : a.eval x = .slice (some ⟨wr.heap.size, 0, none⟩) 1 1)
    (h : ∀ v' w1, Made w w1 v' (M ++ [y]) → w1.ownsRow bD 9 1 u D.length (strs D) → wpList Tryz.prog ops Q rest (a.put o.dst v') w1) :
    wpList Tryz.prog ops Q (o :: rest) a (wr.alloc (.cells #[.int .i64 y] 3)) := by
  obtain ⟨i0, hi, hz0, hz1, hz2⟩ := info_parts sl.info3
  obtain ⟨hown, hg⟩ := hm
  have hsz := hg.size
  refine wpList_append_own _ hgd s x 49 ho w.heap.size 3 i0 (.int .i64 0) 1 8 Tryz.underlying49 hi hz0 hz1 hz2 rfl (by decide) v M.length (ints M) hs (hown.alloc _) ⟨wr.heap.size, 0, none⟩ 1 1 [.int .i64 y] hx rfl ?_ ?_ ?_ ?_ ?_ ?_
  · intro j u hj
    match j, hj with
    | 0, hj => simp at hj; subst hj; simp [Addr.add]
  · intro u hu
    simp at hu
    subst hu
    rfl
  · unfold maxLen
    omega
  · omega
  · simp
    omega
  · intro v' w1 hown' hgrow _
    exact h v' w1 (wo.own_grow hg hown hown' hgrow) ((hD.alloc _).kept hgrow (apart_types (hown.alloc (.cells #[.int .i64 y] 3)) (hD.alloc _) (by decide)))

/-- what has been read, as far as the text is a clause's -/
def Part (s : List UInt8) (k : Nat) (M : List Int) : Prop := M.length = k ∧ ∀ L, read s = some L → M = L.take k
theorem words_of {s : List UInt8} {L : List Int} (h : read s = some L) : words s = L.map Lib.itoa ++ [[48]] := by
  have r := read_sound h
  rw [← r.2, txt.text_yes r.1]
  exact words_body L
theorem word_of {s : List UInt8} {L : List Int} {D : List ByteArray} (h : read s = some L) (hD : D.map bytes = words s) : D.length = L.length + 1 ∧ ∀ k (hk : k < D.length), k + 1 < D.length → num (bytes D[k]) = (L.getD k 0, true) := by
  rw [words_of h] at hD
  have hl : D.length = L.length + 1 := by
    have := congrArg List.length hD
    simpa using this
  refine ⟨hl, fun k hk hk1 => ?_⟩
  have hkL : k < L.length := by omega
  have e : (D.map bytes)[k]? = some (Lib.itoa L[k]) := by
    rw [hD, List.getElem?_append_left (by simpa using hkL)]
    simp [hkL]
  have e2 : bytes D[k] = Lib.itoa L[k] := by
    rw [List.getElem?_map, List.getElem?_eq_getElem hk] at e
    exact Option.some.inj e
  have hok := (read_sound h).1
  unfold okAll at hok
  rw [Bool.and_eq_true] at hok
  have hx := okB_iff.1 (List.all_eq_true.1 hok.1 _ (List.getElem_mem hkL))
  rw [e2, num_itoa (by omega) (by omega), show L.getD k 0 = L[k] by simp [hkL]]
theorem part_stop {s : List UInt8} {D : List ByteArray} {k : Nat} (hD : D.map bytes = words s) (hk : k < D.length) (hk1 : k + 1 < D.length) (hb : (num (bytes D[k])).2 = false) : readL s = [] ∧ readB s = false := by
  cases h : read s with
  | none => unfold readL readB; rw [h]; exact ⟨rfl, rfl⟩
  | some L =>
    have := (word_of h hD).2 k hk hk1
    rw [this] at hb
    cases hb
theorem part_step {s : List UInt8} {D : List ByteArray} {k : Nat} {M : List Int} (hp : Part s k M) (hD : D.map bytes = words s) (hk : k < D.length) (hk1 : k + 1 < D.length) : Part s (k + 1) (M ++ [(num (bytes D[k])).1]) := by
  refine ⟨by rw [List.length_append, hp.1]; rfl, fun L h => ?_⟩
  have h1 := word_of h hD
  have h2 := h1.2 k hk hk1
  have hkL : k < L.length := by omega
  rw [hp.2 L h, h2, List.take_succ_eq_append_getElem hkL, show L.getD k 0 = L[k] by simp [hkL]]
theorem part_long {s : List UInt8} {D : List ByteArray} (hD : D.map bytes = words s) (hl : 49 < D.length) : readL s = [] ∧ readB s = false := by
  cases h : read s with
  | none => unfold readL readB; rw [h]; exact ⟨rfl, rfl⟩
  | some L =>
    have h1 := (word_of h hD).1
    have h2 := mn.okAll_len (read_sound h).1
    omega
theorem part_yes {s : List UInt8} {D : List ByteArray} {k : Nat} {M : List Int} (hp : Part s k M) (hD : D.map bytes = words s) (hk : k + 1 = D.length) (ht : txt.text M = s) : readL s = M ∧ readB s = true := by
  have hok : okAll M = true := by
    cases h : okAll M with
    | true => rfl
    | false =>
      rw [txt.text_no h] at ht
      have hw : words s = [[]] := by rw [← ht]; rfl
      rw [hw] at hD
      have h1 := congrArg List.length hD
      rw [List.length_map] at h1
      have h2 : M = [] := List.eq_nil_of_length_eq_zero (by rw [hp.1]; simp at h1; omega)
      rw [h2] at h
      cases h
  have r := read_full hok
  rw [ht] at r
  unfold readL readB
  rw [r]
  exact ⟨rfl, rfl⟩
theorem part_no {s : List UInt8} {D : List ByteArray} {k : Nat} {M : List Int} (hp : Part s k M) (hD : D.map bytes = words s) (hk : k + 1 = D.length) (ht : ¬ txt.text M = s) : readL s = [] ∧ readB s = false := by
  cases h : read s with
  | none => unfold readL readB; rw [h]; exact ⟨rfl, rfl⟩
  | some L =>
    have h1 := (word_of h hD).1
    have h2 := hp.2 L h
    rw [List.take_of_length_le (by omega)] at h2
    rw [h2] at ht
    exact absurd (read_sound h).2 ht

set_option maxHeartbeats 1600000 in
set_option maxRecDepth 100000 in
theorem specReadClause (s : ByteArray) (w : World) (hs : s.size ≤ 1048576) :
    Calls Tryz.prog 35 #[.string s] w fun e w' => ∃ u, e = .returned (.tuple #[u, .bool (readB (bytes s))]) ∧ Made w w' u (readL (bytes s)) := by
  have START := made_nil w
  have CW := hide (l01Words s (w.alloc (.cells #[] 3)) hs)
  go_enter Tryz.func35, Tryz.ntmps35
  go_wp2_with fail
  refine (unhide CW).mono ?_; rintro e w1 ⟨u, D, rfl, hmD, hD, hDl⟩
  clear CW
  have hD1 : 1 ≤ D.length := by
    have := words_pos (bytes s)
    rw [← hD, List.length_map] at this
    exact this
  have hm1 : Made w w1 (.slice (some ⟨w.heap.size, 0, none⟩) 0 0) [] := ⟨(START.1).kept hmD.2 (.inr (fun e => by cases e)), grown_trans (r := none) START.2 hmD.2⟩
  obtain ⟨g, cap, rfl⟩ : ∃ g cap, u = .slice (some ⟨g, 0, none⟩) D.length cap := by
    cases hmD.1.2 with
    | inl h => exact absurd h.2 (by omega)
    | inr h => obtain ⟨g, cap, cur, hv, _⟩ := h; exact ⟨g, cap, hv⟩
  have hoD := hmD.1
  clear START hmD
  generalize (w.alloc (.cells #[] 3)).heap.size = bD at hoD
  by_cases h49 : 49 < D.length
  · have E := part_long hD h49
    have hi : (49 : Int) < (D.length : Int) := by omega
    clear hD hoD
    go_wp2_with fail
    go_ret2
    exact ⟨_, by rw [E.2]; rfl, by rw [E.1]; exact hm1⟩
  · have hi : ¬ (49 : Int) < (D.length : Int) := by omega
    have HD := hide hD
    clear hD
    go_wp2_with fail
    go_loopw [4, 6] (fun c i wr => ∃ (k : Nat) (M : List Int), k + 1 ≤ D.length ∧ i = .int .i64 k ∧ M.length = k ∧ Hid (Part (bytes s) k M) ∧ Made w wr c M ∧ wr.ownsRow bD 9 1 (.slice (some ⟨g, 0, none⟩) D.length cap) D.length (strs D)) (fun _ i _ => D.length - (intOf i).toNat)
    case atStart => exact ⟨0, [], hD1, rfl, rfl, ⟨rfl, fun L _ => rfl⟩, hm1, hoD⟩
    case round =>
      obtain ⟨k, M, hk, rfl, hMk, hp, hmade, hoDr⟩ := hrel
      clear hm1 hoD
      by_cases hlt : k + 1 < D.length
      · have hkD : k < D.length := by omega
        have hi' : (k : Int) < (D.length : Int) - 1 := by omega
        have hi2 : (k : Int) < (D.length : Int) := by omega
        have c1 : wr.cell? ⟨g, k, none⟩ = some (.string D[k]) := by
          rw [hoDr.cellAt k (by omega)]
          simp [strs, hkD]
        have hsz : D[k].size ≤ 1048576 := by
          have h1 : bytes D[k] ∈ words (bytes s) := by
            rw [← unhide HD]
            exact List.mem_map_of_mem (List.getElem_mem hkD)
          have h2 := words_len _ _ h1
          rw [bytes_len, bytes_len] at h2
          omega
        have CN := l01Num D[k] wr hsz
        have ps := part_stop (unhide HD) hkD hlt
        have pt := part_step (unhide hp) (unhide HD) hkD hlt
        clear hsz
        generalize D[k] = wd at *
        generalize (num (bytes wd)).1 = nv at *
        cases hb : (num (bytes wd)).2
        · rw [hb] at CN
          have E := ps hb
          have CC := hide CN
          clear ps pt hp hb CN HD
          go_wp2_with fail
          refine (unhide CC).mono ?_; rintro e w2 ⟨rfl, hw⟩; have hw' := hw.symm; clear hw; subst hw'
          clear CC
          go_wp2_with fail
          go_ret2
          exact ⟨_, by rw [E.2]; rfl, by rw [E.1]; exact made_trans (made_nil _) hmade.2⟩
        · rw [hb] at CN
          have P := hide pt
          have CC := hide CN
          clear ps pt hp hb CN HD
          go_wp2_with fail
          refine (unhide CC).mono ?_; rintro e w2 ⟨rfl, hw⟩; have hw' := hw.symm; clear hw; subst hw'
          clear CC
          go_wp2_with (at_builtin; refine appendB hmade hoDr (by omega) rfl _ _ rfl rfl rfl ?_)
          intro v' w3 R hoD3
          clear hmade hoDr
          go_wp2
          go_roundw
          case rel => exact ⟨k + 1, M ++ [nv], by omega, by go_num, by rw [List.length_append, hMk]; rfl, P, R, hoD3⟩
          case measure => simp [intOf]; omega
      · have hke : k + 1 = D.length := by omega
        have hi' : ¬ (k : Int) < (D.length : Int) - 1 := by omega
        have CT := hide (txt.specClauseText _ M wr (by omega) (sl.Sl.of_own hmade.1))
        by_cases ht : txt.text M = bytes s
        · have E := part_yes (unhide hp) (unhide HD) hke ht
          have hq : (txt.text M == s.toList) = true := by rw [toList_bytes, ht]; simp
          clear hp HD ht hke
          generalize txt.text M = q at *
          unfold str at CT
          go_wp2_with fail
          refine (unhide CT).mono ?_; rintro e w2 ⟨rfl, hw⟩; have hw' := hw.symm; clear hw; subst hw'
          clear CT
          go_wp2_with fail
          go_ret2
          exact ⟨_, by rw [E.2]; rfl, by rw [E.1]; exact hmade⟩
        · have E := part_no (unhide hp) (unhide HD) hke ht
          have hq : (txt.text M == s.toList) = false := by rw [toList_bytes]; simpa using ht
          clear hp HD ht hke
          generalize txt.text M = q at *
          unfold str at CT
          go_wp2_with fail
          refine (unhide CT).mono ?_; rintro e w2 ⟨rfl, hw⟩; have hw' := hw.symm; clear hw; subst hw'
          clear CT
          go_wp2_with fail
          go_ret2
          exact ⟨_, by rw [E.2]; rfl, by rw [E.1]; exact made_trans (made_nil _) hmade.2⟩
end Go.Proofs.YtfokbkaommfnoaaGreatDoor.rd
