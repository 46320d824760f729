/- Clauses as words of bits: what setsOf and meetsAll answer at every formula that holds at most 2^20 values; no other condition. -/
import Derived.Test.YtfhmdpbnnieohaaDoorJPn
import Derived.Test.YtfhmdpbnnieohaaDoorJPc
namespace Go.Proofs.YtfhmdpbnnieohaaDoor.su
open Go.ChangeShapes Go.WideShapes Go.ChangeAt Go.RowKit
open sl (Sl Own ints hide unhide ret_int ret_bool grown_refl grown_trans grown_drewN below_of of_below)
open css (Sls tot)
open bset (setOf)
set_option linter.unusedVariables false
theorem infoU : (Tryd.prog.info? 75).map (fun i => (i.zero, i.size, i.bytes)) = some (some (.int .u64 0), 1, 8) := by kernel_rfl
def words (S : List Nat) : List Value := S.map fun (s : Nat) => Value.int .u64 (s : Int)
def MadeU (w w1 : World) (v : Value) (S : List Nat) : Prop := w1.ownsRow w.heap.size 75 1 v S.length (words S) ∧ w.grownBy w1 none
theorem appendU {ops : Array Oper} {rest : List Oper} {o : Oper} {a : Act} {Q : Exit → Act → World → Prop} {w wr : World} {v : Value} {S : List Nat} {s : Nat}
  (hm : MadeU w wr v S) (hS : S.length ≤ 4194304) (hgd : o.guard = none) (p x : Operand)
  (ho : o.op = .call { callee := .builtin .append, args := #[p, x], argTypes := #[69, 69] }) (hs : a.eval p = v) (hx : a.eval x = .slice (some ⟨wr.heap.size, 0, none⟩) 1 1)
  (h : ∀ v' w1, MadeU w w1 v' (S ++ [s]) → wpList Tryd.prog ops Q rest (a.put o.dst v') w1) :
  wpList Tryd.prog ops Q (o :: rest) a (wr.alloc (.cells #[.int .u64 (s : Int)] 75)) := by
 obtain ⟨i0, hi, hz0, hz1, hz2⟩ := info_parts infoU
 obtain ⟨hown, hg⟩ := hm
 have hsz := hg.size
 refine wpList_append_own _ hgd p x 69 ho w.heap.size 75 i0 (.int .u64 0) 1 8 Tryd.underlying69 hi hz0 hz1 hz2 rfl (by decide) v S.length (words S) hs (hown.alloc _) ⟨wr.heap.size, 0, none⟩ 1 1 [.int .u64 (s : Int)] hx rfl ?_ ?_ ?_ ?_ ?_ ?_
 ·intro j u hj
  match j, hj with
  | 0, hj => simp at hj; subst hj; simp [Addr.add]
 ·intro u hu
  simp at hu
  subst hu
  rfl
 ·unfold maxLen
  omega
 ·omega
 ·simp
  omega
 ·intro v' w1 hown' hgrow _
  refine h v' w1 ⟨?_, app.grown_app hg hown hgrow⟩
  rw [List.length_append]
  have e : words (S ++ [s]) = words S ++ [.int .u64 (s : Int)] := by simp [words]
  rw [e]
  exact hown'
set_option maxHeartbeats 800000 in
theorem setsOf (v : Value) (LL : List (List Int)) (w : World) (hn : tot LL ≤ 1048576) (hv : Sls w v LL) :
  Calls Tryd.prog 35 #[v] w fun e w' => ∃ u, e = .returned u ∧ MadeU w w' u (LL.map setOf) := by
 have hl := Nat.le_trans (css.tot_len LL) hn
 obtain ⟨a, cap, rfl, ha⟩ := hv
 obtain ⟨i0, hi, hz0, hz1, hz2⟩ := info_parts infoU
 have HA := hide ha
 clear ha
 go_enter Tryd.func35, Tryd.ntmps35
 go_wp2_with (first | (at_make; refine wpList_make_own _ rfl _ _ 69 rfl w.heap.size 75 i0 (.int .u64 0) 1 Tryd.underlying69 hi hz0 hz1 _ _ _ LL.length rfl rfl (by rfl) ?b1 ?b2 ?b3 ?_) | go_in)
 case b1 => rw [hz2]; omega
 case b2 => unfold maxLen; omega
 case b3 => exact Nat.le_refl _
 intro w1 hown hgrow
 have st : Hid (MadeU w w1 _ []) := ⟨hown, hgrow⟩
 clear hown hgrow
 go_wp2
 go_loopw [3, 11] (fun u i wr => ∃ k : Nat, k ≤ LL.length ∧ i = .int .i64 k ∧ Hid (MadeU w wr u ((LL.take k).map setOf))) (fun _ i _ => LL.length - (intOf i).toNat)
 case atStart => exact ⟨0, Nat.zero_le _, rfl, st⟩
 case round =>
  obtain ⟨k, hk, rfl, hm⟩ := hrel
  clear st
  by_cases hlt : k < LL.length
  ·rcases unhide HA with h | ⟨b, off, rfl, hb, hcb⟩
   ·rw [h] at hlt
    simp at hlt
   ·obtain ⟨u, hu, hs⟩ := hcb k hlt
    have hg := (unhide hm).2
    have c1 : wr.cell? ⟨b, off + k, none⟩ = some u := hg.cell hu (fun e => by cases e)
    have hi' : (k : Int) < (LL.length : Int) := by omega
    have hL := Nat.le_trans (css.tot_in LL k) hn
    have hts := css.take_snoc LL k hlt
    have hM : ((LL.take k).map setOf).length ≤ 4194304 := by rw [List.length_map, List.length_take]; omega
    generalize LL.getD k [] = L at *
    have C := hide (bset.litsOf u L wr hL (hs.kept hg (.inl rfl)))
    have HT : Hid ((LL.take (k + 1)).map setOf = (LL.take k).map setOf ++ [setOf L]) := by show _ = _; rw [hts]; simp
    generalize (LL.take k).map setOf = S at *
    clear hcb HA hs hu hg hts
    go_wp2_with fail
    refine (unhide C).mono ?_; rintro e w2 ⟨rfl, hw⟩
    have hw' := hw.symm
    clear hw C
    subst hw'
    go_wp2_with (at_builtin; refine appendU (unhide hm) hM rfl _ _ rfl rfl rfl ?_)
    intro v' w3 m3
    have M3 := hide m3
    clear m3 hm
    go_wp2
    go_roundw
    case rel => exact ⟨k + 1, by omega, by go_num, by rw [unhide HT]; exact unhide M3⟩
    case measure => simp [intOf]; omega
  ·have hi' : ¬ (k : Int) < (LL.length : Int) := by omega
   have e : LL.take k = LL := List.take_of_length_le (by omega)
   rw [e] at hm
   clear HA e
   go_wp2
   go_ret
   exact ⟨_, rfl, unhide hm⟩
def meets (S : List Nat) (t : Nat) : Bool := S.all fun s => !(s &&& t == 0)
theorem and_zero (s t : Nat) (hs : s < 2 ^ 48) (ht : t < 2 ^ 48) : (bits .and .u64 (s : Int) (t : Int) == 0) = (s &&& t == 0) := by
 rw [u64_and_nat s t (by omega) (by omega)]
 rw [Bool.eq_iff_iff]
 simp
theorem meetsAll (v : Value) (S : List Nat) (t lo : Nat) (w : World) (hS : S.length ≤ 1048576) (hb : ∀ s ∈ S, s < 2 ^ 48) (ht : t < 2 ^ 48) (ho : w.ownsRow lo 75 1 v S.length (words S)) :
  Calls Tryd.prog 37 #[v, .int .u64 (t : Int)] w fun e w' => e = .returned (.bool (meets S t)) ∧ w' = w := by
 have ho' := ho
 obtain ⟨_, h2⟩ := ho'
 have form : ∃ a cap, v = .slice a S.length cap ∧ ∀ k, k < S.length → ∃ g, a = some ⟨g, 0, none⟩ ∧ w.cell? ⟨g, k, none⟩ = some (.int .u64 (S.getD k 0 : Int)) := by
  rcases h2 with ⟨rfl, h0⟩ | ⟨g, cap, cur, rfl, _⟩
  ·exact ⟨none, 0, by rw [h0], fun k hk => by omega⟩
  ·refine ⟨_, cap, rfl, fun k hk => ⟨g, rfl, ?_⟩⟩
   rw [ho.cellAt k (by omega)]
   simp [words, hk]
 obtain ⟨a, cap, rfl, hc⟩ := form
 have HC := hide hc
 clear h2 ho hc
 go_enter Tryd.func37, Tryd.ntmps37
 go_wp2
 go_loop [9] (fun i => ∃ k : Nat, k ≤ S.length ∧ i = .int .i64 k ∧ Hid ((S.take k).all (fun s => !(s &&& t == 0)) = true)) (fun i => S.length - (intOf i).toNat)
 case atStart => exact ⟨0, Nat.zero_le _, rfl, by show _ = _; simp⟩
 case round =>
  obtain ⟨k, hk, rfl, hall⟩ := hrel
  by_cases hlt : k < S.length
  ·obtain ⟨g, rfl, c1⟩ := unhide HC k hlt
   have hi' : (k : Int) < (S.length : Int) := by omega
   have h1 := ok.all_hit (fun s => !(s &&& t == 0)) S k 0 hlt
   have h2 := ok.all_step (fun s => !(s &&& t == 0)) S k 0 hlt (unhide hall)
   have hs := hb (S.getD k 0) (by rw [show S.getD k 0 = S[k] by simp [hlt]]; exact List.getElem_mem hlt)
   generalize S.getD k 0 = s at *
   have ez := and_zero s t hs ht
   cases hz : (s &&& t == 0)
   ·rw [hz] at ez
    have H := hide (h2 (by rw [hz]; rfl))
    clear h1 h2 hz HC hall
    go_wp2
    go_round
    case rel => exact ⟨k + 1, by omega, by go_num, H⟩
    case measure => simp [intOf]; omega
   ·rw [hz] at ez
    have H := hide (h1 (by rw [hz]; rfl))
    clear h1 h2 hz HC hall
    go_wp2
    go_ret
    exact ⟨ret_bool (unhide H).symm, rfl⟩
  ·have hi' : ¬ (k : Int) < (S.length : Int) := by omega
   have HR := hide (ok.all_end (fun s => !(s &&& t == 0)) S k hlt (unhide hall))
   clear HC hall
   go_wp2
   go_ret
   exact ⟨ret_bool (unhide HR).symm, rfl⟩
end Go.Proofs.YtfhmdpbnnieohaaDoor.su
