/- What spec.l01Dec answers: a number's decimal text; at every number of at most nine digits. -/
import Derived.Test.YtnlllcgcaddhmaaGreatDoorJXSl
import Derived.Lib.ItoaNum
import Derived.Test.YtnlllcgcaddhmaaGreatDoorJOc
import Derived.Test.YtnlllcgcaddhmaaGreatDoorRows
import Derived.WalkKit
import Derived.Lib.Builder
import Derived.Lib.AppendStr
import Derived.Lib.Strings
import Derived.Laws.Externs
import Derived.Test.YtnlllcgcaddhmaaGreatDoorShf
import Derived.WalkSmall
import Derived.Test.YtnlllcgcaddhmaaGreatDoorJOn
import Derived.Laws.IdiomStrings
import Derived.Laws.CopyRow
import Derived.Lib.UnsafeStr
import Derived.Lib.BufferWrite
import Derived.Deep.LoopGhost
import Derived.Deep.CutRange
namespace Go.Proofs.YtnlllcgcaddhmaaGreatDoor.dec
open Go.ChangeShapes Go.WideShapes Go.ChangeAt Go.RowKit
open sl (hide unhide)
set_option linter.unusedVariables false
def str (l : List UInt8) : Value := .string ⟨l.toArray⟩
theorem nDigits_le : ∀ (k u : Nat), 1 ≤ k → u < 10 ^ k → Lib.nDigits u ≤ k
 | 0, _, h, _ => by omega
 | k + 1, u, _, h => by
  by_cases h10 : u < 10
  ·rw [Lib.nDigits_small h10]
   omega
  ·rw [Lib.nDigits_big h10]
   have hk : 1 ≤ k := by
    cases k with
    | zero => exact absurd h (by simp; omega)
    | succ k => omega
   have := nDigits_le k (u / 10) hk (by rw [Nat.pow_succ] at h; omega)
   omega
theorem digit : ∀ d, d < 10 → (⟨#[48, 49, 50, 51, 52, 53, 54, 55, 56, 57]⟩ : ByteArray).extract d (d + 1) = ⟨#[UInt8.ofNat (48 + d)]⟩ := by decide
theorem dec_small {r : Nat} (h : r < 10) : Lib.decDigits r = [UInt8.ofNat (48 + r % 10)] := by rw [Lib.decDigits, dif_pos h, Nat.mod_eq_of_lt h]
theorem dec_big {r : Nat} (h : ¬ r < 10) : Lib.decDigits r = Lib.decDigits (r / 10) ++ [UInt8.ofNat (48 + r % 10)] := by rw [Lib.decDigits, dif_neg h]
theorem cat (d : Nat) (h : d < 10) (o : List UInt8) : Value.string ((⟨#[48, 49, 50, 51, 52, 53, 54, 55, 56, 57]⟩ : ByteArray).extract d (d + 1) ++ ⟨o.toArray⟩) = str (UInt8.ofNat (48 + d) :: o) := by
 rw [digit d h]
 unfold str
 congr 1
theorem retcat (o : List UInt8) : Ending.returned (Value.string ((⟨#[45]⟩ : ByteArray) ++ ⟨o.toArray⟩)) = .returned (str (45 :: o)) := by
 unfold str
 congr 2
def Left (u r : Nat) (o : List UInt8) : Prop := if r = 0 then Lib.decDigits u = o else Lib.decDigits u = Lib.decDigits r ++ o
theorem Left.step {u r : Nat} {o : List UInt8} (h : Left u r o) (hr : r ≠ 0) : Left u (r / 10) (UInt8.ofNat (48 + r % 10) :: o) := by
 unfold Left at *
 rw [if_neg hr] at h
 by_cases h10 : r < 10
 ·rw [if_pos (by omega), h, dec_small h10]
  rfl
 ·rw [if_neg (by omega), h, dec_big h10, List.append_assoc]
  rfl
theorem Left.len {u r : Nat} {o : List UInt8} (h : Left u r o) (hu : u < 10 ^ 9) : o.length ≤ 9 := by
 have h1 := Lib.decDigits_length u
 have h2 := nDigits_le 9 u (by decide) hu
 unfold Left at h
 split at h
 ·rw [h] at h1
  omega
 ·rw [h, List.length_append] at h1
  omega
set_option maxHeartbeats 800000 in
set_option maxRecDepth 100000 in
theorem decPos (u : Nat) (w : World) (h0 : 0 < u) (hu : u < 10 ^ 9) : Calls Tryz.prog 127 #[.int .i64 (u : Int)] w fun e w' => e = .returned (str (Lib.decDigits u)) ∧ w' = w := by
 have hz : (((u : Int)) == 0) = false := by simp; omega
 have hnn : ¬ ((u : Int) < 0) := by omega
 go_enter Tryz.func127, Tryz.ntmps127
 go_wp2
 go_loop [3, 4] (fun s m => ∃ (r : Nat) (o : List UInt8), m = .int .i64 (r : Int) ∧ s = str o ∧ r ≤ u ∧ Hid (Left u r o)) (fun _ m => (intOf m).toNat)
 case atStart => exact ⟨u, [], rfl, rfl, Nat.le_refl _, by show Left u u []; unfold Left; rw [if_neg (by omega), List.append_nil]⟩
 case round =>
  obtain ⟨r, o, rfl, rfl, hru, hl⟩ := hrel
  have hol := (unhide hl).len hu
  by_cases hr : r = 0
  ·have E : Hid (Lib.decDigits u = o) := by
    have := unhide hl
    unfold Left at this
    rw [if_pos hr] at this
    exact this
   subst hr
   clear hl
   go_wp2
   go_ret
   exact ⟨by rw [unhide E]; rfl, rfl⟩
  ·have hne : (((r : Int)) != 0) = true := by simp; omega
   have N := (unhide hl).step hr
   have D := digit (r % 10) (Nat.mod_lt _ (by decide))
   obtain ⟨d, hd⟩ : ∃ d, d = r % 10 := ⟨_, rfl⟩
   obtain ⟨q, hq⟩ : ∃ q, q = r / 10 := ⟨_, rfl⟩
   have e1 : (r : Int) % 10 = (d : Int) := by omega
   have e2 : (r : Int) / 10 = (q : Int) := by omega
   have hd10 : d < 10 := by omega
   have hqr : q < r := by omega
   have hr64 : (r : Int) < 1000000000 := by omega
   rw [← hd, ← hq] at N
   rw [← hd] at D
   have NN := hide N
   clear N D hd hq hl
   have h10 : d = 0 ∨ d = 1 ∨ d = 2 ∨ d = 3 ∨ d = 4 ∨ d = 5 ∨ d = 6 ∨ d = 7 ∨ d = 8 ∨ d = 9 := by omega
   clear hd10
   unfold str
   rcases h10 with rfl | rfl | rfl | rfl | rfl | rfl | rfl | rfl | rfl | rfl
   ·go_wp2
    go_round
    case rel => exact ⟨q, _, rfl, cat 0 (by decide) o, by omega, NN⟩
    case measure => simp [intOf]; omega
   ·go_wp2
    go_round
    case rel => exact ⟨q, _, rfl, cat 1 (by decide) o, by omega, NN⟩
    case measure => simp [intOf]; omega
   ·go_wp2
    go_round
    case rel => exact ⟨q, _, rfl, cat 2 (by decide) o, by omega, NN⟩
    case measure => simp [intOf]; omega
   ·go_wp2
    go_round
    case rel => exact ⟨q, _, rfl, cat 3 (by decide) o, by omega, NN⟩
    case measure => simp [intOf]; omega
   ·go_wp2
    go_round
    case rel => exact ⟨q, _, rfl, cat 4 (by decide) o, by omega, NN⟩
    case measure => simp [intOf]; omega
   ·go_wp2
    go_round
    case rel => exact ⟨q, _, rfl, cat 5 (by decide) o, by omega, NN⟩
    case measure => simp [intOf]; omega
   ·go_wp2
    go_round
    case rel => exact ⟨q, _, rfl, cat 6 (by decide) o, by omega, NN⟩
    case measure => simp [intOf]; omega
   ·go_wp2
    go_round
    case rel => exact ⟨q, _, rfl, cat 7 (by decide) o, by omega, NN⟩
    case measure => simp [intOf]; omega
   ·go_wp2
    go_round
    case rel => exact ⟨q, _, rfl, cat 8 (by decide) o, by omega, NN⟩
    case measure => simp [intOf]; omega
   ·go_wp2
    go_round
    case rel => exact ⟨q, _, rfl, cat 9 (by decide) o, by omega, NN⟩
    case measure => simp [intOf]; omega
set_option maxHeartbeats 800000 in
set_option maxRecDepth 100000 in
theorem decNeg (u : Nat) (w : World) (h0 : 0 < u) (hu : u < 10 ^ 9) : Calls Tryz.prog 127 #[.int .i64 (-(u : Int))] w fun e w' => e = .returned (str (45 :: Lib.decDigits u)) ∧ w' = w := by
 have hz : ((-(u : Int)) == 0) = false := by simp; omega
 have hnn : -(u : Int) < 0 := by omega
 go_enter Tryz.func127, Tryz.ntmps127
 go_wp2
 go_loop [3, 4] (fun s m => ∃ (r : Nat) (o : List UInt8), m = .int .i64 (-(r : Int)) ∧ s = str o ∧ r ≤ u ∧ Hid (Left u r o)) (fun _ m => (-(intOf m)).toNat)
 case atStart => exact ⟨u, [], rfl, rfl, Nat.le_refl _, by show Left u u []; unfold Left; rw [if_neg (by omega), List.append_nil]⟩
 case round =>
  obtain ⟨r, o, rfl, rfl, hru, hl⟩ := hrel
  have hol := (unhide hl).len hu
  by_cases hr : r = 0
  ·have E : Hid (Lib.decDigits u = o) := by
    have := unhide hl
    unfold Left at this
    rw [if_pos hr] at this
    exact this
   subst hr
   clear hl
   unfold str
   go_wp2
   go_ret
   exact ⟨by rw [unhide E]; exact retcat o, rfl⟩
  ·have hne : ((-(r : Int)) != 0) = true := by simp; omega
   have N := (unhide hl).step hr
   have D := digit (r % 10) (Nat.mod_lt _ (by decide))
   obtain ⟨d, hd⟩ : ∃ d, d = r % 10 := ⟨_, rfl⟩
   obtain ⟨q, hq⟩ : ∃ q, q = r / 10 := ⟨_, rfl⟩
   have e1 : (-(r : Int)).tmod 10 = -(d : Int) := by rw [Int.neg_tmod, Int.tmod_eq_emod_of_nonneg (by omega)]; omega
   have e2 : (-(r : Int)).tdiv 10 = -(q : Int) := by rw [Int.neg_tdiv, Int.tdiv_eq_ediv_of_nonneg (by omega)]; omega
   have hd10 : d < 10 := by omega
   have hqr : q < r := by omega
   have hr64 : -1000000000 < -(r : Int) := by omega
   rw [← hd, ← hq] at N
   rw [← hd] at D
   have NN := hide N
   clear N D hd hq hl
   have h10 : d = 0 ∨ d = 1 ∨ d = 2 ∨ d = 3 ∨ d = 4 ∨ d = 5 ∨ d = 6 ∨ d = 7 ∨ d = 8 ∨ d = 9 := by omega
   clear hd10
   unfold str
   rcases h10 with rfl | rfl | rfl | rfl | rfl | rfl | rfl | rfl | rfl | rfl
   ·go_wp2
    go_round
    case rel => exact ⟨q, _, rfl, cat 0 (by decide) o, by omega, NN⟩
    case measure => simp [intOf]; omega
   ·go_wp2
    go_round
    case rel => exact ⟨q, _, rfl, cat 1 (by decide) o, by omega, NN⟩
    case measure => simp [intOf]; omega
   ·go_wp2
    go_round
    case rel => exact ⟨q, _, rfl, cat 2 (by decide) o, by omega, NN⟩
    case measure => simp [intOf]; omega
   ·go_wp2
    go_round
    case rel => exact ⟨q, _, rfl, cat 3 (by decide) o, by omega, NN⟩
    case measure => simp [intOf]; omega
   ·go_wp2
    go_round
    case rel => exact ⟨q, _, rfl, cat 4 (by decide) o, by omega, NN⟩
    case measure => simp [intOf]; omega
   ·go_wp2
    go_round
    case rel => exact ⟨q, _, rfl, cat 5 (by decide) o, by omega, NN⟩
    case measure => simp [intOf]; omega
   ·go_wp2
    go_round
    case rel => exact ⟨q, _, rfl, cat 6 (by decide) o, by omega, NN⟩
    case measure => simp [intOf]; omega
   ·go_wp2
    go_round
    case rel => exact ⟨q, _, rfl, cat 7 (by decide) o, by omega, NN⟩
    case measure => simp [intOf]; omega
   ·go_wp2
    go_round
    case rel => exact ⟨q, _, rfl, cat 8 (by decide) o, by omega, NN⟩
    case measure => simp [intOf]; omega
   ·go_wp2
    go_round
    case rel => exact ⟨q, _, rfl, cat 9 (by decide) o, by omega, NN⟩
    case measure => simp [intOf]; omega
theorem l01Dec (n : Int) (w : World) (h1 : -1000000000 < n) (h2 : n < 1000000000) : Calls Tryz.prog 127 #[.int .i64 n] w fun e w' => e = .returned (str (Lib.itoa n)) ∧ w' = w := by
 unfold Lib.itoa
 by_cases h0 : n = 0
 ·subst h0
  go_enter Tryz.func127, Tryz.ntmps127
  go_wp2
  go_ret
  exact ⟨by rw [dec_small (by decide)]; rfl, rfl⟩
 ·by_cases hn : n < 0
  ·rw [if_pos hn]
   have e : n = -((n.natAbs : Nat) : Int) := by omega
   have c := decNeg n.natAbs w (by omega) (by omega)
   rw [← e] at c
   exact c
  ·rw [if_neg hn]
   have e : n = ((n.toNat : Nat) : Int) := by omega
   have c := decPos n.toNat w (by omega) (by omega)
   rw [← e] at c
   exact c
end Go.Proofs.YtnlllcgcaddhmaaGreatDoor.dec
namespace Go.Proofs.YtnlllcgcaddhmaaGreatDoor.txt
open Go.RowKit
open lits (okB okB_iff)
open cls (okAll)
def body (L : List Int) : List UInt8 := L.flatMap fun x => Lib.itoa x ++ [32]
def text (L : List Int) : List UInt8 := if okAll L then body L ++ [48] else []
theorem body_snoc (L : List Int) (x : Int) : body (L ++ [x]) = body L ++ (Lib.itoa x ++ [32]) := by simp [body]
theorem body_step (L : List Int) (k : Nat) (h : k < L.length) : body (L.take (k + 1)) = body (L.take k) ++ (Lib.itoa (L.getD k 0) ++ [32]) := by
 rw [List.take_succ_eq_append_getElem h, body_snoc, show L.getD k 0 = L[k] by simp [h]]
theorem itoa_len {x : Int} (h1 : -1000000000 < x) (h2 : x < 1000000000) : (Lib.itoa x).length ≤ 10 := by
 unfold Lib.itoa
 split
 ·have := dec.nDigits_le 9 x.natAbs (by decide) (by omega)
  rw [List.length_cons, Lib.decDigits_length]
  omega
 ·have := dec.nDigits_le 9 x.toNat (by decide) (by omega)
  rw [Lib.decDigits_length]
  omega
theorem lit_of {L : List Int} {k : Nat} (hok : L.all okB = true) (h : k < L.length) : L.getD k 0 ≠ 0 ∧ -24 ≤ L.getD k 0 ∧ L.getD k 0 ≤ 24 := by
 rw [show L.getD k 0 = L[k] by simp [h]]
 exact okB_iff.1 (List.all_eq_true.1 hok _ (List.getElem_mem h))
theorem body_len (L : List Int) (hok : L.all okB = true) : (body L).length ≤ 11 * L.length := by
 induction L with
 | nil => simp [body]
 | cons x l ih =>
  rw [List.all_cons, Bool.and_eq_true] at hok
  have h1 := okB_iff.1 hok.1
  have h2 := itoa_len (x := x) (by omega) (by omega)
  have h3 := ih hok.2
  have e : body (x :: l) = (Lib.itoa x ++ [32]) ++ body l := by simp [body]
  rw [e, List.length_append, List.length_append, List.length_cons]
  simp
  omega
theorem take_ok {L : List Int} (hok : L.all okB = true) (k : Nat) : (L.take k).all okB = true := by
 rw [List.all_eq_true] at *
 exact fun x hx => hok x (List.mem_of_mem_take hx)
theorem body_take_len {L : List Int} (hok : okAll L = true) (k : Nat) : (body (L.take k)).length ≤ 528 := by
 unfold okAll at hok
 rw [Bool.and_eq_true, decide_eq_true_iff] at hok
 have h1 := body_len _ (take_ok hok.1 k)
 have h2 : (L.take k).length ≤ L.length := List.length_take_le' _ _
 omega
theorem text_no {L : List Int} (h : okAll L = false) : text L = [] := by unfold text; rw [h]; rfl
theorem text_yes {L : List Int} (h : okAll L = true) : text L = body L ++ [48] := by unfold text; rw [h]; rfl
end Go.Proofs.YtnlllcgcaddhmaaGreatDoor.txt
namespace Go.Proofs.YtnlllcgcaddhmaaGreatDoor.bld
open Go.RowKit
set_option linter.unusedVariables false
theorem sizeB : (Tryz.prog.info? 136).map (·.size) = some 2 := by kernel_rfl
theorem liesB : liesAt Tryz.prog Tryz.prog.depth 136 (2 / Tryz.prog.cellsOf 136) 0 136 1 = true := by kernel_rfl
theorem infoByte : (Tryz.prog.info? 5).map (fun i => (i.zero, i.size, i.bytes)) = some (some (.int .u8 0), 1, 1) := by kernel_rfl
def Is (B b : Nat) (bs : List Value) (w : World) : Prop := Lib.IsBuilder 136 5 B b bs w
def Used (B b : Nat) (bs : List Value) (w : World) : Prop := Lib.BuilderAt 136 5 B b (.pointer (some ⟨b, 0, none⟩)) bs w
set_option maxHeartbeats 1000000 in
set_option maxRecDepth 100000 in
theorem check_used (b : Nat) (w : World) (h0 : w.cell? ⟨b, 0, none⟩ = some (.pointer (some ⟨b, 0, none⟩))) :
  Calls Tryz.prog 144 #[.pointer (some ⟨b, 0, none⟩)] w fun e w' => e = .returned (.tuple #[]) ∧ w' = w := by
 obtain ⟨j, hj, _⟩ := Option.map_eq_some_iff.1 sizeB
 go_enter Tryz.func144, Tryz.ntmps144
 go_wp2
 rw [Lib.run_neq_ptr_same w _ Tryz.underlying134 hj]
 go_wp2
 go_end0
 exact ⟨rfl, rfl⟩
set_option maxHeartbeats 1000000 in
set_option maxRecDepth 100000 in
theorem check_fresh (b : Nat) (w : World) (h0 : w.cell? ⟨b, 0, none⟩ = some (.pointer none)) (hsh : w.shape? b = some (136, 2)) (hfz : w.frozen? ⟨b, 0, none⟩ = false) :
  Calls Tryz.prog 144 #[.pointer (some ⟨b, 0, none⟩)] w fun e w' => e = .returned (.tuple #[]) ∧ w' = w.setCell ⟨b, 0, none⟩ (.pointer (some ⟨b, 0, none⟩)) := by
 obtain ⟨j, hj, hjs⟩ := Option.map_eq_some_iff.1 sizeB
 go_enter Tryz.func144, Tryz.ntmps144
 go_wp2
 rw [Lib.run_to_unsafe w ⟨b, 0, none⟩ Tryz.underlying134 Tryz.underlying208 hj (by rw [hjs]; decide) hsh (Nat.zero_lt_succ 1)]
 simp only [Result.andThen]
 rw [Oper.upon_value]
 go_wp2
 rw [run_callFunc_extern Tryz.func186 (by kernel_rfl) (by kernel_rfl) (by kernel_rfl) (e := Extern.AbiNoEscape.same) (by kernel_rfl)]
 rw [Lib.run_noEscape]
 simp only [Result.andThen]
 rw [Oper.upon_value]
 go_wp2
 rw [Lib.run_from_unsafe w ⟨b, 0, none⟩ Tryz.underlying208 Tryz.underlying134 hj hsh liesB]
 simp only [Result.andThen]
 rw [Oper.upon_value]
 go_wp2
 go_end0
 exact ⟨rfl, rfl⟩
theorem check (B b : Nat) (bs : List Value) (w : World) (h : Is B b bs w) :
  Calls Tryz.prog 144 #[.pointer (some ⟨b, 0, none⟩)] w fun e w' => e = .returned (.tuple #[]) ∧ (Used B b bs w' ∧ Below B w w') := by
 cases h with
 | inl h =>
  refine (check_fresh b w h.cell0 h.shape h.frozen0).mono ?_
  rintro e w' ⟨rfl, rfl⟩
  exact ⟨rfl, h.used _, (Below.refl B w).setCell (p := ⟨b, 0, none⟩) h.1 _⟩
 | inr h =>
  refine (check_used b w h.cell0).mono ?_
  rintro e w' ⟨rfl, rfl⟩
  exact ⟨rfl, h, Below.refl B _⟩
theorem block_kept {w1 w2 : World} {b : Nat} {x v : Value} {t : TypeId} {row : Option Nat} (hbk : w1.heap[b]? = some (.cells #[x, v] t (0, 0))) (hgrow : w1.grownBy w2 row) (hne : row ≠ some b) : w2.heap[b]? = some (.cells #[x, v] t (0, 0)) :=
 (hgrow.block b (Array.getElem?_eq_some_iff.1 hbk).1 (fun e => hne e.symm)).trans hbk
set_option maxHeartbeats 2000000 in
set_option maxRecDepth 100000 in
theorem writeByte (B b : Nat) (bs : List Value) (c : Int) (w : World) (h : Is B b bs w) (hlen : bs.length + 1 ≤ 140737488355328) (hBw : B ≤ w.heap.size) :
  Calls Tryz.prog 105 #[.pointer (some ⟨b, 0, none⟩), .int .u8 c] w fun e w' => e = .returned .nilIface ∧ (Used B b (bs ++ [.int .u8 c]) w' ∧ Below B w w') := by
 obtain ⟨i0, hi, hz0, hz1, hz2⟩ := info_parts infoByte
 go_enter Tryz.func105, Tryz.ntmps105
 go_wp2_with fail
 refine (check B b bs _ h).mono ?_
 rintro e w1 ⟨rfl, h1, hb1⟩
 obtain ⟨hB, v, hbk, hown, hne⟩ := h1
 have c0 : w1.cell? ⟨b, 0, none⟩ = some (.pointer (some ⟨b, 0, none⟩)) := by rw [Lib.cell_of_heap hbk]; rfl
 have c1 : w1.cell? ⟨b, 1, none⟩ = some v := by rw [Lib.cell_of_heap hbk]; rfl
 have hsz := hb1.size
 go_wp2_with (at_builtin; refine wpList_append_own _ rfl _ _ 22 rfl B 5 i0 (.int .u8 0) 1 1 Tryz.underlying22 hi hz0 hz1 hz2 rfl (by decide) _ _ _ rfl (hown.alloc _) ⟨w1.heap.size, 0, none⟩ 1 1 [.int .u8 c] rfl rfl ?c1 ?c2 ?c3 ?c4 ?c5 ?_)
 case c1 =>
  intro j u hj
  match j, hj with
  | 0, hj => simp at hj; subst hj; simp [Addr.add]
 case c2 => intro u hu; simp at hu; subst hu; rfl
 case c3 => unfold maxLen; omega
 case c4 => omega
 case c5 => simp; omega
 intro v' w2 hown' hgrow _
 have hlt := (Array.getElem?_eq_some_iff.1 hbk).1
 have hb2 : w2.heap[b]? = some (.cells #[.pointer (some ⟨b, 0, none⟩), v] 136 (0, 0)) := by
  rw [hgrow.block b (by simp; omega) (fun e => hne e.symm), Lib.alloc_old w1 _ b hlt]
  exact hbk
 have d0 : w2.cell? ⟨b, 0, none⟩ = some (.pointer (some ⟨b, 0, none⟩)) := by rw [Lib.cell_of_heap hb2]; rfl
 have d1 : w2.cell? ⟨b, 1, none⟩ = some v := by rw [Lib.cell_of_heap hb2]; rfl
 have f1 : w2.frozen? ⟨b, 1, none⟩ = false := Lib.frozen_of_heap hb2 1
 obtain ⟨g, cap, rfl⟩ : ∃ g cap, v' = .slice (some ⟨g, 0, none⟩) (bs.length + 1) cap := by
  cases hown'.2 with
  | inl h => exact absurd h.2 (by omega)
  | inr h => obtain ⟨g, cap, cur, hv, _⟩ := h; exact ⟨g, cap, hv⟩
 go_wp2
 go_ret
 refine ⟨rfl, ?_, ?_⟩
 ·exact Lib.BuilderAt.put (T := 136) (e := 5) hB hb2 (bs' := bs ++ [.int .u8 c]) (by simpa using hown') (by decide)
 ·exact ((hb1.alloc (by omega) _).grown hgrow (by simp; omega) (fun k hk => (hown.lt k hk).1)).setCell (p := ⟨b, 1, none⟩) hB _
set_option maxHeartbeats 2000000 in
set_option maxRecDepth 100000 in
theorem writeString (B b : Nat) (bs : List Value) (s : ByteArray) (w : World) (h : Is B b bs w) (hlen : bs.length + s.size ≤ 140737488355328) (hBw : B ≤ w.heap.size) :
  Calls Tryz.prog 103 #[.pointer (some ⟨b, 0, none⟩), .string s] w fun e w' => e = .returned (.tuple #[.int .i64 s.size, .nilIface]) ∧ (Used B b (bs ++ Lib.strCells s) w' ∧ Below B w w') := by
 obtain ⟨i0, hi, hz0, hz1, hz2⟩ := info_parts infoByte
 go_enter Tryz.func103, Tryz.ntmps103
 go_wp2_with fail
 refine (check B b bs _ h).mono ?_
 rintro e w1 ⟨rfl, h1, hb1⟩
 obtain ⟨hB, v, hbk, hown, hne⟩ := h1
 have c0 : w1.cell? ⟨b, 0, none⟩ = some (.pointer (some ⟨b, 0, none⟩)) := by rw [Lib.cell_of_heap hbk]; rfl
 have c1 : w1.cell? ⟨b, 1, none⟩ = some v := by rw [Lib.cell_of_heap hbk]; rfl
 have hsz := hb1.size
 go_wp2_with (at_builtin; refine Lib.wpList_append_own_string _ rfl _ _ 22 9 rfl B 5 i0 Tryz.underlying22 Tryz.underlying9 hi hz0 hz1 hz2 _ _ _ rfl hown s rfl ?c3 ?c4 ?c5 ?_)
 case c3 => unfold maxLen; omega
 case c4 => omega
 case c5 => omega
 intro v' w2 hown' hgrow _
 have hb2 := block_kept hbk hgrow hne
 have d0 : w2.cell? ⟨b, 0, none⟩ = some (.pointer (some ⟨b, 0, none⟩)) := by rw [Lib.cell_of_heap hb2]; rfl
 have d1 : w2.cell? ⟨b, 1, none⟩ = some v := by rw [Lib.cell_of_heap hb2]; rfl
 have f1 : w2.frozen? ⟨b, 1, none⟩ = false := Lib.frozen_of_heap hb2 1
 obtain ⟨ao, n', cap, rfl⟩ : ∃ ao n' cap, v' = .slice ao n' cap := by
  cases hown'.2 with
  | inl h => exact ⟨_, _, _, h.1⟩
  | inr h => obtain ⟨g, cap, cur, hv, _⟩ := h; exact ⟨_, _, _, hv⟩
 go_wp2
 go_ret2
 refine ⟨rfl, ?_, ?_⟩
 ·exact Lib.BuilderAt.put (T := 136) (e := 5) hB hb2 (bs' := bs ++ Lib.strCells s) (by rw [List.length_append, Lib.strCells_length]; exact hown') (by decide)
 ·exact (hb1.grown hgrow (by omega) (fun k hk => (hown.lt k hk).1)).setCell (p := ⟨b, 1, none⟩) hB _
end Go.Proofs.YtnlllcgcaddhmaaGreatDoor.bld
namespace Go.Proofs.YtnlllcgcaddhmaaGreatDoor.txt
open Go.ChangeShapes Go.WideShapes Go.ChangeAt Go.RowKit
open lits (okB okB_iff)
open cls (okAll)
open dec (str)
open sl (Sl hide unhide grown_refl grown_trans of_below below_of)
set_option linter.unusedVariables false
theorem cat3 (a b : List UInt8) (c : UInt8) : Value.string ((⟨a.toArray⟩ : ByteArray) ++ ⟨b.toArray⟩ ++ ⟨#[c]⟩) = str (a ++ (b ++ [c])) := by
 unfold str
 have e : (⟨a.toArray⟩ : ByteArray) ++ ⟨b.toArray⟩ ++ ⟨#[c]⟩ = ⟨(a ++ (b ++ [c])).toArray⟩ := ByteArray.ext (by simp)
 rw [e]
theorem ret2 (a : List UInt8) (c : UInt8) : Ending.returned (Value.string ((⟨a.toArray⟩ : ByteArray) ++ ⟨#[c]⟩)) = .returned (str (a ++ [c])) := by
 unfold str
 have e : (⟨a.toArray⟩ : ByteArray) ++ ⟨#[c]⟩ = ⟨(a ++ [c]).toArray⟩ := ByteArray.ext (by simp)
 rw [e]
theorem specClauseText (v : Value) (L : List Int) (w : World) (hL : L.length ≤ 1048576) (hv : Sl w v L) :
  Calls Tryz.prog 128 #[v] w fun e w' => e = .returned (str (text L)) ∧ w' = w := by
 have c1 := cls.specClauseOk v L w hL hv
 cases hok : okAll L
 ·rw [hok] at c1
  rw [text_no hok]
  have C1 := hide c1
  clear c1 hok hv
  go_enter Tryz.func128, Tryz.ntmps128
  go_wp2_with fail
  refine (unhide C1).mono ?_; rintro e w2 ⟨rfl, hw⟩; have hw' := hw.symm; clear hw; subst hw'
  go_wp2_with fail
  go_ret
  exact ⟨rfl, rfl⟩
 ·rw [hok] at c1
  rw [text_yes hok]
  have C1 := hide c1
  have HOK := hide hok
  have hall : L.all okB = true := by
   unfold okAll at hok
   rw [Bool.and_eq_true] at hok
   exact hok.1
  have HALL := hide hall
  clear c1 hok hall
  obtain ⟨a, cap, rfl, ha⟩ := hv
  have HA := hide ha
  clear ha
  go_enter Tryz.func128, Tryz.ntmps128
  go_wp2_with fail
  refine (unhide C1).mono ?_; rintro e w2 ⟨rfl, hw⟩; have hw' := hw.symm; clear hw; subst hw'
  clear C1
  go_wp2_with fail
  go_loop [3, 4] (fun s i => ∃ k : Nat, k ≤ L.length ∧ i = .int .i64 k ∧ s = str (body (L.take k))) (fun _ i => L.length - (intOf i).toNat)
  case atStart => exact ⟨0, Nat.zero_le _, rfl, rfl⟩
  case round =>
   obtain ⟨k, hk, rfl, rfl⟩ := hrel
   have hbl := body_take_len (unhide HOK) k
   by_cases hlt : k < L.length
   ·rcases unhide HA with h | ⟨b, off, rfl, hb, hcb⟩
    ·rw [h] at hlt
     simp at hlt
    ·have c1 := hcb k hlt
     have hi' : (k : Int) < (L.length : Int) := by omega
     have hx := lit_of (unhide HALL) hlt
     have st := body_step L k hlt
     generalize L.getD k 0 = x at *
     generalize body (L.take k) = o at *
     have ST := hide st
     have CD := hide (dec.l01Dec x w (by omega) (by omega))
     have hil := itoa_len (x := x) (by omega) (by omega)
     clear st hcb HA hx
     generalize Lib.itoa x = t at *
     unfold str
     unfold str at CD
     go_wp2_with (go_at_call 127; refine (unhide CD).mono ?_; rintro e w2 ⟨rfl, hw⟩; have hw' := hw.symm; clear hw; subst hw')
     go_round
     case rel => exact ⟨k + 1, by omega, by go_num, by rw [unhide ST]; exact cat3 o t 32⟩
     case measure => simp [intOf]; omega
   ·have hi' : ¬ (k : Int) < (L.length : Int) := by omega
    have HK : Hid (L.take k = L) := by show L.take k = L; exact List.take_of_length_le (by omega)
    clear HA
    unfold str
    go_wp2
    go_ret
    exact ⟨by rw [unhide HK]; exact ret2 (body L) 48, rfl⟩
theorem grown_grow (w : World) (k : Nat) (os : Array Obj) : w.grownBy (Go.Sort.grow (w.drewN k) os) none := by
 refine ⟨rfl, rfl, rfl, ?_, fun i hi _ => ?_⟩
 ·show w.heap.size ≤ (w.heap ++ os).size
  rw [Array.size_append]
  omega
 ·show (w.heap ++ os)[i]? = _
  exact Array.getElem?_append_left hi
def Pow (w : World) : Prop := 3 < w.heap.size ∧ Lib.TabIs Tryz.prog w "internal/strconv.uint64pow10" .u64 Lib.pow10Tab
theorem gPow : Tryz.prog.globalNamed "internal/strconv.uint64pow10" = some 3 := by kernel_rfl
theorem Pow.below {w w' : World} (h : Pow w) (b : Below w.heap.size w w') : Pow w' :=
 ⟨Nat.lt_of_lt_of_le h.1 b.size, var?_below b gPow h.1 h.2⟩
theorem Pow.kept {w w' : World} (h : Pow w) (g : w.grownBy w' none) : Pow w' := h.below (below_of g)
theorem litText (x : Int) (w : World) (hx : -24 ≤ x ∧ x ≤ 24) (hT : Pow w) :
  Calls Tryz.prog 148 #[.int .i8 x] w fun e w' => e = .returned (str (Lib.itoa x)) ∧ w.grownBy w' none := by
 have C := hide (Tryz.strconv_Itoa x (by omega) (by omega) w hT.2)
 obtain ⟨x0, x1⟩ := hx
 clear hT
 go_enter Tryz.func148, Tryz.ntmps148
 go_wp2_with fail
 refine (unhide C).mono ?_; rintro e w1 ⟨rfl, k, os, hw⟩
 have G : Hid (w.grownBy w1 none) := by
  show w.grownBy w1 none
  rw [hw]
  exact grown_grow w k os
 clear hw C
 go_wp2_with fail
 go_ret
 exact ⟨rfl, unhide G⟩
theorem is_kept {B b : Nat} {bs : List Value} {w w' : World} (h : bld.Is B b bs w) (g : w.grownBy w' none) : bld.Is B b bs w' := by
 have one : ∀ p, Lib.BuilderAt 136 5 B b p bs w → Lib.BuilderAt 136 5 B b p bs w' := by
  rintro p ⟨hB, v, hb, hown, hne⟩
  refine ⟨hB, v, (g.block b (Array.getElem?_eq_some_iff.1 hb).1 (fun e => by cases e)).trans hb, hown.kept g ?_, hne⟩
  cases v.ownBlock with
  | none => exact .inl rfl
  | some k => exact .inr (fun e => by cases e)
 cases h with
 | inl h => exact .inl (one _ h)
 | inr h => exact .inr (one _ h)
theorem is_fresh (w : World) : bld.Is w.heap.size w.heap.size [] (w.alloc (.cells #[.pointer none, .slice none 0 0] 136)) :=
 .inl ⟨Nat.le_refl _, .slice none 0 0, heap_alloc_new w _, World.ownsRow_nil _ _ _ _, fun e => by cases e⟩
def Mid (w wr : World) (t : List UInt8) : Prop := bld.Is w.heap.size w.heap.size (Lib.byteCells t) wr ∧ Below w.heap.size w wr
theorem Mid.string {w wr w1 : World} {t u : List UInt8} (h : bld.Used w.heap.size w.heap.size (Lib.byteCells t ++ Lib.strCells ⟨u.toArray⟩) w1) (b : Below w.heap.size wr w1) (m : Below w.heap.size w wr) : Mid w w1 (t ++ u) := by
 refine ⟨.inr ?_, m.trans b⟩
 rw [Lib.byteCells_append]
 exact h
theorem Mid.byte {w wr w1 : World} {t : List UInt8} (c : UInt8) (h : bld.Used w.heap.size w.heap.size (Lib.byteCells t ++ [.int .u8 (c.toNat : Int)]) w1) (b : Below w.heap.size wr w1) (m : Below w.heap.size w wr) : Mid w w1 (t ++ [c]) := by
 refine ⟨.inr ?_, m.trans b⟩
 rw [Lib.byteCells_append]
 exact h
set_option maxHeartbeats 800000 in
theorem implClauseText (v : Value) (L : List Int) (w : World) (hT : Pow w) (hL : L.length ≤ 1048576) (hv : Sl w v L) :
  Calls Tryz.prog 106 #[v] w fun e w' => e = .returned (str (text L)) ∧ w.grownBy w' none := by
 have c1 := cls.implClauseOk v L w hL hv
 cases hok : okAll L
 ·rw [hok] at c1
  rw [text_no hok]
  have C1 := hide c1
  clear c1 hok hv hT
  go_enter Tryz.func106, Tryz.ntmps106
  go_wp2_with fail
  refine (unhide C1).mono ?_; rintro e w2 ⟨rfl, hw⟩; have hw' := hw.symm; clear hw; subst hw'
  go_wp2_with fail
  go_ret
  exact ⟨rfl, grown_refl _⟩
 ·rw [hok] at c1
  rw [text_yes hok]
  have C1 := hide c1
  have HOK := hide hok
  have hall : L.all okB = true := by
   unfold okAll at hok
   rw [Bool.and_eq_true] at hok
   exact hok.1
  have HALL := hide hall
  have HT := hide hT
  have START : Hid (Mid w (w.alloc (.cells #[.pointer none, .slice none 0 0] 136)) (body (L.take 0))) := ⟨is_fresh w, below_of (World.grownBy_alloc _ _ _)⟩
  clear c1 hok hall hT
  obtain ⟨a, cap, rfl, ha⟩ := hv
  have HA := hide ha
  clear ha
  go_enter Tryz.func106, Tryz.ntmps106
  go_wp2_with fail
  refine (unhide C1).mono ?_; rintro e w2 ⟨rfl, hw⟩; have hw' := hw.symm; clear hw; subst hw'
  clear C1
  go_wp2_with fail
  go_loopw [13] (fun i wr => ∃ k : Nat, k ≤ L.length ∧ i = .int .i64 k ∧ Hid (Mid w wr (body (L.take k)))) (fun i _ => L.length - (intOf i).toNat)
  case atStart => exact ⟨0, Nat.zero_le _, rfl, START⟩
  case round =>
   obtain ⟨k, hk, rfl, hm⟩ := hrel
   clear START
   have hbl := body_take_len (unhide HOK) k
   by_cases hlt : k < L.length
   ·rcases unhide HA with h | ⟨b, off, rfl, hb, hcb⟩
    ·rw [h] at hlt
     simp at hlt
    ·have c1 : wr.cell? ⟨b, off + k, none⟩ = some (.int .i64 (L.getD k 0)) := ((unhide hm).2.cell (p := ⟨b, off + k, none⟩) hb).trans (hcb k hlt)
     have hi' : (k : Int) < (L.length : Int) := by omega
     have hx := lit_of (unhide HALL) hlt
     have ST := hide (body_step L k hlt)
     generalize L.getD k 0 = x at *
     generalize body (L.take k) = o at *
     have CO := hide (lits.litOf_yes x wr hx)
     have CT := hide (litText x wr hx.2 ((unhide HT).below (unhide hm).2))
     have hil := itoa_len (x := x) (by omega) (by omega)
     clear hcb HA hx
     generalize Lib.itoa x = t at *
     go_wp2_with fail
     refine (unhide CO).mono ?_; rintro e w2 ⟨rfl, hw⟩; have hw' := hw.symm; clear hw; subst hw'
     go_wp2_with fail
     refine (unhide CT).mono ?_; rintro e w3 ⟨rfl, g3⟩
     have B3 := hide (Below.trans (unhide hm).2 ((below_of g3).mono (unhide hm).2.size))
     have I3 := hide (is_kept (unhide hm).1 g3)
     clear g3 CO CT hm
     unfold str
     have hsz : (⟨t.toArray⟩ : ByteArray).size = t.length := by simp [ByteArray.size]
     have WS := hide (bld.writeString w.heap.size w.heap.size (Lib.byteCells o) ⟨t.toArray⟩ w3 (unhide I3) (by rw [Lib.byteCells_length, hsz]; omega) (unhide B3).size)
     clear hsz
     go_wp2_with fail
     refine (unhide WS).mono ?_; rintro e w4 ⟨rfl, u4, b4⟩
     have M4 := hide (Mid.string u4 b4 (unhide B3))
     clear u4 b4 B3 I3 WS
     have WB := hide (bld.writeByte w.heap.size w.heap.size (Lib.byteCells (o ++ t)) 32 w4 (unhide M4).1 (by rw [Lib.byteCells_length, List.length_append]; omega) (unhide M4).2.size)
     go_wp2_with fail
     refine (unhide WB).mono ?_; rintro e w5 ⟨rfl, u5, b5⟩
     have M5 := hide (Mid.byte 32 u5 b5 (unhide M4).2)
     clear u5 b5 M4 WB
     go_wp2_with fail
     go_roundw
     case rel => exact ⟨k + 1, by omega, by go_num, by rw [unhide ST, ← List.append_assoc]; exact M5⟩
     case measure => simp [intOf]; omega
   ·have hi' : ¬ (k : Int) < (L.length : Int) := by omega
    have e : L.take k = L := List.take_of_length_le (by omega)
    rw [e] at hm hbl
    clear HA e
    have WB := hide (bld.writeByte w.heap.size w.heap.size (Lib.byteCells (body L)) 48 wr (unhide hm).1 (by rw [Lib.byteCells_length]; omega) (unhide hm).2.size)
    go_wp2_with fail
    refine (unhide WB).mono ?_; rintro e w5 ⟨rfl, u5, b5⟩
    have M5 := hide (Mid.byte 48 u5 b5 (unhide hm).2)
    clear u5 b5 hm WB
    have SA := hide (Tryz.Builder_String_any w.heap.size w.heap.size (body L ++ [48]) w5 (unhide M5).1 (unhide M5).2.size)
    go_wp2_with fail
    refine (unhide SA).mono ?_; rintro e w6 ⟨rfl, b6⟩
    have B6 := hide ((unhide M5).2.trans b6)
    clear b6 M5 SA
    go_wp2_with fail
    go_ret
    exact ⟨rfl, of_below (unhide B6)⟩
end Go.Proofs.YtnlllcgcaddhmaaGreatDoor.txt
namespace Go.Proofs.YtnlllcgcaddhmaaGreatDoor.cx
open Go.ChangeShapes Go.WideShapes Go.ChangeAt Go.RowKit
open sl (Sl hide unhide grown_refl grown_trans grown_drewN of_below below_of)
open dec (str)
open css (Sls tot)
open ok (cnfB clB)
open txt (Pow text body)
set_option linter.unusedVariables false
def hd (n c : Int) : List UInt8 := [112, 32, 99, 110, 102, 32] ++ Lib.itoa n ++ [32] ++ Lib.itoa c
def lines (LL : List (List Int)) : List UInt8 := LL.flatMap fun L => text L ++ [10]
def whole (n : Int) (LL : List (List Int)) : List UInt8 := hd n (LL.length : Int) ++ [10] ++ lines LL
def cnfT (n : Int) (LL : List (List Int)) : List UInt8 := if cnfB n LL && decide ((whole n LL).length ≤ 12000) then whole n LL else []
theorem cnfT_no {n : Int} {LL : List (List Int)} (h : cnfB n LL = false) : cnfT n LL = [] := by unfold cnfT; rw [h]; rfl
theorem cnfT_long {n : Int} {LL : List (List Int)} (h : 12000 < (whole n LL).length) : cnfT n LL = [] := by
 unfold cnfT
 rw [decide_eq_false (by omega), Bool.and_false]
 rfl
theorem cnfT_yes {n : Int} {LL : List (List Int)} (h : cnfB n LL = true) (hl : ¬ 12000 < (whole n LL).length) : cnfT n LL = whole n LL := by
 unfold cnfT
 rw [h, decide_eq_true (by omega)]
 rfl
theorem itoa_len {x : Int} (h1 : -9223372036854775808 ≤ x) (h2 : x ≤ 9223372036854775807) : (Lib.itoa x).length ≤ 20 := by
 unfold Lib.itoa
 split
 ·have a := Lib.decDigits_length x.natAbs
  have b := dec.nDigits_le 19 x.natAbs (by decide) (by omega)
  rw [List.length_cons]
  omega
 ·have a := Lib.decDigits_length x.toNat
  have b := dec.nDigits_le 19 x.toNat (by decide) (by omega)
  omega
theorem hd_len {n c : Int} (h1 : -9223372036854775808 ≤ n ∧ n ≤ 9223372036854775807) (h2 : -9223372036854775808 ≤ c ∧ c ≤ 9223372036854775807) : (hd n c).length ≤ 47 := by
 have a := itoa_len h1.1 h1.2
 have b := itoa_len h2.1 h2.2
 unfold hd
 simp only [List.length_append, List.length_cons, List.length_nil]
 omega
theorem text_len (L : List Int) : (text L).length ≤ 529 := by
 cases h : cls.okAll L
 ·rw [txt.text_no h]
  simp
 ·rw [txt.text_yes h, List.length_append]
  have := txt.body_take_len h L.length
  rw [List.take_length] at this
  simp only [List.length_cons, List.length_nil]
  omega
theorem lines_len (LL : List (List Int)) : (lines LL).length ≤ 530 * LL.length := by
 induction LL with
 | nil => simp [lines]
 | cons L LL ih =>
  have e : lines (L :: LL) = text L ++ [10] ++ lines LL := by simp [lines]
  have := text_len L
  rw [e]
  simp only [List.length_append, List.length_cons, List.length_nil]
  omega
theorem lines_step (LL : List (List Int)) (k : Nat) (h : k < LL.length) : lines (LL.take (k + 1)) = lines (LL.take k) ++ (text (LL.getD k []) ++ [10]) := by
 rw [css.take_snoc LL k h]
 simp [lines]
theorem cat4 (a b : List UInt8) : Ending.returned (Value.string ((⟨#[112, 32, 99, 110, 102, 32]⟩ : ByteArray) ++ ⟨a.toArray⟩ ++ ⟨#[32]⟩ ++ ⟨b.toArray⟩)) = .returned (str ([112, 32, 99, 110, 102, 32] ++ a ++ [32] ++ b)) := by
 unfold str
 have e : (⟨#[112, 32, 99, 110, 102, 32]⟩ : ByteArray) ++ ⟨a.toArray⟩ ++ ⟨#[32]⟩ ++ ⟨b.toArray⟩ = ⟨([112, 32, 99, 110, 102, 32] ++ a ++ [32] ++ b).toArray⟩ := ByteArray.ext (by simp)
 rw [e]
set_option maxHeartbeats 800000 in
theorem headText (n c : Int) (w : World) (hT : Pow w) (hn : -9223372036854775808 ≤ n ∧ n ≤ 9223372036854775807) (hc : -9223372036854775808 ≤ c ∧ c ≤ 9223372036854775807) :
  Calls Tryz.prog 104 #[.int .i64 n, .int .i64 c] w fun e w' => e = .returned (str (hd n c)) ∧ w.grownBy w' none := by
 have C := hide (fun w' (h : Pow w') => Tryz.strconv_Itoa n hn.1 hn.2 w' h.2)
 have D := hide (fun w' (h : Pow w') => Tryz.strconv_Itoa c hc.1 hc.2 w' h.2)
 have l1 := itoa_len hn.1 hn.2
 have l2 := itoa_len hc.1 hc.2
 unfold hd
 generalize Lib.itoa n = s at *
 generalize Lib.itoa c = t at *
 have HT := hide hT
 clear hT hn hc
 go_enter Tryz.func104, Tryz.ntmps104
 go_wp2_with fail
 refine (unhide C _ (unhide HT)).mono ?_; rintro e w1 ⟨rfl, k, os, hw⟩
 have G : Hid (w.grownBy w1 none) := by
  show w.grownBy w1 none
  rw [hw]
  exact txt.grown_grow w k os
 clear hw C
 have HT1 := hide ((unhide HT).kept (unhide G))
 go_wp2_with fail
 refine (unhide D _ (unhide HT1)).mono ?_; rintro e w2 ⟨rfl, k, os, hw⟩
 have G2 : Hid (w.grownBy w2 none) := by
  show w.grownBy w2 none
  rw [hw]
  exact grown_trans (unhide G) (txt.grown_grow w1 k os)
 clear hw D
 go_wp2_with fail
 go_ret
 exact ⟨cat4 s t, unhide G2⟩
theorem row_len {B : Nat} {e : TypeId} {v : Value} {xs : List Value} {n : Nat} {w : World} (h : w.ownsRow B e 1 v n xs) : ∃ a cap, v = .slice a n cap := by
 rcases h with ⟨_, ⟨rfl, rfl⟩ | ⟨k, cap, _, rfl, _⟩⟩
 ·exact ⟨_, _, rfl⟩
 ·exact ⟨_, _, rfl⟩
theorem builderLen (B b : Nat) (bs : List Value) (w : World) (hl : bs.length ≤ 4194304) (h : bld.Is B b bs w) :
  Calls Tryz.prog 107 #[.pointer (some ⟨b, 0, none⟩)] w fun e w' => e = .returned (.int .i64 (bs.length : Int)) ∧ w' = w := by
 have hx : ∃ a cap, w.cell? ⟨b, 1, none⟩ = some (.slice a bs.length cap) := by
  rcases h with ⟨_, v, hb, ho, _⟩ | ⟨_, v, hb, ho, _⟩
  ·obtain ⟨a, cap, rfl⟩ := row_len ho
   exact ⟨a, cap, by simp [World.cell?, hb]⟩
  ·obtain ⟨a, cap, rfl⟩ := row_len ho
   exact ⟨a, cap, by simp [World.cell?, hb]⟩
 obtain ⟨a, cap, c1⟩ := hx
 clear h
 generalize bs.length = m at *
 go_enter Tryz.func107, Tryz.ntmps107
 go_wp2
 go_ret
 exact ⟨rfl, rfl⟩
set_option maxHeartbeats 800000 in
theorem implCnfText (v : Value) (n : Int) (LL : List (List Int)) (w : World) (hT : Pow w) (hn : tot LL ≤ 1048576) (hv : Sls w v LL) :
  Calls Tryz.prog 63 #[.agg #[.int .i64 n, v]] w fun e w' => e = .returned (str (cnfT n LL)) ∧ w.grownBy w' none := by
 have g0 := World.grownBy_alloc w (.cells #[.int .i64 n, v] 26) none
 have cc := ok.implCnfOk v n LL _ hn (hv.kept g0)
 have F0 := hide (cf.Box.new 26 w (.int .i64 n) v)
 have G0 := hide g0
 obtain ⟨a, cap, rfl, ha⟩ := hv
 have HA := hide ha
 have HT := hide hT
 clear ha g0 hT
 cases hok : cnfB n LL
 ·rw [hok] at cc
  rw [cnfT_no hok]
  have C1 := hide cc
  clear cc hok HA HT
  go_enter Tryz.func63, Tryz.ntmps63
  go_wp2_with fail
  refine (unhide C1).mono ?_; rintro e w1 ⟨rfl, g1⟩
  have G1 := hide (grown_trans (r := none) (unhide G0) g1)
  clear g1 F0 C1
  go_wp2_with fail
  go_ret
  exact ⟨rfl, unhide G1⟩
 ·rw [hok] at cc
  have hb : (0 ≤ n ∧ n ≤ 24) ∧ LL.length ≤ 120 := by
   have h := hok
   unfold ok.cnfB at h
   simp only [Bool.and_eq_true, decide_eq_true_iff] at h
   exact ⟨h.1.1, h.1.2⟩
  have T0 := hide (fun h : 12000 < (whole n LL).length => cnfT_long h)
  have T1 := hide (fun h : ¬ 12000 < (whole n LL).length => cnfT_yes hok h)
  have HL := hide (hd_len (n := n) (c := (LL.length : Int)) (by omega) (by omega))
  have HX := hide (fun w' (h : Pow w') => headText n (LL.length : Int) w' h (by omega) (by omega))
  have C1 := hide cc
  have hl120 := hb.2
  unfold whole at T0 T1
  clear cc hok hb
  generalize cnfT n LL = T at *
  go_enter Tryz.func63, Tryz.ntmps63
  go_wp2_with fail
  refine (unhide C1).mono ?_; rintro e w1 ⟨rfl, g1⟩
  have G1 := hide (grown_trans (r := none) (unhide G0) g1)
  have F1 := hide ((unhide F0).kept g1)
  have F2 := hide ((unhide F1).kept (World.grownBy_alloc w1 (.cells #[.pointer none, .slice none 0 0] 136) none))
  have x0 := (unhide F2).c0
  have x1 := (unhide F2).c1
  have START : Hid (txt.Mid w1 (w1.alloc (.cells #[.pointer none, .slice none 0 0] 136)) []) := ⟨txt.is_fresh w1, below_of (World.grownBy_alloc _ _ _)⟩
  have HT2 := hide (((unhide HT).kept (unhide G1)).below (unhide START).2)
  clear g1 F0 C1 G0
  go_wp2_with fail
  refine (unhide HX _ (unhide HT2)).mono ?_; rintro e w3 ⟨rfl, g3⟩
  have B3 := hide (Below.trans (unhide START).2 ((below_of g3).mono (unhide START).2.size))
  have I3 := hide (txt.is_kept (unhide START).1 g3)
  clear g3 START HX HT2
  generalize hd n (LL.length : Int) = H at *
  unfold str
  have hsz : (⟨H.toArray⟩ : ByteArray).size = H.length := by simp [ByteArray.size]
  have hHl := unhide HL
  have WS := hide (bld.writeString w1.heap.size w1.heap.size (Lib.byteCells []) ⟨H.toArray⟩ w3 (unhide I3) (by rw [Lib.byteCells_length, hsz, List.length_nil]; omega) (unhide B3).size)
  clear hsz
  go_wp2_with fail
  refine (unhide WS).mono ?_; rintro e w4 ⟨rfl, u4, b4⟩
  have M4 := hide (txt.Mid.string u4 b4 (unhide B3))
  clear u4 b4 B3 I3 WS x0 x1
  have WB := hide (bld.writeByte w1.heap.size w1.heap.size (Lib.byteCells ([] ++ H)) 10 w4 (unhide M4).1 (by rw [Lib.byteCells_length, List.nil_append]; omega) (unhide M4).2.size)
  go_wp2_with fail
  refine (unhide WB).mono ?_; rintro e w5 ⟨rfl, u5, b5⟩
  have M5 := hide (txt.Mid.byte 10 u5 b5 (unhide M4).2)
  clear u5 b5 M4 WB
  have x1 := ((unhide F1).kept (of_below (unhide M5).2)).c1
  go_wp2_with fail
  go_loopw [20] (fun i wr => ∃ k : Nat, k ≤ LL.length ∧ i = .int .i64 k ∧ Hid (txt.Mid w1 wr (H ++ [10] ++ lines (LL.take k)))) (fun i _ => LL.length - (intOf i).toNat)
  case atStart => exact ⟨0, Nat.zero_le _, rfl, by have := unhide M5; rw [List.nil_append] at this; show txt.Mid _ _ _; rw [List.take_zero]; show txt.Mid _ _ (H ++ [10] ++ []); rw [List.append_nil]; exact this⟩
  case round =>
   obtain ⟨k, hk, rfl, hm⟩ := hrel
   clear M5 x1
   have hll := lines_len (LL.take k)
   rw [List.length_take] at hll
   have hll' : (H ++ [10] ++ lines (LL.take k)).length ≤ 70000 := by
    simp only [List.length_append, List.length_cons, List.length_nil]
    omega
   clear hll
   have gw := grown_trans (r := none) (unhide G1) (of_below (unhide hm).2)
   by_cases hlt : k < LL.length
   ·rcases unhide HA with h | ⟨b, off, rfl, hb, hcb⟩
    ·rw [h] at hlt
     simp at hlt
    ·obtain ⟨u, hu, hs⟩ := hcb k hlt
     have c1 : wr.cell? ⟨b, off + k, none⟩ = some u := gw.cell hu (fun e => by cases e)
     have hi' : (k : Int) < (LL.length : Int) := by omega
     have ST := hide (lines_step LL k hlt)
     have hL := Nat.le_trans (css.tot_in LL k) hn
     generalize LL.getD k [] = L at *
     have CT := hide (txt.implClauseText u L wr ((unhide HT).kept gw) hL (hs.kept gw (.inl rfl)))
     have htl := text_len L
     clear hcb HA hs hu gw hL
     generalize lines (LL.take k) = o at *
     generalize text L = t at *
     go_wp2_with fail
     refine (unhide CT).mono ?_; rintro e w6 ⟨rfl, g6⟩
     have B6 := hide (Below.trans (unhide hm).2 ((below_of g6).mono (unhide hm).2.size))
     have I6 := hide (txt.is_kept (unhide hm).1 g6)
     clear g6 CT hm
     have hsz : (⟨t.toArray⟩ : ByteArray).size = t.length := by simp [ByteArray.size]
     have HO := hide hll'
     clear hll'
     generalize hq0 : H ++ [10] ++ o = q at *
     have HQ := hide hq0
     clear hq0
     have WS := hide (bld.writeString w1.heap.size w1.heap.size (Lib.byteCells q) ⟨t.toArray⟩ w6 (unhide I6) (by have := unhide HO; rw [Lib.byteCells_length, hsz]; omega) (unhide B6).size)
     clear hsz
     go_wp2_with fail
     refine (unhide WS).mono ?_; rintro e w7 ⟨rfl, u7, b7⟩
     have M7 := hide (txt.Mid.string u7 b7 (unhide B6))
     clear u7 b7 B6 I6 WS
     have WB := hide (bld.writeByte w1.heap.size w1.heap.size (Lib.byteCells (q ++ t)) 10 w7 (unhide M7).1 (by have := unhide HO; rw [Lib.byteCells_length, List.length_append]; omega) (unhide M7).2.size)
     go_wp2_with fail
     refine (unhide WB).mono ?_; rintro e w8 ⟨rfl, u8, b8⟩
     have M8 := hide (txt.Mid.byte 10 u8 b8 (unhide M7).2)
     clear u8 b8 M7 WB
     go_wp2_with fail
     go_roundw
     case rel => exact ⟨k + 1, by omega, by go_num, by rw [unhide ST, ← List.append_assoc, ← List.append_assoc, unhide HQ]; exact M8⟩
     case measure => simp [intOf]; omega
   ·have hi' : ¬ (k : Int) < (LL.length : Int) := by omega
    have e : LL.take k = LL := List.take_of_length_le (by omega)
    rw [e] at hm hll'
    clear HA e gw HL hHl
    generalize H ++ [10] ++ lines LL = q at *
    have BL := hide (builderLen w1.heap.size w1.heap.size (Lib.byteCells q) wr (by rw [Lib.byteCells_length]; omega) (unhide hm).1)
    rw [Lib.byteCells_length] at BL
    by_cases hq : 12000 < q.length
    ·have hq' : (12000 : Int) < (q.length : Int) := by omega
     have E := hide (unhide T0 hq)
     clear T0 T1 hq
     go_wp2_with fail
     refine (unhide BL).mono ?_; rintro e w2 ⟨rfl, hw⟩; have hw' := hw.symm; clear hw; subst hw'
     go_wp2_with fail
     go_ret
     exact ⟨by rw [unhide E]; rfl, grown_trans (unhide G1) (of_below (unhide hm).2)⟩
    ·have hq' : ¬ (12000 : Int) < (q.length : Int) := by omega
     have E := hide (unhide T1 hq)
     clear T0 T1 hq
     go_wp2_with fail
     refine (unhide BL).mono ?_; rintro e w2 ⟨rfl, hw⟩; have hw' := hw.symm; clear hw; subst hw'
     have SA := hide (Tryz.Builder_String_any w1.heap.size w1.heap.size q wr (unhide hm).1 (unhide hm).2.size)
     go_wp2_with fail
     refine (unhide SA).mono ?_; rintro e w6 ⟨rfl, b6⟩
     have B6 := hide ((unhide hm).2.trans b6)
     clear b6 SA
     go_wp2_with fail
     go_ret
     exact ⟨by rw [unhide E]; rfl, grown_trans (unhide G1) (of_below (unhide B6))⟩
end Go.Proofs.YtnlllcgcaddhmaaGreatDoor.cx
namespace Go.Proofs.YtnlllcgcaddhmaaGreatDoor.byt
open Go.ChangeShapes Go.WideShapes Go.ChangeAt Go.RowKit
open sl (hide unhide grown_refl grown_trans of_below below_of)
open dec (str)
set_option linter.unusedVariables false
def Byt (lo : Nat) (w : World) (v : Value) (l : List UInt8) : Prop :=
 ∃ g cap cur fz, v = .slice (some ⟨g, 0, none⟩) l.length cap ∧ lo ≤ g ∧ w.heap[g]? = some (.cells cur 5 fz) ∧ (fz.2 = 0 ∨ cap ≤ fz.1) ∧ l.length ≤ cap ∧ cap ≤ maxLen ∧ cur.size = cap ∧ cur.toList.take l.length = Lib.byteCells l
theorem Byt.form {lo : Nat} {w : World} {v : Value} {l : List UInt8} (h : Byt lo w v l) : ∃ g cap, v = .slice (some ⟨g, 0, none⟩) l.length cap := by
 obtain ⟨g, cap, _, _, rfl, _⟩ := h
 exact ⟨g, cap, rfl⟩
theorem Byt.kept {lo : Nat} {w w' : World} {v : Value} {l : List UInt8} (h : Byt lo w v l) (k : w.grownBy w' none) : Byt lo w' v l := by
 obtain ⟨g, cap, cur, fz, rfl, h1, h2, r⟩ := h
 exact ⟨g, cap, cur, fz, rfl, h1, (k.block g (Array.getElem?_eq_some_iff.1 h2).1 (fun e => by cases e)).trans h2, r⟩
theorem Byt.cells {lo : Nat} {w : World} {a : Addr} {n cap : Nat} {l : List UInt8} (h : Byt lo w (.slice (some a) n cap) l) : ∀ j u, (Lib.byteCells l)[j]? = some u → w.cell? (a.add j) = some u := by
 obtain ⟨g, c, cur, fz, e, h1, h2, _, _, _, _, ht⟩ := h
 cases e
 intro j u hu
 rw [← ht, List.getElem?_take] at hu
 split at hu
 ·have e2 : (⟨g, 0, none⟩ : Addr).add j = ⟨g, j, none⟩ := by unfold Addr.add; split <;> simp_all
  rw [e2]
  simpa [World.cell?, h2] using hu
 ·cases hu
theorem put (P : Program) (g o : Nat) (t : TypeId) (fz : Nat × Nat) (vs : List Value) : ∀ (i : Nat) (cur : Array Value) (w : World), w.heap[g]? = some (.cells cur t fz) → (fz.2 = 0 ∨ o + i + vs.length ≤ fz.1) → o + i + vs.length ≤ cur.size → (∀ v ∈ vs, v.oneCell' = true) →
  (storeCells ⟨g, o, none⟩ vs i).run P w = .ok () (w.setRow g (cur.toList.take (o + i) ++ vs ++ cur.toList.drop (o + i + vs.length)).toArray) := by
 induction vs with
 | nil =>
  intro i cur w hg _ _ _
  simp only [storeCells, List.append_nil, List.length_nil, Nat.add_zero, List.take_append_drop, Array.toArray_toList]
  rw [setRow_self w g cur t fz hg]
  rfl
 | cons v rest ih =>
  intro i cur w hg hz hl h1
  rw [List.length_cons] at hz hl
  have hi : o + i < cur.size := by omega
  have ea : (⟨g, o, none⟩ : Addr).add i = ⟨g, o + i, none⟩ := by unfold Addr.add; split <;> simp_all
  have hc : w.cell? ⟨g, o + i, none⟩ = some cur[o + i] := by simp [World.cell?, hg, hi]
  have hf : w.frozen? ⟨g, o + i, none⟩ = false := by
   obtain ⟨x, y⟩ := fz
   simp only at hz
   simp only [World.frozen?, hg, Bool.and_eq_false_iff, decide_eq_false_iff_not]
   omega
  have hs : (store ((⟨g, o, none⟩ : Addr).add i) v).run P w = .ok () (w.setRow g (cur.setIfInBounds (o + i) v)) := by
   rw [ea, run_store P w _ v _ (h1 v (by simp)), hc]
   simp [hf, setCell_eq_setRow w g (o + i) cur t fz v hg]
  have h := ih (i + 1) (cur.setIfInBounds (o + i) v) (w.setRow g (cur.setIfInBounds (o + i) v)) (setRow_heap w g cur _ t _ hg) (by omega) (by simp; omega) (fun x hx => h1 x (by simp [hx]))
  simp only [storeCells, Sem.run_bind, hs, Result.andThen_ok, h, setRow_setRow]
  congr 3
  have e := list_seg_step cur.toList (o + i) v rest (by simp; omega)
  simpa [Array.toList_setIfInBounds, Nat.add_assoc] using e
theorem infoU : (Tryz.prog.info? 5).map (fun i => (i.zero, i.size, i.bytes)) = some (some (.int .u8 0), 1, 1) := by kernel_rfl
def MadeB (w w1 : World) (v : Value) (l : List UInt8) : Prop := Byt w.heap.size w1 v l ∧ w.grownBy w1 none
theorem run_app (w wr : World) (v : Value) (l t : List UInt8) (ty : TypeId) (a : Addr) (c : Nat) (hm : MadeB w wr v l) (hc : ∀ j u, (Lib.byteCells t)[j]? = some u → wr.cell? (a.add j) = some u) (hl : l.length + t.length ≤ 4194304) :
  ∃ v' w1, (Builtin.append_ #[22, 22] ty #[v, .slice (some a) t.length c]).run Tryz.prog wr = .ok v' w1 ∧ MadeB w w1 v' (l ++ t) := by
 obtain ⟨i0, hi, hz0, hz1, hz2⟩ := info_parts infoU
 obtain ⟨hb, gw⟩ := hm
 have hb' := hb
 obtain ⟨g, cap, cur, fz, rfl, h1, h2, h3, h4, h5, h6, h7⟩ := hb
 have hlt : (Lib.byteCells t).length = t.length * i0.size := by rw [Lib.byteCells_length, hz1, Nat.mul_one]
 have hll : (Lib.byteCells l).length = l.length * i0.size := by rw [Lib.byteCells_length, hz1, Nat.mul_one]
 by_cases hr : l.length + t.length ≤ cap
 ·have hf := run_firstCells_some (P := Tryz.prog) wr i0.size t.length a t.length c (Lib.byteCells t) hlt hc
  have hst := put Tryz.prog g l.length 5 fz (Lib.byteCells t) 0 cur wr h2 (by rw [Lib.byteCells_length]; omega) (by rw [Lib.byteCells_length]; omega) (Lib.byteCells_one t)
  simp only [Nat.add_zero] at hst
  refine ⟨.slice (some ⟨g, 0, none⟩) (l.length + t.length) cap, wr.setRow g (cur.toList.take l.length ++ Lib.byteCells t ++ cur.toList.drop (l.length + (Lib.byteCells t).length)).toArray, ?_, ?_, ?_⟩
  ·simp [Builtin.append_, run_underlying Tryz.underlying22, sizeOf, typeInfo, hi, hz1, Builtin.lenOf, hr, Addr.add_lit]
   rw [hz1] at hf
   simp [hf, hst]
  ·refine ⟨g, cap, _, fz, by rw [List.length_append], h1, setRow_heap wr g cur _ 5 _ h2, h3, by rw [List.length_append]; exact hr, h5, ?_, ?_⟩
   ·simp only [List.size_toArray, List.length_append, List.length_take, List.length_drop, Array.length_toList, Lib.byteCells_length]
    omega
   ·rw [h7, ← Lib.byteCells_append, show (l ++ t).length = (Lib.byteCells (l ++ t)).length from (Lib.byteCells_length _).symm]
    exact List.take_left
  ·exact ⟨gw.os, gw.tape, gw.output, by simpa using gw.size, fun k hk _ => (setRow_other wr g k _ (by omega)).trans (gw.block k hk (fun e => by cases e))⟩
 ·have hgr := run_append_grow (P := Tryz.prog) wr 22 ty 5 i0 (.int .u8 0) Tryz.underlying22 hi hz0 ⟨g, 0, none⟩ l.length cap (Lib.byteCells l) hll hb'.cells a t.length c (Lib.byteCells t) hlt hc (by omega) (by omega) (growslice_fits (by omega) (by rw [hz2]; omega))
  have hge := grownCap_ge wr (l.length + t.length) cap 5
  have hle := grownCap_le_maxLen wr (l.length + t.length) cap 5 (by unfold maxLen; omega)
  refine ⟨_, _, hgr, ⟨wr.heap.size, _, _, (0, 0), by rw [List.length_append], gw.size, heap_alloc_new wr.drew _, .inl rfl, by rw [List.length_append]; exact hge, hle, ?_, ?_⟩, grown_trans gw ⟨rfl, rfl, rfl, by simp, fun k hk _ => Go.heap_alloc_old wr.drew _ hk⟩⟩
  ·have z1 : (Value.int IntKind.u8 0).cells.size = 1 := rfl
   simp only [Array.size_append, List.size_toArray, size_zeroCells, z1, Lib.byteCells_length]
   omega
  ·simp only [Array.toList_append, List.append_assoc]
   rw [← List.append_assoc, ← Lib.byteCells_append, show (l ++ t).length = (Lib.byteCells (l ++ t)).length from (Lib.byteCells_length _).symm]
   exact List.take_left
theorem app {ops : Array Oper} {rest : List Oper} {o : Oper} {a : Act} {Q : Exit → Act → World → Prop} {w wr : World} {v u : Value} {l t : List UInt8} {lo : Nat}
  (hm : MadeB w wr v l) (hu : Byt lo wr u t) (hl : l.length + t.length ≤ 4194304) (hgd : o.guard = none) (s x : Operand)
  (ho : o.op = .call { callee := .builtin .append, args := #[s, x], argTypes := #[22, 22] }) (hs : a.eval s = v) (hx : a.eval x = u)
  (h : ∀ v' w1, MadeB w w1 v' (l ++ t) → wpList Tryz.prog ops Q rest (a.put o.dst v') w1) :
  wpList Tryz.prog ops Q (o :: rest) a wr := by
 refine wpList_plain hgd fun K hK => ?_
 obtain ⟨g, cap, rfl⟩ := hu.form
 obtain ⟨v', w1, hr, h2⟩ := run_app w wr v l t o.type ⟨g, 0, none⟩ cap hm hu.cells hl
 unfold Oper.wp execOp
 simp only [ho, resolve, invoke, builtin, Sem.run_bind, Sem.run_pure, Result.andThen_ok, List.map_toArray, List.map_cons, List.map_nil, hs, hx, hr]
 exact hK _ _ (h v' w1 h2)
theorem run_of (w : World) (l : List UInt8) (hl : l.length ≤ 4194304) :
  ∃ v w1, (convert 9 22 (.string ⟨l.toArray⟩)).run Tryz.prog w = .ok v w1 ∧ MadeB w w1 v l := by
 have h := run_bytes_of_string (P := Tryz.prog) w 9 22 5 ⟨l.toArray⟩ Tryz.underlying9 Tryz.underlying22 Tryz.underlying5
 have e : (⟨l.toArray⟩ : ByteArray).size = l.length := by simp [ByteArray.size]
 rw [e] at h
 have hge := grownCap_ge w l.length 0 5
 have hle := grownCap_le_maxLen w l.length 0 5 (by unfold maxLen; omega)
 have hsz : (bytesRow ⟨l.toArray⟩ (grownCap w l.length 0 5)).size = grownCap w l.length 0 5 := by
  simp [bytesRow, e]
  omega
 refine ⟨_, _, h, ⟨w.heap.size, _, _, _, rfl, Nat.le_refl _, Go.heap_alloc_new w.drew _, .inr (by rw [hsz]; exact Nat.le_refl _), hge, hle, hsz, ?_⟩, ⟨rfl, rfl, rfl, by simp, fun k hk _ => Go.heap_alloc_old w.drew _ hk⟩⟩
 simp [bytesRow, Lib.byteCells]
theorem run_back (w : World) (v : Value) (l : List UInt8) (lo : Nat) (h : Byt lo w v l) : (convert 22 9 v).run Tryz.prog w = .ok (str l) w := by
 obtain ⟨g, cap, rfl⟩ := h.form
 refine run_convert_bytes_back (P := Tryz.prog) w 22 9 5 ⟨g, 0, none⟩ cap l Tryz.underlying22 Tryz.underlying5 Tryz.underlying9 fun j hj => h.cells j _ ?_
 simp [Lib.byteCells, hj]
end Go.Proofs.YtnlllcgcaddhmaaGreatDoor.byt
namespace Go.Proofs.YtnlllcgcaddhmaaGreatDoor.cx
open Go.ChangeShapes Go.WideShapes Go.ChangeAt Go.RowKit
open sl (Sl hide unhide grown_refl grown_trans grown_drewN of_below below_of)
open dec (str)
open css (Sls tot)
open ok (cnfB clB)
open txt (Pow text body)
open byt (Byt MadeB)
set_option linter.unusedVariables false
theorem cat5 (a b : List UInt8) : (⟨#[112, 32, 99, 110, 102, 32]⟩ : ByteArray) ++ ⟨a.toArray⟩ ++ ⟨#[32]⟩ ++ ⟨b.toArray⟩ ++ ⟨#[10]⟩ = ⟨([112, 32, 99, 110, 102, 32] ++ a ++ [32] ++ b ++ [10]).toArray⟩ := ByteArray.ext (by simp)
theorem cat6 (a : List UInt8) : (⟨a.toArray⟩ : ByteArray) ++ ⟨#[10]⟩ = ⟨(a ++ [10]).toArray⟩ := ByteArray.ext (by simp)
set_option maxHeartbeats 4000000 in
set_option maxRecDepth 100000 in
theorem specCnfText (v : Value) (n : Int) (LL : List (List Int)) (w : World) (hn : tot LL ≤ 1048576) (hv : Sls w v LL) :
  Calls Tryz.prog 76 #[.agg #[.int .i64 n, v]] w fun e w' => e = .returned (str (cnfT n LL)) ∧ w.grownBy w' none := by
 have g0 := World.grownBy_alloc w (.cells #[.int .i64 n, v] 26) none
 have cc := ok.specCnfOk v n LL _ hn (hv.kept g0)
 have F0 := hide (cf.Box.new 26 w (.int .i64 n) v)
 have G0 := hide g0
 obtain ⟨a, cap, rfl, ha⟩ := hv
 have HA := hide ha
 clear ha g0
 cases hok : cnfB n LL
 ·rw [hok] at cc
  rw [cnfT_no hok]
  have C1 := hide cc
  clear cc hok HA
  go_enter Tryz.func76, Tryz.ntmps76
  go_wp2_with fail
  refine (unhide C1).mono ?_; rintro e w1 ⟨rfl, g1⟩
  have G1 := hide (grown_trans (r := none) (unhide G0) g1)
  clear g1 F0 C1
  go_wp2_with fail
  go_ret
  exact ⟨rfl, unhide G1⟩
 ·rw [hok] at cc
  have hb : (0 ≤ n ∧ n ≤ 24) ∧ LL.length ≤ 120 := by
   have h := hok
   unfold ok.cnfB at h
   simp only [Bool.and_eq_true, decide_eq_true_iff] at h
   exact ⟨h.1.1, h.1.2⟩
  have T0 := hide (fun h : 12000 < (whole n LL).length => cnfT_long h)
  have T1 := hide (fun h : ¬ 12000 < (whole n LL).length => cnfT_yes hok h)
  have HL := hide (hd_len (n := n) (c := (LL.length : Int)) (by omega) (by omega))
  have D1 := hide (fun w' => dec.l01Dec n w' (by omega) (by omega))
  have D2 := hide (fun w' => dec.l01Dec (LL.length : Int) w' (by omega) (by omega))
  have l1 := itoa_len (x := n) (by omega) (by omega)
  have l2 := itoa_len (x := (LL.length : Int)) (by omega) (by omega)
  have C1 := hide cc
  have hl120 := hb.2
  unfold whole hd at T0 T1
  unfold hd at HL
  clear cc hok hb
  generalize cnfT n LL = T at *
  generalize Lib.itoa n = s at *
  generalize Lib.itoa (LL.length : Int) = t at *
  go_enter Tryz.func76, Tryz.ntmps76
  go_wp2_with fail
  refine (unhide C1).mono ?_; rintro e w1 ⟨rfl, g1⟩
  have G1 := hide (grown_trans (r := none) (unhide G0) g1)
  have F1 := hide ((unhide F0).kept g1)
  have x0 := (unhide F1).c0
  have x1 := (unhide F1).c1
  clear g1 F0 C1 G0
  obtain ⟨u1, w2, hcv, hm2⟩ := byt.run_of w1.drew ([112, 32, 99, 110, 102, 32] ++ s ++ [32] ++ t ++ [10]) (by simp only [List.length_append, List.length_cons, List.length_nil]; omega)
  rw [← cat5] at hcv
  have M2 := hide hm2
  clear hm2
  unfold str at D1 D2
  go_upto_region 3 with fail
  go_cut [3] from 8 to 19 (fun u wx => u = u1 ∧ wx = w2)
  case first =>
   go_region_with (first | (go_at_call_of 127 (Value.int IntKind.i64 n); refine (unhide D1 _).mono ?_; rintro e w' ⟨rfl, rfl⟩) | (go_at_call 127; refine (unhide D2 _).mono ?_; rintro e w' ⟨rfl, rfl⟩))
   all_goals (go_wp2_with fail; go_meet; exact ⟨rfl, rfl⟩)
  case rest =>
   obtain ⟨rfl, rfl⟩ := hcut
   have hHl : ([112, 32, 99, 110, 102, 32] ++ s ++ [32] ++ t ++ [10]).length ≤ 48 := by
    simp only [List.length_append, List.length_cons, List.length_nil]
    omega
   clear hcv D1 D2 l1 l2 HL x0 x1
   generalize [112, 32, 99, 110, 102, 32] ++ s ++ [32] ++ t ++ [10] = H at *
   have x1 := ((unhide F1).kept (grown_trans (r := none) (cf.grown_drew w1 none) (unhide M2).2)).c1
   go_wp2_with fail
   go_loopw [3, 4] (fun u i wr => ∃ k : Nat, k ≤ LL.length ∧ i = .int .i64 k ∧ Hid (MadeB w1.drew wr u (H ++ lines (LL.take k)))) (fun _ i _ => LL.length - (intOf i).toNat)
   case atStart => exact ⟨0, Nat.zero_le _, rfl, by rw [List.take_zero]; show MadeB _ _ _ (H ++ []); rw [List.append_nil]; exact M2⟩
   case round =>
    obtain ⟨k, hk, rfl, hm⟩ := hrel
    clear M2 x1
    have hll := lines_len (LL.take k)
    rw [List.length_take] at hll
    have hll' : (H ++ lines (LL.take k)).length ≤ 70000 := by
     rw [List.length_append]
     omega
    clear hll
    have g2 := grown_trans (r := none) (cf.grown_drew w1 none) (unhide hm).2
    have gw := grown_trans (r := none) (unhide G1) g2
    have x1 := ((unhide F1).kept g2).c1
    obtain ⟨g, c, rfl⟩ := (unhide hm).1.form
    clear g2
    by_cases hlt : k < LL.length
    ·rcases unhide HA with h | ⟨b, off, rfl, hb, hcb⟩
     ·rw [h] at hlt
      simp at hlt
     ·obtain ⟨u, hu, hs⟩ := hcb k hlt
      have c1 : wr.cell? ⟨b, off + k, none⟩ = some u := gw.cell hu (fun e => by cases e)
      have hi' : (k : Int) < (LL.length : Int) := by omega
      have ST := hide (lines_step LL k hlt)
      have hL := Nat.le_trans (css.tot_in LL k) hn
      generalize LL.getD k [] = L at *
      have CT := hide (txt.specClauseText u L wr hL (hs.kept gw (.inl rfl)))
      have htl := text_len L
      clear hcb HA hs hu gw hL
      generalize lines (LL.take k) = o at *
      generalize text L = r at *
      generalize hq0 : H ++ o = q at *
      have HQ := hide hq0
      obtain ⟨u2, w3, hcv, hm3⟩ := byt.run_of wr (r ++ [10]) (by rw [List.length_append]; simp only [List.length_cons, List.length_nil]; omega)
      rw [← cat6] at hcv
      have M3 := hide hm3
      have MM := hide (show MadeB w1.drew w3 _ q from ⟨(unhide hm).1.kept hm3.2, grown_trans (unhide hm).2 hm3.2⟩)
      have hbd : q.length + (r ++ [10]).length ≤ 4194304 := by rw [List.length_append]; simp only [List.length_cons, List.length_nil]; omega
      have HBD := hide hbd
      obtain ⟨m, hm0⟩ : ∃ m, m = q.length := ⟨_, rfl⟩
      unfold str at CT
      rw [← hm0] at MM ⊢
      clear hq0 hm3 hbd hm hm0 hll'
      go_wp2_with fail
      refine (unhide CT).mono ?_; rintro e w2 ⟨rfl, hw⟩; have hw' := hw.symm; clear hw; subst hw'
      go_wp2_with (at_builtin; refine byt.app (unhide MM) (unhide M3).1 (unhide HBD) rfl _ _ rfl rfl rfl ?_)
      intro v' w4 R
      have R4 := hide R
      clear R
      go_wp2_with fail
      go_roundw
      case rel => exact ⟨k + 1, by omega, by go_num, by rw [unhide ST, ← List.append_assoc, unhide HQ]; exact R4⟩
      case measure => simp [intOf]; omega
    ·have hi' : ¬ (k : Int) < (LL.length : Int) := by omega
     have e : LL.take k = LL := List.take_of_length_le (by omega)
     rw [e] at hm hll' ⊢
     clear HA e gw hHl
     generalize H ++ lines LL = q at *
     by_cases hq : 12000 < q.length
     ·have hq' : (12000 : Int) < (q.length : Int) := by omega
      have E := hide (unhide T0 hq)
      clear T0 T1 hq
      go_wp2_with fail
      go_ret
      exact ⟨by rw [unhide E]; rfl, grown_trans (grown_trans (r := none) (unhide G1) (cf.grown_drew w1 none)) (unhide hm).2⟩
     ·have hq' : ¬ (12000 : Int) < (q.length : Int) := by omega
      have E := hide (unhide T1 hq)
      clear T0 T1 hq
      have hcv := byt.run_back wr _ q _ (unhide hm).1
      unfold str at hcv
      go_wp2_with fail
      go_ret
      exact ⟨by rw [unhide E]; rfl, grown_trans (grown_trans (r := none) (unhide G1) (cf.grown_drew w1 none)) (unhide hm).2⟩
end Go.Proofs.YtnlllcgcaddhmaaGreatDoor.cx
