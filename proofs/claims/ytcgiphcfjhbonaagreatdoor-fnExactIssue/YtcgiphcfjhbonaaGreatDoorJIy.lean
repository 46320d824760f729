/- Assignments as texts: what trueLiterals, l03Lits and AssignText (of the program and of its model) answer at every list of at most 2^20 numbers, where the library's table of powers lies as its text lays it. Structs of four values in memory; what the small helpers on certificates (a size, a copy, an equality) do; no condition but on sizes. What Digest (of the program and of its model) answers; no condition but on the sizes and that the tables of the library and of the program lie as their texts lay them. What is signed of a certificate (by the program and by its model); no condition but on the sizes. What Issue answers, as plain mathematics; no condition. What is found of a formula (by the program: an answer of either kind behind one face), and its text; no condition but on the sizes and that the tables of the library lie as their texts lay them. What Issue (of the program and of its model) answers; no condition but on the sizes and that the tables of the library and of the program lie as their texts lay them. What Issue of the model answers; no condition but on the sizes. Issue of the program answers as that of the model; no condition but on the sizes and that the tables of the library and of the program lie as their texts lay them. Certificates that are equal are told to be; no condition. -/
import Derived.Test.YtcgiphcfjhbonaaGreatDoorJIt
import Derived.Test.YtcgiphcfjhbonaaGreatDoorTr
import Derived.Test.YtcgiphcfjhbonaaGreatDoorApp
import Derived.Test.YtcgiphcfjhbonaaGreatDoorTl
import Derived.Test.YtcgiphcfjhbonaaGreatDoorSl
import Derived.Test.YtcgiphcfjhbonaaGreatDoorJIq
import Derived.Test.YtcgiphcfjhbonaaGreatDoorJIz
import Derived.Test.YtcgiphcfjhbonaaGreatDoorJIm
import Derived.Test.YtcgiphcfjhbonaaGreatDoorLq
import Derived.Test.YtcgiphcfjhbonaaGreatDoorJIl
import Derived.Stop.Asserts
import Derived.Test.YtcgiphcfjhbonaaGreatDoorLs5
namespace Go.Proofs.YtcgiphcfjhbonaaGreatDoor.as_
open Go.ChangeShapes Go.WideShapes Go.ChangeAt Go.RowKit
open sl (Sl Own ints hide unhide ret_int ret_bool grown_refl grown_trans grown_drewN below_of of_below)
open dec (str)
open tr (bitB)
open wo (Made)
open txt (Pow text)
set_option linter.unusedVariables false

def asText (A : List Int) : List UInt8 := if decide (A.length ≤ 24) && A.all bitB then text (tl 0 A) else []
theorem asText_no {A : List Int} (h : (decide (A.length ≤ 24) && A.all bitB) = false) : asText A = [] := by unfold asText; rw [h]; rfl
theorem asText_yes {A : List Int} (h1 : A.length ≤ 24) (h2 : A.all bitB = true) : asText A = text (tl 0 A) := by unfold asText; rw [decide_eq_true h1, h2]; rfl

theorem implAssignText (v : Value) (A : List Int) (w : World) (hT : Pow w) (hL : A.length ≤ 1048576) (hv : Sl w v A) :
  Calls Tryz.prog 262 #[v] w fun e w' => e = .returned (str (asText A)) ∧ w.grownBy w' none := by
 have CI := tr.isAssignment v A w hL hv
 have TL := hide (trueLiterals v A w hL hv)
 obtain ⟨a, cap, rfl, ha⟩ := hv
 have HT := hide hT
 clear ha hT
 by_cases h24 : A.length ≤ 24
 ·have h24' : ¬ (24 : Int) < (A.length : Int) := by omega
  cases hb : A.all bitB
  ·rw [hb] at CI
   have C1 := hide CI
   have E := hide (asText_no (A := A) (by rw [hb, Bool.and_false]))
   clear CI hb
   go_enter Tryz.func262, Tryz.ntmps262
   go_wp2_with (go_at_call 264; refine (unhide C1).mono ?_; rintro e w' ⟨rfl, hw⟩; have hw' := hw.symm; clear hw; subst hw')
   go_ret
   exact ⟨by rw [unhide E]; rfl, grown_refl _⟩
  ·rw [hb] at CI
   have C1 := hide CI
   have E := hide (asText_yes h24 hb)
   have hl : (tl 0 A).length ≤ 1048576 := by rw [tl_len]; omega
   clear CI hb
   go_enter Tryz.func262, Tryz.ntmps262
   go_wp2_with (go_at_call 264; refine (unhide C1).mono ?_; rintro e w' ⟨rfl, hw⟩; have hw' := hw.symm; clear hw; subst hw')
   go_wp2_with fail
   refine (unhide TL).mono ?_; rintro e w1 ⟨u1, rfl, m1⟩
   have CT := hide (txt.implClauseText u1 (tl 0 A) w1 ((unhide HT).kept m1.2) hl (Sl.of_own m1.1))
   have G1 := hide m1.2
   clear m1 TL C1
   go_wp2_with fail
   refine (unhide CT).mono ?_; rintro e w2 ⟨rfl, g2⟩
   have G2 := hide (grown_trans (r := none) (unhide G1) g2)
   clear g2 CT
   go_wp2_with fail
   go_ret
   exact ⟨by rw [unhide E]; rfl, unhide G2⟩
 ·have h24' : (24 : Int) < (A.length : Int) := by omega
  have E := hide (asText_no (A := A) (by rw [decide_eq_false h24]; rfl))
  clear CI TL
  go_enter Tryz.func262, Tryz.ntmps262
  go_wp2_with fail
  go_ret
  exact ⟨by rw [unhide E]; rfl, grown_refl _⟩

set_option maxHeartbeats 800000 in
theorem specAssignText (v : Value) (A : List Int) (w : World) (hL : A.length ≤ 1048576) (hv : Sl w v A) :
  Calls Tryz.prog 59 #[v] w fun e w' => e = .returned (str (asText A)) ∧ w.grownBy w' none := by
 have TL := hide (l03Lits v A w hL hv)
 obtain ⟨a, cap, rfl, ha⟩ := hv
 have HA := hide ha
 clear ha
 by_cases h24 : A.length ≤ 24
 ·have h24' : ¬ (24 : Int) < (A.length : Int) := by omega
  go_enter Tryz.func59, Tryz.ntmps59
  go_wp2
  go_loop [3] (fun i => ∃ k : Nat, k ≤ A.length ∧ i = .int .i64 k ∧ Hid ((A.take k).all bitB = true)) (fun i => A.length - (intOf i).toNat)
  case atStart => exact ⟨0, Nat.zero_le _, rfl, by show _ = _; simp⟩
  case round =>
   obtain ⟨k, hk, rfl, hall⟩ := hrel
   by_cases hlt : k < A.length
   ·rcases unhide HA with h | ⟨b, off, rfl, hb, hcb⟩
    ·rw [h] at hlt
     simp at hlt
    ·have c1 := hcb k hlt
     have hi' : (k : Int) < (A.length : Int) := by omega
     have h1 := ok.all_hit bitB A k 0 hlt
     have h2 := ok.all_step bitB A k 0 hlt (unhide hall)
     generalize A.getD k 0 = x at *
     have cx := fun w => ok.l01In x 0 1 w
     clear hcb HA hall
     cases hx : bitB x
     ·have hx' := hx
      unfold tr.bitB at hx'
      rw [hx'] at cx
      have CX := hide cx
      have E := hide (asText_no (A := A) (by rw [h1 hx, Bool.and_false]))
      clear h1 h2 hx hx' cx
      go_wp2_with (go_at_call 99; refine (unhide CX _).mono ?_; rintro e w' ⟨rfl, rfl⟩)
      go_ret
      exact ⟨by rw [unhide E]; rfl, grown_refl _⟩
     ·have hx' := hx
      unfold tr.bitB at hx'
      rw [hx'] at cx
      have CX := hide cx
      have H := hide (h2 hx)
      clear h1 h2 hx hx' cx
      go_wp2_with (go_at_call 99; refine (unhide CX _).mono ?_; rintro e w' ⟨rfl, rfl⟩)
      go_round
      case rel => exact ⟨k + 1, by omega, by go_num, H⟩
      case measure => simp [intOf]; omega
   ·have hi' : ¬ (k : Int) < (A.length : Int) := by omega
    have ha := ok.all_end bitB A k hlt (unhide hall)
    have E := hide (asText_yes h24 ha)
    have hl : (tl 0 A).length ≤ 1048576 := by rw [tl_len]; omega
    clear HA hall ha
    go_wp2_with fail
    refine (unhide TL).mono ?_; rintro e w1 ⟨u1, rfl, m1⟩
    have CT := hide (txt.specClauseText u1 (tl 0 A) w1 hl (Sl.of_own m1.1))
    have G1 := hide m1.2
    clear m1 TL
    go_wp2_with fail
    refine (unhide CT).mono ?_; rintro e w2 ⟨rfl, hw⟩; have hw' := hw.symm; clear hw; subst hw'
    clear CT
    go_wp2_with fail
    go_ret
    exact ⟨by rw [unhide E]; rfl, unhide G1⟩
 ·have h24' : (24 : Int) < (A.length : Int) := by omega
  have E := hide (asText_no (A := A) (by rw [decide_eq_false h24]; rfl))
  clear TL
  go_enter Tryz.func59, Tryz.ntmps59
  go_wp2_with fail
  go_ret
  exact ⟨by rw [unhide E]; rfl, grown_refl _⟩
end Go.Proofs.YtcgiphcfjhbonaaGreatDoor.as_
namespace Go.Proofs.YtcgiphcfjhbonaaGreatDoor.yb
open Go.ChangeShapes Go.WideShapes Go.ChangeAt Go.RowKit
open sl (hide unhide ret_int ret_bool grown_refl grown_trans grown_drewN)
set_option linter.unusedVariables false
def Box4 (t : TypeId) (w : World) (c : Nat) (a b p x : Value) : Prop := w.heap[c]? = some (.cells #[a, b, p, x] t (0, 0))
theorem Box4.c0 {t : TypeId} {w : World} {c : Nat} {a b p x : Value} (h : Box4 t w c a b p x) : w.cell? ⟨c, 0, none⟩ = some a := by
 unfold Box4 at h
 simp [World.cell?, h]
theorem Box4.c1 {t : TypeId} {w : World} {c : Nat} {a b p x : Value} (h : Box4 t w c a b p x) : w.cell? ⟨c, 1, none⟩ = some b := by
 unfold Box4 at h
 simp [World.cell?, h]
theorem Box4.c2 {t : TypeId} {w : World} {c : Nat} {a b p x : Value} (h : Box4 t w c a b p x) : w.cell? ⟨c, 2, none⟩ = some p := by
 unfold Box4 at h
 simp [World.cell?, h]
theorem Box4.c3 {t : TypeId} {w : World} {c : Nat} {a b p x : Value} (h : Box4 t w c a b p x) : w.cell? ⟨c, 3, none⟩ = some x := by
 unfold Box4 at h
 simp [World.cell?, h]
theorem Box4.f {t : TypeId} {w : World} {c : Nat} {a b p x : Value} (h : Box4 t w c a b p x) (i : Nat) : w.frozen? ⟨c, i, none⟩ = false := by
 unfold Box4 at h
 simp [World.frozen?, h]
theorem Box4.lt {t : TypeId} {w : World} {c : Nat} {a b p x : Value} (h : Box4 t w c a b p x) : c < w.heap.size := (Array.getElem?_eq_some_iff.1 h).1
theorem Box4.by {t : TypeId} {w w' : World} {c : Nat} {a b p x : Value} {r : Option Nat} (h : Box4 t w c a b p x) (g : w.grownBy w' r) (hr : r ≠ some c) : Box4 t w' c a b p x := by
 unfold Box4
 rw [g.block c h.lt (fun e => hr e.symm)]
 exact h
theorem Box4.kept {t : TypeId} {w w' : World} {c : Nat} {a b p x : Value} (h : Box4 t w c a b p x) (g : w.grownBy w' none) : Box4 t w' c a b p x := h.by g (fun e => by cases e)
theorem Box4.new (t : TypeId) (w : World) (a b p x : Value) : Box4 t (w.alloc (.cells #[a, b, p, x] t)) w.heap.size a b p x := by
 show (w.heap.push _)[w.heap.size]? = _
 simp
theorem Box4.set0 {t : TypeId} {w : World} {c : Nat} {a b p x : Value} (h : Box4 t w c a b p x) (u : Value) : Box4 t (w.setCell ⟨c, 0, none⟩ u) c u b p x := by
 unfold Box4 at *
 simp [World.setCell, Array.getElem?_modify, h]
theorem Box4.set1 {t : TypeId} {w : World} {c : Nat} {a b p x : Value} (h : Box4 t w c a b p x) (u : Value) : Box4 t (w.setCell ⟨c, 1, none⟩ u) c a u p x := by
 unfold Box4 at *
 simp [World.setCell, Array.getElem?_modify, h]
theorem Box4.set2 {t : TypeId} {w : World} {c : Nat} {a b p x : Value} (h : Box4 t w c a b p x) (u : Value) : Box4 t (w.setCell ⟨c, 2, none⟩ u) c a b u x := by
 unfold Box4 at *
 simp [World.setCell, Array.getElem?_modify, h]
theorem Box4.set3 {t : TypeId} {w : World} {c : Nat} {a b p x : Value} (h : Box4 t w c a b p x) (u : Value) : Box4 t (w.setCell ⟨c, 3, none⟩ u) c a b p u := by
 unfold Box4 at *
 simp [World.setCell, Array.getElem?_modify, h]
theorem Box4.setO {t : TypeId} {w : World} {c d i : Nat} {a b p x u : Value} (h : Box4 t w c a b p x) (hd : d ≠ c) : Box4 t (w.setCell ⟨d, i, none⟩ u) c a b p x :=
 h.by (sl.grown_setCell w d i u) (fun e => hd (by cases e; rfl))
theorem Box4.setA {t : TypeId} {w : World} {c : Nat} {a b p x : Value} (h : Box4 t w c a b p x) (a' b' p' x' : Value) : Box4 t ((((w.setCell ⟨c, 0, none⟩ a').setCell ⟨c, 1, none⟩ b').setCell ⟨c, 2, none⟩ p').setCell ⟨c, 3, none⟩ x') c a' b' p' x' := (((h.set0 a').set1 b').set2 p').set3 x'
theorem size_set (w : World) (a : Addr) (u : Value) : (w.setCell a u).heap.size = w.heap.size := by simp [World.setCell]
theorem grown_set {w w1 : World} {c i : Nat} {u : Value} (g : w.grownBy w1 none) (h : w.heap.size ≤ c) : w.grownBy (w1.setCell ⟨c, i, none⟩ u) none :=
 ⟨g.os, g.tape, g.output, by rw [size_set]; exact g.size, fun k hk _ => (Below.heap_setCell _ _ _ _ (by show k ≠ c; omega)).trans (g.block k hk (fun e => by cases e))⟩
theorem grown_setA {w w1 : World} {c : Nat} {a b p x : Value} (g : w.grownBy w1 none) (h : w.heap.size ≤ c) : w.grownBy ((((w1.setCell ⟨c, 0, none⟩ a).setCell ⟨c, 1, none⟩ b).setCell ⟨c, 2, none⟩ p).setCell ⟨c, 3, none⟩ x) none := grown_set (grown_set (grown_set (grown_set g h) h) h) h
theorem sizeQ : (Tryz.prog.info? 36).map (·.size) = some 4 := by kernel_rfl
theorem ret_box {fn : Func} {p : Tmp} {tmps : Array Value} {w : World} {c : Nat} {a b q x : Value} (h : fn.results = #[.cell p 36]) (hp : tmps.getD p undef = .pointer (some ⟨c, 0, none⟩)) (hb : Box4 36 w c a b q x) :
  (results fn tmps).run Tryz.prog w = .ok (.agg #[a, b, q, x]) w :=
 results_cell_row h tmps w c 36 #[a, b, q, x] (0, 0) _ hp hb Tryz.underlying36 rfl sizeQ
theorem ret_box2 {fn : Func} {p u : Tmp} {tmps : Array Value} {w : World} {c : Nat} {a b q x : Value} (h : fn.results = #[.cell p 36, .tmp u]) (hp : tmps.getD p undef = .pointer (some ⟨c, 0, none⟩)) (hb : Box4 36 w c a b q x) :
  (results fn tmps).run Tryz.prog w = .ok (.tuple #[.agg #[a, b, q, x], tmps.getD u undef]) w := by
 rw [results_cell_tmp h, hp]
 simp only [asAddr, Sem.run_pure, Result.andThen_ok]
 rw [run_loadVar_row w c 36 36 #[a, b, q, x] (0, 0) _ hb Tryz.underlying36 rfl sizeQ]
 rfl
abbrev Cr := ByteArray × Bool × ByteArray × ByteArray
def cellsC : Option Cr → Array Value
 | some c => #[.string c.1, .bool c.2.1, .string c.2.2.1, .string c.2.2.2]
 | none => #[.string ⟨#[]⟩, .bool false, .string ⟨#[]⟩, .string ⟨#[]⟩]
def CertE (w : World) (O : Option Cr) (e : Ending) (w' : World) : Prop := e = .returned (.tuple #[.agg (cellsC O), .bool O.isSome]) ∧ w.grownBy w' none
theorem wrap_in {x : Int} (h1 : -9223372036854775808 ≤ x) (h2 : x < 9223372036854775808) : IntKind.i64.wrap x = x := by
 rw [IntKind.wrap_i64]
 omega
set_option maxHeartbeats 1600000 in
theorem szCert (d : ByteArray) (sat : Bool) (b m : ByteArray) (k : Int) (w : World) (hk : 0 ≤ k ∧ k ≤ 1048576) (hd : d.size ≤ maxLen) (hb : b.size ≤ maxLen) (hm : m.size ≤ maxLen) :
  Calls Tryz.prog 31 #[.agg #[.string d, .bool sat, .string b, .string m], .int .i64 k] w fun e w' => e = .returned (.int .i64 (if (d.size : Int) + b.size + m.size ≤ k then k - d.size - b.size - m.size else -1)) ∧ w.grownBy w' none := by
 have G0 := hide (World.grownBy_alloc w (.cells #[.string d, .bool sat, .string b, .string m] 54) none)
 unfold maxLen at hd hb hm
 obtain ⟨k1, h1⟩ : ∃ x, x = k - (d.size : Int) := ⟨_, rfl⟩
 have e1 : IntKind.i64.wrap (k - (d.size : Int)) = k1 := by rw [wrap_in (by omega) (by omega), h1]
 rw [IntKind.wrap_i64] at e1
 by_cases c1 : k1 < 0
 ·rw [if_neg (by omega)]
  clear h1
  go_enter Tryz.func31, Tryz.ntmps31
  go_wp2
  go_ret
  exact ⟨rfl, unhide G0⟩
 obtain ⟨k2, h2⟩ : ∃ x, x = k1 - (b.size : Int) := ⟨_, rfl⟩
 have e2 : IntKind.i64.wrap (k1 - (b.size : Int)) = k2 := by rw [wrap_in (by omega) (by omega), h2]
 rw [IntKind.wrap_i64] at e2
 by_cases c2 : k2 < 0
 ·rw [if_neg (by omega)]
  clear h1 h2
  go_enter Tryz.func31, Tryz.ntmps31
  go_wp2
  go_ret
  exact ⟨rfl, unhide G0⟩
 obtain ⟨k3, h3⟩ : ∃ x, x = k2 - (m.size : Int) := ⟨_, rfl⟩
 have e3 : IntKind.i64.wrap (k2 - (m.size : Int)) = k3 := by rw [wrap_in (by omega) (by omega), h3]
 rw [IntKind.wrap_i64] at e3
 by_cases c3 : k3 < 0
 ·rw [if_neg (by omega)]
  clear h1 h2 h3
  go_enter Tryz.func31, Tryz.ntmps31
  go_wp2
  go_ret
  exact ⟨rfl, unhide G0⟩
 ·rw [if_pos (by omega)]
  clear h1 h2 h3
  go_enter Tryz.func31, Tryz.ntmps31
  go_wp2
  go_ret
  exact ⟨rfl, unhide G0⟩
theorem toCert (d : ByteArray) (sat : Bool) (b m : ByteArray) (w : World) :
  Calls Tryz.prog 32 #[.agg #[.string d, .bool sat, .string b, .string m]] w fun e w' => e = .returned (.agg #[.string d, .bool sat, .string b, .string m]) ∧ w.grownBy w' none := by
 go_enter Tryz.func32, Tryz.ntmps32
 go_wp2
 refine bodyPost_ret (ret_box rfl rfl (c := w.heap.size + 1) ?_) rfl ⟨rfl, grown_trans (World.grownBy_alloc _ _ none) (grown_trans (World.grownBy_alloc _ _ none) (World.grownBy_alloc _ _ none))⟩
 have := (Box4.new 36 (w.alloc (.cells #[.string d, .bool sat, .string b, .string m] 54)) (.string d) (.bool sat) (.string b) (.string m)).kept (World.grownBy_alloc _ (.cells #[.string d, .bool sat, .string b, .string m] 36) none)
 rw [World.size_alloc] at this
 exact this
end Go.Proofs.YtcgiphcfjhbonaaGreatDoor.yb
namespace Go.Proofs.YtcgiphcfjhbonaaGreatDoor.da
open Go.ChangeShapes Go.WideShapes Go.ChangeAt Go.RowKit
open srt (Tab)
open css (tot Sls OwnS)
open cf (Box)
open txt (Pow)
open dec (str)
open cx (cnfT whole)
open cso (srtN srtB srtR srt_tot)
open zo (sumT)
open zk (TabK TabS)
open sl (hide unhide grown_refl grown_trans)
set_option linter.unusedVariables false
def txtL (n : Int) (LL : List (List Int)) : List UInt8 := cnfT (srtN n LL) (srtR n LL)
def digT (n : Int) (LL : List (List Int)) : List UInt8 := if srtB n LL && !(txtL n LL).isEmpty then sumT ⟨(txtL n LL).toArray⟩ else []
theorem txt_len (n : Int) (LL : List (List Int)) : (txtL n LL).length ≤ 12000 := by
 unfold txtL cx.cnfT
 split
 ·rename_i h
  rw [Bool.and_eq_true, decide_eq_true_iff] at h
  exact h.2
 ·exact Nat.zero_le _
theorem empty_list (l : List UInt8) : ((⟨l.toArray⟩ : ByteArray).toList == []) = l.isEmpty := by
 have e : (⟨l.toArray⟩ : ByteArray).toList = l := by
  rw [ByteArray.toList_eq]
 rw [e]
 cases l <;> rfl
set_option maxRecDepth 100000 in
set_option maxHeartbeats 4000000 in
theorem specDigest (v : Value) (n : Int) (LL : List (List Int)) (w : World) (hn : tot LL ≤ 1048576) (hv : Sls w v LL) :
  Calls Tryz.prog 26 #[.agg #[.int .i64 n, v]] w fun e w' => e = .returned (str (digT n LL)) ∧ w.grownBy w' none := by
 have g0 := World.grownBy_alloc w (.cells #[.int .i64 n, v] 32) none
 have F0 := hide (Box.new 32 w (.int .i64 n) v)
 have CS := hide (cso.specCnfSort v n LL _ hn (hv.kept g0))
 have CT := hide (fun u w1 (g : w.grownBy w1 none) (h : Sls w1 u (srtR n LL)) => cx.specCnfText u (srtN n LL) (srtR n LL) w1 (Nat.le_trans (srt_tot n LL) (by decide)) h)
 have CM := hide (fun w1 (g : w.grownBy w1 none) => zp.specSum ⟨(txtL n LL).toArray⟩ w1 (by have := txt_len n LL; show (txtL n LL).toArray.size ≤ _; rw [List.size_toArray]; omega))
 have hE : (digT n LL = if srtB n LL && !(txtL n LL).isEmpty then sumT ⟨(txtL n LL).toArray⟩ else []) := rfl
 have hem := empty_list (txtL n LL)
 have G0 := hide g0
 have x0 := (unhide F0).c0
 have x1 := (unhide F0).c1
 change Hid (∀ u w1, w.grownBy w1 none → Sls w1 u (srtR n LL) → Calls Tryz.prog 77 #[.agg #[.int .i64 (srtN n LL), u]] w1 fun e w' => e = .returned (.string ⟨(txtL n LL).toArray⟩) ∧ w1.grownBy w' none) at CT
 clear hv g0
 generalize srtN n LL = NN at *
 generalize srtB n LL = bb at *
 generalize srtR n LL = RR at *
 generalize (⟨(txtL n LL).toArray⟩ : ByteArray) = BS at *
 generalize sumT BS = SS at *
 generalize txtL n LL = TT at *
 generalize digT n LL = DD at *
 have HE := hide hE
 clear hE
 cases bb
 ·have E0 : Hid (DD = []) := (unhide HE).trans rfl
  clear HE CM hem
  go_enter Tryz.func26, Tryz.ntmps26
  go_wp2_with fail
  refine (unhide CS).mono ?_; rintro e w2 ⟨u2, rfl, o2, g2⟩
  have GZ := grown_trans (r := none) (unhide G0) g2
  obtain ⟨ua, uc, rfl⟩ := o2.len
  have ga := World.grownBy_alloc w2 (.cells #[.int .i64 NN, .slice ua RR.length uc] 32) none
  have C2 := hide (unhide CT _ _ (grown_trans (r := none) GZ ga) (o2.kept ga).sls)
  have G2 := hide (grown_trans (r := none) GZ ga)
  clear o2 g2 ga GZ CT CS x0 x1
  go_wp2_with fail
  refine (unhide C2).mono ?_; rintro e w3 ⟨rfl, g3⟩
  have G3 := hide (grown_trans (r := none) (unhide G2) g3)
  clear g3 C2
  go_wp2_with fail
  go_ret
  exact ⟨by rw [unhide E0]; rfl, unhide G3⟩
 ·cases hT0 : TT.isEmpty
  ·have E0 : Hid (DD = SS) := by show _ = _; rw [unhide HE, hT0]; rfl
   rw [hT0] at hem
   clear HE hT0
   go_enter Tryz.func26, Tryz.ntmps26
   go_wp2_with fail
   refine (unhide CS).mono ?_; rintro e w2 ⟨u2, rfl, o2, g2⟩
   have GZ := grown_trans (r := none) (unhide G0) g2
   obtain ⟨ua, uc, rfl⟩ := o2.len
   have ga := World.grownBy_alloc w2 (.cells #[.int .i64 NN, .slice ua RR.length uc] 32) none
   have C2 := hide (unhide CT _ _ (grown_trans (r := none) GZ ga) (o2.kept ga).sls)
   have G2 := hide (grown_trans (r := none) GZ ga)
   clear o2 g2 ga GZ CT CS x0 x1
   go_wp2_with fail
   refine (unhide C2).mono ?_; rintro e w3 ⟨rfl, g3⟩
   have G3 := hide (grown_trans (r := none) (unhide G2) g3)
   clear g3 C2
   go_wp2_with fail
   refine (unhide CM w3 (unhide G3)).mono ?_; rintro e w4 ⟨rfl, g4⟩
   have G4 := hide (grown_trans (r := none) (unhide G3) g4)
   clear g4 CM
   go_wp2_with fail
   go_ret
   exact ⟨by rw [unhide E0]; rfl, unhide G4⟩
  ·have E0 : Hid (DD = []) := by show _ = _; rw [unhide HE, hT0]; rfl
   rw [hT0] at hem
   clear HE hT0 CM
   go_enter Tryz.func26, Tryz.ntmps26
   go_wp2_with fail
   refine (unhide CS).mono ?_; rintro e w2 ⟨u2, rfl, o2, g2⟩
   have GZ := grown_trans (r := none) (unhide G0) g2
   obtain ⟨ua, uc, rfl⟩ := o2.len
   have ga := World.grownBy_alloc w2 (.cells #[.int .i64 NN, .slice ua RR.length uc] 32) none
   have C2 := hide (unhide CT _ _ (grown_trans (r := none) GZ ga) (o2.kept ga).sls)
   have G2 := hide (grown_trans (r := none) GZ ga)
   clear o2 g2 ga GZ CT CS x0 x1
   go_wp2_with fail
   refine (unhide C2).mono ?_; rintro e w3 ⟨rfl, g3⟩
   have G3 := hide (grown_trans (r := none) (unhide G2) g3)
   clear g3 C2
   go_wp2_with fail
   go_ret
   exact ⟨by rw [unhide E0]; rfl, unhide G3⟩
set_option maxRecDepth 100000 in
set_option maxHeartbeats 4000000 in
theorem implDigest (v : Value) (n : Int) (LL : List (List Int)) (w : World) (hT : Tab w) (hP : Pow w) (hK : TabK w) (hS : TabS w) (hn : tot LL ≤ 1048576) (hv : Sls w v LL) :
  Calls Tryz.prog 20 #[.agg #[.int .i64 n, v]] w fun e w' => e = .returned (str (digT n LL)) ∧ w.grownBy w' none := by
 have g0 := World.grownBy_alloc w (.cells #[.int .i64 n, v] 32) none
 have F0 := hide (Box.new 32 w (.int .i64 n) v)
 have CS := hide (cso.implCnfSort v n LL _ (hT.kept g0) hn (hv.kept g0))
 have CT := hide (fun u w1 (g : w.grownBy w1 none) (h : Sls w1 u (srtR n LL)) => cx.implCnfText u (srtN n LL) (srtR n LL) w1 (hP.kept g) (Nat.le_trans (srt_tot n LL) (by decide)) h)
 have CM := hide (fun w1 (g : w.grownBy w1 none) => zo.implSum ⟨(txtL n LL).toArray⟩ w1 (by have := txt_len n LL; show (txtL n LL).toArray.size ≤ _; rw [List.size_toArray]; omega) (hK.kept g) (hS.kept g))
 have hE : (digT n LL = if srtB n LL && !(txtL n LL).isEmpty then sumT ⟨(txtL n LL).toArray⟩ else []) := rfl
 have hem := empty_list (txtL n LL)
 have G0 := hide g0
 have x0 := (unhide F0).c0
 have x1 := (unhide F0).c1
 change Hid (∀ u w1, w.grownBy w1 none → Sls w1 u (srtR n LL) → Calls Tryz.prog 67 #[.agg #[.int .i64 (srtN n LL), u]] w1 fun e w' => e = .returned (.string ⟨(txtL n LL).toArray⟩) ∧ w1.grownBy w' none) at CT
 clear hv g0 hT hP hK hS
 generalize srtN n LL = NN at *
 generalize srtB n LL = bb at *
 generalize srtR n LL = RR at *
 generalize (⟨(txtL n LL).toArray⟩ : ByteArray) = BS at *
 generalize sumT BS = SS at *
 generalize txtL n LL = TT at *
 generalize digT n LL = DD at *
 have HE := hide hE
 clear hE
 cases bb
 ·have E0 : Hid (DD = []) := (unhide HE).trans rfl
  clear HE CM hem
  go_enter Tryz.func20, Tryz.ntmps20
  go_wp2_with fail
  refine (unhide CS).mono ?_; rintro e w2 ⟨u2, rfl, o2, g2⟩
  have GZ := grown_trans (r := none) (unhide G0) g2
  obtain ⟨ua, uc, rfl⟩ := o2.len
  have ga := World.grownBy_alloc w2 (.cells #[.int .i64 NN, .slice ua RR.length uc] 32) none
  have C2 := hide (unhide CT _ _ (grown_trans (r := none) GZ ga) (o2.kept ga).sls)
  have G2 := hide (grown_trans (r := none) GZ ga)
  clear o2 g2 ga GZ CT CS x0 x1
  go_wp2_with fail
  refine (unhide C2).mono ?_; rintro e w3 ⟨rfl, g3⟩
  have G3 := hide (grown_trans (r := none) (unhide G2) g3)
  clear g3 C2
  go_wp2_with fail
  go_ret
  exact ⟨by rw [unhide E0]; rfl, unhide G3⟩
 ·cases hT0 : TT.isEmpty
  ·have E0 : Hid (DD = SS) := by show _ = _; rw [unhide HE, hT0]; rfl
   rw [hT0] at hem
   clear HE hT0
   go_enter Tryz.func20, Tryz.ntmps20
   go_wp2_with fail
   refine (unhide CS).mono ?_; rintro e w2 ⟨u2, rfl, o2, g2⟩
   have GZ := grown_trans (r := none) (unhide G0) g2
   obtain ⟨ua, uc, rfl⟩ := o2.len
   have ga := World.grownBy_alloc w2 (.cells #[.int .i64 NN, .slice ua RR.length uc] 32) none
   have C2 := hide (unhide CT _ _ (grown_trans (r := none) GZ ga) (o2.kept ga).sls)
   have G2 := hide (grown_trans (r := none) GZ ga)
   clear o2 g2 ga GZ CT CS x0 x1
   go_wp2_with fail
   refine (unhide C2).mono ?_; rintro e w3 ⟨rfl, g3⟩
   have G3 := hide (grown_trans (r := none) (unhide G2) g3)
   clear g3 C2
   go_wp2_with fail
   refine (unhide CM w3 (unhide G3)).mono ?_; rintro e w4 ⟨rfl, g4⟩
   have G4 := hide (grown_trans (r := none) (unhide G3) g4)
   clear g4 CM
   go_wp2_with fail
   go_ret
   exact ⟨by rw [unhide E0]; rfl, unhide G4⟩
  ·have E0 : Hid (DD = []) := by show _ = _; rw [unhide HE, hT0]; rfl
   rw [hT0] at hem
   clear HE hT0 CM
   go_enter Tryz.func20, Tryz.ntmps20
   go_wp2_with fail
   refine (unhide CS).mono ?_; rintro e w2 ⟨u2, rfl, o2, g2⟩
   have GZ := grown_trans (r := none) (unhide G0) g2
   obtain ⟨ua, uc, rfl⟩ := o2.len
   have ga := World.grownBy_alloc w2 (.cells #[.int .i64 NN, .slice ua RR.length uc] 32) none
   have C2 := hide (unhide CT _ _ (grown_trans (r := none) GZ ga) (o2.kept ga).sls)
   have G2 := hide (grown_trans (r := none) GZ ga)
   clear o2 g2 ga GZ CT CS x0 x1
   go_wp2_with fail
   refine (unhide C2).mono ?_; rintro e w3 ⟨rfl, g3⟩
   have G3 := hide (grown_trans (r := none) (unhide G2) g3)
   clear g3 C2
   go_wp2_with fail
   go_ret
   exact ⟨by rw [unhide E0]; rfl, unhide G3⟩
theorem belowK {w w' : World} (h : TabK w) (b : Below w.heap.size w w') : TabK w' := h.kept (sl.of_below b)
theorem belowS {w w' : World} (h : TabS w) (b : Below w.heap.size w w') : TabS w' := h.kept (sl.of_below b)
theorem bothD (n : Int) (LL : List (List Int)) (hn : tot LL ≤ 1048576) : ∃ s : ByteArray,
  (∀ v w, Sls w v LL → Calls Tryz.prog 26 #[.agg #[.int .i64 n, v]] w fun e w' => e = .returned (.string s) ∧ w.grownBy w' none) ∧
  (∀ v w, Tab w → Pow w → TabK w → TabS w → Sls w v LL → Calls Tryz.prog 20 #[.agg #[.int .i64 n, v]] w fun e w' => e = .returned (.string s) ∧ w.grownBy w' none) :=
 ⟨⟨(digT n LL).toArray⟩, fun v w h => specDigest v n LL w hn h, fun v w a b c d h => implDigest v n LL w a b c d hn h⟩
end Go.Proofs.YtcgiphcfjhbonaaGreatDoor.da
namespace Go.Proofs.YtcgiphcfjhbonaaGreatDoor.yg
open Go.ChangeShapes Go.WideShapes Go.ChangeAt Go.RowKit
open sl (hide unhide grown_refl grown_trans grown_drewN)
open yb (Box4)
set_option linter.unusedVariables false
def sgB (d : ByteArray) (sat : Bool) (b : ByteArray) : ByteArray := d ++ (if sat then ⟨#[1]⟩ else ⟨#[0]⟩) ++ b
theorem sg_size (d : ByteArray) (sat : Bool) (b : ByteArray) : (sgB d sat b).size = d.size + 1 + b.size := by
 unfold sgB
 rw [ByteArray.size_append, ByteArray.size_append]
 cases sat <;> rfl
set_option maxRecDepth 100000 in
theorem implSigned (d : ByteArray) (sat : Bool) (b m : ByteArray) (w : World) (hd : d.size ≤ 1048576) (hb : b.size ≤ 1048576) :
  Calls Tryz.prog 58 #[.agg #[.string d, .bool sat, .string b, .string m]] w fun e w' => e = .returned (.string (sgB d sat b)) ∧ w.grownBy w' none := by
 have n0 : ¬ 9223372036854775807 < d.size + 1 := by omega
 have n1 : ¬ 9223372036854775807 < d.size + 1 + b.size := by omega
 have G0 := hide (World.grownBy_alloc w (.cells #[.string d, .bool sat, .string b, .string m] 36) none)
 unfold sgB
 cases sat
 ·go_enter Tryz.func58, Tryz.ntmps58
  go_wp2
  go_ret
  exact ⟨rfl, unhide G0⟩
 ·go_enter Tryz.func58, Tryz.ntmps58
  go_wp2
  go_ret
  exact ⟨rfl, unhide G0⟩
theorem one_back (wr : World) (x : UInt8) (k : Nat) (hk : wr.heap.size = k) : (convert 22 9 (.slice (some ⟨k, 0, none⟩) 1 1)).run Tryz.prog (wr.alloc (.cells #[.int .u8 x.toNat] 5)) = .ok (.string ⟨#[x]⟩) (wr.alloc (.cells #[.int .u8 x.toNat] 5)) := by
 subst hk
 refine run_convert_bytes_back (P := Tryz.prog) _ 22 9 5 ⟨wr.heap.size, 0, none⟩ 1 [x] Tryz.underlying22 Tryz.underlying5 Tryz.underlying9 fun j hj => ze.one_at wr x j _ ?_
 obtain rfl : j = 0 := by simp only [List.length_cons, List.length_nil] at hj; omega
 rfl
set_option maxRecDepth 100000 in
theorem specSigned (d : ByteArray) (sat : Bool) (b m : ByteArray) (w : World) (hd : d.size ≤ 1048576) (hb : b.size ≤ 1048576) :
  Calls Tryz.prog 62 #[.agg #[.string d, .bool sat, .string b, .string m]] w fun e w' => e = .returned (.string (sgB d sat b)) ∧ w.grownBy w' none := by
 have n0 : ¬ 9223372036854775807 < d.size + 1 := by omega
 have n1 : ¬ 9223372036854775807 < d.size + 1 + b.size := by omega
 obtain ⟨W0, hW0⟩ : ∃ W0, W0 = w.alloc (.cells #[.string d, .bool sat, .string b, .string m] 36) := ⟨_, rfl⟩
 have G0 : Hid (w.grownBy W0 none) := by rw [hW0]; exact World.grownBy_alloc w _ none
 have hz : W0.heap.size = w.heap.size + 1 := by rw [hW0, World.size_alloc]
 have c1 := one_back W0 0 (w.heap.size + 1) hz
 have c2 := one_back (W0.alloc (.cells #[.int .u8 (0 : UInt8).toNat] 5)) 1 (w.heap.size + 1 + 1) (by rw [World.size_alloc, hz])
 rw [hW0] at c1 c2
 have G1 : Hid (W0.grownBy (W0.alloc (.cells #[.int .u8 0] 5)) none) := World.grownBy_alloc _ _ none
 have G2 : Hid (W0.grownBy ((W0.alloc (.cells #[.int .u8 0] 5)).alloc (.cells #[.int .u8 1] 5)) none) := grown_trans (World.grownBy_alloc _ _ none) (World.grownBy_alloc _ _ none)
 rw [hW0] at G0 G1 G2
 clear hW0 hz
 unfold sgB
 cases sat
 ·have C1 : (convert 22 9 (.slice (some ⟨w.heap.size + 1, 0, none⟩) 1 1)).run Tryz.prog ((w.alloc (.cells #[.string d, .bool false, .string b, .string m] 36)).alloc (.cells #[.int .u8 0] 5)) = .ok (.string ⟨#[0]⟩) ((w.alloc (.cells #[.string d, .bool false, .string b, .string m] 36)).alloc (.cells #[.int .u8 0] 5)) := c1
  clear c1 c2
  go_enter Tryz.func62, Tryz.ntmps62
  go_wp2
  go_ret
  exact ⟨rfl, grown_trans (r := none) (unhide G0) (unhide G1)⟩
 ·have C1 : (convert 22 9 (.slice (some ⟨w.heap.size + 1, 0, none⟩) 1 1)).run Tryz.prog ((w.alloc (.cells #[.string d, .bool true, .string b, .string m] 36)).alloc (.cells #[.int .u8 0] 5)) = .ok (.string ⟨#[0]⟩) ((w.alloc (.cells #[.string d, .bool true, .string b, .string m] 36)).alloc (.cells #[.int .u8 0] 5)) := c1
  have C2 : (convert 22 9 (.slice (some ⟨w.heap.size + 1 + 1, 0, none⟩) 1 1)).run Tryz.prog (((w.alloc (.cells #[.string d, .bool true, .string b, .string m] 36)).alloc (.cells #[.int .u8 0] 5)).alloc (.cells #[.int .u8 1] 5)) = .ok (.string ⟨#[1]⟩) (((w.alloc (.cells #[.string d, .bool true, .string b, .string m] 36)).alloc (.cells #[.int .u8 0] 5)).alloc (.cells #[.int .u8 1] 5)) := c2
  clear c1 c2
  go_enter Tryz.func62, Tryz.ntmps62
  go_wp2
  go_ret
  exact ⟨rfl, grown_trans (r := none) (unhide G0) (unhide G2)⟩
end Go.Proofs.YtcgiphcfjhbonaaGreatDoor.yg
namespace Go.Proofs.YtcgiphcfjhbonaaGreatDoor.yh
open ok (cnfB)
open lq (solveL)
open xw (wlk)
set_option linter.unusedVariables false
def refL (n : Int) (LL : List (List Int)) : List (List Int) × Bool := if cnfB n LL then wlk n LL 700 [] else ([], false)
def fnd (n : Int) (LL : List (List Int)) : (List Int ⊕ List (List Int)) × Bool := match solveL n LL [] with
 | some A => (.inl A, true)
 | none => (.inr (refL n LL).1, (refL n LL).2)
end Go.Proofs.YtcgiphcfjhbonaaGreatDoor.yh
namespace Go.Proofs.YtcgiphcfjhbonaaGreatDoor.yi
open lq (solveL)
open as_ (asText)
open pt (prf)
open da (digT)
open zr (macT)
open yb (Cr)
open yg (sgB)
open yh (refL fnd)
open css (tot)
set_option linter.unusedVariables false
theorem solve_len (n : Int) (LL : List (List Int)) (a : List Int) : ((solveL n LL a).getD []).length ≤ 24 := by
 unfold lq.solveL
 split
 ·rename_i h
  rw [Bool.and_eq_true] at h
  obtain ⟨m, rfl, h24⟩ : ∃ m : Nat, n = (m : Int) ∧ m ≤ 24 := by
   have h1 := h.1
   unfold ok.cnfB at h1
   simp only [Bool.and_eq_true, decide_eq_true_iff] at h1
   exact ⟨n.toNat, by omega, by omega⟩
  cases e : lq.lst ((m : Int)).toNat (lq.holds LL a) with
  | none => exact Nat.zero_le _
  | some l =>
   have := (lq.lst_some e).1.1
   show l.length ≤ 24
   omega
 ·exact Nat.zero_le _
def bodyB : List Int ⊕ List (List Int) → ByteArray
 | .inl A => ⟨(asText A).toArray⟩
 | .inr R => ⟨(prf R).toArray⟩
def satB : List Int ⊕ List (List Int) → Bool
 | .inl _ => true
 | .inr _ => false
def markB (key d : ByteArray) (sat : Bool) (b : ByteArray) : ByteArray := ⟨(macT key (sgB d sat b)).toArray⟩
def digB (n : Int) (LL : List (List Int)) : ByteArray := ⟨(digT n LL).toArray⟩
def issO (key : ByteArray) (n : Int) (LL : List (List Int)) : Option Cr :=
 if digT n LL = [] ∨ 64 < key.size ∨ (fnd n LL).2 = false then none
 else some (digB n LL, satB (fnd n LL).1, bodyB (fnd n LL).1, markB key (digB n LL) (satB (fnd n LL).1) (bodyB (fnd n LL).1))
theorem dig_size (n : Int) (LL : List (List Int)) : (digB n LL).size ≤ 1024 := by
 show (digT n LL).toArray.size ≤ _
 rw [List.size_toArray]
 unfold da.digT
 split
 ·exact Nat.le_trans (zr.sumT_len _) (by decide)
 ·exact Nat.zero_le _
theorem body_size (P : List Int ⊕ List (List Int)) : (bodyB P).size ≤ 400000 := by
 cases P with
 | inl A =>
  show (asText A).toArray.size ≤ _
  rw [List.size_toArray]
  unfold as_.asText
  split
  ·exact Nat.le_trans (cx.text_len _) (by decide)
  ·exact Nat.zero_le _
 | inr R =>
  show (prf R).toArray.size ≤ _
  rw [List.size_toArray]
  unfold pt.prf
  split
  ·rename_i h
   rw [Bool.and_eq_true, decide_eq_true_iff] at h
   have := cx.lines_len R
   omega
  ·exact Nat.zero_le _
end Go.Proofs.YtcgiphcfjhbonaaGreatDoor.yi
namespace Go.Proofs.YtcgiphcfjhbonaaGreatDoor.yh
open Go.ChangeShapes Go.WideShapes Go.ChangeAt Go.RowKit
open srt (Tab)
open css (tot Sls OwnS)
open cf (Box)
open wo (Made)
open txt (Pow)
open ok (cnfB)
open lq (solveL FromE)
open xw (wlk WalkE)
open as_ (asText)
open pt (prf)
open sl (Sl hide unhide grown_refl grown_trans)
set_option linter.unusedVariables false
def Ans (w w' : World) (x : Value) (P : List Int ⊕ List (List Int)) : Prop := match P with
 | .inl A => ∃ r, x = .iface 129 (.agg #[r]) ∧ Made w w' r A
 | .inr R => ∃ r, x = .iface 131 (.agg #[r]) ∧ OwnS w.heap.size w'.heap.size w' r R ∧ w.grownBy w' none
def FindE (w : World) (n : Int) (LL : List (List Int)) (e : Ending) (w' : World) : Prop := ∃ x, e = .returned (.tuple #[x, .bool (fnd n LL).2]) ∧ Ans w w' x (fnd n LL).1
set_option maxRecDepth 100000 in
set_option maxHeartbeats 2000000 in
theorem findAnswer (v : Value) (n : Int) (LL : List (List Int)) (w : World) (hT : Tab w) (hn : tot LL ≤ 1048576) (hv : Sls w v LL) :
  Calls Tryz.prog 55 #[.agg #[.int .i64 n, v]] w fun e w' => FindE w n LL e w' := by
 have g0 := World.grownBy_alloc w (.cells #[.int .i64 n, v] 32) none
 have F0 := hide (Box.new 32 w (.int .i64 n) v)
 have CS := hide (ks.implSolve v n LL _ (hT.kept g0) hn (hv.kept g0))
 have CR := hide (fun w1 (g : w.grownBy w1 none) => xp.implRefute v n LL w1 (hT.kept g) hn (hv.kept g))
 have G0 := hide g0
 have x0 := (unhide F0).c0
 have x1 := (unhide F0).c1
 clear g0 hT hv hn
 unfold lq.FromE at CS
 unfold xw.WalkE at CR
 cases hs : solveL n LL [] with
 | some A =>
  rw [hs] at CS
  have FE : fnd n LL = (.inl A, true) := by unfold fnd; rw [hs]
  have HF : Hid (∀ e w', FindE w n LL e w' = ∃ x, e = .returned (.tuple #[x, .bool true]) ∧ Ans w w' x (.inl A)) := fun e w' => by unfold FindE; rw [FE]
  clear hs CR FE
  go_enter Tryz.func55, Tryz.ntmps55
  go_wp2_with fail
  refine (unhide CS).mono ?_; rintro e w1 ⟨r, rfl, m1⟩
  obtain ⟨ra, rc, er, _⟩ := sl.Sl.of_own m1.1
  subst er
  have M1 := hide m1
  clear m1 CS x0 x1
  simp only [Option.isSome_some]
  go_wp2_with fail
  go_ret2
  refine (unhide HF _ _).symm ▸ ⟨_, rfl, _, rfl, css.own_mono (unhide M1).1 (unhide G0).size, grown_trans (unhide G0) (unhide M1).2⟩
 | none =>
  rw [hs] at CS
  have FE : fnd n LL = (.inr (refL n LL).1, (refL n LL).2) := by unfold fnd; rw [hs]
  have HF : Hid (∀ e w', FindE w n LL e w' = ∃ x, e = .returned (.tuple #[x, .bool (refL n LL).2]) ∧ Ans w w' x (.inr (refL n LL).1)) := fun e w' => by unfold FindE; rw [FE]
  change Hid (∀ w1, w.grownBy w1 none → Calls Tryz.prog 97 #[.agg #[.int .i64 n, v]] w1 fun e w' => ∃ r, e = .returned (.tuple #[r, .bool (refL n LL).2]) ∧ OwnS w1.heap.size w'.heap.size w' r (refL n LL).1 ∧ w1.grownBy w' none) at CR
  generalize refL n LL = R at *
  obtain ⟨P, b⟩ := R
  clear hs FE
  go_enter Tryz.func55, Tryz.ntmps55
  go_wp2_with fail
  refine (unhide CS).mono ?_; rintro e w1 ⟨r, rfl, m1⟩
  obtain ⟨ra, rc, er, _⟩ := sl.Sl.of_own m1.1
  subst er
  have G1 := hide (grown_trans (r := none) (unhide G0) m1.2)
  have F1 := hide ((unhide F0).kept m1.2)
  clear m1 CS x0 x1 F0
  have x0 := (unhide F1).c0
  have x1 := (unhide F1).c1
  simp only [Option.isSome_none]
  go_wp2_with fail
  refine (unhide CR w1 (unhide G1)).mono ?_; rintro e w2 ⟨r2, rfl, o2, g2⟩
  obtain ⟨pa, pc, rfl⟩ := o2.len
  have O2 := hide o2
  have G2 := hide (grown_trans (r := none) (unhide G1) g2)
  clear o2 g2 CR x0 x1
  go_wp2_with fail
  go_ret2
  refine (unhide HF _ _).symm ▸ ⟨_, rfl, _, rfl, (unhide O2).sub (unhide G1).size (Nat.le_refl _), unhide G2⟩
theorem assertT (xT : TypeId) (r : Value) (w : World) : (Instr.typeAssert (.iface 129 (.agg #[r])) xT 129 true).run Tryz.prog w = .ok (.tuple #[.agg #[r], .bool true]) w := by
 simp [Instr.typeAssert, run_underlying Tryz.underlying129, go_sem, Result.andThen]
theorem assertR (xT : TypeId) (r : Value) (w : World) : (Instr.typeAssert (.iface 131 (.agg #[r])) xT 131 true).run Tryz.prog w = .ok (.tuple #[.agg #[r], .bool true]) w := by
 simp [Instr.typeAssert, run_underlying Tryz.underlying131, go_sem, Result.andThen]
theorem assertN (xT : TypeId) (r : Value) (w : World) : (Instr.typeAssert (.iface 131 (.agg #[r])) xT 129 true).run Tryz.prog w = .ok (.tuple #[.agg #[.slice none 0 0], .bool false]) w := by
 simp [Instr.typeAssert, run_underlying Tryz.underlying129, go_sem, Result.andThen]
set_option maxRecDepth 100000 in
theorem isSatT (r : Value) (w : World) : Calls Tryz.prog 56 #[.iface 129 (.agg #[r])] w fun e w' => e = .returned (.bool true) ∧ w' = w := by
 have a1 := fun xT w => assertT xT r w
 go_enter Tryz.func56, Tryz.ntmps56
 go_wp2
 go_ret
 exact ⟨rfl, rfl⟩
set_option maxRecDepth 100000 in
theorem isSatF (r : Value) (w : World) : Calls Tryz.prog 56 #[.iface 131 (.agg #[r])] w fun e w' => e = .returned (.bool false) ∧ w' = w := by
 have a1 := fun xT w => assertR xT r w
 have a2 := fun xT w => assertN xT r w
 go_enter Tryz.func56, Tryz.ntmps56
 go_wp2
 go_ret
 exact ⟨rfl, rfl⟩
theorem methodT (v : Value) (w : World) : (Go.method 413 129 v "loop.example/g00123/impl.body").run Tryz.prog w = .ok (260, v) w := by kernel_rfl
theorem methodR (v : Value) (w : World) : (Go.method 413 131 v "loop.example/g00123/impl.body").run Tryz.prog w = .ok (269, v) w := by kernel_rfl
set_option maxRecDepth 100000 in
theorem bodyT (r : Value) (A : List Int) (w : World) (hP : Pow w) (hL : A.length ≤ 1048576) (hr : Sl w r A) : Calls Tryz.prog 260 #[.agg #[r]] w fun e w' => e = .returned (dec.str (asText A)) ∧ w.grownBy w' none := by
 have g0 := World.grownBy_alloc w (.cells #[r] 129) none
 have C := hide (as_.implAssignText r A _ (hP.kept g0) hL (hr.kept g0 (.inl rfl)))
 have G0 := hide g0
 clear g0
 unfold dec.str at *
 go_enter Tryz.func260, Tryz.ntmps260
 go_wp2_with fail
 refine (unhide C).mono ?_; rintro e w1 ⟨rfl, g1⟩
 go_wp2_with fail
 go_ret
 exact ⟨rfl, grown_trans (r := none) (unhide G0) g1⟩
set_option maxRecDepth 100000 in
theorem bodyR (r : Value) (R : List (List Int)) (w : World) (hP : Pow w) (hL : tot R ≤ 1048576) (hr : Sls w r R) : Calls Tryz.prog 269 #[.agg #[r]] w fun e w' => e = .returned (dec.str (prf R)) ∧ w.grownBy w' none := by
 have g0 := World.grownBy_alloc w (.cells #[r] 131) none
 have C := hide (pt.implProofText r R _ (hP.kept g0) hL (hr.kept g0))
 have G0 := hide g0
 clear g0
 unfold dec.str at *
 go_enter Tryz.func269, Tryz.ntmps269
 go_wp2_with fail
 refine (unhide C).mono ?_; rintro e w1 ⟨rfl, g1⟩
 go_wp2_with fail
 go_ret
 exact ⟨rfl, grown_trans (r := none) (unhide G0) g1⟩
end Go.Proofs.YtcgiphcfjhbonaaGreatDoor.yh
namespace Go.Proofs.YtcgiphcfjhbonaaGreatDoor.yi
open Go.ChangeShapes Go.WideShapes Go.ChangeAt Go.RowKit
open srt (Tab)
open css (tot Sls OwnS)
open cf (Box)
open wo (Made)
open txt (Pow)
open ok (cnfB)
open lq (solveL FromE)
open xw (wlk WalkE)
open as_ (asText)
open pt (prf)
open da (digT)
open zk (TabK TabS)
open zr (macT)
open yb (Box4 Cr cellsC CertE)
open yg (sgB)
open yh (refL fnd FindE Ans)
open sl (Sl hide unhide grown_refl grown_trans)
set_option linter.unusedVariables false
structure Tabs (w : World) : Prop where
 tab : Tab w
 pow : Pow w
 k : TabK w
 s : TabS w
theorem Tabs.kept {w w' : World} (h : Tabs w) (g : w.grownBy w' none) : Tabs w' := ⟨h.tab.kept g, h.pow.kept g, h.k.kept g, h.s.kept g⟩
theorem fnd_bd (n : Int) (LL : List (List Int)) : match (fnd n LL).1 with
 | .inl A => A.length ≤ 24
 | .inr R => tot R ≤ 34300 := by
 have h1 := ks.solve_len n LL []
 have h2 := xp.wlk_tot n LL
 unfold yh.fnd
 cases hs : solveL n LL [] with
 | some A => rw [hs] at h1; exact h1
 | none => exact h2
set_option maxRecDepth 100000 in
set_option maxHeartbeats 4000000 in
theorem implIssue (key : ByteArray) (v : Value) (n : Int) (LL : List (List Int)) (w : World) (hk : key.size ≤ 1048576) (hT : Tabs w) (hn : tot LL ≤ 1048576) (hv : Sls w v LL) :
  Calls Tryz.prog 17 #[.string key, .agg #[.int .i64 n, v]] w fun e w' => CertE w (issO key n LL) e w' := by
 have g0 := grown_trans (r := none) (World.grownBy_alloc w (.cells #[.int .i64 n, v] 32) none) (World.grownBy_alloc _ (.cells #[.string ⟨#[]⟩, .bool false, .string ⟨#[]⟩, .string ⟨#[]⟩] 36) none)
 have F0 := hide ((Box.new 32 w (.int .i64 n) v).kept (World.grownBy_alloc _ (.cells #[.string ⟨#[]⟩, .bool false, .string ⟨#[]⟩, .string ⟨#[]⟩] 36) none))
 have B0 := Box4.new 36 (w.alloc (.cells #[.int .i64 n, v] 32)) (.string ⟨#[]⟩) (.bool false) (.string ⟨#[]⟩) (.string ⟨#[]⟩)
 rw [World.size_alloc] at B0
 have HB0 := hide B0
 have CD := hide (fun w1 (g : w.grownBy w1 none) => da.implDigest v n LL w1 (hT.kept g).tab (hT.kept g).pow (hT.kept g).k (hT.kept g).s hn (hv.kept g))
 have CF := hide (fun w1 (g : w.grownBy w1 none) => yh.findAnswer v n LL w1 (hT.kept g).tab hn (hv.kept g))
 have G0 := hide g0
 obtain ⟨W0, hW0⟩ : ∃ W0, W0 = (w.alloc (.cells #[.int .i64 n, v] 32)).alloc (.cells #[.string ⟨#[]⟩, .bool false, .string ⟨#[]⟩, .string ⟨#[]⟩] 36) := ⟨_, rfl⟩
 rw [← hW0] at F0 HB0 G0
 have HT := hide hT
 have CB := hide (fnd_bd n LL)
 have hds := dig_size n LL
 have hem := da.empty_list (digT n LL)
 unfold dec.str at CD
 change Hid (∀ w1, w.grownBy w1 none → Calls Tryz.prog 20 #[.agg #[.int .i64 n, v]] w1 fun e w' => e = .returned (.string (digB n LL)) ∧ w1.grownBy w' none) at CD
 change ((digB n LL).toList == []) = _ at hem
 have HI : issO key n LL = if digT n LL = [] ∨ 64 < key.size ∨ (fnd n LL).2 = false then none
  else some (digB n LL, satB (fnd n LL).1, bodyB (fnd n LL).1, markB key (digB n LL) (satB (fnd n LL).1) (bodyB (fnd n LL).1)) := rfl
 unfold yh.FindE at CF
 generalize issO key n LL = O at *
 generalize digB n LL = D at *
 generalize hdt : digT n LL = DT at *
 generalize fnd n LL = FN at *
 obtain ⟨P, ok⟩ := FN
 have x0 := (unhide F0).c0
 have x1 := (unhide F0).c1
 clear g0 hT B0 hdt
 go_enter Tryz.func17, Tryz.ntmps17
 go_upto_region 1 with fail
 rw [← hW0]
 clear hW0
 go_wp2_with fail
 refine (unhide CD W0 (unhide G0)).mono ?_; rintro e w1 ⟨rfl, g1⟩
 have G1 := hide (grown_trans (r := none) (unhide G0) g1)
 have F1 := hide ((unhide F0).kept g1)
 have B1 := hide ((unhide HB0).kept g1)
 clear g1 G0 F0 HB0 x0 x1 CD
 have HO := hide HI
 clear HI
 cases hE : DT.isEmpty
 ·rw [hE] at hem
  have hne : DT ≠ [] := fun e => by rw [e] at hE; cases hE
  have NE := hide hne
  clear hne hE
  by_cases h64 : 64 < key.size
  ·have h64' : (64 : Int) < (key.size : Int) := by omega
   have EO : Hid (O = none) := (unhide HO).trans (if_pos (.inr (.inl h64)))
   have B5 := B1
   have G5 := G1
   have p0 := (unhide B5).c0
   have p1 := (unhide B5).c1
   have p2 := (unhide B5).c2
   have p3 := (unhide B5).c3
   have f0 := (unhide B5).f 0
   have f1 := (unhide B5).f 1
   have f2 := (unhide B5).f 2
   have f3 := (unhide B5).f 3
   clear h64 HO NE CF CB B1 G1 F1
   go_wp2_with fail
   (try simp only [Exit.inBlock, Exit.then])
   exact bodyPost_ret (yb.ret_box2 rfl rfl ((unhide B5).setA _ _ _ _)) rfl (by rw [unhide EO]; exact ⟨rfl, yb.grown_setA (unhide G5) (Nat.le_succ _)⟩)
  ·have h64' : ¬ (64 : Int) < (key.size : Int) := by omega
   have H64 := hide h64
   have x0 := (unhide F1).c0
   have x1 := (unhide F1).c1
   clear h64
   go_wp2_with fail
   refine (unhide CF w1 (unhide G1)).mono ?_; rintro e w2 ⟨x, rfl, ans⟩
   clear x0 x1 CF F1
   cases ok
   ·have EO : Hid (O = none) := (unhide HO).trans (if_pos (.inr (.inr rfl)))
    have g2 : w1.grownBy w2 none := by
     cases P with
     | inl A => obtain ⟨r, _, m⟩ := ans; exact m.2
     | inr R => obtain ⟨r, _, _, g⟩ := ans; exact g
    have G5 := hide (grown_trans (r := none) (unhide G1) g2)
    have B5 := hide ((unhide B1).kept g2)
    clear g2 ans
    have p0 := (unhide B5).c0
    have p1 := (unhide B5).c1
    have p2 := (unhide B5).c2
    have p3 := (unhide B5).c3
    have f0 := (unhide B5).f 0
    have f1 := (unhide B5).f 1
    have f2 := (unhide B5).f 2
    have f3 := (unhide B5).f 3
    clear H64 HO NE CB B1 G1
    go_wp2_with fail
    (try simp only [Exit.inBlock, Exit.then])
    exact bodyPost_ret (yb.ret_box2 rfl rfl ((unhide B5).setA _ _ _ _)) rfl (by rw [unhide EO]; exact ⟨rfl, yb.grown_setA (unhide G5) (Nat.le_succ _)⟩)
   ·have EO := hide ((unhide HO).trans (if_neg (fun h => by rcases h with h | h | h; exact unhide NE h; exact unhide H64 h; cases h)))
    cases P with
    | inl A =>
     obtain ⟨r, rfl, m2⟩ := ans
     have hA : A.length ≤ 24 := unhide CB
     obtain ⟨ra, rc, er, hr⟩ := sl.Sl.of_own m2.1
     subst er
     have G2 := hide (grown_trans (r := none) (unhide G1) m2.2)
     have B2 := hide ((unhide B1).kept m2.2)
     have CI := hide (yh.isSatT (.slice ra A.length rc))
     have CY := hide (yh.bodyT (.slice ra A.length rc) A w2 ((unhide HT).kept (unhide G2)).pow (by omega) (sl.Sl.of_own m2.1))
     clear m2 hr HO NE H64 CB B1 G1
     go_wp2_with fail
     refine (unhide CI _).mono ?_; rintro e w3 ⟨rfl, hw⟩; have hw' := hw.symm; clear hw; subst hw'
     have mB := yh.methodT
     go_wp2_with fail
     refine (unhide CY).mono ?_; rintro e w3 ⟨rfl, g3⟩
     unfold dec.str
     have G3 := hide (grown_trans (r := none) (unhide G2) g3)
     have B3 := hide ((unhide B2).kept g3)
     clear g3 G2 B2 CI mB
     have hbs : (⟨(asText A).toArray⟩ : ByteArray).size ≤ 400000 := body_size (.inl A)
     have EO' : Hid (O = some (D, true, ⟨(asText A).toArray⟩, markB key D true ⟨(asText A).toArray⟩)) := unhide EO
     generalize (⟨(asText A).toArray⟩ : ByteArray) = bb at *
     have CG := hide (fun w1 => yg.implSigned D true bb ⟨#[]⟩ w1 (by omega) (by omega))
     have hsz : (sgB D true bb).size ≤ 1048576 := by rw [yg.sg_size]; omega
     have CM := hide (fun w1 (g : w.grownBy w1 none) => zr.implMac key (sgB D true bb) w1 hk hsz ((unhide HT).kept g).k ((unhide HT).kept g).s)
     unfold dec.str at CM
     change Hid (∀ w1, w.grownBy w1 none → Calls Tryz.prog 57 #[.string key, .string (sgB D true bb)] w1 fun e w' => e = .returned (.string (markB key D true bb)) ∧ w1.grownBy w' none) at CM
     generalize markB key D true bb = mk at *
     generalize sgB D true bb = sg at *
     clear EO hsz hbs hds hem CY
     obtain ⟨W3, hW3⟩ : ∃ W3, W3 = w3.alloc (.cells #[.string D, .bool true, .string bb, .string ⟨#[]⟩] 36) := ⟨_, rfl⟩
     have ga : w3.grownBy W3 none := by rw [hW3]; exact World.grownBy_alloc w3 _ none
     have BC : Hid (Box4 36 W3 w3.heap.size (.string D) (.bool true) (.string bb) (.string ⟨#[]⟩)) := by rw [hW3]; exact Box4.new 36 w3 _ _ _ _
     have GA := hide (grown_trans (r := none) (unhide G3) ga)
     have BA := hide ((unhide B3).kept ga)
     have hne : w3.heap.size ≠ w.heap.size + 1 := fun e => by have := (unhide B3).lt; omega
     have h1 : w.heap.size ≤ w3.heap.size := (unhide G3).size
     clear ga G3 B3
     go_upto_region 8 with fail
     rw [← hW3]
     clear hW3
     have q0 := (unhide BC).c0
     have q1 := (unhide BC).c1
     have q2 := (unhide BC).c2
     have q3 := (unhide BC).c3
     go_wp2_with fail
     refine (unhide CG _).mono ?_; rintro e w4 ⟨rfl, g4⟩
     have G4 := hide (grown_trans (r := none) (unhide GA) g4)
     have B4 := hide ((unhide BA).kept g4)
     have BD := hide ((unhide BC).kept g4)
     clear g4 GA BA BC CG q0 q1 q2 q3
     go_wp2_with fail
     refine (unhide CM w4 (unhide G4)).mono ?_; rintro e w5 ⟨rfl, g5⟩
     have G5 := hide (grown_trans (r := none) (unhide G4) g5)
     have B5 := hide ((unhide B4).kept g5)
     have BE := hide ((unhide BD).kept g5)
     clear g5 G4 B4 BD CM
     have q3 := (unhide BE).c3
     have qf := (unhide BE).f 3
     obtain ⟨W6, hW6⟩ : ∃ W6, W6 = w5.setCell ⟨w3.heap.size, 3, none⟩ (.string mk) := ⟨_, rfl⟩
     have BF : Hid (Box4 36 W6 w3.heap.size (.string D) (.bool true) (.string bb) (.string mk)) := by rw [hW6]; exact (unhide BE).set3 _
     have B6 : Hid (Box4 36 W6 (w.heap.size + 1) (.string ⟨#[]⟩) (.bool false) (.string ⟨#[]⟩) (.string ⟨#[]⟩)) := by rw [hW6]; exact (unhide B5).setO hne
     have G6 : Hid (w.grownBy W6 none) := by rw [hW6]; exact yb.grown_set (unhide G5) h1
     clear G5 B5 BE
     go_upto_region 9 with fail
     rw [← hW6]
     clear hW6 q3 qf
     have q0 := (unhide BF).c0
     have q1 := (unhide BF).c1
     have q2 := (unhide BF).c2
     have q3 := (unhide BF).c3
     have p0 := (unhide B6).c0
     have p1 := (unhide B6).c1
     have p2 := (unhide B6).c2
     have p3 := (unhide B6).c3
     have f0 := (unhide B6).f 0
     have f1 := (unhide B6).f 1
     have f2 := (unhide B6).f 2
     have f3 := (unhide B6).f 3
     go_wp2_with fail
     (try simp only [Exit.inBlock, Exit.then])
     exact bodyPost_ret (yb.ret_box2 rfl rfl ((unhide B6).setA _ _ _ _)) rfl (by rw [unhide EO']; exact ⟨rfl, yb.grown_setA (unhide G6) (Nat.le_succ _)⟩)
    | inr R =>
     obtain ⟨r, rfl, o2, g2⟩ := ans
     have hR : tot R ≤ 34300 := unhide CB
     obtain ⟨ra, rc, rfl⟩ := o2.len
     have G2 := hide (grown_trans (r := none) (unhide G1) g2)
     have B2 := hide ((unhide B1).kept g2)
     have CI := hide (yh.isSatF (.slice ra R.length rc))
     have CY := hide (yh.bodyR (.slice ra R.length rc) R w2 ((unhide HT).kept (unhide G2)).pow (by omega) o2.sls)
     clear o2 g2 HO NE H64 CB B1 G1
     go_wp2_with fail
     refine (unhide CI _).mono ?_; rintro e w3 ⟨rfl, hw⟩; have hw' := hw.symm; clear hw; subst hw'
     have mB := yh.methodR
     go_wp2_with fail
     refine (unhide CY).mono ?_; rintro e w3 ⟨rfl, g3⟩
     unfold dec.str
     have G3 := hide (grown_trans (r := none) (unhide G2) g3)
     have B3 := hide ((unhide B2).kept g3)
     clear g3 G2 B2 CI mB
     have hbs : (⟨(prf R).toArray⟩ : ByteArray).size ≤ 400000 := body_size (.inr R)
     have EO' : Hid (O = some (D, false, ⟨(prf R).toArray⟩, markB key D false ⟨(prf R).toArray⟩)) := unhide EO
     generalize (⟨(prf R).toArray⟩ : ByteArray) = bb at *
     have CG := hide (fun w1 => yg.implSigned D false bb ⟨#[]⟩ w1 (by omega) (by omega))
     have hsz : (sgB D false bb).size ≤ 1048576 := by rw [yg.sg_size]; omega
     have CM := hide (fun w1 (g : w.grownBy w1 none) => zr.implMac key (sgB D false bb) w1 hk hsz ((unhide HT).kept g).k ((unhide HT).kept g).s)
     unfold dec.str at CM
     change Hid (∀ w1, w.grownBy w1 none → Calls Tryz.prog 57 #[.string key, .string (sgB D false bb)] w1 fun e w' => e = .returned (.string (markB key D false bb)) ∧ w1.grownBy w' none) at CM
     generalize markB key D false bb = mk at *
     generalize sgB D false bb = sg at *
     clear EO hsz hbs hds hem CY
     obtain ⟨W3, hW3⟩ : ∃ W3, W3 = w3.alloc (.cells #[.string D, .bool false, .string bb, .string ⟨#[]⟩] 36) := ⟨_, rfl⟩
     have ga : w3.grownBy W3 none := by rw [hW3]; exact World.grownBy_alloc w3 _ none
     have BC : Hid (Box4 36 W3 w3.heap.size (.string D) (.bool false) (.string bb) (.string ⟨#[]⟩)) := by rw [hW3]; exact Box4.new 36 w3 _ _ _ _
     have GA := hide (grown_trans (r := none) (unhide G3) ga)
     have BA := hide ((unhide B3).kept ga)
     have hne : w3.heap.size ≠ w.heap.size + 1 := fun e => by have := (unhide B3).lt; omega
     have h1 : w.heap.size ≤ w3.heap.size := (unhide G3).size
     clear ga G3 B3
     go_upto_region 8 with fail
     rw [← hW3]
     clear hW3
     have q0 := (unhide BC).c0
     have q1 := (unhide BC).c1
     have q2 := (unhide BC).c2
     have q3 := (unhide BC).c3
     go_wp2_with fail
     refine (unhide CG _).mono ?_; rintro e w4 ⟨rfl, g4⟩
     have G4 := hide (grown_trans (r := none) (unhide GA) g4)
     have B4 := hide ((unhide BA).kept g4)
     have BD := hide ((unhide BC).kept g4)
     clear g4 GA BA BC CG q0 q1 q2 q3
     go_wp2_with fail
     refine (unhide CM w4 (unhide G4)).mono ?_; rintro e w5 ⟨rfl, g5⟩
     have G5 := hide (grown_trans (r := none) (unhide G4) g5)
     have B5 := hide ((unhide B4).kept g5)
     have BE := hide ((unhide BD).kept g5)
     clear g5 G4 B4 BD CM
     have q3 := (unhide BE).c3
     have qf := (unhide BE).f 3
     obtain ⟨W6, hW6⟩ : ∃ W6, W6 = w5.setCell ⟨w3.heap.size, 3, none⟩ (.string mk) := ⟨_, rfl⟩
     have BF : Hid (Box4 36 W6 w3.heap.size (.string D) (.bool false) (.string bb) (.string mk)) := by rw [hW6]; exact (unhide BE).set3 _
     have B6 : Hid (Box4 36 W6 (w.heap.size + 1) (.string ⟨#[]⟩) (.bool false) (.string ⟨#[]⟩) (.string ⟨#[]⟩)) := by rw [hW6]; exact (unhide B5).setO hne
     have G6 : Hid (w.grownBy W6 none) := by rw [hW6]; exact yb.grown_set (unhide G5) h1
     clear G5 B5 BE
     go_upto_region 9 with fail
     rw [← hW6]
     clear hW6 q3 qf
     have q0 := (unhide BF).c0
     have q1 := (unhide BF).c1
     have q2 := (unhide BF).c2
     have q3 := (unhide BF).c3
     have p0 := (unhide B6).c0
     have p1 := (unhide B6).c1
     have p2 := (unhide B6).c2
     have p3 := (unhide B6).c3
     have f0 := (unhide B6).f 0
     have f1 := (unhide B6).f 1
     have f2 := (unhide B6).f 2
     have f3 := (unhide B6).f 3
     go_wp2_with fail
     (try simp only [Exit.inBlock, Exit.then])
     exact bodyPost_ret (yb.ret_box2 rfl rfl ((unhide B6).setA _ _ _ _)) rfl (by rw [unhide EO']; exact ⟨rfl, yb.grown_setA (unhide G6) (Nat.le_succ _)⟩)
 ·rw [hE] at hem
  have EO : Hid (O = none) := (unhide HO).trans (if_pos (.inl (List.isEmpty_iff.1 hE)))
  have B5 := B1
  have G5 := G1
  have p0 := (unhide B5).c0
  have p1 := (unhide B5).c1
  have p2 := (unhide B5).c2
  have p3 := (unhide B5).c3
  have f0 := (unhide B5).f 0
  have f1 := (unhide B5).f 1
  have f2 := (unhide B5).f 2
  have f3 := (unhide B5).f 3
  clear hE HO CF CB B1 G1 F1
  go_wp2_with fail
  (try simp only [Exit.inBlock, Exit.then])
  exact bodyPost_ret (yb.ret_box2 rfl rfl ((unhide B5).setA _ _ _ _)) rfl (by rw [unhide EO]; exact ⟨rfl, yb.grown_setA (unhide G5) (Nat.le_succ _)⟩)
end Go.Proofs.YtcgiphcfjhbonaaGreatDoor.yi
namespace Go.Proofs.YtcgiphcfjhbonaaGreatDoor.yi
open Go.ChangeShapes Go.WideShapes Go.ChangeAt Go.RowKit
open css (tot Sls OwnS)
open cf (Box)
open wo (Made)
open lq (solveL FromE)
open xw (wlk WalkE)
open as_ (asText)
open pt (prf)
open da (digT)
open zr (macT)
open yb (Box4 Cr cellsC CertE)
open yg (sgB)
open yh (refL fnd)
open sl (Sl hide unhide grown_refl grown_trans)
set_option linter.unusedVariables false
set_option maxRecDepth 100000 in
set_option maxHeartbeats 4000000 in
theorem specIssue (key : ByteArray) (v : Value) (n : Int) (LL : List (List Int)) (w : World) (hk : key.size ≤ 1048576) (hn : tot LL ≤ 1048576) (hv : Sls w v LL) :
  Calls Tryz.prog 18 #[.string key, .agg #[.int .i64 n, v]] w fun e w' => CertE w (issO key n LL) e w' := by
 have g0 := grown_trans (r := none) (World.grownBy_alloc w (.cells #[.int .i64 n, v] 32) none) (World.grownBy_alloc _ (.cells #[.string ⟨#[]⟩, .bool false, .string ⟨#[]⟩, .string ⟨#[]⟩] 36) none)
 have F0 := hide ((Box.new 32 w (.int .i64 n) v).kept (World.grownBy_alloc _ (.cells #[.string ⟨#[]⟩, .bool false, .string ⟨#[]⟩, .string ⟨#[]⟩] 36) none))
 have B0 := Box4.new 36 (w.alloc (.cells #[.int .i64 n, v] 32)) (.string ⟨#[]⟩) (.bool false) (.string ⟨#[]⟩) (.string ⟨#[]⟩)
 rw [World.size_alloc] at B0
 have HB0 := hide B0
 have CD := hide (fun w1 (g : w.grownBy w1 none) => da.specDigest v n LL w1 hn (hv.kept g))
 have CS := hide (fun w1 (g : w.grownBy w1 none) => lq.specSolve v n LL w1 hn (hv.kept g))
 have CR := hide (fun w1 (g : w.grownBy w1 none) => xw.specRefute v n LL w1 hn (hv.kept g))
 have G0 := hide g0
 obtain ⟨W0, hW0⟩ : ∃ W0, W0 = (w.alloc (.cells #[.int .i64 n, v] 32)).alloc (.cells #[.string ⟨#[]⟩, .bool false, .string ⟨#[]⟩, .string ⟨#[]⟩] 36) := ⟨_, rfl⟩
 rw [← hW0] at F0 HB0 G0
 have hls := solve_len n LL []
 have hlr := xp.wlk_tot n LL
 have hds := dig_size n LL
 have hem := da.empty_list (digT n LL)
 unfold dec.str at CD
 unfold lq.FromE at CS
 unfold xw.WalkE at CR
 change Hid (∀ w1, w.grownBy w1 none → Calls Tryz.prog 26 #[.agg #[.int .i64 n, v]] w1 fun e w' => e = .returned (.string (digB n LL)) ∧ w1.grownBy w' none) at CD
 change Hid (∀ w1, w.grownBy w1 none → Calls Tryz.prog 60 #[.agg #[.int .i64 n, v]] w1 fun e w' => ∃ r, e = .returned (.tuple #[r, .bool (refL n LL).2]) ∧ OwnS w1.heap.size w'.heap.size w' r (refL n LL).1 ∧ w1.grownBy w' none) at CR
 change tot (refL n LL).1 ≤ 34300 at hlr
 change ((digB n LL).toList == []) = _ at hem
 have HI : issO key n LL = if digT n LL = [] ∨ 64 < key.size ∨ (fnd n LL).2 = false then none
  else some (digB n LL, satB (fnd n LL).1, bodyB (fnd n LL).1, markB key (digB n LL) (satB (fnd n LL).1) (bodyB (fnd n LL).1)) := rfl
 have HF : fnd n LL = match solveL n LL [] with
  | some A => (.inl A, true)
  | none => (.inr (refL n LL).1, (refL n LL).2) := rfl
 generalize issO key n LL = O at *
 generalize digB n LL = D at *
 generalize hdt : digT n LL = DT at *
 generalize fnd n LL = FN at *
 generalize solveL n LL [] = SO at *
 generalize refL n LL = RO at *
 have x0 := (unhide F0).c0
 have x1 := (unhide F0).c1
 clear g0 B0 hdt
 go_enter Tryz.func18, Tryz.ntmps18
 go_upto_region 1 with fail
 rw [← hW0]
 clear hW0
 go_wp2_with fail
 refine (unhide CD W0 (unhide G0)).mono ?_; rintro e w1 ⟨rfl, g1⟩
 have hlt : w.heap.size + 1 < w1.heap.size := Nat.lt_of_lt_of_le (unhide HB0).lt g1.size
 obtain ⟨W1, hW1⟩ : ∃ W1, W1 = w1.alloc (.cells #[.string D, .bool false, .string ⟨#[]⟩, .string ⟨#[]⟩] 36) := ⟨_, rfl⟩
 have ga : w1.grownBy W1 none := by rw [hW1]; exact World.grownBy_alloc w1 _ none
 have C1 : Hid (Box4 36 W1 w1.heap.size (.string D) (.bool false) (.string ⟨#[]⟩) (.string ⟨#[]⟩)) := by rw [hW1]; exact Box4.new 36 w1 _ _ _ _
 have G1 := hide (grown_trans (r := none) (grown_trans (r := none) (unhide G0) g1) ga)
 have F1 := hide (((unhide F0).kept g1).kept ga)
 have B1 := hide (((unhide HB0).kept g1).kept ga)
 have h1 : w.heap.size ≤ w1.heap.size := by omega
 have hne : w1.heap.size ≠ w.heap.size + 1 := by omega
 clear g1 ga G0 F0 HB0 x0 x1 CD
 have HO := hide HI
 have HFN := hide HF
 clear HI HF
 go_upto_region 2 with fail
 rw [← hW1]
 clear hW1
 generalize w1.heap.size = c at *
 have q0 := (unhide C1).c0
 cases hE : DT.isEmpty
 ·rw [hE] at hem
  have hnt : DT ≠ [] := fun e => by rw [e] at hE; cases hE
  have NE := hide hnt
  clear hnt hE
  by_cases h64 : 64 < key.size
  ·have h64' : (64 : Int) < (key.size : Int) := by omega
   have EO : Hid (O = none) := (unhide HO).trans (if_pos (.inr (.inl h64)))
   have B5 := B1
   have G5 := G1
   have p0 := (unhide B5).c0
   have p1 := (unhide B5).c1
   have p2 := (unhide B5).c2
   have p3 := (unhide B5).c3
   have f0 := (unhide B5).f 0
   have f1 := (unhide B5).f 1
   have f2 := (unhide B5).f 2
   have f3 := (unhide B5).f 3
   clear h64 HO HFN NE CS CR B1 G1 F1 C1
   go_wp2_with fail
   (try simp only [Exit.inBlock, Exit.then])
   exact bodyPost_ret (yb.ret_box2 rfl rfl ((unhide B5).setA _ _ _ _)) rfl (by rw [unhide EO]; exact ⟨rfl, yb.grown_setA (unhide G5) (Nat.le_succ _)⟩)
  ·have h64' : ¬ (64 : Int) < (key.size : Int) := by omega
   have H64 := hide h64
   have x0 := (unhide F1).c0
   have x1 := (unhide F1).c1
   clear h64
   cases SO with
   | some A =>
    have hA : A.length ≤ 24 := hls
    have EO := hide ((unhide HO).trans (if_neg (fun h => by rw [unhide HFN] at h; rcases h with h | h | h; exact unhide NE h; exact unhide H64 h; cases h)))
    rw [unhide HFN] at EO
    clear HO HFN NE H64 CR hls hlr
    go_wp2_with fail
    refine (unhide CS W1 (unhide G1)).mono ?_; rintro e w2 ⟨r, rfl, m2⟩
    have m2' : Made W1 w2 r A := m2
    obtain ⟨ra, rc, er, hr⟩ := sl.Sl.of_own m2'.1
    subst er
    have G2 := hide (grown_trans (r := none) (unhide G1) m2'.2)
    have B2 := hide ((unhide B1).kept m2'.2)
    have C2 := hide ((unhide C1).kept m2'.2)
    have SR := hide (sl.Sl.of_own m2'.1)
    have RN : Hid ((Value.slice ra A.length rc).ownBlock ≠ some c) := fun e => by have h1 := (m2'.1.lt c e).1; have h2 := (unhide C1).lt; omega
    clear m2 m2' hr CS G1 B1 C1 F1 x0 x1 q0
    simp only [Option.isSome_some]
    have q1 := (unhide C2).c1
    have qf := (unhide C2).f 1
    obtain ⟨W2, hW2⟩ : ∃ W2, W2 = w2.setCell ⟨c, 1, none⟩ (.bool true) := ⟨_, rfl⟩
    have gs : w2.grownBy W2 (some c) := by rw [hW2]; exact sl.grown_setCell w2 c 1 _
    have CY := hide (as_.specAssignText (.slice ra A.length rc) A W2 (by omega) ((unhide SR).kept gs (.inr (unhide RN))))
    have C2' : Hid (Box4 36 W2 c (.string D) (.bool true) (.string ⟨#[]⟩) (.string ⟨#[]⟩)) := by rw [hW2]; exact (unhide C2).set1 _
    have B2' : Hid (Box4 36 W2 (w.heap.size + 1) (.string ⟨#[]⟩) (.bool false) (.string ⟨#[]⟩) (.string ⟨#[]⟩)) := by rw [hW2]; exact (unhide B2).setO hne
    have G2' : Hid (w.grownBy W2 none) := by rw [hW2]; exact yb.grown_set (unhide G2) h1
    clear gs SR C2 B2 G2
    go_upto_region 7 with fail
    rw [← hW2]
    clear hW2 q1 qf
    go_wp2_with fail
    refine (unhide CY).mono ?_; rintro e w3 ⟨rfl, g3⟩
    unfold dec.str
    have G3 := hide (grown_trans (r := none) (unhide G2') g3)
    have B3 := hide ((unhide B2').kept g3)
    have C3 := hide ((unhide C2').kept g3)
    clear g3 G2' B2' C2' CY
    have hbs : (⟨(asText A).toArray⟩ : ByteArray).size ≤ 400000 := body_size (.inl A)
    have EO' : Hid (O = some (D, true, ⟨(asText A).toArray⟩, markB key D true ⟨(asText A).toArray⟩)) := unhide EO
    generalize (⟨(asText A).toArray⟩ : ByteArray) = bb at *
    have CG := hide (fun w1 => yg.specSigned D true bb ⟨#[]⟩ w1 (by omega) (by omega))
    have hsz : (sgB D true bb).size ≤ 1048576 := by rw [yg.sg_size]; omega
    have CM := hide (fun w1 => zr.specMac key (sgB D true bb) w1 hk hsz)
    unfold dec.str at CM
    change Hid (∀ w1, Calls Tryz.prog 61 #[.string key, .string (sgB D true bb)] w1 fun e w' => e = .returned (.string (markB key D true bb)) ∧ w1.grownBy w' none) at CM
    generalize markB key D true bb = mk at *
    generalize sgB D true bb = sg at *
    clear EO hsz hbs hds hem
    have q2 := (unhide C3).c2
    have qf := (unhide C3).f 2
    obtain ⟨W4, hW4⟩ : ∃ W4, W4 = w3.setCell ⟨c, 2, none⟩ (.string bb) := ⟨_, rfl⟩
    have C4 : Hid (Box4 36 W4 c (.string D) (.bool true) (.string bb) (.string ⟨#[]⟩)) := by rw [hW4]; exact (unhide C3).set2 _
    have B4 : Hid (Box4 36 W4 (w.heap.size + 1) (.string ⟨#[]⟩) (.bool false) (.string ⟨#[]⟩) (.string ⟨#[]⟩)) := by rw [hW4]; exact (unhide B3).setO hne
    have G4 : Hid (w.grownBy W4 none) := by rw [hW4]; exact yb.grown_set (unhide G3) h1
    clear C3 B3 G3
    go_upto_region 12 with fail
    rw [← hW4]
    clear hW4 q2 qf
    have q0 := (unhide C4).c0
    have q1 := (unhide C4).c1
    have q2 := (unhide C4).c2
    have q3 := (unhide C4).c3
    go_wp2_with fail
    refine (unhide CG _).mono ?_; rintro e w5 ⟨rfl, g5⟩
    have G5 := hide (grown_trans (r := none) (unhide G4) g5)
    have B5 := hide ((unhide B4).kept g5)
    have C5 := hide ((unhide C4).kept g5)
    clear g5 G4 B4 C4 CG q0 q1 q2 q3
    go_wp2_with fail
    refine (unhide CM _).mono ?_; rintro e w6 ⟨rfl, g6⟩
    have G6 := hide (grown_trans (r := none) (unhide G5) g6)
    have B6 := hide ((unhide B5).kept g6)
    have C6 := hide ((unhide C5).kept g6)
    clear g6 G5 B5 C5 CM
    have q3 := (unhide C6).c3
    have qf := (unhide C6).f 3
    obtain ⟨W7, hW7⟩ : ∃ W7, W7 = w6.setCell ⟨c, 3, none⟩ (.string mk) := ⟨_, rfl⟩
    have C7 : Hid (Box4 36 W7 c (.string D) (.bool true) (.string bb) (.string mk)) := by rw [hW7]; exact (unhide C6).set3 _
    have B7 : Hid (Box4 36 W7 (w.heap.size + 1) (.string ⟨#[]⟩) (.bool false) (.string ⟨#[]⟩) (.string ⟨#[]⟩)) := by rw [hW7]; exact (unhide B6).setO hne
    have G7 : Hid (w.grownBy W7 none) := by rw [hW7]; exact yb.grown_set (unhide G6) h1
    clear G6 B6 C6
    go_upto_region 13 with fail
    rw [← hW7]
    clear hW7 q3 qf
    have q0 := (unhide C7).c0
    have q1 := (unhide C7).c1
    have q2 := (unhide C7).c2
    have q3 := (unhide C7).c3
    have p0 := (unhide B7).c0
    have p1 := (unhide B7).c1
    have p2 := (unhide B7).c2
    have p3 := (unhide B7).c3
    have f0 := (unhide B7).f 0
    have f1 := (unhide B7).f 1
    have f2 := (unhide B7).f 2
    have f3 := (unhide B7).f 3
    go_wp2_with fail
    (try simp only [Exit.inBlock, Exit.then])
    exact bodyPost_ret (yb.ret_box2 rfl rfl ((unhide B7).setA _ _ _ _)) rfl (by rw [unhide EO']; exact ⟨rfl, yb.grown_setA (unhide G7) (Nat.le_succ _)⟩)
   | none =>
    go_wp2_with fail
    refine (unhide CS W1 (unhide G1)).mono ?_; rintro e w2 ⟨r, rfl, m2⟩
    have m2' : Made W1 w2 r [] := m2
    obtain ⟨ra, rc, er, hr⟩ := sl.Sl.of_own m2'.1
    subst er
    have G2 := hide (grown_trans (r := none) (unhide G1) m2'.2)
    have B2 := hide ((unhide B1).kept m2'.2)
    have C2 := hide ((unhide C1).kept m2'.2)
    have F2 := hide ((unhide F1).kept m2'.2)
    clear m2 m2' hr CS G1 B1 C1 F1 x0 x1 q0 hls
    simp only [Option.isSome_none]
    have x0 := (unhide F2).c0
    have x1 := (unhide F2).c1
    obtain ⟨R, ok⟩ := RO
    have hR : tot R ≤ 34300 := hlr
    clear hlr
    go_wp2_with fail
    refine (unhide CR w2 (unhide G2)).mono ?_; rintro e w3 ⟨r2, rfl, o3, g3⟩
    obtain ⟨pa, pc, rfl⟩ := o3.len
    have G3 := hide (grown_trans (r := none) (unhide G2) g3)
    have B3 := hide ((unhide B2).kept g3)
    have C3 := hide ((unhide C2).kept g3)
    have O3 := hide o3
    clear o3 g3 G2 B2 C2 F2 CR x0 x1
    cases ok
    ·have EO : Hid (O = none) := (unhide HO).trans (if_pos (.inr (.inr (by rw [unhide HFN]))))
     have B5 := B3
     have G5 := G3
     have p0 := (unhide B5).c0
     have p1 := (unhide B5).c1
     have p2 := (unhide B5).c2
     have p3 := (unhide B5).c3
     have f0 := (unhide B5).f 0
     have f1 := (unhide B5).f 1
     have f2 := (unhide B5).f 2
     have f3 := (unhide B5).f 3
     clear H64 HO HFN NE B3 G3 C3 O3
     go_wp2_with fail
     (try simp only [Exit.inBlock, Exit.then])
     exact bodyPost_ret (yb.ret_box2 rfl rfl ((unhide B5).setA _ _ _ _)) rfl (by rw [unhide EO]; exact ⟨rfl, yb.grown_setA (unhide G5) (Nat.le_succ _)⟩)
    ·have EO := hide ((unhide HO).trans (if_neg (fun h => by rw [unhide HFN] at h; rcases h with h | h | h; exact unhide NE h; exact unhide H64 h; cases h)))
     rw [unhide HFN] at EO
     have CY := hide (pt.specProofText (.slice pa R.length pc) R w3 (by omega) (unhide O3).sls)
     clear HO HFN NE H64 O3
     go_wp2_with fail
     refine (unhide CY).mono ?_; rintro e w4 ⟨rfl, g4⟩
     unfold dec.str
     replace G3 := hide (grown_trans (r := none) (unhide G3) g4)
     replace B3 := hide ((unhide B3).kept g4)
     replace C3 := hide ((unhide C3).kept g4)
     clear g4 CY
     have hbs : (⟨(prf R).toArray⟩ : ByteArray).size ≤ 400000 := body_size (.inr R)
     have EO' : Hid (O = some (D, false, ⟨(prf R).toArray⟩, markB key D false ⟨(prf R).toArray⟩)) := unhide EO
     generalize (⟨(prf R).toArray⟩ : ByteArray) = bb at *
     have CG := hide (fun w1 => yg.specSigned D false bb ⟨#[]⟩ w1 (by omega) (by omega))
     have hsz : (sgB D false bb).size ≤ 1048576 := by rw [yg.sg_size]; omega
     have CM := hide (fun w1 => zr.specMac key (sgB D false bb) w1 hk hsz)
     unfold dec.str at CM
     change Hid (∀ w1, Calls Tryz.prog 61 #[.string key, .string (sgB D false bb)] w1 fun e w' => e = .returned (.string (markB key D false bb)) ∧ w1.grownBy w' none) at CM
     generalize markB key D false bb = mk at *
     generalize sgB D false bb = sg at *
     clear EO hsz hbs hds hem
     have q2 := (unhide C3).c2
     have qf := (unhide C3).f 2
     obtain ⟨W4, hW4⟩ : ∃ W4, W4 = w4.setCell ⟨c, 2, none⟩ (.string bb) := ⟨_, rfl⟩
     have C4 : Hid (Box4 36 W4 c (.string D) (.bool false) (.string bb) (.string ⟨#[]⟩)) := by rw [hW4]; exact (unhide C3).set2 _
     have B4 : Hid (Box4 36 W4 (w.heap.size + 1) (.string ⟨#[]⟩) (.bool false) (.string ⟨#[]⟩) (.string ⟨#[]⟩)) := by rw [hW4]; exact (unhide B3).setO hne
     have G4 : Hid (w.grownBy W4 none) := by rw [hW4]; exact yb.grown_set (unhide G3) h1
     clear C3 B3 G3
     go_upto_region 12 with fail
     rw [← hW4]
     clear hW4 q2 qf
     have q0 := (unhide C4).c0
     have q1 := (unhide C4).c1
     have q2 := (unhide C4).c2
     have q3 := (unhide C4).c3
     go_wp2_with fail
     refine (unhide CG _).mono ?_; rintro e w5 ⟨rfl, g5⟩
     have G5 := hide (grown_trans (r := none) (unhide G4) g5)
     have B5 := hide ((unhide B4).kept g5)
     have C5 := hide ((unhide C4).kept g5)
     clear g5 G4 B4 C4 CG q0 q1 q2 q3
     go_wp2_with fail
     refine (unhide CM _).mono ?_; rintro e w6 ⟨rfl, g6⟩
     have G6 := hide (grown_trans (r := none) (unhide G5) g6)
     have B6 := hide ((unhide B5).kept g6)
     have C6 := hide ((unhide C5).kept g6)
     clear g6 G5 B5 C5 CM
     have q3 := (unhide C6).c3
     have qf := (unhide C6).f 3
     obtain ⟨W7, hW7⟩ : ∃ W7, W7 = w6.setCell ⟨c, 3, none⟩ (.string mk) := ⟨_, rfl⟩
     have C7 : Hid (Box4 36 W7 c (.string D) (.bool false) (.string bb) (.string mk)) := by rw [hW7]; exact (unhide C6).set3 _
     have B7 : Hid (Box4 36 W7 (w.heap.size + 1) (.string ⟨#[]⟩) (.bool false) (.string ⟨#[]⟩) (.string ⟨#[]⟩)) := by rw [hW7]; exact (unhide B6).setO hne
     have G7 : Hid (w.grownBy W7 none) := by rw [hW7]; exact yb.grown_set (unhide G6) h1
     clear G6 B6 C6
     go_upto_region 13 with fail
     rw [← hW7]
     clear hW7 q3 qf
     have q0 := (unhide C7).c0
     have q1 := (unhide C7).c1
     have q2 := (unhide C7).c2
     have q3 := (unhide C7).c3
     have p0 := (unhide B7).c0
     have p1 := (unhide B7).c1
     have p2 := (unhide B7).c2
     have p3 := (unhide B7).c3
     have f0 := (unhide B7).f 0
     have f1 := (unhide B7).f 1
     have f2 := (unhide B7).f 2
     have f3 := (unhide B7).f 3
     go_wp2_with fail
     (try simp only [Exit.inBlock, Exit.then])
     exact bodyPost_ret (yb.ret_box2 rfl rfl ((unhide B7).setA _ _ _ _)) rfl (by rw [unhide EO']; exact ⟨rfl, yb.grown_setA (unhide G7) (Nat.le_succ _)⟩)
 ·rw [hE] at hem
  have EO : Hid (O = none) := (unhide HO).trans (if_pos (.inl (List.isEmpty_iff.1 hE)))
  have B5 := B1
  have G5 := G1
  have p0 := (unhide B5).c0
  have p1 := (unhide B5).c1
  have p2 := (unhide B5).c2
  have p3 := (unhide B5).c3
  have f0 := (unhide B5).f 0
  have f1 := (unhide B5).f 1
  have f2 := (unhide B5).f 2
  have f3 := (unhide B5).f 3
  clear hE HO HFN CS CR B1 G1 F1 C1
  go_wp2_with fail
  (try simp only [Exit.inBlock, Exit.then])
  exact bodyPost_ret (yb.ret_box2 rfl rfl ((unhide B5).setA _ _ _ _)) rfl (by rw [unhide EO]; exact ⟨rfl, yb.grown_setA (unhide G5) (Nat.le_succ _)⟩)
end Go.Proofs.YtcgiphcfjhbonaaGreatDoor.yi
namespace Go.Proofs.YtcgiphcfjhbonaaGreatDoor.yi
open css (tot Sls OwnS)
open yb (Cr cellsC CertE)
set_option linter.unusedVariables false
theorem both (key : ByteArray) (n : Int) (LL : List (List Int)) (hk : key.size ≤ 1048576) (hn : tot LL ≤ 1048576) : ∃ (d : ByteArray) (sat : Bool) (b m : ByteArray) (ok : Bool),
  (∀ v w, Sls w v LL → Calls Tryz.prog 18 #[.string key, .agg #[.int .i64 n, v]] w fun e w' => e = .returned (.tuple #[.agg #[.string d, .bool sat, .string b, .string m], .bool ok]) ∧ w.grownBy w' none) ∧
  (∀ v w, Tabs w → Sls w v LL → Calls Tryz.prog 17 #[.string key, .agg #[.int .i64 n, v]] w fun e w' => e = .returned (.tuple #[.agg #[.string d, .bool sat, .string b, .string m], .bool ok]) ∧ w.grownBy w' none) := by
 have h1 := fun v w h => specIssue key v n LL w hk hn h
 have h2 := fun v w t h => implIssue key v n LL w hk t hn h
 cases e : issO key n LL with
 | none => rw [e] at h1 h2; exact ⟨_, _, _, _, _, h1, h2⟩
 | some c => rw [e] at h1 h2; exact ⟨_, _, _, _, _, h1, h2⟩
end Go.Proofs.YtcgiphcfjhbonaaGreatDoor.yi
namespace Go.Proofs.YtcgiphcfjhbonaaGreatDoor.yb
open Go.ChangeShapes Go.WideShapes Go.ChangeAt Go.RowKit
open sl (hide unhide grown_refl grown_trans)
set_option maxRecDepth 100000 in
theorem eqSame (d : ByteArray) (sat : Bool) (b m : ByteArray) (w : World) :
  Calls Tryz.prog 29 #[.agg #[.string d, .bool sat, .string b, .string m], .agg #[.string d, .bool sat, .string b, .string m]] w fun e w' => e = .returned (.bool true) ∧ w.grownBy w' none := by
 go_enter Tryz.func29, Tryz.ntmps29
 go_wp2
 go_ret
 exact ⟨rfl, grown_trans (World.grownBy_alloc _ _ none) (World.grownBy_alloc _ _ none)⟩
end Go.Proofs.YtcgiphcfjhbonaaGreatDoor.yb
