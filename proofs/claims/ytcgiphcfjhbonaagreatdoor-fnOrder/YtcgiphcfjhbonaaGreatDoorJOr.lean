/- Assignments as texts: what trueLiterals, l03Lits and AssignText (of the program and of its model) answer at every list of at most 2^20 numbers, where the library's table of powers lies as its text lays it. -/
import Derived.Test.YtcgiphcfjhbonaaGreatDoorJOt
import Derived.Test.YtcgiphcfjhbonaaGreatDoorJXTr
import Derived.Test.YtcgiphcfjhbonaaGreatDoorJXApp
import Derived.Test.YtcgiphcfjhbonaaGreatDoorJXTl
import Derived.Lib.AtoiAll
import Derived.Lib.IndexMore
import Derived.WalkSpells
import Derived.Test.YtcgiphcfjhbonaaGreatDoorJXWo
import Derived.Test.YtcgiphcfjhbonaaGreatDoorJXCls
import Derived.Test.YtcgiphcfjhbonaaGreatDoorJXSl
import Derived.Test.YtcgiphcfjhbonaaGreatDoorShr
import Derived.Lib.ConvBytes
import Derived.Lib.SmallJoins
import Derived.Test.YtcgiphcfjhbonaaGreatDoorJXSrtS
import Derived.Laws.AppendOwnNone
import Derived.Lib.Split
import Derived.Test.YtcgiphcfjhbonaaGreatDoorJXLits
import Derived.Test.YtcgiphcfjhbonaaGreatDoorJXCf
import Derived.Deep.QuietTactic
import Derived.BigQuiet
import Derived.Test.YtcgiphcfjhbonaaGreatDoorJXNs
import Derived.Deep.AppendLies
import Derived.Test.YtcgiphcfjhbonaaGreatDoorJOm
import Derived.Test.YtcgiphcfjhbonaaGreatDoorJXGr
namespace Go.Proofs.YtcgiphcfjhbonaaGreatDoor.as_
open Go.ChangeShapes Go.WideShapes Go.ChangeAt Go.RowKit
open sl (Sl Own ints hide unhide ret_int ret_bool grown_refl grown_trans grown_drewN below_of of_below)
open dec (str)
open tr (bitB)
open wo (Made)
open txt (Pow text)
set_option linter.unusedVariables false
def asText (A : List Int) : List UInt8 := if decide (A.length ≤ 24) && A.all bitB then text (tl 0 A) else []
theorem asText_no {A : List Int} (h : (decide (A.length ≤ 24) && A.all bitB) = false) : asText A = [] := by unfold asText; rw [h]; rfl
theorem asText_yes {A : List Int} (h1 : A.length ≤ 24) (h2 : A.all bitB = true) : asText A = text (tl 0 A) := by unfold asText; rw [decide_eq_true h1, h2]; rfl
theorem implAssignText (v : Value) (A : List Int) (w : World) (hT : Pow w) (hL : A.length ≤ 1048576) (hv : Sl w v A) :
  Calls Tryz.prog 262 #[v] w fun e w' => e = .returned (str (asText A)) ∧ w.grownBy w' none := by
 have CI := tr.isAssignment v A w hL hv
 have TL := hide (trueLiterals v A w hL hv)
 obtain ⟨a, cap, rfl, ha⟩ := hv
 have HT := hide hT
 clear ha hT
 by_cases h24 : A.length ≤ 24
 ·have h24' : ¬ (24 : Int) < (A.length : Int) := by omega
  cases hb : A.all bitB
  ·rw [hb] at CI
   have C1 := hide CI
   have E := hide (asText_no (A := A) (by rw [hb, Bool.and_false]))
   clear CI hb
   go_enter Tryz.func262, Tryz.ntmps262
   go_wp2_with (go_at_call 264; refine (unhide C1).mono ?_; rintro e w' ⟨rfl, hw⟩; have hw' := hw.symm; clear hw; subst hw')
   go_ret
   exact ⟨by rw [unhide E]; rfl, grown_refl _⟩
  ·rw [hb] at CI
   have C1 := hide CI
   have E := hide (asText_yes h24 hb)
   have hl : (tl 0 A).length ≤ 1048576 := by rw [tl_len]; omega
   clear CI hb
   go_enter Tryz.func262, Tryz.ntmps262
   go_wp2_with (go_at_call 264; refine (unhide C1).mono ?_; rintro e w' ⟨rfl, hw⟩; have hw' := hw.symm; clear hw; subst hw')
   go_wp2_with fail
   refine (unhide TL).mono ?_; rintro e w1 ⟨u1, rfl, m1⟩
   have CT := hide (txt.implClauseText u1 (tl 0 A) w1 ((unhide HT).kept m1.2) hl (Sl.of_own m1.1))
   have G1 := hide m1.2
   clear m1 TL C1
   go_wp2_with fail
   refine (unhide CT).mono ?_; rintro e w2 ⟨rfl, g2⟩
   have G2 := hide (grown_trans (r := none) (unhide G1) g2)
   clear g2 CT
   go_wp2_with fail
   go_ret
   exact ⟨by rw [unhide E]; rfl, unhide G2⟩
 ·have h24' : (24 : Int) < (A.length : Int) := by omega
  have E := hide (asText_no (A := A) (by rw [decide_eq_false h24]; rfl))
  clear CI TL
  go_enter Tryz.func262, Tryz.ntmps262
  go_wp2_with fail
  go_ret
  exact ⟨by rw [unhide E]; rfl, grown_refl _⟩
end Go.Proofs.YtcgiphcfjhbonaaGreatDoor.as_
namespace Go.Proofs.YtcgiphcfjhbonaaGreatDoor.rd
open Go.RowKit
open lits (okB okB_iff okB_yes)
open cls (okAll)
open txt (body text itoa_len)
theorem dec_mem (u : Nat) : ∀ c ∈ Lib.decDigits u, 48 ≤ c.toNat ∧ c.toNat ≤ 57 := by
 induction u using Nat.strongRecOn with
 | _ u ih =>
  intro c hc
  have one : ∀ d, d < 10 → 48 ≤ (UInt8.ofNat (48 + d)).toNat ∧ (UInt8.ofNat (48 + d)).toNat ≤ 57 := by decide
  by_cases h : u < 10
  ·rw [dec.dec_small h] at hc
   rw [List.mem_singleton] at hc
   rw [hc]
   exact one _ (Nat.mod_lt _ (by decide))
  ·rw [dec.dec_big h, List.mem_append] at hc
   rcases hc with hc | hc
   ·exact ih (u / 10) (by omega) c hc
   ·rw [List.mem_singleton] at hc
    rw [hc]
    exact one _ (Nat.mod_lt _ (by decide))
theorem itoa_blank (x : Int) : (32 : UInt8) ∉ Lib.itoa x := by
 unfold Lib.itoa
 split
 ·intro h
  rcases List.mem_cons.1 h with h | h
  ·cases h
  ·have := dec_mem _ _ h
   simp at this
 ·intro h
  have := dec_mem _ _ h
  simp at this
theorem body_cons (x : Int) (l : List Int) : body (x :: l) = Lib.itoa x ++ 32 :: body l := by simp [body]
def lit (s : List UInt8) : Option Int := match Lib.atoiAll s with
 | .ok v => if okB v && decide (Lib.itoa v = s) then some v else none
 | _ => none
def cutW (s : List UInt8) : List UInt8 × List UInt8 × Bool := Lib.cut s [32]
def clause : Nat → List UInt8 → Option (List Int)
 | 0, s => if s = [48] then some [] else none
 | n + 1, s => if s = [48] then some [] else if (cutW s).2.2 then (match lit (cutW s).1 with
  | some x => (clause n (cutW s).2.1).map (x :: ·)
  | none => none) else none
theorem index_cons (b : UInt8) (l : List UInt8) : Lib.index (b :: l) [32] = if b = 32 then 0 else if Lib.index l [32] = -1 then -1 else Lib.index l [32] + 1 := by
 conv => lhs; unfold Lib.index
 by_cases h : b = 32
 ·rw [if_pos (by simp [h]), if_pos h]
 ·rw [if_neg (by simp; exact fun e => h e.symm), if_neg h]
  simp [beq_iff_eq]
theorem cut_spec (s : List UInt8) : (∃ a r, s = a ++ 32 :: r ∧ (32 : UInt8) ∉ a ∧ Lib.index s [32] = (a.length : Int)) ∨ ((32 : UInt8) ∉ s ∧ Lib.index s [32] = -1) := by
 induction s with
 | nil => exact .inr ⟨by simp, by simp [Lib.index]⟩
 | cons b l ih =>
  rw [index_cons]
  by_cases h : b = 32
  ·exact .inl ⟨[], l, by simp [h], by simp, by simp [h]⟩
  ·rw [if_neg h]
   rcases ih with ⟨a, r, e, ha, hi⟩ | ⟨ha, hi⟩
   ·refine .inl ⟨b :: a, r, by simp [e], ?_, ?_⟩
    ·rw [List.mem_cons, not_or]
     exact ⟨fun e => h e.symm, ha⟩
    ·rw [hi, if_neg (by omega)]
     simp
   ·refine .inr ⟨?_, by rw [hi]; rfl⟩
    rw [List.mem_cons, not_or]
    exact ⟨fun e => h e.symm, ha⟩
theorem blank_unique {a b r t : List UInt8} (ha : (32 : UInt8) ∉ a) (hb : (32 : UInt8) ∉ b) (h : a ++ 32 :: r = b ++ 32 :: t) : a = b ∧ r = t := by
 induction a generalizing b with
 | nil =>
  cases b with
  | nil => simp at h; exact ⟨rfl, h⟩
  | cons c b => simp at h; exact absurd h.1.symm (fun e => hb (by rw [e]; exact List.mem_cons_self))
 | cons d a ih =>
  cases b with
  | nil => simp at h; exact absurd h.1 (fun e => ha (by rw [e]; exact List.mem_cons_self))
  | cons c b =>
   simp at h
   rw [List.mem_cons, not_or] at ha hb
   have := ih ha.2 hb.2 h.2
   exact ⟨by rw [h.1, this.1], this.2⟩
theorem cut_word {a : List UInt8} (r : List UInt8) (ha : (32 : UInt8) ∉ a) : cutW (a ++ 32 :: r) = (a, r, true) := by
 rcases cut_spec (a ++ 32 :: r) with ⟨b, t, e, hb, hi⟩ | ⟨h, _⟩
 ·obtain ⟨rfl, rfl⟩ := blank_unique ha hb e
  unfold cutW Lib.cut
  rw [hi, if_pos (by omega)]
  simp
 ·exact absurd (by simp) h
theorem cut_sound {s : List UInt8} (h : (cutW s).2.2 = true) : s = (cutW s).1 ++ 32 :: (cutW s).2.1 ∧ (cutW s).2.1.length < s.length := by
 rcases cut_spec s with ⟨b, t, e, hb, hi⟩ | ⟨_, hi⟩
 ·rw [e, cut_word t hb]
  exact ⟨rfl, by simp; omega⟩
 ·unfold cutW Lib.cut at h
  rw [hi] at h
  simp at h
def dec2 (u : Nat) : List UInt8 := if u < 10 then [UInt8.ofNat (48 + u % 10)] else [UInt8.ofNat (48 + u / 10 % 10), UInt8.ofNat (48 + u % 10)]
theorem dec_dec2 {u : Nat} (h : u < 100) : Lib.decDigits u = dec2 u := by
 unfold dec2
 split
 ·exact dec.dec_small ‹_›
 ·rw [dec.dec_big ‹_›, dec.dec_small (by omega)]
  rfl
theorem atoi_pos : ∀ u : Fin 25, (match Lib.atoiAll (dec2 u.val) with | .ok v => decide (v = (u.val : Int)) | _ => false) = true := by decide
theorem atoi_neg : ∀ u : Fin 25, (match Lib.atoiAll (45 :: dec2 u.val) with | .ok v => decide (v = -(u.val : Int)) | _ => false) = true := by decide
theorem ok_of {e : Lib.NumEnd Int} {x : Int} (h : (match e with | .ok v => decide (v = x) | _ => false) = true) : e = .ok x := by
 cases e with
 | ok v => rw [of_decide_eq_true h]
 | _ => cases h
theorem atoi_lit {x : Int} (h : okB x = true) : Lib.atoiAll (Lib.itoa x) = .ok x := by
 have a := okB_iff.1 h
 unfold Lib.itoa
 split
 ·rw [dec_dec2 (by omega)]
  have := ok_of (atoi_neg ⟨x.natAbs, by omega⟩)
  rw [this]
  congr 1
  simp
  omega
 ·rw [dec_dec2 (by omega)]
  have := ok_of (atoi_pos ⟨x.toNat, by omega⟩)
  rw [this]
  congr 1
  simp
  omega
theorem lit_itoa {x : Int} (h : okB x = true) : lit (Lib.itoa x) = some x := by
 unfold lit
 rw [atoi_lit h]
 simp [h]
theorem lit_sound {s : List UInt8} {x : Int} (h : lit s = some x) : okB x = true ∧ Lib.itoa x = s := by
 unfold lit at h
 split at h
 ·split at h
  ·rename_i v _ hv
   rw [Bool.and_eq_true, decide_eq_true_iff] at hv
   obtain rfl := Option.some.inj h
   exact hv
  ·cases h
 ·cases h
theorem clause_sound {n : Nat} {s : List UInt8} {L : List Int} (h : clause n s = some L) : L.all okB = true ∧ L.length ≤ n ∧ body L ++ [48] = s := by
 induction n generalizing s L with
 | zero =>
  unfold clause at h
  split at h
  ·obtain rfl := Option.some.inj h
   exact ⟨rfl, Nat.le_refl _, by rw [‹s = [48]›]; rfl⟩
  ·cases h
 | succ n ih =>
  unfold clause at h
  split at h
  ·obtain rfl := Option.some.inj h
   exact ⟨rfl, Nat.zero_le _, by rw [‹s = [48]›]; rfl⟩
  ·split at h
   ·rename_i hf
    cases hl : lit (cutW s).1 with
    | none => rw [hl] at h; cases h
    | some x =>
     rw [hl] at h
     obtain ⟨l, hc, rfl⟩ := Option.map_eq_some_iff.1 h
     have h1 := ih hc
     have h2 := lit_sound hl
     have h3 := cut_sound hf
     refine ⟨by rw [List.all_cons, h2.1, h1.1]; rfl, by rw [List.length_cons]; omega, ?_⟩
     rw [body_cons, List.append_assoc, List.cons_append, h1.2.2, h2.2]
     exact h3.1.symm
   ·cases h
theorem clause_full {L : List Int} (hok : L.all okB = true) : ∀ n, L.length ≤ n → clause n (body L ++ [48]) = some L := by
 induction L with
 | nil => intro n _; cases n <;> rfl
 | cons x l ih =>
  intro n hn
  cases n with
  | zero => simp at hn
  | succ n =>
   rw [List.all_cons, Bool.and_eq_true] at hok
   have hw : cutW (body (x :: l) ++ [48]) = (Lib.itoa x, body l ++ [48], true) := by
    rw [body_cons, List.append_assoc, List.cons_append]
    exact cut_word _ (itoa_blank x)
   have hne : ¬ body (x :: l) ++ [48] = [48] := by
    intro e
    have : (32 : UInt8) ∈ body (x :: l) ++ [48] := by rw [body_cons]; simp
    rw [e] at this
    simp at this
   unfold clause
   rw [if_neg hne, hw]
   simp only [if_true, lit_itoa hok.1, ih hok.2 n (by simpa using hn), Option.map_some]
def read (s : List UInt8) : Option (List Int) := clause 48 s
def readL (s : List UInt8) : List Int := (read s).getD []
def readB (s : List UInt8) : Bool := (read s).isSome
theorem read_sound {s : List UInt8} {L : List Int} (h : read s = some L) : okAll L = true ∧ text L = s := by
 have h1 := clause_sound h
 have hok : okAll L = true := by
  unfold okAll
  rw [h1.1, decide_eq_true h1.2.1]
  rfl
 exact ⟨hok, by rw [txt.text_yes hok]; exact h1.2.2⟩
theorem read_full {L : List Int} (hok : okAll L = true) : read (text L) = some L := by
 rw [txt.text_yes hok]
 unfold okAll at hok
 rw [Bool.and_eq_true, decide_eq_true_iff] at hok
 exact clause_full hok.1 48 hok.2
theorem read_len (s : List UInt8) : (readL s).length ≤ 48 := by
 unfold readL
 cases h : read s with
 | none => exact Nat.zero_le _
 | some L => exact (clause_sound h).2.1
end Go.Proofs.YtcgiphcfjhbonaaGreatDoor.rd
namespace Go.Proofs.YtcgiphcfjhbonaaGreatDoor.rd
open Go.ChangeShapes Go.WideShapes Go.ChangeAt Go.RowKit
open dec (str)
open sl (hide unhide ret_bool ret_int)
set_option linter.unusedVariables false
def bytes (s : ByteArray) : List UInt8 := s.data.toList
theorem toList_bytes (s : ByteArray) : s.toList = bytes s := ByteArray.toList_eq s
theorem bytes_len (s : ByteArray) : (bytes s).length = s.size := by unfold bytes; rw [Array.length_toList]; rfl
end Go.Proofs.YtcgiphcfjhbonaaGreatDoor.rd
namespace Go.Proofs.YtcgiphcfjhbonaaGreatDoor.mn
open sl (grown_trans)
open wo (Made)
open cls (okAll)
theorem own_mono {w : World} {base base' : Nat} {e : TypeId} {v : Value} {n : Nat} {xs : List Value} (h : w.ownsRow base e 1 v n xs) (hb : base' ≤ base) : w.ownsRow base' e 1 v n xs := by
 obtain ⟨h1, h2⟩ := h
 refine ⟨h1, ?_⟩
 rcases h2 with h2 | ⟨g, cap, cur, e1, hg, r⟩
 ·exact .inl h2
 ·exact .inr ⟨g, cap, cur, e1, Nat.le_trans hb hg, r⟩
theorem made_trans {w w1 w2 : World} {u : Value} {M : List Int} (h : Made w1 w2 u M) (g : w.grownBy w1 none) : Made w w2 u M :=
 ⟨own_mono h.1 g.size, grown_trans g h.2⟩
theorem made_nil (w : World) : Made w (w.alloc (.cells #[] 3)) (.slice (some ⟨w.heap.size, 0, none⟩) 0 0) [] :=
 ⟨World.ownsRow_lit w #[] 0 (Nat.le_refl _) (Nat.zero_le _) rfl, World.grownBy_alloc _ _ _⟩
end Go.Proofs.YtcgiphcfjhbonaaGreatDoor.mn
namespace Go.Proofs.YtcgiphcfjhbonaaGreatDoor.rd
open Go.ChangeShapes Go.WideShapes Go.ChangeAt Go.RowKit
open lits (okB okB_iff okB_yes)
open dec (str)
open txt (Pow)
open wo (Made)
open mn (made_nil made_trans)
open sl (hide unhide grown_refl grown_trans of_below below_of ints)
set_option linter.unusedVariables false
structure Env (w : World) : Prop where
 pow : Pow w
 size : 8 < w.heap.size ∧ 7 < w.heap.size ∧ 5 < w.heap.size
 synt : ∃ tp p, w.var? Tryz.prog "strconv.ErrSyntax" = some #[.iface tp p]
 rang : ∃ tp p, w.var? Tryz.prog "strconv.ErrRange" = some #[.iface tp p]
 most : ∃ m, w.cell? ⟨5, 0, none⟩ = some (.int .i64 m)
theorem gSynt : Tryz.prog.globalNamed "strconv.ErrSyntax" = some 7 := by kernel_rfl
theorem gRang : Tryz.prog.globalNamed "strconv.ErrRange" = some 8 := by kernel_rfl
theorem Env.below {w w' : World} (h : Env w) (b : Below w.heap.size w w') : Env w' := by
 have hz := h.size
 have hbz := b.size
 refine ⟨h.pow.below b, ⟨by omega, by omega, by omega⟩, ?_, ?_, ?_⟩
 ·obtain ⟨tp, p, hv⟩ := h.synt
  exact ⟨tp, p, var?_below b gSynt (by omega) hv⟩
 ·obtain ⟨tp, p, hv⟩ := h.rang
  exact ⟨tp, p, var?_below b gRang (by omega) hv⟩
 ·obtain ⟨m, hm⟩ := h.most
  exact ⟨m, (b.cell (p := ⟨5, 0, none⟩) (by show 5 < w.heap.size; omega)).trans hm⟩
theorem Env.kept {w w' : World} (h : Env w) (g : w.grownBy w' none) : Env w' := h.below (below_of g)
theorem grown_bytes (w : World) (e : TypeId) (t : ByteArray) : w.grownBy (Lib.bytesWorld w e t) none := of_below (Joins.below_bytesWorld w.heap.size w e t (Nat.le_refl _))
theorem atoiOk (s : ByteArray) (v : Int) (w : World) (hs : s.size ≤ 1048576) (h : Lib.atoiAll (bytes s) = .ok v) :
  Calls Tryz.prog 141 #[.string s] w fun e w' => e = .returned (.tuple #[.int .i64 v, .nilIface]) ∧ w.grownBy w' none := by
 refine (Tryz.strconv_Atoi_ok s (by omega) v h w).mono ?_
 rintro e w' ⟨rfl, hw⟩
 refine ⟨rfl, ?_⟩
 rcases hw with rfl | ⟨t, rfl⟩
 ·exact grown_refl _
 ·exact grown_bytes w _ t
theorem atoiBad (s : ByteArray) (w : World) (hE : Env w) (hs : s.size ≤ 1048576) (h : ∀ v, Lib.atoiAll (bytes s) ≠ .ok v) :
  Calls Tryz.prog 141 #[.string s] w fun e w' => ∃ (n : Int) (N : Nat), e = .returned (.tuple #[.int .i64 n, .iface 233 (.pointer (some ⟨N, 0, none⟩))]) ∧ w.grownBy w' none := by
 obtain ⟨tp, p, hv⟩ := hE.synt
 obtain ⟨tq, q, hq⟩ := hE.rang
 cases hx : Lib.atoiAll s.data.toList
 ·exact absurd hx (h _)
 ·exact Calls.mono (Any.strconv_Atoi_syntax_var Tryz.laysC172 s (by omega) hx tp p w hv) (fun e w' ⟨N, he, _, _, hb⟩ => ⟨_, N, he, of_below hb⟩)
 ·exact Calls.mono (Any.strconv_Atoi_range_var Tryz.laysC172 s (by omega) hx tq q w hq) (fun e w' ⟨N, he, _, _, hb⟩ => ⟨_, N, he, of_below hb⟩)
theorem lit_bad {s : List UInt8} (h : ∀ v, Lib.atoiAll s ≠ .ok v) : lit s = none := by
 unfold lit
 split
 ·exact absurd ‹_› (h _)
 ·rfl
theorem lit_ok {s : List UInt8} {v : Int} (h : Lib.atoiAll s = .ok v) : lit s = if okB v && decide (Lib.itoa v = s) then some v else none := by
 unfold lit
 rw [h]
set_option maxHeartbeats 800000 in
theorem readLit (s : ByteArray) (w : World) (hE : Env w) (hs : s.size ≤ 1048576) :
  Calls Tryz.prog 91 #[.string s] w fun e w' => e = .returned (.tuple #[.int .i8 ((lit (bytes s)).getD 0), .bool (lit (bytes s)).isSome]) ∧ w.grownBy w' none := by
 by_cases hok : ∃ v, Lib.atoiAll (bytes s) = .ok v
 ·obtain ⟨v, hv⟩ := hok
  have C1 := hide (atoiOk s v w hs hv)
  have hl := lit_ok hv
  clear hv
  cases hlit : okB v
  ·rw [hlit] at hl
   have E : Hid (lit (bytes s) = none) := hl
   have C2 := hide (fun w => lits.litOf_no v w (fun h => by rw [okB_yes h] at hlit; cases hlit))
   clear hl hlit hE
   go_enter Tryz.func91, Tryz.ntmps91
   go_wp2_with fail
   refine (unhide C1).mono ?_; rintro e w1 ⟨rfl, g1⟩
   have G1 := hide g1
   clear g1
   go_wp2_with fail
   refine (unhide C2 w1).mono ?_; rintro e w2 ⟨rfl, hw⟩; have hw' := hw.symm; clear hw; subst hw'
   go_wp2_with fail
   go_ret2
   exact ⟨by rw [unhide E]; rfl, unhide G1⟩
  ·rw [hlit] at hl
   have a := okB_iff.1 hlit
   have C2 := hide (fun w => lits.litOf_yes v w a)
   have C3 := hide (fun w h => txt.litText v w a.2 h)
   obtain ⟨_, v0, v1⟩ := a
   by_cases hi : Lib.itoa v = bytes s
   ·have E : Hid (lit (bytes s) = some v) := by rw [decide_eq_true hi] at hl; exact hl
    have hq : (Lib.itoa v == s.toList) = true := by rw [toList_bytes, hi]; simp
    have HE := hide hE
    clear hl hlit hE hi
    generalize Lib.itoa v = q at *
    go_enter Tryz.func91, Tryz.ntmps91
    go_wp2_with fail
    refine (unhide C1).mono ?_; rintro e w1 ⟨rfl, g1⟩
    have G1 := hide g1
    clear g1
    go_wp2_with fail
    refine (unhide C2 w1).mono ?_; rintro e w2 ⟨rfl, hw⟩; have hw' := hw.symm; clear hw; subst hw'
    go_wp2_with fail
    refine (unhide C3 w1 ((unhide HE).kept (unhide G1)).pow).mono ?_; rintro e w3 ⟨rfl, g3⟩
    have G3 := hide (grown_trans (r := none) (unhide G1) g3)
    clear g3
    unfold str
    go_wp2_with fail
    go_ret2
    exact ⟨by rw [unhide E]; rfl, unhide G3⟩
   ·have E : Hid (lit (bytes s) = none) := by rw [decide_eq_false hi] at hl; exact hl
    have hq : (Lib.itoa v == s.toList) = false := by rw [toList_bytes]; simpa using hi
    have HE := hide hE
    clear hl hlit hE hi
    generalize Lib.itoa v = q at *
    go_enter Tryz.func91, Tryz.ntmps91
    go_wp2_with fail
    refine (unhide C1).mono ?_; rintro e w1 ⟨rfl, g1⟩
    have G1 := hide g1
    clear g1
    go_wp2_with fail
    refine (unhide C2 w1).mono ?_; rintro e w2 ⟨rfl, hw⟩; have hw' := hw.symm; clear hw; subst hw'
    go_wp2_with fail
    refine (unhide C3 w1 ((unhide HE).kept (unhide G1)).pow).mono ?_; rintro e w3 ⟨rfl, g3⟩
    have G3 := hide (grown_trans (r := none) (unhide G1) g3)
    clear g3
    unfold str
    go_wp2_with fail
    go_ret2
    exact ⟨by rw [unhide E]; rfl, unhide G3⟩
 ·have hno : ∀ v, Lib.atoiAll (bytes s) ≠ .ok v := fun v h => hok ⟨v, h⟩
  have C1 := hide (atoiBad s w hE hs hno)
  have E := hide (lit_bad hno)
  clear hno hok hE
  go_enter Tryz.func91, Tryz.ntmps91
  go_wp2_with fail
  refine (unhide C1).mono ?_; rintro e w1 ⟨n, N, rfl, g1⟩
  have G1 := hide g1
  clear g1
  go_wp2_with fail
  go_ret2
  exact ⟨by rw [unhide E]; rfl, unhide G1⟩
def strLen : Value → Nat
 | .string t => t.size
 | _ => 0
theorem clause_end {n : Nat} {s : List UInt8} (h : s = [48]) : clause n s = some [] := by
 cases n <;> (unfold clause; rw [if_pos h])
theorem clause_zero {s : List UInt8} (h : ¬ s = [48]) : clause 0 s = none := by unfold clause; rw [if_neg h]
theorem clause_uncut {n : Nat} {s : List UInt8} (h : ¬ s = [48]) (hc : (cutW s).2.2 = false) : clause n s = none := by
 cases n with
 | zero => exact clause_zero h
 | succ n => unfold clause; rw [if_neg h, hc]; rfl
theorem clause_nolit {n : Nat} {s : List UInt8} (h : ¬ s = [48]) (hl : lit (cutW s).1 = none) : clause n s = none := by
 cases n with
 | zero => exact clause_zero h
 | succ n => unfold clause; rw [if_neg h, hl]; simp
theorem clause_more {n : Nat} {s : List UInt8} {x : Int} (h : ¬ s = [48]) (hc : (cutW s).2.2 = true) (hl : lit (cutW s).1 = some x) : clause (n + 1) s = (clause n (cutW s).2.1).map (x :: ·) := by
 conv => lhs; unfold clause
 rw [if_neg h, hc, hl]
 rfl
def LeftC (s t : List UInt8) (M : List Int) : Prop := read s = (clause (48 - M.length) t).map (M ++ ·)
theorem leftC_start (s : List UInt8) : LeftC s s [] := by
 unfold LeftC read
 cases clause 48 s <;> rfl
theorem leftC_end {s t : List UInt8} {M : List Int} (h : LeftC s t M) (ht : t = [48]) : readL s = M ∧ readB s = true := by
 unfold LeftC at h
 rw [clause_end ht] at h
 unfold readL readB
 rw [h]
 simp
theorem leftC_none {s t : List UInt8} {M : List Int} (h : LeftC s t M) (hn : clause (48 - M.length) t = none) : readL s = [] ∧ readB s = false := by
 unfold LeftC at h
 rw [hn] at h
 unfold readL readB
 rw [h]
 exact ⟨rfl, rfl⟩
theorem leftC_more {s t : List UInt8} {M : List Int} {x : Int} (h : LeftC s t M) (hM : M.length < 48) (h0 : ¬ t = [48]) (hc : (cutW t).2.2 = true) (hl : lit (cutW t).1 = some x) : LeftC s (cutW t).2.1 (M ++ [x]) := by
 unfold LeftC at *
 rw [h, show 48 - M.length = (48 - (M ++ [x]).length) + 1 from by simp; omega, clause_more h0 hc hl, Option.map_map]
 congr 1
 funext l
 simp
theorem cut_len (s : List UInt8) : (cutW s).1.length ≤ s.length := by
 rcases cut_spec s with ⟨b, t, e, hb, hi⟩ | ⟨_, hi⟩
 ·rw [e, cut_word t hb]
  simp
 ·unfold cutW Lib.cut
  rw [hi]
  simp
theorem is48 (t : ByteArray) : (t.toList == [48]) = decide (bytes t = [48]) := by
 rw [Bool.eq_iff_iff, beq_iff_eq, decide_eq_true_iff, toList_bytes]
theorem bytes_mk (l : List UInt8) : bytes ⟨l.toArray⟩ = l := rfl
theorem size_mk (l : List UInt8) : (⟨l.toArray⟩ : ByteArray).size = l.length := by rw [← bytes_len, bytes_mk]
theorem cutC (t : ByteArray) (w : World) (hE : Env w) (ht : t.size ≤ 1048576) (wd rs : List UInt8) (fd : Bool) (hc : cutW (bytes t) = (wd, rs, fd)) :
  Calls Tryz.prog 43 #[.string t, .string ⟨#[32]⟩] w fun e w' => e = .returned (.tuple #[.string ⟨wd.toArray⟩, .string ⟨rs.toArray⟩, .bool fd]) ∧ w.grownBy w' none := by
 obtain ⟨m, hm⟩ := hE.most
 refine (Tryz.strings_Cut t ⟨#[32]⟩ m w (by omega) hm).mono ?_
 rintro e w' ⟨rfl, n, rfl⟩
 have e1 : Lib.cut t.data.toList (⟨#[32]⟩ : ByteArray).data.toList = (wd, rs, fd) := hc
 rw [e1]
 exact ⟨rfl, sl.grown_drewN w n⟩
set_option maxHeartbeats 1600000 in
theorem implReadClause (s : ByteArray) (w : World) (hE : Env w) (hs : s.size ≤ 1048576) :
  Calls Tryz.prog 44 #[.string s] w fun e w' => ∃ u, e = .returned (.tuple #[u, .bool (readB (bytes s))]) ∧ Made w w' u (readL (bytes s)) := by
 have HE := hide hE
 clear hE
 have START := made_nil w
 go_enter Tryz.func44, Tryz.ntmps44
 go_wp2
 go_loopw [0, 4] (fun sv c wr => ∃ (t : ByteArray) (M : List Int), sv = .string t ∧ t.size ≤ s.size ∧ M.length ≤ 48 ∧ LeftC (bytes s) (bytes t) M ∧ Made w wr c M) (fun sv _ _ => strLen sv)
 case atStart => exact ⟨s, [], rfl, Nat.le_refl _, Nat.zero_le _, leftC_start _, START⟩
 case round =>
  obtain ⟨t, M, rfl, hts, hM, hleft, hmade⟩ := hrel
  clear START
  obtain ⟨a, cap, rfl, _⟩ := sl.Sl.of_own hmade.1
  have h48 := is48 t
  by_cases h0 : bytes t = [48]
  ·rw [decide_eq_true h0] at h48
   have E := leftC_end hleft h0
   clear hleft h0
   go_wp2
   go_ret2
   exact ⟨_, by rw [E.2]; rfl, by rw [E.1]; exact hmade⟩
  ·rw [decide_eq_false h0] at h48
   obtain ⟨wd, rs, fd, hc⟩ : ∃ wd rs fd, cutW (bytes t) = (wd, rs, fd) := ⟨_, _, _, rfl⟩
   have CC := hide (cutC t wr ((unhide HE).kept hmade.2) (by omega) wd rs fd hc)
   have hwd : wd.length ≤ 1048576 := by
    have h1 : wd.length ≤ (bytes t).length := by
     have := cut_len (bytes t)
     rw [hc] at this
     exact this
    rw [bytes_len] at h1
    omega
   have CL := hide (fun w1 (g : wr.grownBy w1 none) => readLit ⟨wd.toArray⟩ w1 (((unhide HE).kept hmade.2).kept g) (by rw [size_mk]; exact hwd))
   rw [bytes_mk] at CL
   cases hfd : fd
   ·have E := leftC_none hleft (clause_uncut h0 (by rw [hc, hfd]))
    subst hfd
    obtain ⟨lv, hlv⟩ : ∃ lv, lit wd = lv := ⟨_, rfl⟩
    have LT := hide hlv
    clear hlv hleft h0 hc hwd
    go_wp2_with fail
    refine (unhide CC).mono ?_; rintro e w1 ⟨rfl, g1⟩
    have G1 := hide g1
    clear g1
    go_wp2_with fail
    refine (unhide CL w1 (unhide G1)).mono ?_; rintro e w2 ⟨rfl, g2⟩
    have G2 := hide (grown_trans (r := none) hmade.2 (grown_trans (r := none) (unhide G1) g2))
    clear g2 CC CL
    rw [unhide LT]
    go_wp2_with fail
    go_ret2
    exact ⟨_, by rw [E.2]; rfl, by rw [E.1]; exact made_trans (made_nil _) (unhide G2)⟩
   ·subst hfd
    cases hlv : lit wd with
    | none =>
     have E := leftC_none hleft (clause_nolit h0 (by rw [hc]; exact hlv))
     have LT := hide hlv
     clear hlv hleft h0 hc hwd
     go_wp2_with fail
     refine (unhide CC).mono ?_; rintro e w1 ⟨rfl, g1⟩
     have G1 := hide g1
     clear g1
     go_wp2_with fail
     refine (unhide CL w1 (unhide G1)).mono ?_; rintro e w2 ⟨rfl, g2⟩
     have G2 := hide (grown_trans (r := none) hmade.2 (grown_trans (r := none) (unhide G1) g2))
     clear g2 CC CL
     rw [unhide LT]
     go_wp2_with fail
     go_ret2
     exact ⟨_, by rw [E.2]; rfl, by rw [E.1]; exact made_trans (made_nil _) (unhide G2)⟩
    | some x =>
     have hx := okB_iff.1 (lit_sound hlv).1
     obtain ⟨_, x0, x1⟩ := hx
     by_cases hm48 : M.length = 48
     ·have E := leftC_none hleft (by rw [hm48]; exact clause_zero h0)
      have LT := hide hlv
      have hl : (((M.length : Nat) : Int) == 48) = true := by rw [beq_iff_eq]; omega
      clear hlv hleft h0 hc hwd
      go_wp2_with fail
      refine (unhide CC).mono ?_; rintro e w1 ⟨rfl, g1⟩
      have G1 := hide g1
      clear g1
      go_wp2_with fail
      refine (unhide CL w1 (unhide G1)).mono ?_; rintro e w2 ⟨rfl, g2⟩
      have G2 := hide (grown_trans (r := none) hmade.2 (grown_trans (r := none) (unhide G1) g2))
      clear g2 CC CL
      rw [unhide LT]
      go_wp2_with fail
      go_ret2
      exact ⟨_, by rw [E.2]; rfl, by rw [E.1]; exact made_trans (made_nil _) (unhide G2)⟩
     ·have L := leftC_more hleft (by omega) h0 (by rw [hc]) (by rw [hc]; exact hlv)
      have cs := cut_sound (s := bytes t) (by rw [hc])
      rw [hc] at L cs
      have LT := hide hlv
      have HC := hide cs.2
      have hl : (((M.length : Nat) : Int) == 48) = false := by rw [beq_eq_false_iff_ne]; omega
      clear hlv hleft h0 hc hwd cs
      go_wp2_with fail
      refine (unhide CC).mono ?_; rintro e w1 ⟨rfl, g1⟩
      have G1 := hide g1
      clear g1
      go_wp2_with fail
      refine (unhide CL w1 (unhide G1)).mono ?_; rintro e w2 ⟨rfl, g2⟩
      have g02 := grown_trans (r := none) (unhide G1) g2
      have hm2 : Made w w2 (.slice a M.length cap) M := ⟨(sl.Own.kept (sl.Own.of hmade.1) g02).1, grown_trans (r := none) hmade.2 g02⟩
      clear g2 g02 G1 CC CL hmade
      rw [unhide LT]
      go_wp2_with (at_builtin; refine wo.append1 hm2.2 hm2.1 (by omega) rfl _ _ rfl rfl rfl ?_)
      intro v' w3 R
      clear hm2
      go_wp2
      go_roundw
      case rel => exact ⟨⟨rs.toArray⟩, M ++ [x], rfl, by rw [size_mk]; have := unhide HC; rw [bytes_len] at this; omega, by simp; omega, L, R⟩
      case measure =>
       show (⟨rs.toArray⟩ : ByteArray).size < t.size
       rw [size_mk]
       have := unhide HC
       rw [bytes_len] at this
       exact this
end Go.Proofs.YtcgiphcfjhbonaaGreatDoor.rd
namespace Go.Proofs.YtcgiphcfjhbonaaGreatDoor.res
open Go.ChangeShapes Go.WideShapes Go.ChangeAt Go.RowKit
open lits (okB okB_iff)
open cls (hasB okAll)
open srt (Tab)
open wo (Made)
open sl (Sl ints hide unhide ret_int ret_bool grown_refl grown_trans)
set_option linter.unusedVariables false
theorem own_mono {w : World} {base base' : Nat} {e : TypeId} {v : Value} {n : Nat} {xs : List Value} (h : w.ownsRow base e 1 v n xs) (hb : base' ≤ base) : w.ownsRow base' e 1 v n xs := by
 obtain ⟨h1, h2⟩ := h
 refine ⟨h1, ?_⟩
 rcases h2 with h2 | ⟨g, cap, cur, e1, hg, r⟩
 ·exact .inl h2
 ·exact .inr ⟨g, cap, cur, e1, Nat.le_trans hb hg, r⟩
theorem made_trans {w w1 w2 : World} {u : Value} {M : List Int} (h : Made w1 w2 u M) (g : w.grownBy w1 none) : Made w w2 u M :=
 ⟨own_mono h.1 g.size, grown_trans g h.2⟩
end Go.Proofs.YtcgiphcfjhbonaaGreatDoor.res
namespace Go.Proofs.YtcgiphcfjhbonaaGreatDoor.rd
set_option linter.unusedVariables false
end Go.Proofs.YtcgiphcfjhbonaaGreatDoor.rd
namespace Go.Proofs.YtcgiphcfjhbonaaGreatDoor.ln
set_option linter.unusedVariables false
def cutL (s : List UInt8) : List UInt8 × List UInt8 × Bool := Lib.cut s [10]
theorem index_cons (b : UInt8) (l : List UInt8) : Lib.index (b :: l) [10] = if b = 10 then 0 else if Lib.index l [10] = -1 then -1 else Lib.index l [10] + 1 := by
 conv => lhs; unfold Lib.index
 by_cases h : b = 10
 ·rw [if_pos (by simp [h]), if_pos h]
 ·rw [if_neg (by simp; exact fun e => h e.symm), if_neg h]
  simp [beq_iff_eq]
theorem cut_spec (s : List UInt8) : (∃ a r, s = a ++ 10 :: r ∧ (10 : UInt8) ∉ a ∧ Lib.index s [10] = (a.length : Int)) ∨ ((10 : UInt8) ∉ s ∧ Lib.index s [10] = -1) := by
 induction s with
 | nil => exact .inr ⟨by simp, by simp [Lib.index]⟩
 | cons b l ih =>
  rw [index_cons]
  by_cases h : b = 10
  ·exact .inl ⟨[], l, by simp [h], by simp, by simp [h]⟩
  ·rw [if_neg h]
   rcases ih with ⟨a, r, e, ha, hi⟩ | ⟨ha, hi⟩
   ·refine .inl ⟨b :: a, r, by simp [e], ?_, ?_⟩
    ·rw [List.mem_cons, not_or]
     exact ⟨fun e => h e.symm, ha⟩
    ·rw [hi, if_neg (by omega)]
     simp
   ·refine .inr ⟨?_, by rw [hi]; rfl⟩
    rw [List.mem_cons, not_or]
    exact ⟨fun e => h e.symm, ha⟩
end Go.Proofs.YtcgiphcfjhbonaaGreatDoor.ln
namespace Go.Proofs.YtcgiphcfjhbonaaGreatDoor.qq
open Go.ChangeShapes Go.WideShapes Go.ChangeAt Go.RowKit
open lits (varI okB okB_iff)
open sl (Sl Own ints hide unhide ret_int ret_bool grown_refl grown_trans)
set_option linter.unusedVariables false
def varB (P : List Int) : Bool := decide (∀ i, i < P.length → varI (P.getD i 0) = (i : Int) + 1)
theorem turn_hit {P : List Int} {i : Nat} (hi : i < P.length) (h : ¬ varI (P.getD i 0) = (i : Int) + 1) : varB P = false := decide_eq_false fun q => h (q i hi)
theorem turn_end {P : List Int} {k : Nat} (hk : ¬ k < P.length) (h : ∀ i, i < k → varI (P.getD i 0) = (i : Int) + 1) : varB P = true := decide_eq_true fun i hi => h i (by omega)
set_option maxHeartbeats 1000000 in
theorem inTurn (v : Value) (P : List Int) (w : World) (h24 : P.length ≤ 1048576) (hv : Sl w v P) :
  Calls Tryz.prog 183 #[v] w fun e w' => e = .returned (.bool (varB P)) ∧ w' = w := by
 obtain ⟨a, cap, rfl, ha⟩ := hv
 have HA := hide ha
 clear ha
 go_enter Tryz.func183, Tryz.ntmps183
 go_wp2
 go_loop [7] (fun i => ∃ k : Nat, k ≤ P.length ∧ i = .int .i64 k ∧ Hid (∀ i, i < k → varI (P.getD i 0) = (i : Int) + 1)) (fun i => P.length - (intOf i).toNat)
 case atStart => exact ⟨0, Nat.zero_le _, rfl, fun i hi => absurd hi (Nat.not_lt_zero _)⟩
 case round =>
  obtain ⟨k, hk, rfl, hall⟩ := hrel
  by_cases hlt : k < P.length
  ·rcases unhide HA with h | ⟨b, off, rfl, hb, hcb⟩
   ·rw [h] at hlt
    simp at hlt
   ·have c1 := hcb k hlt
    have hi' : (k : Int) < (P.length : Int) := by omega
    have th := turn_hit hlt
    have NX : Hid ((varI (P.getD k 0) = (k : Int) + 1) → ∀ i, i < k + 1 → varI (P.getD i 0) = (i : Int) + 1) := fun h i hi => by
     by_cases e : i = k
     ·rw [e]; exact h
     ·exact unhide hall i (by omega)
    generalize P.getD k 0 = x at *
    have CV := hide (lits.implLitVar x w)
    by_cases hx : varI x = (k : Int) + 1
    ·have R := hide (unhide NX hx)
     rw [hx] at CV
     have hne : ¬ ((k : Int) + 1 ≠ (k : Int) + 1) := by omega
     clear hcb hall HA th hx NX
     go_wp2_with fail
     refine (unhide CV).mono ?_; rintro e w' ⟨rfl, hw⟩; have hw' := hw.symm; clear hw; subst hw'
     go_wp2_with fail
     go_round
     case rel => exact ⟨k + 1, by omega, by go_num, R⟩
     case measure => simp [intOf]; omega
    ·have R := hide (th hx)
     have hne : (varI x != (k : Int) + 1) = true := by simpa using hx
     clear hcb hall HA th NX
     generalize varI x = y at *
     go_wp2_with fail
     refine (unhide CV).mono ?_; rintro e w' ⟨rfl, hw⟩; have hw' := hw.symm; clear hw; subst hw'
     go_wp2_with fail
     go_ret
     exact ⟨ret_bool (unhide R).symm, rfl⟩
  ·have hi' : ¬ (k : Int) < (P.length : Int) := by omega
   have R := hide (turn_end hlt (unhide hall))
   clear HA hall
   go_wp2_with fail
   go_ret
   exact ⟨ret_bool (unhide R).symm, rfl⟩
end Go.Proofs.YtcgiphcfjhbonaaGreatDoor.qq
namespace Go.Proofs.YtcgiphcfjhbonaaGreatDoor.qm
open as_ (litAt tl tl_snoc tl_len)
open cls (hasB)
open ok (cnfB litIn)
set_option linter.unusedVariables false
def vals (P : List Int) : List Int := P.map fun x => if 0 < x then 1 else 0
theorem vals_len (P : List Int) : (vals P).length = P.length := List.length_map ..
theorem vals_at {P : List Int} {i : Nat} (h : i < P.length) : (vals P).getD i 0 = if 0 < P.getD i 0 then 1 else 0 := by
 simp [vals, h]
structure MS where
 A : List Int
 st : Int
 k : Int
structure OkM (n : Nat) (m : MS) : Prop where
 len : m.A.length ≤ n
 bit : ∀ x ∈ m.A, x = 0 ∨ x = 1
 k0 : 0 ≤ m.k
 k1 : m.k ≤ 1000000000
 st : m.st = 0 ∨ (m.st = 1 ∧ m.A.length = n) ∨ (m.st = 2 ∧ m.A = [])
end Go.Proofs.YtcgiphcfjhbonaaGreatDoor.qm
namespace Go.Proofs.YtcgiphcfjhbonaaGreatDoor.qm
open Go.ChangeShapes Go.WideShapes Go.ChangeAt Go.RowKit
open wo (Made)
open sl (Sl Own ints hide unhide grown_refl grown_trans own_stored ints_length)
set_option linter.unusedVariables false
theorem part_skip (L : List Int) (k : Nat) (h : k < L.length) (h0 : L.getD k 0 = 0) : sl.part L (k + 1) = sl.part L k := by
 have e : L[k] = 0 := by rw [List.getD_eq_getElem?_getD, List.getElem?_eq_getElem h] at h0; exact h0
 unfold sl.part
 rw [List.take_succ_eq_append_getElem h, e, show L.length - k = (L.length - (k + 1)) + 1 by omega, List.replicate_succ, List.append_assoc]
 rfl
set_option maxRecDepth 100000 in
set_option maxHeartbeats 4000000 in
theorem valuesOf (v : Value) (P : List Int) (w : World) (hP : P.length ≤ 1048576) (hv : Sl w v P) :
  Calls Tryz.prog 184 #[v] w fun e w' => ∃ u, e = .returned u ∧ Made w w' u (vals P) := by
 obtain ⟨i0, hi, hz0, hz1, hz2⟩ := info_parts sl.info3
 obtain ⟨a, cap, rfl, ha⟩ := hv
 have HA : Hid (∀ wr, w.grownBy wr none → ∀ k, k < P.length → ∃ b off, a = some ⟨b, off, none⟩ ∧ wr.cell? ⟨b, off + k, none⟩ = some (.int .i64 (P.getD k 0))) := by
  intro wr g k hk
  rcases ha with h | ⟨b, off, rfl, hb, hc⟩
  ·rw [h] at hk
   exact absurd hk (Nat.not_lt_zero _)
  ·exact ⟨b, off, rfl, g.cell (hc k hk) (fun e => by cases e)⟩
 have hvl := vals_len P
 have Z : Hid (∀ w' : World, w'.ownsRow w.heap.size 3 1 (.slice (some ⟨w.heap.size, 0, none⟩) P.length P.length) P.length (madeCells #[Value.int .i64 0] P.length).toList → w'.ownsRow w.heap.size 3 1 (.slice (some ⟨w.heap.size, 0, none⟩) P.length P.length) P.length (ints (sl.part (vals P) 0))) := by
  intro w' h
  have e : (madeCells #[Value.int .i64 0] P.length).toList = ints (sl.part (vals P) 0) := by
   rw [sl.part_zero, toList_madeCells_one, vals_len]
   simp [ints]
  rw [e] at h
  exact h
 have VL := hide hvl
 have VA := hide (fun k (h : k < P.length) => vals_at h)
 clear ha hvl
 go_enter Tryz.func184, Tryz.ntmps184
 go_wp2_with (first | (at_make; refine wpList_make_full _ rfl _ _ 43 rfl w.heap.size 3 i0 (.int .i64 0) 1 Tryz.underlying43 hi hz0 hz1 _ _ _ _ P.length rfl rfl (by rfl) (by rfl) ?b1 ?b2 ?b3 ?_))
 case b1 => rw [hz2]; omega
 case b2 => unfold maxLen; omega
 case b3 => exact Nat.le_refl _
 intro w2 hown hgrow
 have O := hide (unhide Z w2 hown)
 have G := hide hgrow
 clear hown hgrow Z
 go_wp2_with fail
 go_loopw [11] (fun i wr => ∃ k : Nat, k ≤ P.length ∧ i = .int .i64 k ∧ wr.ownsRow w.heap.size 3 1 (.slice (some ⟨w.heap.size, 0, none⟩) P.length P.length) P.length (ints (sl.part (vals P) k)) ∧ w.grownBy wr none) (fun i _ => P.length - (intOf i).toNat)
 case atStart => exact ⟨0, Nat.zero_le _, rfl, unhide O, unhide G⟩
 case round =>
  obtain ⟨k, hk, rfl, hown, hg⟩ := hrel
  by_cases hlt : k < P.length
  ·have hl := unhide VL
   obtain ⟨b, off, rfl, c1⟩ := unhide HA wr hg k hlt
   have c2 : wr.cell? ⟨w.heap.size, k, none⟩ = (ints (sl.part (vals P) k))[k]? := hown.cellAt k (by omega)
   obtain ⟨x, hx⟩ : ∃ x, (ints (sl.part (vals P) k))[k]? = some x := ⟨_, List.getElem?_eq_getElem (by rw [ints_length, sl.part_length _ _ (by omega)]; omega)⟩
   rw [hx] at c2
   have c3 : wr.frozen? ⟨w.heap.size, k, none⟩ = false := hown.frozenAt k
   have hi' : (k : Int) < (P.length : Int) := by omega
   have hva := unhide VA k hlt
   generalize P.getD k 0 = y at *
   by_cases hy : y > 0
   ·rw [if_pos hy] at hva
    have O' := hide (own_stored P.length (show (sl.part (vals P) k).length = P.length by rw [sl.part_length _ _ (by omega)]; exact hl) (show (sl.part (vals P) (k + 1)).length = P.length by rw [sl.part_length _ _ (by omega)]; exact hl) hown k 1 (by rw [← hva]; exact sl.part_set (vals P) k (by omega)))
    have G' : Hid (w.grownBy (wr.setCell ⟨w.heap.size, k, none⟩ (.int .i64 1)) none) := ⟨hg.os, hg.tape, hg.output, by simpa [World.setCell] using hg.size, fun j hj _ => (Below.heap_setCell _ _ _ _ (by show j ≠ w.heap.size; omega)).trans (hg.block j hj (fun e => by cases e))⟩
    clear hown hg hx O G hva HA VA VL hl
    go_wp2_with fail
    go_roundw
    case rel => exact ⟨k + 1, by omega, by go_num, unhide O', unhide G'⟩
    case measure => simp [intOf]; omega
   ·rw [if_neg hy] at hva
    rw [← part_skip (vals P) k (by omega) hva] at hown
    have O' := hide hown
    have G' := hide hg
    clear hown hg hx O G hva HA VA VL hl
    go_wp2_with fail
    go_roundw
    case rel => exact ⟨k + 1, by omega, by go_num, unhide O', unhide G'⟩
    case measure => simp [intOf]; omega
  ·have hk' : k = P.length := by omega
   subst hk'
   have O' := hide hown
   have G' := hide hg
   clear hown hg O G HA VA
   go_wp2_with fail
   go_ret
   refine ⟨_, rfl, ?_, unhide G'⟩
   have h := unhide O'
   have e : sl.part (vals P) P.length = vals P := by
    have := sl.part_all (vals P)
    rw [unhide VL] at this
    exact this
   rw [e] at h
   rw [unhide VL]
   exact h
end Go.Proofs.YtcgiphcfjhbonaaGreatDoor.qm
namespace Go.Proofs.YtcgiphcfjhbonaaGreatDoor.ra
open Go.ChangeShapes Go.WideShapes Go.ChangeAt Go.RowKit
open sl (Sl Own ints hide unhide ret_int ret_bool grown_refl grown_trans grown_drewN below_of of_below)
open dec (str)
open tr (bitB)
open wo (Made)
open lits (okB varI okB_iff)
open cls (okAll)
open txt (Pow text body)
open rd (Env readL readB read)
open as_ (tl litAt asText)
set_option linter.unusedVariables false
def bit (x : Int) : Int := if 0 < x then 1 else 0
def bitsOf (c : List Int) : List Int := c.map bit
def goodA (c : List Int) : Bool := decide (tl 0 (bitsOf c) = c)
theorem tl_iff (c : List Int) : ∀ k, tl k (bitsOf c) = c ↔ ∀ i (h : i < c.length), litAt (k + i) (bit c[i]) = c[i] := by
 induction c with
 | nil => intro k; simp [bitsOf, as_.tl]
 | cons x l ih =>
  intro k
  have e : tl k (bitsOf (x :: l)) = litAt k (bit x) :: tl (k + 1) (bitsOf l) := rfl
  rw [e, List.cons.injEq, ih]
  constructor
  ·rintro ⟨h0, h⟩ i hi
   cases i with
   | zero => exact h0
   | succ i =>
    have := h i (by simpa using hi)
    rw [show k + 1 + i = k + (i + 1) by omega] at this
    exact this
  ·intro h
   refine ⟨h 0 (by simp), fun i hi => ?_⟩
   have := h (i + 1) (by simpa using hi)
   rw [show k + (i + 1) = k + 1 + i by omega] at this
   exact this
theorem lit_iff {x : Int} (h : okB x = true) (i : Nat) : litAt i (bit x) = x ↔ varI x = (i : Int) + 1 := by
 have a := okB_iff.1 h
 rw [lits.varI_yes a]
 unfold as_.litAt bit
 by_cases hx : 0 < x
 ·rw [if_pos hx, if_pos rfl, if_neg (by omega)]
  omega
 ·rw [if_neg hx, if_neg (by decide), if_pos (by omega)]
  omega
theorem good_iff {c : List Int} (h : c.all okB = true) : goodA c = true ↔ ∀ i, i < c.length → varI (c.getD i 0) = (i : Int) + 1 := by
 unfold goodA
 rw [decide_eq_true_iff, tl_iff]
 rw [List.all_eq_true] at h
 constructor
 ·intro g i hi
  have := g i hi
  rw [Nat.zero_add] at this
  rw [show c.getD i 0 = c[i] by simp [hi]]
  exact (lit_iff (h _ (List.getElem_mem hi)) i).1 this
 ·intro g i hi
  have := g i hi
  rw [show c.getD i 0 = c[i] by simp [hi]] at this
  rw [Nat.zero_add]
  exact (lit_iff (h _ (List.getElem_mem hi)) i).2 this
theorem bits_len (c : List Int) : (bitsOf c).length = c.length := List.length_map ..
theorem tl_ok (A : List Int) : ∀ k, k + A.length ≤ 24 → (tl k A).all okB = true := by
 induction A with
 | nil => intro k _; rfl
 | cons x l ih =>
  intro k h
  rw [List.length_cons] at h
  rw [as_.tl, List.all_cons, ih (k + 1) (by omega), Bool.and_true]
  refine okB_iff.2 ?_
  unfold as_.litAt
  split <;> omega
theorem tl_okAll {A : List Int} (h : A.length ≤ 24) : okAll (tl 0 A) = true := by
 unfold cls.okAll
 rw [tl_ok A 0 (by omega), as_.tl_len, decide_eq_true (by omega)]
 rfl
def raB (s : List UInt8) (n : Int) : Bool := readB s && decide (((readL s).length : Int) = n) && goodA (readL s)
def raL (s : List UInt8) (n : Int) : List Int := if raB s n then bitsOf (readL s) else []
theorem ra_no {s : List UInt8} {n : Int} (h : raB s n = false) : raL s n = [] := by unfold raL; rw [h]; rfl
theorem ra_yes {s : List UInt8} {n : Int} (h : raB s n = true) : raL s n = bitsOf (readL s) := by unfold raL; rw [h]; rfl
theorem read_some {s : List UInt8} (h : readB s = true) : read s = some (readL s) := by
 unfold rd.readB at h
 unfold rd.readL
 cases e : read s with
 | none => rw [e] at h; cases h
 | some c => rfl
theorem readL_ok {s : List UInt8} (h : readB s = true) : (readL s).all okB = true := by
 have := (rd.read_sound (read_some h)).1
 unfold cls.okAll at this
 rw [Bool.and_eq_true] at this
 exact this.1
set_option maxRecDepth 100000 in
set_option maxHeartbeats 1600000 in
theorem implReadAssign (s : ByteArray) (n : Int) (w : World) (hE : Env w) (hs : s.size ≤ 1048576) :
  Calls Tryz.prog 149 #[.string s, .int .i64 n] w fun e w' => ∃ u, e = .returned (.tuple #[u, .bool (raB (rd.bytes s) n)]) ∧ Made w w' u (raL (rd.bytes s) n) := by
 have CR := rd.implReadClause s w hE hs
 have hl48 := rd.read_len (rd.bytes s)
 cases hb : readB (rd.bytes s)
 ·rw [hb] at CR
  have C1 := hide CR
  have E := hide (show raB (rd.bytes s) n = false by unfold raB; rw [hb]; rfl)
  clear CR hb
  go_enter Tryz.func149, Tryz.ntmps149
  go_wp2_with fail
  refine (unhide C1).mono ?_; rintro e w1 ⟨u1, rfl, m1⟩
  obtain ⟨a, cap, rfl, _⟩ := Sl.of_own m1.1
  have M1 := hide (res.made_trans (app.made_nil w1) m1.2)
  clear m1 C1
  go_wp2_with fail
  go_ret2
  exact ⟨_, by rw [unhide E]; rfl, by rw [ra_no (unhide E)]; exact unhide M1⟩
 ·rw [hb] at CR
  have hok := readL_ok hb
  have gi := good_iff hok
  have eB : raB (rd.bytes s) n = (decide (((readL (rd.bytes s)).length : Int) = n) && goodA (readL (rd.bytes s))) := by unfold raB; rw [hb]; rfl
  have eL := fun h => ra_yes (s := rd.bytes s) (n := n) h
  have eN := fun h => ra_no (s := rd.bytes s) (n := n) h
  generalize readL (rd.bytes s) = c at *
  generalize raB (rd.bytes s) n = B at *
  generalize raL (rd.bytes s) n = R at *
  have C1 := hide CR
  clear CR hb
  by_cases hn : (c.length : Int) = n
  ·subst hn
   rw [decide_eq_true rfl, Bool.true_and] at eB
   have gv : goodA c = qq.varB c := by
    rw [Bool.eq_iff_iff, gi]
    exact decide_eq_true_iff.symm
   rw [gv] at eB
   have EB := hide eB
   have EL := hide eL
   have EN := hide eN
   clear eB eL eN gi gv
   have hbe : ((c.length : Int) != (c.length : Int)) = false := by simp
   go_enter Tryz.func149, Tryz.ntmps149
   go_wp2_with fail
   refine (unhide C1).mono ?_; rintro e w1 ⟨u1, rfl, m1⟩
   have hsl := Sl.of_own m1.1
   have CT := hide (qq.inTurn _ c w1 (by omega) hsl)
   have CV := hide (qm.valuesOf _ c w1 (by omega) hsl)
   obtain ⟨a, cap, rfl, ha⟩ := hsl
   have G1 := hide m1.2
   clear m1 C1 ha
   cases hv : qq.varB c
   ·rw [hv] at CT EB
    have M2 := hide (res.made_trans (app.made_nil w1) (unhide G1))
    clear hv CV
    go_wp2_with fail
    refine (unhide CT).mono ?_; rintro e w' ⟨rfl, hw⟩; have hw' := hw.symm; clear hw; subst hw'
    go_wp2_with fail
    go_ret2
    exact ⟨_, by rw [unhide EB]; rfl, by rw [unhide EN (unhide EB)]; exact unhide M2⟩
   ·rw [hv] at CT EB
    clear hv
    go_wp2_with fail
    refine (unhide CT).mono ?_; rintro e w' ⟨rfl, hw⟩; have hw' := hw.symm; clear hw; subst hw'
    go_wp2_with fail
    refine (unhide CV).mono ?_; rintro e w2 ⟨u2, rfl, m2⟩
    have M2 := hide (res.made_trans m2 (unhide G1))
    clear m2 CV CT
    go_wp2_with fail
    go_ret2
    exact ⟨_, by rw [unhide EB]; rfl, by rw [unhide EL (unhide EB)]; exact unhide M2⟩
  ·rw [decide_eq_false hn, Bool.false_and] at eB
   have EB := hide eB
   have EN := hide eN
   have hbe : ((c.length : Int) != n) = true := by simpa using hn
   clear eB eL eN gi hn
   go_enter Tryz.func149, Tryz.ntmps149
   go_wp2_with fail
   refine (unhide C1).mono ?_; rintro e w1 ⟨u1, rfl, m1⟩
   obtain ⟨a, cap, rfl, _⟩ := Sl.of_own m1.1
   have M1 := hide (res.made_trans (app.made_nil w1) m1.2)
   clear m1 C1
   go_wp2_with fail
   go_ret2
   exact ⟨_, by rw [unhide EB]; rfl, by rw [unhide EN (unhide EB)]; exact unhide M1⟩
end Go.Proofs.YtcgiphcfjhbonaaGreatDoor.ra
namespace Go.Proofs.YtcgiphcfjhbonaaGreatDoor.ln
open rd (bytes_len)
open cx (hd)
set_option linter.unusedVariables false
def lscan (st : List (List UInt8) × List UInt8) (l : List UInt8) : List (List UInt8) × List UInt8 :=
 l.foldl (fun st c => if c = 10 then (st.1 ++ [st.2], []) else (st.1, st.2 ++ [c])) st
def linesOf (l : List UInt8) : List (List UInt8) := (lscan ([], []) l).1
structure Ans where
 n : Int
 cs : List (List Int)
 code : Int
 line : Int
end Go.Proofs.YtcgiphcfjhbonaaGreatDoor.ln
namespace Go.Proofs.YtcgiphcfjhbonaaGreatDoor.rq
open Go.ChangeShapes Go.WideShapes Go.ChangeAt Go.RowKit
open sl (ints hide unhide grown_refl grown_trans of_below below_of)
open css (OwnS)
open cls (okAll)
open txt (text)
open cx (lines)
open ln (linesOf cutL)
open rd (Env readB readL read read_sound read_full read_len)
open ck (Cl)
set_option linter.unusedVariables false
theorem itoa_nl (x : Int) : (10 : UInt8) ∉ Lib.itoa x := by
 unfold Lib.itoa
 split
 ·intro h
  rcases List.mem_cons.1 h with h | h
  ·cases h
  ·have := rd.dec_mem _ _ h
   simp at this
 ·intro h
  have := rd.dec_mem _ _ h
  simp at this
theorem text_nl (L : List Int) : (10 : UInt8) ∉ text L := by
 cases h : okAll L with
 | false => rw [txt.text_no h]; simp
 | true =>
  unfold txt.text
  rw [h]
  show (10 : UInt8) ∉ txt.body L ++ [48]
  rw [List.mem_append, not_or]
  refine ⟨?_, by decide⟩
  induction L with
  | nil => simp [txt.body]
  | cons x l ih =>
   rw [rd.body_cons]
   rw [List.mem_append, List.mem_cons, not_or, not_or]
   refine ⟨itoa_nl x, by decide, ih ?_⟩
   unfold cls.okAll at h ⊢
   simp only [Bool.and_eq_true, decide_eq_true_iff, List.all_cons, List.length_cons] at h ⊢
   exact ⟨h.1.2, by omega⟩
theorem lines_cons' (c : List Int) (M : List (List Int)) : lines (c :: M) = text c ++ 10 :: lines M := by
 unfold cx.lines
 simp
theorem nl_inj {a b r t : List UInt8} (ha : (10 : UInt8) ∉ a) (hb : (10 : UInt8) ∉ b) (h : a ++ 10 :: r = b ++ 10 :: t) : a = b ∧ r = t := by
 induction a generalizing b with
 | nil =>
  cases b with
  | nil => simp at h; exact ⟨rfl, h⟩
  | cons y b =>
   simp at h
   rw [List.mem_cons, not_or] at hb
   exact absurd h.1 hb.1
 | cons x a ih =>
  rw [List.mem_cons, not_or] at ha
  cases b with
  | nil =>
   simp at h
   exact absurd h.1.symm ha.1
  | cons y b =>
   rw [List.mem_cons, not_or] at hb
   simp at h
   have := ih ha.2 hb.2 h.2
   exact ⟨by rw [h.1, this.1], this.2⟩
theorem text_inj {c d : List Int} (hc : okAll c = true) (hd : okAll d = true) (h : text c = text d) : c = d := by
 have h1 := read_full hc
 rw [h, read_full hd] at h1
 exact (Option.some.inj h1).symm
theorem lines_pre : ∀ {LL M : List (List Int)} {t : List UInt8}, LL.all okAll = true → M.all okAll = true → lines M = lines LL ++ t → ∃ M', M = LL ++ M' ∧ lines M' = t := by
 intro LL
 induction LL with
 | nil => intro M t _ _ h; exact ⟨M, rfl, h⟩
 | cons c LL ih =>
  intro M t hL hM h
  rw [List.all_cons, Bool.and_eq_true] at hL
  rw [lines_cons', List.append_assoc, List.cons_append] at h
  cases M with
  | nil =>
   have : lines [] = [] := rfl
   rw [this] at h
   simp at h
  | cons d M =>
   rw [List.all_cons, Bool.and_eq_true] at hM
   rw [lines_cons'] at h
   obtain ⟨h1, h2⟩ := nl_inj (text_nl d) (text_nl c) h
   obtain ⟨M', rfl, h3⟩ := ih hL.2 hM.2 h2
   rw [text_inj hM.1 hL.1 h1]
   exact ⟨M', rfl, h3⟩
def RP (s : List UInt8) (O : Option (List (List Int))) : Prop :=
 (∃ LL, O = some LL ∧ LL.all okAll = true ∧ LL.length ≤ 700 ∧ lines LL = s) ∨ (O = none ∧ ∀ M : List (List Int), M.all okAll = true → M.length ≤ 700 → lines M ≠ s)
theorem RP.one {s : List UInt8} {O P : Option (List (List Int))} (h : RP s O) (k : RP s P) : O = P := by
 rcases h with ⟨A, rfl, a1, a2, a3⟩ | ⟨rfl, a⟩ <;> rcases k with ⟨B, rfl, b1, b2, b3⟩ | ⟨rfl, b⟩
 ·obtain ⟨M, e, hM⟩ := lines_pre (t := []) a1 b1 (by rw [b3, a3, List.append_nil])
  cases M with
  | nil => rw [e, List.append_nil]
  | cons c M => rw [lines_cons'] at hM; simp at hM
 ·exact absurd a3 (b A a1 a2)
 ·exact absurd b3 (a B b1 b2)
 ·rfl
theorem cut_yes {a r : List UInt8} (ha : (10 : UInt8) ∉ a) : cutL (a ++ 10 :: r) = (a, r, true) := by
 rcases ln.cut_spec (a ++ 10 :: r) with ⟨a', r', e, ha', hi⟩ | ⟨h, _⟩
 ·obtain ⟨e1, e2⟩ := nl_inj ha ha' e
  subst e1 e2
  unfold ln.cutL Lib.cut
  rw [hi, if_pos (by omega)]
  simp
 ·exact absurd (by simp) h
theorem cut_len {t wd rs : List UInt8} {fd : Bool} (hc : cutL t = (wd, rs, fd)) : wd.length ≤ t.length := by
 rcases ln.cut_spec t with ⟨a, r, e, ha, hi⟩ | ⟨hn, hi⟩
 ·rw [e, cut_yes ha] at hc
  cases hc
  rw [e]; simp
 ·unfold ln.cutL Lib.cut at hc
  rw [hi] at hc
  simp at hc
  rw [hc.1]
  exact Nat.le_refl _
structure Lft (s t : List UInt8) (LL : List (List Int)) : Prop where
 eq : s = lines LL ++ t
 ok : LL.all okAll = true
 le : LL.length ≤ 700
theorem Lft.none_ {s t : List UInt8} {LL : List (List Int)} {wd rs : List UInt8} {fd : Bool} (h : Lft s t LL) (h0 : t ≠ []) (hc : cutL t = (wd, rs, fd)) (hf : fd = false ∨ readB wd = false ∨ LL.length = 700) : RP s none := by
 refine .inr ⟨rfl, fun M m1 m2 m3 => ?_⟩
 obtain ⟨M', rfl, hM⟩ := lines_pre h.ok m1 (m3.trans h.eq)
 cases M' with
 | nil => exact h0 hM.symm
 | cons c M' =>
  rw [List.all_append, Bool.and_eq_true, List.all_cons, Bool.and_eq_true] at m1
  rw [lines_cons'] at hM
  rw [← hM, cut_yes (text_nl c)] at hc
  cases hc
  rcases hf with q | q | q
  ·cases q
  ·unfold rd.readB at q
   rw [read_full m1.2.1] at q
   cases q
  ·rw [List.length_append, List.length_cons] at m2
   omega
theorem Lft.more {s t : List UInt8} {LL : List (List Int)} {wd rs : List UInt8} (h : Lft s t LL) (hc : cutL t = (wd, rs, true)) (hr : readB wd = true) (hl : LL.length ≠ 700) : Lft s rs (LL ++ [readL wd]) ∧ rs.length < t.length ∧ wd.length ≤ t.length := by
 obtain ⟨L, hL⟩ := Option.isSome_iff_exists.1 (show (read wd).isSome = true from hr)
 have hs := read_sound hL
 have eL : readL wd = L := by unfold rd.readL; rw [hL]; rfl
 have et : t = wd ++ 10 :: rs := by
  rcases ln.cut_spec t with ⟨a, r, e, ha, hi⟩ | ⟨hn, hi⟩
  ·rw [e, cut_yes ha] at hc
   cases hc
   exact e
  ·unfold ln.cutL Lib.cut at hc
   rw [hi] at hc
   simp at hc
 refine ⟨⟨?_, ?_, ?_⟩, by rw [et]; simp; omega, by rw [et]; simp⟩
 ·rw [h.eq, et, eL]
  unfold cx.lines
  simp [hs.2]
 ·rw [List.all_append, h.ok, eL, List.all_cons, hs.1]
  rfl
 ·rw [List.length_append, List.length_singleton]
  have := h.le
  omega
theorem Lft.done {s : List UInt8} {LL : List (List Int)} (h : Lft s [] LL) : RP s (some LL) := .inl ⟨LL, rfl, h.ok, h.le, by rw [h.eq, List.append_nil]⟩
theorem flat_len {LL : List (List Int)} (h : LL.all okAll = true) : LL.flatten.length ≤ 48 * LL.length := by
 induction LL with
 | nil => exact Nat.zero_le _
 | cons c LL ih =>
  rw [List.all_cons, Bool.and_eq_true] at h
  have := ih h.2
  have hc : c.length ≤ 48 := by
   have := h.1
   unfold cls.okAll at this
   simp only [Bool.and_eq_true, decide_eq_true_iff] at this
   exact this.2
  rw [List.flatten_cons, List.length_append, List.length_cons]
  omega
theorem cutN (t : ByteArray) (w : World) (hE : Env w) (ht : t.size ≤ 1048576) (wd rs : List UInt8) (fd : Bool) (hc : cutL (rd.bytes t) = (wd, rs, fd)) :
  Calls Tryz.prog 43 #[.string t, .string ⟨#[10]⟩] w fun e w' => e = .returned (.tuple #[.string ⟨wd.toArray⟩, .string ⟨rs.toArray⟩, .bool fd]) ∧ w.grownBy w' none := by
 obtain ⟨m, hm⟩ := hE.most
 refine (Tryz.strings_Cut t ⟨#[10]⟩ m w (by omega) hm).mono ?_
 rintro e w' ⟨rfl, n, rfl⟩
 have e1 : Lib.cut t.data.toList (⟨#[10]⟩ : ByteArray).data.toList = (wd, rs, fd) := hc
 rw [e1]
 exact ⟨rfl, sl.grown_drewN w n⟩
def ListE (w : World) (O : Option (List (List Int))) (e : Ending) (w' : World) : Prop := ∃ r, e = .returned (.tuple #[r, .bool O.isSome]) ∧ OwnS w.heap.size w'.heap.size w' r (O.getD []) ∧ w.grownBy w' none
set_option maxRecDepth 100000 in
set_option maxHeartbeats 8000000 in
theorem implReadProof (s : ByteArray) (w : World) (hE : Env w) (hs : s.size ≤ 1048576) :
  Calls Tryz.prog 12 #[.string s] w fun e w' => ∃ O, RP (rd.bytes s) O ∧ ListE w O e w' := by
 have HE := hide hE
 have START := hide (Cl.start w)
 have L0 : Hid (Lft (rd.bytes s) (rd.bytes s) []) := ⟨rfl, rfl, Nat.zero_le _⟩
 clear hE
 go_enter Tryz.func12, Tryz.ntmps12
 go_wp2_with fail
 go_loopw [0] (fun sv wr => ∃ (t : ByteArray) (LL : List (List Int)) (va ve : Value), sv = .string t ∧ t.size ≤ 1048576 ∧ Hid (Lft (rd.bytes s) (rd.bytes t) LL) ∧ Hid (Cl 75 [] 0 w wr w.heap.size va ve LL)) (fun sv _ => rd.strLen sv)
 case atStart => exact ⟨s, [], _, _, rfl, hs, L0, START⟩
 case round =>
  obtain ⟨t, LL, va, ve, rfl, ht, hl, hc⟩ := hrel
  clear START L0
  have lf := unhide hl
  have hb0 : (t.toList == []) = decide (rd.bytes t = []) := by rw [Bool.eq_iff_iff, beq_iff_eq, decide_eq_true_iff, rd.toList_bytes]
  have hLle := lf.le
  have hfl := flat_len lf.ok
  by_cases h0 : rd.bytes t = []
  ·rw [decide_eq_true h0] at hb0
   rw [h0] at lf
   have R := hide lf.done
   have CL := hide (ck.lists w.heap.size wr (by omega) (by omega) (unhide hc))
   have G := hide (unhide hc).g
   clear lf h0 hl hc
   go_wp2_with fail
   refine (unhide CL).mono ?_; rintro e w2 ⟨r, rfl, o2, g2⟩
   have O2 := hide (sub_own (unhide G) o2 g2)
   clear o2 g2
   go_wp2_with fail
   go_ret2
   exact ⟨some LL, unhide R, r, rfl, unhide O2⟩
  ·rw [decide_eq_false h0] at hb0
   obtain ⟨wd, rs, fd, hcut⟩ : ∃ wd rs fd, cutL (rd.bytes t) = (wd, rs, fd) := ⟨_, _, _, rfl⟩
   have CU := hide (cutN t wr ((unhide HE).kept (unhide hc).g) ht wd rs fd hcut)
   have NO := hide (fun hf => lf.none_ h0 hcut hf)
   have wdl : wd.length ≤ 1048576 := by
    have := cut_len hcut
    rw [rd.bytes_len] at this
    omega
   have MO : Hid (fd = true → readB wd = true → LL.length ≠ 700 → Lft (rd.bytes s) rs (LL ++ [readL wd]) ∧ rs.length < (rd.bytes t).length) := fun e h1 h2 => by
    have := lf.more (e ▸ hcut) h1 h2
    exact ⟨this.1, this.2.1⟩
   have RC := hide (fun (w2 : World) (g2 : wr.grownBy w2 none) => rd.implReadClause ⟨wd.toArray⟩ w2 ((unhide HE).kept (grown_trans (unhide hc).g g2)) (by rw [rd.size_mk]; exact wdl))
   rw [rd.bytes_mk] at RC
   have FU := hide (fun (w2 : World) (g2 : wr.grownBy w2 none) => ck.full w.heap.size w2 (by omega) ((unhide hc).kept g2))
   have hrl := read_len wd
   clear lf h0 hcut
   go_wp2_with fail
   refine (unhide CU).mono ?_; rintro e w2 ⟨rfl, g2⟩
   have G2 := hide g2
   have R2 := hide (unhide RC w2 g2)
   clear g2 CU RC
   go_wp2_with fail
   refine (unhide R2).mono ?_; rintro e w3 ⟨u3, rfl, m3⟩
   have G3 := hide (grown_trans (r := none) (unhide G2) m3.2)
   have U3 := hide m3.1
   have F3 := hide (unhide FU w3 (unhide G3))
   have BAD : Hid (RP (rd.bytes s) none → ∃ O, RP (rd.bytes s) O ∧ ListE w O (.returned (.tuple #[.slice (some ⟨w3.heap.size, 0, none⟩) 0 0, .bool false])) (w3.alloc (.cells #[] 43))) := fun h => ⟨none, h, _, rfl, sub_own (grown_trans (unhide hc).g (unhide G3)) (nilS w3) (World.grownBy_alloc _ _ none)⟩
   have PU := hide (ck.put w.heap.size w3 (by omega) (by omega) ((unhide hc).kept (unhide G3)) m3.1)
   clear m3 R2 FU G2
   generalize hrb : readB wd = rb at *
   cases fd
   ·have R := hide (unhide BAD (unhide NO (.inl rfl)))
    go_wp2_with fail
    go_ret2
    exact unhide R
   ·cases rb
    ·have R := hide (unhide BAD (unhide NO (.inr (.inl rfl))))
     go_wp2_with fail
     go_ret2
     exact unhide R
    ·by_cases h7 : LL.length = 700
     ·rw [decide_eq_true h7] at F3
      have R := hide (unhide BAD (unhide NO (.inr (.inr h7))))
      go_wp2_with fail
      refine (unhide F3).mono ?_; rintro e w4 ⟨rfl, hw⟩; have hw' := hw.symm; clear hw; subst hw'
      go_wp2_with fail
      go_ret2
      exact unhide R
     ·rw [decide_eq_false h7] at F3
      obtain ⟨n1, n2⟩ := unhide MO rfl rfl h7
      have N1 := hide n1
      have N2 := hide n2
      clear n1 n2 BAD NO MO
      go_wp2_with fail
      refine (unhide F3).mono ?_; rintro e w4 ⟨rfl, hw⟩; have hw' := hw.symm; clear hw; subst hw'
      go_wp2_with fail
      refine (unhide PU).mono ?_; rintro e w4 ⟨rfl, va', ve', c4, _⟩
      have C4 := hide c4
      clear c4 PU F3
      go_wp2_with fail
      go_roundw
      case rel => exact ⟨⟨rs.toArray⟩, _, va', ve', rfl, by rw [rd.size_mk]; have := unhide N2; rw [rd.bytes_len] at this; omega, unhide N1, unhide C4⟩
      case measure =>
       have := unhide N2
       rw [rd.bytes_len] at this
       show (⟨rs.toArray⟩ : ByteArray).size < t.size
       rw [rd.size_mk]
       exact this
end Go.Proofs.YtcgiphcfjhbonaaGreatDoor.rq
namespace Go.Proofs.YtcgiphcfjhbonaaGreatDoor.rq
open Go.ChangeShapes Go.WideShapes Go.ChangeAt Go.RowKit
open sl (ints hide unhide grown_refl grown_trans of_below below_of Own)
open css (OwnS)
open cls (okAll)
open txt (text)
open cx (lines)
open ln (linesOf)
open rd (Env readB readL read read_sound read_full read_len)
set_option linter.unusedVariables false
structure Sf (s : List UInt8) (k : Nat) (M : List (List Int)) : Prop where
 eq : M.map text = (linesOf s).take k
 ok : M.all okAll = true
theorem tot_ok {M : List (List Int)} (h : M.all okAll = true) : css.tot M ≤ 49 * M.length := by
 have := flat_len h
 unfold css.tot
 rw [List.length_flatten] at this
 omega
end Go.Proofs.YtcgiphcfjhbonaaGreatDoor.rq
