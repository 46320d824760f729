/- Assignments read from texts: what ReadAssign (of the program and of its model) answers at every text of at most 2^20 bytes and every number, where the library's tables and errors lie as their text lays them. -/
import Derived.Test.YtloenjaonkdlaaaDoorAs
import Derived.Test.YtloenjaonkdlaaaDoorReadW
import Derived.Test.YtloenjaonkdlaaaDoorRes
import Derived.Test.YtloenjaonkdlaaaDoorReadS
import Derived.Test.YtloenjaonkdlaaaDoorQq
import Derived.Test.YtloenjaonkdlaaaDoorQv
import Derived.Deep.AppendLies
namespace Go.Proofs.YtloenjaonkdlaaaDoor.ra
open Go.ChangeShapes Go.WideShapes Go.ChangeAt Go.RowKit
open Go.Proofs.YtloenjaonkdlaaaDoor.sl (Sl Own ints hide unhide ret_int ret_bool grown_refl grown_trans grown_drewN below_of of_below)
open Go.Proofs.YtloenjaonkdlaaaDoor.dec (str)
open Go.Proofs.YtloenjaonkdlaaaDoor.tr (bitB)
open Go.Proofs.YtloenjaonkdlaaaDoor.wo (Made)
open Go.Proofs.YtloenjaonkdlaaaDoor.lits (okB varI okB_iff)
open Go.Proofs.YtloenjaonkdlaaaDoor.cls (okAll)
open Go.Proofs.YtloenjaonkdlaaaDoor.txt (Pow text body)
open Go.Proofs.YtloenjaonkdlaaaDoor.rd (Env readL readB read)
open Go.Proofs.YtloenjaonkdlaaaDoor.as_ (tl litAt asText)
set_option linter.unusedVariables false

def bit (x : Int) : Int := if 0 < x then 1 else 0
def bitsOf (c : List Int) : List Int := c.map bit
/-- whether a clause is all literals of an assignment, in order -/
def goodA (c : List Int) : Bool := decide (tl 0 (bitsOf c) = c)
theorem tl_iff (c : List Int) : ∀ k, tl k (bitsOf c) = c ↔ ∀ i (h : i < c.length), litAt (k + i) (bit c[i]) = c[i] := by
  induction c with
  | nil => intro k; simp [bitsOf, as_.tl]
  | cons x l ih =>
    intro k
    have e : tl k (bitsOf (x :: l)) = litAt k (bit x) :: tl (k + 1) (bitsOf l) := rfl
    rw [e, List.cons.injEq, ih]
    constructor
    · rintro ⟨h0, h⟩ i hi
      cases i with
      | zero => exact h0
      | succ i =>
        have := h i (by simpa using hi)
        rw [show k + 1 + i = k + (i + 1) by omega] at this
        exact this
    · intro h
      refine ⟨h 0 (by simp), fun i hi => ?_⟩
      have := h (i + 1) (by simpa using hi)
      rw [show k + (i + 1) = k + 1 + i by omega] at this
      exact this
theorem lit_iff {x : Int} (h : okB x = true) (i : Nat) : litAt i (bit x) = x ↔ varI x = (i : Int) + 1 := by
  have a := okB_iff.1 h
  rw [lits.varI_yes a]
  unfold as_.litAt bit
  by_cases hx : 0 < x
  · rw [if_pos hx, if_pos rfl, if_neg (by omega)]
    omega
  · rw [if_neg hx, if_neg (by decide), if_pos (by omega)]
    omega
theorem good_iff {c : List Int} (h : c.all okB = true) : goodA c = true ↔ ∀ i, i < c.length → varI (c.getD i 0) = (i : Int) + 1 := by
  unfold goodA
  rw [decide_eq_true_iff, tl_iff]
  rw [List.all_eq_true] at h
  constructor
  · intro g i hi
    have := g i hi
    rw [Nat.zero_add] at this
    rw [show c.getD i 0 = c[i] by simp [hi]]
    exact (lit_iff (h _ (List.getElem_mem hi)) i).1 this
  · intro g i hi
    have := g i hi
    rw [show c.getD i 0 = c[i] by simp [hi]] at this
    rw [Nat.zero_add]
    exact (lit_iff (h _ (List.getElem_mem hi)) i).2 this
theorem good_len {c : List Int} (h : c.all okB = true) (g : goodA c = true) : c.length ≤ 24 := by
  have g' := (good_iff h).1 g
  by_cases hl : c.length ≤ 24
  · exact hl
  · have := g' 24 (by omega)
    have b := tr.varI_bd (c.getD 24 0)
    omega
theorem bits_all (c : List Int) : (bitsOf c).all bitB = true := by
  rw [List.all_eq_true]
  intro x hx
  obtain ⟨y, _, rfl⟩ := List.mem_map.1 hx
  unfold tr.bitB bit
  split <;> decide
theorem bits_len (c : List Int) : (bitsOf c).length = c.length := List.length_map ..
theorem tl_ok (A : List Int) : ∀ k, k + A.length ≤ 24 → (tl k A).all okB = true := by
  induction A with
  | nil => intro k _; rfl
  | cons x l ih =>
    intro k h
    rw [List.length_cons] at h
    rw [as_.tl, List.all_cons, ih (k + 1) (by omega), Bool.and_true]
    refine okB_iff.2 ?_
    unfold as_.litAt
    split <;> omega
theorem tl_okAll {A : List Int} (h : A.length ≤ 24) : okAll (tl 0 A) = true := by
  unfold cls.okAll
  rw [tl_ok A 0 (by omega), as_.tl_len, decide_eq_true (by omega)]
  rfl
/-- the text comes back just where the clause is all literals of an assignment -/
theorem text_iff {s : List UInt8} {c : List Int} (h : read s = some c) : asText (bitsOf c) = s ↔ goodA c = true := by
  obtain ⟨ho, ht⟩ := rd.read_sound h
  have hall : c.all okB = true := by
    unfold cls.okAll at ho
    rw [Bool.and_eq_true] at ho
    exact ho.1
  constructor
  · intro e
    by_cases hl : c.length ≤ 24
    · rw [as_.asText_yes (by rw [bits_len]; exact hl) (bits_all c)] at e
      have := rd.read_full (tl_okAll (A := bitsOf c) (by rw [bits_len]; exact hl))
      rw [e, h] at this
      unfold goodA
      exact decide_eq_true (Option.some.inj this).symm
    · rw [as_.asText_no (by rw [decide_eq_false (by rw [bits_len]; exact hl)]; rfl)] at e
      rw [← ht, txt.text_yes ho] at e
      simp at e
  · intro g
    have hl := good_len hall g
    rw [as_.asText_yes (by rw [bits_len]; exact hl) (bits_all c)]
    unfold goodA at g
    rw [of_decide_eq_true g, ht]
def raB (s : List UInt8) (n : Int) : Bool := readB s && decide (((readL s).length : Int) = n) && goodA (readL s)
def raL (s : List UInt8) (n : Int) : List Int := if raB s n then bitsOf (readL s) else []
theorem ra_no {s : List UInt8} {n : Int} (h : raB s n = false) : raL s n = [] := by unfold raL; rw [h]; rfl
theorem ra_yes {s : List UInt8} {n : Int} (h : raB s n = true) : raL s n = bitsOf (readL s) := by unfold raL; rw [h]; rfl
theorem read_some {s : List UInt8} (h : readB s = true) : read s = some (readL s) := by
  unfold rd.readB at h
  unfold rd.readL
  cases e : read s with
  | none => rw [e] at h; cases h
  | some c => rfl
theorem readL_ok {s : List UInt8} (h : readB s = true) : (readL s).all okB = true := by
  have := (rd.read_sound (read_some h)).1
  unfold cls.okAll at this
  rw [Bool.and_eq_true] at this
  exact this.1
theorem ra_len (s : List UInt8) (n : Int) : (raL s n).length ≤ 48 := by
  unfold raL
  split
  · rw [bits_len]
    exact rd.read_len s
  · exact Nat.zero_le _
theorem bits_step (c : List Int) (k : Nat) (h : k < c.length) : bitsOf (c.take (k + 1)) = bitsOf (c.take k) ++ [bit (c.getD k 0)] := by
  rw [List.take_succ_eq_append_getElem h]
  unfold bitsOf
  rw [List.map_append, show c.getD k 0 = c[k] by simp [h]]
  rfl

set_option maxRecDepth 100000 in
set_option maxHeartbeats 1600000 in
theorem implReadAssign (s : ByteArray) (n : Int) (w : World) (hE : Env w) (hs : s.size ≤ 1048576) :
    Calls Tryd.prog 20 #[.string s, .int .i64 n] w fun e w' => ∃ u, e = .returned (.tuple #[u, .bool (raB (rd.bytes s) n)]) ∧ Made w w' u (raL (rd.bytes s) n) := by
  have CR := rd.implReadClause s w hE hs
  have hl48 := rd.read_len (rd.bytes s)
  cases hb : readB (rd.bytes s)
  · rw [hb] at CR
    have C1 := hide CR
    have E := hide (show raB (rd.bytes s) n = false by unfold raB; rw [hb]; rfl)
    clear CR hb
    go_enter Tryd.func20, Tryd.ntmps20
    go_wp2_with fail
    refine (unhide C1).mono ?_; rintro e w1 ⟨u1, rfl, m1⟩
    obtain ⟨a, cap, rfl, _⟩ := Sl.of_own m1.1
    have M1 := hide (res.made_trans (app.made_nil w1) m1.2)
    clear m1 C1
    go_wp2_with fail
    go_ret2
    exact ⟨_, by rw [unhide E]; rfl, by rw [ra_no (unhide E)]; exact unhide M1⟩
  · rw [hb] at CR
    have hok := readL_ok hb
    have gi := good_iff hok
    have eB : raB (rd.bytes s) n = (decide (((readL (rd.bytes s)).length : Int) = n) && goodA (readL (rd.bytes s))) := by unfold raB; rw [hb]; rfl
    have eL := fun h => ra_yes (s := rd.bytes s) (n := n) h
    have eN := fun h => ra_no (s := rd.bytes s) (n := n) h
    generalize readL (rd.bytes s) = c at *
    generalize raB (rd.bytes s) n = B at *
    generalize raL (rd.bytes s) n = R at *
    have C1 := hide CR
    clear CR hb
    by_cases hn : (c.length : Int) = n
    · subst hn
      rw [decide_eq_true rfl, Bool.true_and] at eB
      have gv : goodA c = qq.varB c := by
        rw [Bool.eq_iff_iff, gi]
        exact decide_eq_true_iff.symm
      rw [gv] at eB
      have EB := hide eB
      have EL := hide eL
      have EN := hide eN
      clear eB eL eN gi gv
      have hbe : ((c.length : Int) != (c.length : Int)) = false := by simp
      go_enter Tryd.func20, Tryd.ntmps20
      go_wp2_with fail
      refine (unhide C1).mono ?_; rintro e w1 ⟨u1, rfl, m1⟩
      have hsl := Sl.of_own m1.1
      have CT := hide (qq.inTurn _ c w1 (by omega) hsl)
      have CV := hide (qm.valuesOf _ c w1 (by omega) hsl)
      obtain ⟨a, cap, rfl, ha⟩ := hsl
      have G1 := hide m1.2
      clear m1 C1 ha
      cases hv : qq.varB c
      · rw [hv] at CT EB
        have M2 := hide (res.made_trans (app.made_nil w1) (unhide G1))
        clear hv CV
        go_wp2_with fail
        refine (unhide CT).mono ?_; rintro e w' ⟨rfl, hw⟩; have hw' := hw.symm; clear hw; subst hw'
        go_wp2_with fail
        go_ret2
        exact ⟨_, by rw [unhide EB]; rfl, by rw [unhide EN (unhide EB)]; exact unhide M2⟩
      · rw [hv] at CT EB
        clear hv
        go_wp2_with fail
        refine (unhide CT).mono ?_; rintro e w' ⟨rfl, hw⟩; have hw' := hw.symm; clear hw; subst hw'
        go_wp2_with fail
        refine (unhide CV).mono ?_; rintro e w2 ⟨u2, rfl, m2⟩
        have M2 := hide (res.made_trans m2 (unhide G1))
        clear m2 CV CT
        go_wp2_with fail
        go_ret2
        exact ⟨_, by rw [unhide EB]; rfl, by rw [unhide EL (unhide EB)]; exact unhide M2⟩
    · rw [decide_eq_false hn, Bool.false_and] at eB
      have EB := hide eB
      have EN := hide eN
      have hbe : ((c.length : Int) != n) = true := by simpa using hn
      clear eB eL eN gi hn
      go_enter Tryd.func20, Tryd.ntmps20
      go_wp2_with fail
      refine (unhide C1).mono ?_; rintro e w1 ⟨u1, rfl, m1⟩
      obtain ⟨a, cap, rfl, _⟩ := Sl.of_own m1.1
      have M1 := hide (res.made_trans (app.made_nil w1) m1.2)
      clear m1 C1
      go_wp2_with fail
      go_ret2
      exact ⟨_, by rw [unhide EB]; rfl, by rw [unhide EN (unhide EB)]; exact unhide M1⟩
/-- 'out = append(out, y)' beside another slice of the call's own, which lies elsewhere -/
theorem appendN {ops : Array Oper} {rest : List Oper} {o : Oper} {a : Act} {Q : Exit → Act → World → Prop} {w wr : World} {v vc : Value} {M c : List Int} {y : Int} {lo hi : Nat}
    (hm : Made w wr v M) (oc : Own lo hi wr vc c) (far : ∀ q, v.ownBlock = some q → q < lo ∨ hi ≤ q) (hhi : hi ≤ wr.heap.size) (hM : M.length ≤ 4194304) (hgd : o.guard = none) (s x : Operand)
    (ho : o.op = .call { callee := .builtin .append, args := #[s, x], argTypes := #[24, 24] }) (hs : a.eval s = v) (hx : a.eval x = .slice (some ⟨wr.heap.size, 0, none⟩) 1 1)
    (h : ∀ v' w1, Made w w1 v' (M ++ [y]) → Own lo hi w1 vc c → (∀ q, v'.ownBlock = some q → q < lo ∨ hi ≤ q) → hi ≤ w1.heap.size → wpList Tryd.prog ops Q rest (a.put o.dst v') w1) :
    wpList Tryd.prog ops Q (o :: rest) a (wr.alloc (.cells #[.int .i64 y] 3)) := by
  obtain ⟨i0, hi0, hz0, hz1, hz2⟩ := info_parts sl.info3
  have hown := hm.1
  have hg := hm.2
  have hsz := hg.size
  refine wpList_append_lies _ hgd s x 24 ho w.heap.size 3 i0 (.int .i64 0) 1 8 Tryd.underlying24 hi0 hz0 hz1 hz2 rfl (by decide) v M.length (ints M) hs (hown.alloc _) ⟨wr.heap.size, 0, none⟩ 1 1 [.int .i64 y] hx rfl ?_ ?_ (by decide) ?_ ?_ ?_ (wr.heap.size + 1) (World.size_alloc ..) ?_
  · intro j u hj
    match j, hj with
    | 0, hj => simp at hj; subst hj; simp [Addr.add]
  · intro u hu
    simp at hu
    subst hu
    rfl
  · unfold maxLen
    omega
  · omega
  · simp
    omega
  · intro g cap w1 hown' hgrow hor hgl
    have s1 := hgrow.size
    rw [World.size_alloc] at s1
    refine h _ w1 ⟨?_, app.grown_app hg hown hgrow⟩ ⟨?_, oc.2⟩ ?_ (by omega)
    · rw [List.length_append]
      have e : ints (M ++ [y]) = ints M ++ [.int .i64 y] := by simp [sl.ints]
      rw [e]
      exact hown'
    · refine ((oc.1.alloc _).kept hgrow ?_)
      cases e : vc.ownBlock with
      | none => exact .inl rfl
      | some q =>
        refine .inr (fun e' => ?_)
        have h1 := far q e'.symm
        have h2 := (oc.1.lt q e).1
        have h3 := oc.2 q e
        omega
    · intro q hq
      cases hq
      show g < lo ∨ hi ≤ g
      rcases hor with h1 | h1
      · exact far _ h1
      · exact .inr (by omega)

set_option maxRecDepth 100000 in
set_option maxHeartbeats 1600000 in
theorem specReadAssign (s : ByteArray) (n : Int) (w : World) (hs : s.size ≤ 1048576) :
    Calls Tryd.prog 48 #[.string s, .int .i64 n] w fun e w' => ∃ u, e = .returned (.tuple #[u, .bool (raB (rd.bytes s) n)]) ∧ Made w w' u (raL (rd.bytes s) n) := by
  have CR := rd.specReadClause s (w.alloc (.cells #[] 3)) hs
  have hl48 := rd.read_len (rd.bytes s)
  have MN := hide (app.made_nil w)
  cases hb : readB (rd.bytes s)
  · rw [hb] at CR
    have C1 := hide CR
    have E := hide (show raB (rd.bytes s) n = false by unfold raB; rw [hb]; rfl)
    clear CR hb
    go_enter Tryd.func48, Tryd.ntmps48
    go_wp2_with fail
    refine (unhide C1).mono ?_; rintro e w1 ⟨u1, rfl, m1⟩
    obtain ⟨a, cap, rfl, _⟩ := Sl.of_own m1.1
    have M1 : Hid (Made w w1 _ []) := ⟨(sl.Own.kept (sl.Own.of (unhide MN).1) m1.2).1, grown_trans (unhide MN).2 m1.2⟩
    clear m1 C1 MN
    go_wp2_with fail
    go_ret2
    exact ⟨_, by rw [unhide E]; rfl, by rw [ra_no (unhide E)]; exact unhide M1⟩
  · rw [hb] at CR
    have ti := text_iff (read_some hb)
    have eB : raB (rd.bytes s) n = (decide (((readL (rd.bytes s)).length : Int) = n) && goodA (readL (rd.bytes s))) := by unfold raB; rw [hb]; rfl
    have eL := fun h => ra_yes (s := rd.bytes s) (n := n) h
    have eN := fun h => ra_no (s := rd.bytes s) (n := n) h
    generalize readL (rd.bytes s) = c at *
    generalize raB (rd.bytes s) n = B at *
    generalize raL (rd.bytes s) n = R at *
    have C1 := hide CR
    clear CR hb
    by_cases hn : (c.length : Int) = n
    · subst hn
      rw [decide_eq_true rfl, Bool.true_and] at eB
      have EB := hide eB
      have EL := hide eL
      have EN := hide eN
      have TI := hide ti
      clear eB eL eN ti
      go_enter Tryd.func48, Tryd.ntmps48
      go_wp2_with fail
      refine (unhide C1).mono ?_; rintro e w1 ⟨u1, rfl, m1⟩
      have hsl := Sl.of_own m1.1
      have st : Hid (Made w w1 _ []) := ⟨(sl.Own.kept (sl.Own.of (unhide MN).1) m1.2).1, grown_trans (unhide MN).2 m1.2⟩
      have OC := hide (sl.Own.of m1.1)
      obtain ⟨a, cap, rfl, ha⟩ := hsl
      clear m1 C1 ha MN
      have hbe : ((c.length : Int) != (c.length : Int)) = false := by simp
      go_wp2_with fail
      go_loopw [6, 9] (fun u i wr => ∃ k : Nat, k ≤ c.length ∧ i = .int .i64 k ∧ Hid (Made w wr u (bitsOf (c.take k))) ∧ Hid (Own (w.heap.size + 1) w1.heap.size wr (.slice a c.length cap) c ∧ (∀ q, u.ownBlock = some q → q < w.heap.size + 1 ∨ w1.heap.size ≤ q) ∧ w1.heap.size ≤ wr.heap.size)) (fun _ i _ => c.length - (intOf i).toNat)
      case atStart => exact ⟨0, Nat.zero_le _, rfl, st, by have := unhide OC; rw [World.size_alloc] at this; exact this, (fun q e => by cases e; exact .inl (Nat.lt_succ_self _)), Nat.le_refl _⟩
      case round =>
        obtain ⟨k, hk, rfl, hm, ho⟩ := hrel
        clear st OC
        by_cases hlt : k < c.length
        · obtain ⟨a', cap', ea, ha⟩ := (unhide ho).1.sl
          simp only [Value.slice.injEq, true_and] at ea
          obtain ⟨rfl, rfl⟩ := ea
          rcases ha with h | ⟨b, off, rfl, hb, hcb⟩
          · rw [h] at hlt
            simp at hlt
          · have c1 := hcb k hlt
            have hi' : (k : Int) < (c.length : Int) := by omega
            have hs' := bits_step c k hlt
            have hM : (bitsOf (c.take k)).length ≤ 4194304 := by rw [bits_len, List.length_take]; omega
            generalize c.getD k 0 = x at *
            generalize bitsOf (c.take k) = M at *
            clear hcb hb
            by_cases hx : 0 < x
            · have HS := hide (show bitsOf (c.take (k + 1)) = M ++ [1] by rw [hs']; unfold bit; rw [if_pos hx])
              clear hs'
              go_wp2_with (at_builtin; refine appendN (unhide hm) (unhide ho).1 (unhide ho).2.1 (unhide ho).2.2 hM rfl _ _ rfl rfl rfl ?_)
              intro v' w3 R1 R2 R3 R4
              have H1 := hide R1
              have H2 := hide (And.intro R2 (And.intro R3 R4))
              clear R1 R2 R3 R4 hm ho
              go_wp2
              go_roundw
              case rel => exact ⟨k + 1, by omega, by go_num, by rw [unhide HS]; exact H1, H2⟩
              case measure => simp [intOf]; omega
            · have HS := hide (show bitsOf (c.take (k + 1)) = M ++ [0] by rw [hs']; unfold bit; rw [if_neg hx])
              clear hs'
              go_wp2_with (at_builtin; refine appendN (unhide hm) (unhide ho).1 (unhide ho).2.1 (unhide ho).2.2 hM rfl _ _ rfl rfl rfl ?_)
              intro v' w3 R1 R2 R3 R4
              have H1 := hide R1
              have H2 := hide (And.intro R2 (And.intro R3 R4))
              clear R1 R2 R3 R4 hm ho
              go_wp2
              go_roundw
              case rel => exact ⟨k + 1, by omega, by go_num, by rw [unhide HS]; exact H1, H2⟩
              case measure => simp [intOf]; omega
        · have hi' : ¬ (k : Int) < (c.length : Int) := by omega
          have e : c.take k = c := List.take_of_length_le (by omega)
          rw [e] at hm
          have CT := hide (as_.specAssignText _ (bitsOf c) wr (by rw [bits_len]; omega) (Sl.of_own (unhide hm).1))
          by_cases ht : asText (bitsOf c) = rd.bytes s
          · have E2 := hide ((unhide EB).trans ((unhide TI).1 ht))
            have hq : (asText (bitsOf c) == s.toList) = true := by rw [rd.toList_bytes, ht]; simp
            clear e ho ht
            generalize asText (bitsOf c) = q at *
            unfold dec.str at CT
            go_wp2_with fail
            refine (unhide CT).mono ?_; rintro e w2 ⟨rfl, g2⟩
            have M2 : Hid (Made w w2 _ (bitsOf c)) := ⟨(sl.Own.kept (sl.Own.of (unhide hm).1) g2).1, grown_trans (unhide hm).2 g2⟩
            clear CT g2 hm
            go_wp2_with fail
            go_ret2
            exact ⟨_, by rw [unhide E2]; rfl, by rw [unhide EL (unhide E2)]; exact unhide M2⟩
          · have E2 := hide ((unhide EB).trans (by
              cases hg : goodA c
              · rfl
              · exact absurd ((unhide TI).2 hg) ht))
            have hq : (asText (bitsOf c) == s.toList) = false := by rw [rd.toList_bytes]; simpa using ht
            clear e ho ht
            generalize asText (bitsOf c) = q at *
            unfold dec.str at CT
            go_wp2_with fail
            refine (unhide CT).mono ?_; rintro e w2 ⟨rfl, g2⟩
            have M2 := hide (res.made_trans (app.made_nil w2) (grown_trans (r := none) (unhide hm).2 g2))
            clear CT g2 hm
            go_wp2_with fail
            go_ret2
            exact ⟨_, by rw [unhide E2]; rfl, by rw [unhide EN (unhide E2)]; exact unhide M2⟩
    · rw [decide_eq_false hn, Bool.false_and] at eB
      have EB := hide eB
      have EN := hide eN
      have hbe : ((c.length : Int) != n) = true := by simpa using hn
      clear eB eL eN ti hn
      go_enter Tryd.func48, Tryd.ntmps48
      go_wp2_with fail
      refine (unhide C1).mono ?_; rintro e w1 ⟨u1, rfl, m1⟩
      obtain ⟨a, cap, rfl, _⟩ := Sl.of_own m1.1
      have M1 : Hid (Made w w1 _ []) := ⟨(sl.Own.kept (sl.Own.of (unhide MN).1) m1.2).1, grown_trans (unhide MN).2 m1.2⟩
      clear m1 C1 MN
      go_wp2_with fail
      go_ret2
      exact ⟨_, by rw [unhide EB]; rfl, by rw [unhide EN (unhide EB)]; exact unhide M1⟩
end Go.Proofs.YtloenjaonkdlaaaDoor.ra
