/- Proofs as texts: what ReadProof of the program answers at every text of at most 2^20 bytes. -/
import Derived.Test.YtgcglpdemolcoaaDoorCz
import Derived.Test.YtgcglpdemolcoaaDoorPt
import Derived.Test.YtgcglpdemolcoaaDoorReadW
import Derived.Test.YtgcglpdemolcoaaDoorLm
namespace Go.Proofs.YtgcglpdemolcoaaDoor.rq
open Go.ChangeShapes Go.WideShapes Go.ChangeAt Go.RowKit
open Go.Proofs.YtgcglpdemolcoaaDoor.sl (ints hide unhide grown_refl grown_trans of_below below_of)
open Go.Proofs.YtgcglpdemolcoaaDoor.css (OwnS)
open Go.Proofs.YtgcglpdemolcoaaDoor.cls (okAll)
open Go.Proofs.YtgcglpdemolcoaaDoor.txt (text)
open Go.Proofs.YtgcglpdemolcoaaDoor.cx (lines)
open Go.Proofs.YtgcglpdemolcoaaDoor.ln (linesOf cutL lines_cons lines_nil)
open Go.Proofs.YtgcglpdemolcoaaDoor.rd (Env readB readL read read_sound read_full read_len)
open Go.Proofs.YtgcglpdemolcoaaDoor.ck (Cl)
set_option linter.unusedVariables false
theorem itoa_nl (x : Int) : (10 : UInt8) ∉ Lib.itoa x := by
  unfold Lib.itoa
  split
  · intro h
    rcases List.mem_cons.1 h with h | h
    · cases h
    · have := rd.dec_mem _ _ h
      simp at this
  · intro h
    have := rd.dec_mem _ _ h
    simp at this
theorem text_nl (L : List Int) : (10 : UInt8) ∉ text L := by
  cases h : okAll L with
  | false => rw [txt.text_no h]; simp
  | true =>
    unfold txt.text
    rw [h]
    show (10 : UInt8) ∉ txt.body L ++ [48]
    rw [List.mem_append, not_or]
    refine ⟨?_, by decide⟩
    induction L with
    | nil => simp [txt.body]
    | cons x l ih =>
      rw [rd.body_cons]
      rw [List.mem_append, List.mem_cons, not_or, not_or]
      refine ⟨itoa_nl x, by decide, ih ?_⟩
      unfold cls.okAll at h ⊢
      simp only [Bool.and_eq_true, decide_eq_true_iff, List.all_cons, List.length_cons] at h ⊢
      exact ⟨h.1.2, by omega⟩
theorem lines_cons' (c : List Int) (M : List (List Int)) : lines (c :: M) = text c ++ 10 :: lines M := by
  unfold cx.lines
  simp
theorem nl_inj {a b r t : List UInt8} (ha : (10 : UInt8) ∉ a) (hb : (10 : UInt8) ∉ b) (h : a ++ 10 :: r = b ++ 10 :: t) : a = b ∧ r = t := by
  induction a generalizing b with
  | nil =>
    cases b with
    | nil => simp at h; exact ⟨rfl, h⟩
    | cons y b =>
      simp at h
      rw [List.mem_cons, not_or] at hb
      exact absurd h.1 hb.1
  | cons x a ih =>
    rw [List.mem_cons, not_or] at ha
    cases b with
    | nil =>
      simp at h
      exact absurd h.1.symm ha.1
    | cons y b =>
      rw [List.mem_cons, not_or] at hb
      simp at h
      have := ih ha.2 hb.2 h.2
      exact ⟨by rw [h.1, this.1], this.2⟩
theorem text_inj {c d : List Int} (hc : okAll c = true) (hd : okAll d = true) (h : text c = text d) : c = d := by
  have h1 := read_full hc
  rw [h, read_full hd] at h1
  exact (Option.some.inj h1).symm
/-- what begins with the lines of a list has that list ahead -/
theorem lines_pre : ∀ {LL M : List (List Int)} {t : List UInt8}, LL.all okAll = true → M.all okAll = true → lines M = lines LL ++ t → ∃ M', M = LL ++ M' ∧ lines M' = t := by
  intro LL
  induction LL with
  | nil => intro M t _ _ h; exact ⟨M, rfl, h⟩
  | cons c LL ih =>
    intro M t hL hM h
    rw [List.all_cons, Bool.and_eq_true] at hL
    rw [lines_cons', List.append_assoc, List.cons_append] at h
    cases M with
    | nil =>
      have : lines [] = [] := rfl
      rw [this] at h
      simp at h
    | cons d M =>
      rw [List.all_cons, Bool.and_eq_true] at hM
      rw [lines_cons'] at h
      obtain ⟨h1, h2⟩ := nl_inj (text_nl d) (text_nl c) h
      obtain ⟨M', rfl, h3⟩ := ih hL.2 hM.2 h2
      rw [text_inj hM.1 hL.1 h1]
      exact ⟨M', rfl, h3⟩
/-- what ReadProof tells of a text -/
def RP (s : List UInt8) (O : Option (List (List Int))) : Prop :=
  (∃ LL, O = some LL ∧ LL.all okAll = true ∧ LL.length ≤ 700 ∧ lines LL = s) ∨ (O = none ∧ ∀ M : List (List Int), M.all okAll = true → M.length ≤ 700 → lines M ≠ s)
theorem RP.one {s : List UInt8} {O P : Option (List (List Int))} (h : RP s O) (k : RP s P) : O = P := by
  rcases h with ⟨A, rfl, a1, a2, a3⟩ | ⟨rfl, a⟩ <;> rcases k with ⟨B, rfl, b1, b2, b3⟩ | ⟨rfl, b⟩
  · obtain ⟨M, e, hM⟩ := lines_pre (t := []) a1 b1 (by rw [b3, a3, List.append_nil])
    cases M with
    | nil => rw [e, List.append_nil]
    | cons c M => rw [lines_cons'] at hM; simp at hM
  · exact absurd a3 (b A a1 a2)
  · exact absurd b3 (a B b1 b2)
  · rfl
theorem cut_yes {a r : List UInt8} (ha : (10 : UInt8) ∉ a) : cutL (a ++ 10 :: r) = (a, r, true) := by
  rcases ln.cut_spec (a ++ 10 :: r) with ⟨a', r', e, ha', hi⟩ | ⟨h, _⟩
  · obtain ⟨e1, e2⟩ := nl_inj ha ha' e
    subst e1 e2
    unfold ln.cutL Lib.cut
    rw [hi, if_pos (by omega)]
    simp
  · exact absurd (by simp) h
theorem cut_len {t wd rs : List UInt8} {fd : Bool} (hc : cutL t = (wd, rs, fd)) : wd.length ≤ t.length := by
  rcases ln.cut_spec t with ⟨a, r, e, ha, hi⟩ | ⟨hn, hi⟩
  · rw [e, cut_yes ha] at hc
    cases hc
    rw [e]; simp
  · unfold ln.cutL Lib.cut at hc
    rw [hi] at hc
    simp at hc
    rw [hc.1]
    exact Nat.le_refl _
/-- a text on its way: what has been read, and what is left -/
structure Lft (s t : List UInt8) (LL : List (List Int)) : Prop where
  eq : s = lines LL ++ t
  ok : LL.all okAll = true
  le : LL.length ≤ 700
theorem Lft.none_ {s t : List UInt8} {LL : List (List Int)} {wd rs : List UInt8} {fd : Bool} (h : Lft s t LL) (h0 : t ≠ []) (hc : cutL t = (wd, rs, fd)) (hf : fd = false ∨ readB wd = false ∨ LL.length = 700) : RP s none := by
  refine .inr ⟨rfl, fun M m1 m2 m3 => ?_⟩
  obtain ⟨M', rfl, hM⟩ := lines_pre h.ok m1 (m3.trans h.eq)
  cases M' with
  | nil => exact h0 hM.symm
  | cons c M' =>
    rw [List.all_append, Bool.and_eq_true, List.all_cons, Bool.and_eq_true] at m1
    rw [lines_cons'] at hM
    rw [← hM, cut_yes (text_nl c)] at hc
    cases hc
    rcases hf with q | q | q
    · cases q
    · unfold rd.readB at q
      rw [read_full m1.2.1] at q
      cases q
    · rw [List.length_append, List.length_cons] at m2
      omega
theorem Lft.more {s t : List UInt8} {LL : List (List Int)} {wd rs : List UInt8} (h : Lft s t LL) (hc : cutL t = (wd, rs, true)) (hr : readB wd = true) (hl : LL.length ≠ 700) : Lft s rs (LL ++ [readL wd]) ∧ rs.length < t.length ∧ wd.length ≤ t.length := by
  obtain ⟨L, hL⟩ := Option.isSome_iff_exists.1 (show (read wd).isSome = true from hr)
  have hs := read_sound hL
  have eL : readL wd = L := by unfold rd.readL; rw [hL]; rfl
  have et : t = wd ++ 10 :: rs := by
    rcases ln.cut_spec t with ⟨a, r, e, ha, hi⟩ | ⟨hn, hi⟩
    · rw [e, cut_yes ha] at hc
      cases hc
      exact e
    · unfold ln.cutL Lib.cut at hc
      rw [hi] at hc
      simp at hc
  refine ⟨⟨?_, ?_, ?_⟩, by rw [et]; simp; omega, by rw [et]; simp⟩
  · rw [h.eq, et, eL]
    unfold cx.lines
    simp [hs.2]
  · rw [List.all_append, h.ok, eL, List.all_cons, hs.1]
    rfl
  · rw [List.length_append, List.length_singleton]
    have := h.le
    omega
theorem Lft.done {s : List UInt8} {LL : List (List Int)} (h : Lft s [] LL) : RP s (some LL) := .inl ⟨LL, rfl, h.ok, h.le, by rw [h.eq, List.append_nil]⟩
theorem flat_len {LL : List (List Int)} (h : LL.all okAll = true) : LL.flatten.length ≤ 48 * LL.length := by
  induction LL with
  | nil => exact Nat.zero_le _
  | cons c LL ih =>
    rw [List.all_cons, Bool.and_eq_true] at h
    have := ih h.2
    have hc : c.length ≤ 48 := by
      have := h.1
      unfold cls.okAll at this
      simp only [Bool.and_eq_true, decide_eq_true_iff] at this
      exact this.2
    rw [List.flatten_cons, List.length_append, List.length_cons]
    omega
theorem cutN (t : ByteArray) (w : World) (hE : Env w) (ht : t.size ≤ 1048576) (wd rs : List UInt8) (fd : Bool) (hc : cutL (rd.bytes t) = (wd, rs, fd)) :
    Calls Tryd.prog 104 #[.string t, .string ⟨#[10]⟩] w fun e w' => e = .returned (.tuple #[.string ⟨wd.toArray⟩, .string ⟨rs.toArray⟩, .bool fd]) ∧ w.grownBy w' none := by
  obtain ⟨m, hm⟩ := hE.most
  refine (Tryd.strings_Cut t ⟨#[10]⟩ m w (by omega) hm).mono ?_
  rintro e w' ⟨rfl, n, rfl⟩
  have e1 : Lib.cut t.data.toList (⟨#[10]⟩ : ByteArray).data.toList = (wd, rs, fd) := hc
  rw [e1]
  exact ⟨rfl, sl.grown_drewN w n⟩
theorem nilS (w : World) : OwnS w.heap.size (w.alloc (.cells #[] 27)).heap.size (w.alloc (.cells #[] 27)) (.slice (some ⟨w.heap.size, 0, none⟩) 0 0) [] :=
  ⟨[], rfl, World.ownsRow_lit w #[] 0 (Nat.le_refl _) (Nat.zero_le _) rfl, (fun k e => by cases e; rw [World.size_alloc]; exact Nat.lt_succ_self _), (fun p hp => by cases hp), .nil⟩
/-- an answer of lists and a flag -/
def ListE (w : World) (O : Option (List (List Int))) (e : Ending) (w' : World) : Prop := ∃ r, e = .returned (.tuple #[r, .bool O.isSome]) ∧ OwnS w.heap.size w'.heap.size w' r (O.getD []) ∧ w.grownBy w' none
theorem sub_own {w w1 w2 : World} {r : Value} {LL : List (List Int)} (g : w.grownBy w1 none) (o : OwnS w1.heap.size w2.heap.size w2 r LL) (k : w1.grownBy w2 none) : OwnS w.heap.size w2.heap.size w2 r LL ∧ w.grownBy w2 none :=
  ⟨o.sub g.size (Nat.le_refl _), grown_trans g k⟩
set_option maxRecDepth 100000 in
set_option maxHeartbeats 8000000 in
theorem implReadProof (s : ByteArray) (w : World) (hE : Env w) (hs : s.size ≤ 1048576) :
    Calls Tryd.prog 59 #[.string s] w fun e w' => ∃ O, RP (rd.bytes s) O ∧ ListE w O e w' := by
  have HE := hide hE
  have START := hide (Cl.start w)
  have L0 : Hid (Lft (rd.bytes s) (rd.bytes s) []) := ⟨rfl, rfl, Nat.zero_le _⟩
  clear hE
  go_enter Tryd.func59, Tryd.ntmps59
  go_wp2_with fail
  go_loopw [0] (fun sv wr => ∃ (t : ByteArray) (LL : List (List Int)) (va ve : Value), sv = .string t ∧ t.size ≤ 1048576 ∧ Hid (Lft (rd.bytes s) (rd.bytes t) LL) ∧ Hid (Cl w wr w.heap.size va ve LL)) (fun sv _ => rd.strLen sv)
  case atStart => exact ⟨s, [], _, _, rfl, hs, L0, START⟩
  case round =>
    obtain ⟨t, LL, va, ve, rfl, ht, hl, hc⟩ := hrel
    clear START L0
    have lf := unhide hl
    have hb0 : (t.toList == []) = decide (rd.bytes t = []) := by rw [Bool.eq_iff_iff, beq_iff_eq, decide_eq_true_iff, rd.toList_bytes]
    have hLle := lf.le
    have hfl := flat_len lf.ok
    by_cases h0 : rd.bytes t = []
    · rw [decide_eq_true h0] at hb0
      rw [h0] at lf
      have R := hide lf.done
      have CL := hide (ck.lists w.heap.size wr (by omega) (by omega) (unhide hc))
      have G := hide (unhide hc).g
      clear lf h0 hl hc
      go_wp2_with fail
      refine (unhide CL).mono ?_; rintro e w2 ⟨r, rfl, o2, g2⟩
      have O2 := hide (sub_own (unhide G) o2 g2)
      clear o2 g2
      go_wp2_with fail
      go_ret2
      exact ⟨some LL, unhide R, r, rfl, unhide O2⟩
    · rw [decide_eq_false h0] at hb0
      obtain ⟨wd, rs, fd, hcut⟩ : ∃ wd rs fd, cutL (rd.bytes t) = (wd, rs, fd) := ⟨_, _, _, rfl⟩
      have CU := hide (cutN t wr ((unhide HE).kept (unhide hc).g) ht wd rs fd hcut)
      have NO := hide (fun hf => lf.none_ h0 hcut hf)
      have wdl : wd.length ≤ 1048576 := by
        have := cut_len hcut
        rw [rd.bytes_len] at this
        omega
      have MO : Hid (fd = true → readB wd = true → LL.length ≠ 700 → Lft (rd.bytes s) rs (LL ++ [readL wd]) ∧ rs.length < (rd.bytes t).length) := fun e h1 h2 => by
        have := lf.more (e ▸ hcut) h1 h2
        exact ⟨this.1, this.2.1⟩
      have RC := hide (fun (w2 : World) (g2 : wr.grownBy w2 none) => rd.implReadClause ⟨wd.toArray⟩ w2 ((unhide HE).kept (grown_trans (unhide hc).g g2)) (by rw [rd.size_mk]; exact wdl))
      rw [rd.bytes_mk] at RC
      have FU := hide (fun (w2 : World) (g2 : wr.grownBy w2 none) => ck.full w.heap.size w2 (by omega) ((unhide hc).kept g2))
      have hrl := read_len wd
      clear lf h0 hcut
      go_wp2_with fail
      refine (unhide CU).mono ?_; rintro e w2 ⟨rfl, g2⟩
      have G2 := hide g2
      have R2 := hide (unhide RC w2 g2)
      clear g2 CU RC
      go_wp2_with fail
      refine (unhide R2).mono ?_; rintro e w3 ⟨u3, rfl, m3⟩
      have G3 := hide (grown_trans (r := none) (unhide G2) m3.2)
      have U3 := hide m3.1
      have F3 := hide (unhide FU w3 (unhide G3))
      have BAD : Hid (RP (rd.bytes s) none → ∃ O, RP (rd.bytes s) O ∧ ListE w O (.returned (.tuple #[.slice (some ⟨w3.heap.size, 0, none⟩) 0 0, .bool false])) (w3.alloc (.cells #[] 27))) := fun h => ⟨none, h, _, rfl, sub_own (grown_trans (unhide hc).g (unhide G3)) (nilS w3) (World.grownBy_alloc _ _ none)⟩
      have PU := hide (ck.put w.heap.size w3 (by omega) (by omega) ((unhide hc).kept (unhide G3)) m3.1)
      clear m3 R2 FU G2
      generalize hrb : readB wd = rb at *
      cases fd
      · have R := hide (unhide BAD (unhide NO (.inl rfl)))
        go_wp2_with fail
        go_ret2
        exact unhide R
      · cases rb
        · have R := hide (unhide BAD (unhide NO (.inr (.inl rfl))))
          go_wp2_with fail
          go_ret2
          exact unhide R
        · by_cases h7 : LL.length = 700
          · rw [decide_eq_true h7] at F3
            have R := hide (unhide BAD (unhide NO (.inr (.inr h7))))
            go_wp2_with fail
            refine (unhide F3).mono ?_; rintro e w4 ⟨rfl, hw⟩; have hw' := hw.symm; clear hw; subst hw'
            go_wp2_with fail
            go_ret2
            exact unhide R
          · rw [decide_eq_false h7] at F3
            obtain ⟨n1, n2⟩ := unhide MO rfl rfl h7
            have N1 := hide n1
            have N2 := hide n2
            clear n1 n2 BAD NO MO
            go_wp2_with fail
            refine (unhide F3).mono ?_; rintro e w4 ⟨rfl, hw⟩; have hw' := hw.symm; clear hw; subst hw'
            go_wp2_with fail
            refine (unhide PU).mono ?_; rintro e w4 ⟨rfl, va', ve', c4⟩
            have C4 := hide c4
            clear c4 PU F3
            go_wp2_with fail
            go_roundw
            case rel => exact ⟨⟨rs.toArray⟩, _, va', ve', rfl, by rw [rd.size_mk]; have := unhide N2; rw [rd.bytes_len] at this; omega, unhide N1, unhide C4⟩
            case measure =>
              have := unhide N2
              rw [rd.bytes_len] at this
              show (⟨rs.toArray⟩ : ByteArray).size < t.size
              rw [rd.size_mk]
              exact this
end Go.Proofs.YtgcglpdemolcoaaDoor.rq
