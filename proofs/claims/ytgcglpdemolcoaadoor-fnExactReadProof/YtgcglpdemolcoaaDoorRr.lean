/- Proofs as texts: what ReadProof of the model answers at every text of at most 2^20 bytes, and both. -/
import Derived.Test.YtgcglpdemolcoaaDoorRq
import Derived.Test.YtgcglpdemolcoaaDoorLs
import Derived.Test.YtgcglpdemolcoaaDoorReadS
import Derived.Test.YtgcglpdemolcoaaDoorGr
namespace Go.Proofs.YtgcglpdemolcoaaDoor.rq
open Go.ChangeShapes Go.WideShapes Go.ChangeAt Go.RowKit
open Go.Proofs.YtgcglpdemolcoaaDoor.sl (ints hide unhide grown_refl grown_trans of_below below_of Own)
open Go.Proofs.YtgcglpdemolcoaaDoor.css (OwnS)
open Go.Proofs.YtgcglpdemolcoaaDoor.cls (okAll)
open Go.Proofs.YtgcglpdemolcoaaDoor.txt (text)
open Go.Proofs.YtgcglpdemolcoaaDoor.cx (lines)
open Go.Proofs.YtgcglpdemolcoaaDoor.ln (linesOf lines_cons)
open Go.Proofs.YtgcglpdemolcoaaDoor.rd (Env readB readL read read_sound read_full read_len)
set_option linter.unusedVariables false
theorem lines_of (M : List (List Int)) : linesOf (lines M) = M.map text := by
  induction M with
  | nil => rfl
  | cons c M ih => rw [lines_cons', lines_cons _ (text_nl c), ih]; rfl
/-- what has been read of the first lines -/
structure Sf (s : List UInt8) (k : Nat) (M : List (List Int)) : Prop where
  eq : M.map text = (linesOf s).take k
  ok : M.all okAll = true
theorem Sf.more {s l : List UInt8} {k : Nat} {M : List (List Int)} (h : Sf s k M) (hl : (linesOf s)[k]? = some l) (hr : readB l = true) : Sf s (k + 1) (M ++ [readL l]) := by
  obtain ⟨L, hL⟩ := Option.isSome_iff_exists.1 (show (read l).isSome = true from hr)
  have hs := read_sound hL
  have eL : readL l = L := by unfold rd.readL; rw [hL]; rfl
  refine ⟨?_, ?_⟩
  · rw [List.take_add_one, hl, List.map_append, h.eq, eL]
    simp [hs.2]
  · rw [List.all_append, h.ok, eL, List.all_cons, hs.1]
    rfl
theorem Sf.len {s : List UInt8} {k : Nat} {M : List (List Int)} (h : Sf s k M) (hk : k ≤ (linesOf s).length) : M.length = k := by
  have := congrArg List.length h.eq
  rw [List.length_map, List.length_take] at this
  omega
theorem none_long {s : List UInt8} (h : 700 < (linesOf s).length) : RP s none := by
  refine .inr ⟨rfl, fun M m1 m2 m3 => ?_⟩
  rw [← m3, lines_of, List.length_map] at h
  omega
theorem none_bad {s l : List UInt8} {k : Nat} (hl : (linesOf s)[k]? = some l) (hr : readB l = false) : RP s none := by
  refine .inr ⟨rfl, fun M m1 m2 m3 => ?_⟩
  rw [← m3, lines_of, List.getElem?_map] at hl
  cases hM : M[k]? with
  | none => rw [hM] at hl; cases hl
  | some c =>
    rw [hM] at hl
    cases hl
    have hc := List.all_eq_true.1 m1 c (List.mem_of_getElem? hM)
    unfold rd.readB at hr
    rw [read_full hc] at hr
    cases hr
theorem map_text : ∀ {A B : List (List Int)}, A.all okAll = true → B.all okAll = true → A.map text = B.map text → A = B := by
  intro A
  induction A with
  | nil => intro B _ _ h; cases B with
    | nil => rfl
    | cons => simp at h
  | cons a A ih =>
    intro B ha hb h
    cases B with
    | nil => simp at h
    | cons b B =>
      rw [List.all_cons, Bool.and_eq_true] at ha hb
      rw [List.map_cons, List.map_cons, List.cons.injEq] at h
      rw [text_inj ha.1 hb.1 h.1, ih ha.2 hb.2 h.2]
theorem Sf.yes {s : List UInt8} {k : Nat} {M : List (List Int)} (h : Sf s k M) (hk : k = (linesOf s).length) (h7 : k ≤ 700) (e : lines M = s) : RP s (some M) := .inl ⟨M, rfl, h.ok, by rw [h.len (by omega)]; exact h7, e⟩
theorem Sf.no {s : List UInt8} {k : Nat} {M : List (List Int)} (h : Sf s k M) (hk : k = (linesOf s).length) (e : ¬ lines M = s) : RP s none := by
  refine .inr ⟨rfl, fun A m1 m2 m3 => e ?_⟩
  have := h.eq
  rw [hk, List.take_length, ← m3, lines_of] at this
  rw [map_text h.ok m1 this]
  exact m3
theorem tot_ok {M : List (List Int)} (h : M.all okAll = true) : css.tot M ≤ 49 * M.length := by
  have := flat_len h
  unfold css.tot
  rw [List.length_flatten] at this
  omega
/-- the lines' row -/
def Lns (wr : World) (bD : Nat) (ad : Option Addr) (cap : Nat) (D : List ByteArray) : Prop := wr.ownsRow bD 9 1 (.slice ad D.length cap) D.length (rd.strs D)
theorem Lns.kept {wr w1 : World} {bD : Nat} {ad : Option Addr} {cap : Nat} {D : List ByteArray} (h : Lns wr bD ad cap D) (g : wr.grownBy w1 none) : Lns w1 bD ad cap D := World.ownsRow.kept h g (by
  cases (Value.slice ad D.length cap).ownBlock with
  | none => exact .inl rfl
  | some k => exact .inr (fun e => by cases e))
theorem ty10 : (27 : Nat) ≠ 9 := by decide
theorem outer_ne {lo hi bD n : Nat} {w : World} {v u : Value} {LL : List (List Int)} {xs : List Value} (h : OwnS lo hi w v LL) (hD : w.ownsRow bD 9 1 u n xs) : u.ownBlock = none ∨ u.ownBlock ≠ v.ownBlock := by
  obtain ⟨D, e, ho, _⟩ := h
  exact rd.apart_types ho hD ty10
theorem lines_row {wr : World} {bD : Nat} {ad : Option Addr} {cap : Nat} {D : List ByteArray} (h : Lns wr bD ad cap D) {k : Nat} (hk : k < D.length) : ∃ g, ad = some ⟨g, 0, none⟩ ∧ wr.cell? ⟨g, k, none⟩ = some (.string D[k]) := by
  rcases h.2 with ⟨hv, h0⟩ | ⟨g, cap', cur, hv, _⟩
  · omega
  · injection hv with h1 h2 h3
    subst h1 h3
    refine ⟨g, rfl, ?_⟩
    rw [World.ownsRow.cellAt h k (by omega)]
    simp [rd.strs, hk]
theorem lscan_len (B : Nat) (l : List UInt8) (st : List (List UInt8) × List UInt8) (h1 : ∀ x ∈ st.1, x.length ≤ B) (h2 : st.2.length + l.length ≤ B) : (∀ x ∈ (ln.lscan st l).1, x.length ≤ B) ∧ (ln.lscan st l).2.length ≤ B := by
  induction l generalizing st with
  | nil => exact ⟨h1, by show st.2.length ≤ B; simpa using h2⟩
  | cons c l ih =>
    have e : ln.lscan st (c :: l) = ln.lscan (if c = 10 then (st.1 ++ [st.2], []) else (st.1, st.2 ++ [c])) l := rfl
    rw [e]
    rw [List.length_cons] at h2
    split
    · refine ih _ ?_ (by simp; omega)
      intro x hx
      rcases List.mem_append.1 hx with hx | hx
      · exact h1 x hx
      · rw [List.mem_singleton] at hx
        rw [hx]
        omega
    · exact ih _ h1 (by simp; omega)
theorem line_size {s : ByteArray} {D : List ByteArray} (hD : D.map rd.bytes = linesOf (rd.bytes s)) (hs : s.size ≤ 1048576) : ∀ x ∈ D, x.size ≤ 1048576 := by
  intro x hx
  have h1 : rd.bytes x ∈ linesOf (rd.bytes s) := by
    rw [← hD]
    exact List.mem_map_of_mem hx
  have h2 := (lscan_len (rd.bytes s).length (rd.bytes s) ([], []) (by simp) (by simp)).1 _ h1
  rw [rd.bytes_len, rd.bytes_len] at h2
  omega
theorem str_ne (M : List (List Int)) (s : ByteArray) : (lines M == s.toList) = decide (lines M = rd.bytes s) := by
  rw [Bool.eq_iff_iff, beq_iff_eq, decide_eq_true_iff, rd.toList_bytes]
set_option maxRecDepth 100000 in
set_option maxHeartbeats 8000000 in
theorem specReadProof (s : ByteArray) (w : World) (hs : s.size ≤ 1048576) :
    Calls Tryd.prog 58 #[.string s] w fun e w' => ∃ O, RP (rd.bytes s) O ∧ ListE w O e w' := by
  have START := hide (nilS w)
  have GA := hide (World.grownBy_alloc w (.cells #[] 27) none)
  have CL := hide (ln.l03Lines s (w.alloc (.cells #[] 27)) hs)
  have HS : Hid (∀ D : List ByteArray, D.map rd.bytes = linesOf (rd.bytes s) → ∀ x ∈ D, x.size ≤ 1048576) := hide (fun D hD => line_size hD (by omega))
  go_enter Tryd.func58, Tryd.ntmps58
  go_wp2_with fail
  refine (unhide CL).mono ?_; rintro e w1 ⟨u, D, rfl, hmD, hD, hDl⟩
  clear CL
  have hDb : D.length ≤ 1048576 := by omega
  clear hDl
  obtain ⟨ad, cap, rfl⟩ : ∃ a cap, u = .slice a D.length cap := by
    rcases hmD.1.2 with ⟨rfl, h⟩ | ⟨g, cap, cur, rfl, _⟩
    · exact ⟨none, 0, by rw [h]⟩
    · exact ⟨_, cap, rfl⟩
  have hDS := unhide HS D hD
  have HL : Hid ((linesOf (rd.bytes s)).length = D.length) := by rw [← hD, List.length_map]; exact hide rfl
  have HK : Hid (∀ k (hk : k < D.length), (linesOf (rd.bytes s))[k]? = some (rd.bytes D[k])) := by
    intro k hk
    rw [← hD]
    simp [hk]
  obtain ⟨o1, g1⟩ := hmD
  have S1 := hide ((unhide START).kept g1)
  have G1 := hide (grown_trans (r := none) (unhide GA) g1)
  replace S1 := hide ((unhide S1).sub (Nat.le_refl _) g1.size)
  generalize (w.alloc (.cells #[] 27)).heap.size = bD at o1
  have L1 : Hid (Lns w1 bD ad cap D) := o1
  clear o1 g1 hD HS START GA
  by_cases h7 : 700 < D.length
  · have hi : (700 : Int) < (D.length : Int) := by omega
    have R := hide (none_long (s := rd.bytes s) (by rw [unhide HL]; exact h7))
    go_wp2_with fail
    go_ret2
    exact ⟨none, unhide R, _, rfl, unhide S1, unhide G1⟩
  have hi : ¬ (700 : Int) < (D.length : Int) := by omega
  have SF : Hid (Sf (rd.bytes s) 0 []) := ⟨rfl, rfl⟩
  go_wp2_with fail
  go_loopw [4, 6] (fun v i wr => ∃ (k : Nat) (M : List (List Int)), k ≤ D.length ∧ i = .int .i64 k ∧ Hid (Sf (rd.bytes s) k M) ∧ Hid (OwnS w.heap.size wr.heap.size wr v M) ∧ Hid (w.grownBy wr none) ∧ Hid (Lns wr bD ad cap D)) (fun _ i _ => D.length - (intOf i).toNat)
  case atStart => exact ⟨0, [], Nat.zero_le _, rfl, SF, S1, G1, L1⟩
  case round =>
    obtain ⟨k, M, hk, rfl, hf, ho, hg, hln⟩ := hrel
    clear S1 G1 L1 SF
    have hMl := (unhide hf).len (by rw [unhide HL]; exact hk)
    have hMle : M.length ≤ 700 := by omega
    clear hMl
    by_cases hlt : k < D.length
    · have hi' : (k : Int) < (D.length : Int) := by omega
      obtain ⟨g, rfl, c1⟩ := lines_row (unhide hln) hlt
      have hsz := hDS D[k] (List.getElem_mem hlt)
      have CC := rd.specReadClause D[k] wr hsz
      have KK := unhide HK k hlt
      have NB := hide (none_bad KK)
      have MO := hide ((unhide hf).more KK)
      clear KK hsz
      generalize D[k] = ln at *
      generalize readL (rd.bytes ln) = L at *
      generalize readB (rd.bytes ln) = b at *
      have CQ := hide CC
      clear CC
      go_wp2_with fail
      refine (unhide CQ).mono ?_; rintro e w2 ⟨u2, rfl, m2⟩
      have G2 := hide m2.2
      have U2 := hide (Own.of m2.1)
      clear m2 CQ
      obtain ⟨ua, uc, e3, _⟩ := (unhide U2).sl
      subst e3
      cases b
      · have R := hide (And.intro (unhide NB rfl) (sub_own (grown_trans (unhide hg) (unhide G2)) (nilS w2) (World.grownBy_alloc _ _ none)))
        go_wp2_with fail
        go_ret2
        exact ⟨none, (unhide R).1, _, rfl, (unhide R).2⟩
      · have F2 := hide (unhide MO rfl)
        have O2 := hide ((unhide ho).kept (unhide G2))
        have GW := hide (grown_trans (r := none) (unhide hg) (unhide G2))
        have L2 := hide ((unhide hln).kept (unhide G2))
        have s1 := hide (unhide hg).size
        obtain ⟨va, vc, rfl⟩ := (unhide ho).len
        clear MO NB ho hg hln
        go_wp2_with (at_builtin; refine gr.appendR (unhide O2) (unhide U2) (unhide s1) (unhide G2).size (by omega) rfl _ _ rfl rfl rfl ?_)
        intro g2 cap2 w4 o4 gr4
        have R := hide (And.intro o4 (app.grown_appS (lo := 0) (unhide GW) (unhide O2) gr4))
        have L4 : Hid (Lns w4 bD (some ⟨g, 0, none⟩) cap D) := World.ownsRow.kept (Lns.kept (unhide L2) (World.grownBy_alloc w2 (.cells #[.slice ua L.length uc] 27) none)) gr4 (outer_ne ((unhide O2).kept (World.grownBy_alloc w2 (.cells #[.slice ua L.length uc] 27) none)) (Lns.kept (unhide L2) (World.grownBy_alloc w2 (.cells #[.slice ua L.length uc] 27) none)))
        clear o4 gr4 O2 U2 GW G2 s1 L2
        go_wp2
        go_roundw
        case rel => exact ⟨k + 1, M ++ [L], by omega, by go_num, F2, (unhide R).1, (unhide R).2, L4⟩
        case measure => simp [intOf]; omega
    · have hi' : ¬ (k : Int) < (D.length : Int) := by omega
      have e1 := str_ne M s
      have fl := unhide hf
      have hk' : k = (linesOf (rd.bytes s)).length := by rw [unhide HL]; omega
      have CT := pt.specProofText _ M wr (by have := tot_ok fl.ok; omega) (unhide ho).sls
      rw [pt.prf_yes (by omega) fl.ok] at CT
      unfold dec.str at CT
      have YES := hide (fl.yes hk' (by omega))
      have NO := hide (fl.no hk')
      have CQ := hide CT
      obtain ⟨va, vc, rfl⟩ := (unhide ho).len
      clear fl CT hk' HL HK hf hln
      by_cases h : lines M = rd.bytes s
      · rw [decide_eq_true h] at e1
        have Y := hide (unhide YES h)
        clear h YES NO
        generalize lines M = q at *
        go_wp2_with fail
        refine (unhide CQ).mono ?_; rintro e w2 ⟨rfl, g2⟩
        have R := hide (And.intro (((unhide ho).kept g2).sub (Nat.le_refl _) g2.size) (grown_trans (r := none) (unhide hg) g2))
        clear g2
        go_wp2_with fail
        go_ret2
        exact ⟨some M, unhide Y, _, rfl, unhide R⟩
      · rw [decide_eq_false h] at e1
        have Y := hide (unhide NO h)
        clear h YES NO
        generalize lines M = q at *
        go_wp2_with fail
        refine (unhide CQ).mono ?_; rintro e w2 ⟨rfl, g2⟩
        have R := hide (sub_own (grown_trans (unhide hg) g2) (nilS w2) (World.grownBy_alloc _ _ none))
        clear g2
        go_wp2_with fail
        go_ret2
        exact ⟨none, unhide Y, _, rfl, unhide R⟩
theorem bothP (s : ByteArray) (hs : s.size ≤ 1048576) : ∃ O : Option (List (List Int)), (∀ LL, O = some LL → LL.all okAll = true ∧ LL.length ≤ 700) ∧ (∀ w, Calls Tryd.prog 58 #[.string s] w fun e w' => ListE w O e w') ∧ ∀ w, Env w → Calls Tryd.prog 59 #[.string s] w fun e w' => ListE w O e w' := by
  have h : ∃ O, RP (rd.bytes s) O := by
    by_cases q : ∃ LL : List (List Int), LL.all okAll = true ∧ LL.length ≤ 700 ∧ lines LL = rd.bytes s
    · obtain ⟨LL, a, b, c⟩ := q
      exact ⟨some LL, .inl ⟨LL, rfl, a, b, c⟩⟩
    · exact ⟨none, .inr ⟨rfl, fun M a b c => q ⟨M, a, b, c⟩⟩⟩
  obtain ⟨O, hO⟩ := h
  refine ⟨O, ?_, fun w => (specReadProof s w hs).mono ?_, fun w hE => (implReadProof s w hE hs).mono ?_⟩
  · intro LL e
    rcases hO with ⟨A, rfl, a1, a2, a3⟩ | ⟨rfl, a⟩
    · cases e
      exact ⟨a1, a2⟩
    · cases e
  · rintro e w' ⟨P, hP, h⟩
    rw [RP.one hO hP]
    exact h
  · rintro e w' ⟨P, hP, h⟩
    rw [RP.one hO hP]
    exact h
theorem bothQ (s : ByteArray) (hs : s.size ≤ 1048576) : ∃ (R : List (List Int)) (b : Bool), css.tot R ≤ 1048576 ∧ (∀ w, Calls Tryd.prog 58 #[.string s] w fun e w' => ∃ r, e = .returned (.tuple #[r, .bool b]) ∧ OwnS w.heap.size w'.heap.size w' r R ∧ w.grownBy w' none) ∧ ∀ w, Env w → Calls Tryd.prog 59 #[.string s] w fun e w' => ∃ r, e = .returned (.tuple #[r, .bool b]) ∧ OwnS w.heap.size w'.heap.size w' r R ∧ w.grownBy w' none := by
  obtain ⟨O, h, a, b⟩ := bothP s hs
  refine ⟨O.getD [], O.isSome, ?_, a, b⟩
  cases O with
  | none => exact Nat.zero_le _
  | some LL =>
    have := h LL rfl
    have := tot_ok this.1
    show css.tot LL ≤ _
    omega
end Go.Proofs.YtgcglpdemolcoaaDoor.rq
