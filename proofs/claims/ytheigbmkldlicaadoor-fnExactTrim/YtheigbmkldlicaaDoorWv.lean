/- What unit of the program's watcher answers and does: the walk; no condition but on the words, the literals and the sizes. -/
import Derived.Test.YtheigbmkldlicaaDoorWu
namespace Go.Proofs.YtheigbmkldlicaaDoor.wm
open Go.ChangeShapes Go.WideShapes Go.ChangeAt Go.RowKit
open Go.Proofs.YtheigbmkldlicaaDoor.wm0 (end0 ret0 stepW listW listB)
open Go.Proofs.YtheigbmkldlicaaDoor.lits (okB okB_iff)
open Go.Proofs.YtheigbmkldlicaaDoor.bset (placeN placeN_le placeC)
open Go.Proofs.YtheigbmkldlicaaDoor.srt (Tab woN woN_lt fstI oppN oppN_lt andN andN_lt orN_eq or_lt)
open Go.Proofs.YtheigbmkldlicaaDoor.sl (Sl Own ints hide unhide ret_int ret_bool grown_refl grown_trans grown_drewN)
set_option linter.unusedVariables false

def WS.w0 (s : WS) (v : Value) (X : List Int) : WS := { s with A := s.A.set 0 (v, X) }
theorem w0_get {s : WS} {v : Value} {X : List Int} (h : s.A.length = 50) : (s.w0 v X).A.getD 0 nil_ = (v, X) := by
  show (s.A.set 0 (v, X)).getD 0 nil_ = _
  have : 0 < s.A.length := by omega
  simp [this]
theorem w0_w0 {s : WS} {v v' : Value} {X X' : List Int} : ({ s.w0 v X with A := (s.w0 v X).A.set 0 (v', X') } : WS) = s.w0 v' X' := by
  unfold WS.w0
  rw [List.set_set]
theorem w0_self {s : WS} {v : Value} {X : List Int} (h : s.A.length = 50) (e : s.A.getD 0 nil_ = (v, X)) : s.w0 v X = s := by
  unfold WS.w0
  have h0 : 0 < s.A.length := by omega
  have : s.A.set 0 (v, X) = s.A := by
    rw [← e, show s.A.getD 0 nil_ = s.A[0] by simp [h0]]
    exact List.set_getElem_self h0
  rw [this]
theorem w0_ps {s : WS} {v : Value} {X : List Int} : (s.w0 v X).ps = { s.ps with A := s.ps.A.set 0 X } := by
  unfold WS.ps WS.w0
  rw [List.map_set]
theorem Wat.vform {w : World} {c : Nat} {s : WS} (h : Wat w c s) : ∃ a cap, s.V = .slice a s.K.length cap := by
  obtain ⟨_, h2⟩ := h.cl
  rcases h2 with ⟨e, h0⟩ | ⟨g, cap, cur, e, _⟩
  · exact ⟨none, 0, by rw [e, h0]⟩
  · exact ⟨_, cap, e⟩
theorem Wat.at0 {w : World} {c g n cap : Nat} {s : WS} {X : List Int} (h : Wat w c s) (e : s.A.getD 0 nil_ = (.slice (some ⟨g, 0, none⟩) n cap, X)) (hn : X.length = n) (t : Nat) (ht : t < n) : w.cell? ⟨g, t, none⟩ = some (.int .i64 (X.getD t 0)) ∧ w.frozen? ⟨g, t, none⟩ = false ∧ n ≤ cap := by
  have hjl : 0 < s.A.length := by rw [h.len]; decide
  have own := h.ls _ (mem_getD hjl)
  rw [e] at own
  have own' : w.ownsRow 0 3 1 (.slice (some ⟨g, 0, none⟩) n cap) n (ints X) := by rw [← hn] at own ⊢; exact own
  refine ⟨?_, own'.frozenAt t, ?_⟩
  · rw [own'.cellAt t (by omega)]
    rw [← hn] at ht
    simp [sl.ints, ht]
  · obtain ⟨_, h2⟩ := own'
    rcases h2 with ⟨e, _⟩ | ⟨g', cap', cur, e, _, _, hn', _⟩
    · cases e
    · simp only [Value.slice.injEq] at e
      obtain ⟨_, _, rfl⟩ := e
      exact hn'
/-- what waits while it is gone through: what stays of the first t, then the rest of the row -/
def mix (P : PS) (C : List Int) (t : Nat) : List Int := (C.take t).filter (live P) ++ C.drop ((C.take t).filter (live P)).length
theorem flen (P : PS) (C : List Int) (t : Nat) (h : t ≤ C.length) : ((C.take t).filter (live P)).length ≤ t := Nat.le_trans (List.length_filter_le _ _) (by rw [List.length_take]; omega)
theorem mix_len (P : PS) (C : List Int) (t : Nat) (h : t ≤ C.length) : (mix P C t).length = C.length := by
  have := flen P C t h
  unfold mix
  rw [List.length_append, List.length_drop]
  omega
theorem mix_at (P : PS) (C : List Int) (t : Nat) (h : t < C.length) : (mix P C t).getD t 0 = C.getD t 0 := by
  have hl := flen P C t (by omega)
  unfold mix
  rw [List.getD, List.getD, List.getElem?_append_right hl, List.getElem?_drop, show ((C.take t).filter (live P)).length + (t - ((C.take t).filter (live P)).length) = t by omega]
theorem filt_yes (P : PS) (C : List Int) (t : Nat) (h : t < C.length) (hl : live P (C.getD t 0) = true) : (C.take (t + 1)).filter (live P) = (C.take t).filter (live P) ++ [C.getD t 0] := by
  rw [take_snoc C t h, List.filter_append, List.filter_cons_of_pos hl]
  rfl
theorem filt_no (P : PS) (C : List Int) (t : Nat) (h : t < C.length) (hl : live P (C.getD t 0) = false) : (C.take (t + 1)).filter (live P) = (C.take t).filter (live P) := by
  rw [take_snoc C t h, List.filter_append, List.filter_cons_of_neg (by rw [hl]; simp)]
  simp
theorem mix_set (P : PS) (C : List Int) (t : Nat) (h : t < C.length) (hl : live P (C.getD t 0) = true) : (ints (mix P C t)).set ((C.take t).filter (live P)).length (.int .i64 (C.getD t 0)) = ints (mix P C (t + 1)) := by
  have hl' := flen P C t (by omega)
  unfold mix
  rw [filt_yes P C t h hl]
  generalize (C.take t).filter (live P) = F at *
  have e : C.drop F.length = C[F.length]'(by omega) :: C.drop (F.length + 1) := List.drop_eq_getElem_cons (by omega)
  rw [e, app.ints_append, app.ints_append, app.ints_append]
  rw [List.set_append_right _ _ (by rw [sl.ints_length]; exact Nat.le_refl _), sl.ints_length, Nat.sub_self]
  rw [show ints (C[F.length]'(by omega) :: C.drop (F.length + 1)) = Value.int .i64 (C[F.length]'(by omega)) :: ints (C.drop (F.length + 1)) from rfl, List.set_cons_zero, List.length_append]
  simp only [sl.ints, List.map_cons, List.map_nil, List.append_assoc, List.cons_append, List.nil_append, List.length_cons, List.length_nil]
theorem mix_no (P : PS) (C : List Int) (t : Nat) (h : t < C.length) (hl : live P (C.getD t 0) = false) : mix P C (t + 1) = mix P C t := by
  unfold mix
  rw [filt_no P C t h hl]
theorem new_cell (w : World) (y : Int) : (w.alloc (.cells #[.int .i64 y] 3)).cell? ⟨w.heap.size, 0, none⟩ = some (.int .i64 y) := by simp
theorem min_eq (k q : Nat) : (if k < q then (k : Int) else (q : Int)) = ((min q ((k : Int).toNat) : Nat) : Int) := by
  rw [Int.toNat_natCast]
  split <;> omega
/-- a watcher whose waiting list was gone through up to t -/
def Unt (c : Nat) (s : WS) (g cap : Nat) (C : List Int) (t : Nat) (w wx : World) : Prop := Wat wx c (s.w0 (.slice (some ⟨g, 0, none⟩) C.length cap) (mix s.ps C t)) ∧ Stp c s (s.w0 (.slice (some ⟨g, 0, none⟩) C.length cap) (mix s.ps C t)) w wx

set_option maxRecDepth 100000 in
set_option maxHeartbeats 8000000 in
theorem unit {w : World} {c : Nat} {s : WS} {v : Value} {C : List Int} (h : Wat w c s) (hTab : TabF c s w) (hl : s.K.length ≤ 1048576) (hT : s.tk < 2 ^ 48) (hS : ∀ i, i < s.K.length → (s.K.getD i zk).1 < 2 ^ 48)
    (hC : s.A.getD 0 nil_ = (v, C)) (hCi : ∀ x ∈ C, ∃ k : Nat, x = (k : Int) ∧ k < s.K.length) (hCl : C.length ≤ 4194304)
    (hop : s.em = false → ∀ k : Nat, (k : Int) ∈ C → clsd (s.K.getD k zk).1 s.tk = false → opn (s.K.getD k zk).1 s.tk ≠ 0) :
    Calls Tryd.prog 181 #[.pointer (some ⟨c, 0, none⟩)] w fun e w' => ∃ s', e = .returned (.tuple #[.int .i8 s.ps.uniX, .bool (!s.em)]) ∧ Wat w' c s' ∧ Stp c s s' w w' ∧ s'.ps = s.ps.uni := by
  have x51 := h.cell (k := 51) (by decide)
  rw [at51] at x51
  cases hem : s.em
  · rw [hem] at x51
    have eX : s.ps.uniX = if least s.ps (still s.ps) = s.K.length then 0 else fstI (opn (s.K.getD (least s.ps (still s.ps)) zk).1 s.tk) := by
      unfold PS.uniX
      rw [if_neg (show ¬ s.ps.em = true by show ¬ s.em = true; rw [hem]; simp)]
      rfl
    have eP : s.ps.uni = { s.ps with A := s.ps.A.set 0 (still s.ps) } := by
      unfold PS.uni
      rw [if_neg (show ¬ s.ps.em = true by show ¬ s.em = true; rw [hem]; simp)]
    have eS : still s.ps = C.filter (live s.ps) := by
      unfold still
      rw [ps_getD, hC]
    have hop' := hop hem
    obtain ⟨a0, cap0, eV⟩ := h.vform
    have x0 := h.cell (k := 0) (by decide)
    rw [wm.at0, eV] at x0
    have x50 := h.cell (k := 50) (by decide)
    rw [at50, hC] at x50
    have f50 := h.fz 50
    have hjl : 0 < s.A.length := by rw [h.len]; decide
    have own := h.ls _ (mem_getD hjl)
    rw [hC] at own
    have EX := hide eX
    have EP := hide eP
    have ES := hide eS
    have HOP := hide hop'
    have HS := hide hS
    have HCI := hide hCi
    have HT := hide hTab
    have HW := hide h
    have HC := hide hC
    clear eX eP eS hop hop' hS hCi hTab hem hjl
    obtain ⟨_, h2⟩ := own
    rcases h2 with ⟨e, h0⟩ | ⟨g, cap, cur, e, _, _, hcap, _⟩
    · have e' : v = .slice none 0 0 := e
      subst e'
      have hnil : C = [] := List.eq_nil_of_length_eq_zero h0
      subst hnil
      have W2 := h.set (q := 50) (s' := s) (v := .slice none 0 0) (by decide) (fun k hk => by
        by_cases q : k = 50
        · subst q
          rw [if_pos rfl, at50, unhide HC]
        · rw [if_neg q]) rfl rfl rfl ⟨rfl, rfl⟩
      have R2 := hide W2
      have E1 : Hid (s.ps.uniX = 0) := by
        show _ = _
        rw [unhide EX, unhide ES]
        exact if_pos rfl
      have E2 : Hid (s.ps.uni = s.ps) := by
        show _ = _
        rw [unhide EP, unhide ES]
        have := w0_ps (s := s) (v := .slice none 0 0) (X := [])
        rw [w0_self h.len (unhide HC)] at this
        exact this.symm
      clear W2 h
      go_enter Tryd.func181, Tryd.ntmps181
      go_wp2
      go_loop [4, 5, 27] (fun lv sv iv => lv = .int .i64 (s.K.length : Int) ∧ sv = .slice none 0 0 ∧ iv = .int .i64 0) (fun _ _ _ => 0)
      case atStart => exact ⟨rfl, rfl, rfl⟩
      case round =>
        obtain ⟨rfl, rfl, rfl⟩ := hrel
        have y0 : (w.setCell ⟨c, 50, none⟩ (.slice none 0 0)).cell? ⟨c, 0, none⟩ = some (.slice a0 s.K.length cap0) := by
          have := (unhide R2).1.cell (k := 0) (by decide)
          rw [wm.at0, eV] at this
          exact this
        go_wp2
        go_ret2
        first
          | exact ⟨by rw [unhide E1]; rfl, s, (unhide R2).1, (unhide R2).2, (unhide E2).symm⟩
          | exact ⟨s, by rw [unhide E1]; rfl, (unhide R2).1, (unhide R2).2, (unhide E2).symm⟩
    · have e' : v = .slice (some ⟨g, 0, none⟩) C.length cap := e
      subst e'
      have st : Hid (Unt c s g cap C 0 w w) := by
        have e0 : mix s.ps C 0 = C := by unfold mix; simp
        unfold Unt
        rw [e0, w0_self h.len (unhide HC)]
        exact ⟨h, Stp.refl _ _ _⟩
      have hA49 := hide h.len
      clear h
      go_enter Tryd.func181, Tryd.ntmps181
      go_wp2
      clear x51 x50 f50 x0
      go_loopw [4, 5, 27] (fun lv sv iv wx => ∃ t : Nat, t ≤ C.length ∧ iv = .int .i64 (t : Int) ∧ lv = .int .i64 (least s.ps ((C.take t).filter (live s.ps)) : Nat) ∧ sv = .slice (some ⟨g, 0, none⟩) ((C.take t).filter (live s.ps)).length cap ∧ Hid (Unt c s g cap C t w wx)) (fun _ _ iv _ => C.length - (intOf iv).toNat)
      case atStart => exact ⟨0, Nat.zero_le _, rfl, rfl, rfl, st⟩
      case round =>
        obtain ⟨t, ht, rfl, rfl, rfl, hu⟩ := hrel
        clear st
        by_cases hlt : t < C.length
        · have hi' : (t : Int) < (C.length : Int) := by omega
          have c1 := (unhide hu).1.at0 (w0_get (unhide hA49)) (mix_len s.ps C t ht) t hlt
          rw [mix_at s.ps C t hlt] at c1
          have hfl := flen s.ps C t ht
          have c2 := (unhide hu).1.at0 (w0_get (unhide hA49)) (mix_len s.ps C t ht) ((C.take t).filter (live s.ps)).length (by omega)
          obtain ⟨k, hk, hkK⟩ := unhide HCI (C.getD t 0) (by rw [show C.getD t 0 = C[t] by simp [hlt]]; exact List.getElem_mem hlt)
          have cc := closed (s := s.w0 (.slice (some ⟨g, 0, none⟩) C.length cap) (mix s.ps C t)) (i := k) (unhide hu).1 hkK hl (unhide HS k hkK) hT
          have hlive : live s.ps (C.getD t 0) = !clsd (s.K.getD k zk).1 s.tk := by
            unfold live
            rw [hk]
            rfl
          have fy := filt_yes s.ps C t hlt
          have fn := filt_no s.ps C t hlt
          have my := mix_set s.ps C t hlt
          have mn := mix_no s.ps C t hlt
          have ls := least_snoc s.ps ((C.take t).filter (live s.ps)) (C.getD t 0)
          have ll := least_le s.ps ((C.take t).filter (live s.ps))
          have hml := mix_len s.ps C (t + 1) (by omega)
          rw [hk] at c1 hlive fy fn my mn ls
          have e1 : (s.w0 (.slice (some ⟨g, 0, none⟩) C.length cap) (mix s.ps C t)).K = s.K := rfl
          have e2 : (s.w0 (.slice (some ⟨g, 0, none⟩) C.length cap) (mix s.ps C t)).tk = s.tk := rfl
          rw [e1, e2] at cc
          have cw := c1.1
          clear e1 e2
          cases hcl : clsd (s.K.getD k zk).1 s.tk
          · rw [hcl] at cc hlive
            have CC := hide cc
            have FY := hide (fy hlive)
            have NX : Hid (∀ w0, wr.grownBy w0 none → Unt c s g cap C (t + 1) w (w0.setCell ⟨g, ((C.take t).filter (live s.ps)).length, none⟩ (.int .i64 (k : Int)))) := by
              intro w0 g0
              have k1 := (unhide hu).1.row0 (w0_get (unhide hA49)) g0 (mix_len s.ps C t ht) hml (my hlive)
              rw [w0_w0] at k1
              exact ⟨k1.1, (unhide hu).2.trans k1.2⟩
            have LS := hide ls
            have HU := hide (unhide hu).1
            clear cc hlive fy fn my mn ls hcl hu hk
            have hcell := c2.1
            have hfz := c2.2.1
            have hcap' := c2.2.2
            generalize (C.take t).filter (live s.ps) = F at *
            generalize hq : least s.ps F = q at *
            have CS : Hid (∀ w0, wr.grownBy w0 none → (w0.cell? ⟨g, F.length, none⟩).isSome = true ∧ w0.frozen? ⟨g, F.length, none⟩ = false) := by
              intro w0 g0
              have := ((unhide HU).kept g0).at0 (w0_get (unhide hA49)) (mix_len s.ps C t ht) F.length (by omega)
              exact ⟨by rw [this.1]; rfl, this.2.1⟩
            clear c1 c2 hcell hfz HU
            go_wp2_with fail
            refine (unhide CC).mono ?_; rintro e w3 ⟨rfl, m3, rfl⟩
            have GD := hide (grown_trans (r := none) (grown_drewN wr m3) (World.grownBy_alloc (wr.drewN m3) (.cells #[.int .i64 (k : Int)] 3) none))
            have NB : Hid (((wr.drewN m3).alloc (.cells #[.int .i64 (k : Int)] 3)).cell? ⟨(wr.drewN m3).heap.size, 0, none⟩ = some (.int .i64 (k : Int))) := by
              exact new_cell _ _
            have R3 := hide (unhide NX _ (unhide GD))
            clear CC NX
            go_wp2_with (at_builtin; refine roomW (unhide NB) (by omega) (unhide CS _ (unhide GD)).1 (unhide CS _ (unhide GD)).2 rfl _ _ rfl rfl rfl ?_)
            clear CS NB GD
            go_wp2
            go_roundw
            case rel => exact ⟨t + 1, by omega, by go_num, by rw [unhide FY, unhide LS, min_eq], by rw [unhide FY, List.length_append]; rfl, unhide R3⟩
            case measure => simp [intOf]; omega
          · rw [hcl] at cc hlive
            have CC := hide cc
            have FN := hide (fn hlive)
            have R3 : Hid (Unt c s g cap C (t + 1) w wr) := by
              unfold Unt
              rw [mn hlive]
              exact unhide hu
            clear cc hlive fy fn my mn ls hcl hu hk c1 c2
            generalize (C.take t).filter (live s.ps) = F at *
            go_wp2_with fail
            refine (unhide CC).mono ?_; rintro e w3 ⟨rfl, m3, rfl⟩
            have R4 : Hid (Unt c s g cap C (t + 1) w (wr.drewN m3)) := ⟨(unhide R3).1.kept (grown_drewN wr m3), (unhide R3).2.trans (Stp.of_grown (grown_drewN wr m3))⟩
            clear CC R3
            go_wp2
            go_roundw
            case rel => exact ⟨t + 1, by omega, by go_num, by rw [unhide FN], by rw [unhide FN], R4⟩
            case measure => simp [intOf]; omega
        · have hi' : ¬ (t : Int) < (C.length : Int) := by omega
          have et : C.take t = C := List.take_of_length_le (by omega)
          have hfl := flen s.ps C t ht
          have ew := (unhide hu).1
          have hgc := w0_get (s := s) (v := .slice (some ⟨g, 0, none⟩) C.length cap) (X := mix s.ps C t) (unhide hA49)
          have hjl : 0 < (s.w0 (.slice (some ⟨g, 0, none⟩) C.length cap) (mix s.ps C t)).A.length := by rw [ew.len]; decide
          have own := ew.ls _ (mem_getD hjl)
          rw [hgc] at own
          have own' : wr.ownsRow 0 3 1 (.slice (some ⟨g, 0, none⟩) C.length cap) C.length (ints (mix s.ps C t)) := by
            have e := mix_len s.ps C t ht
            have o : wr.ownsRow 0 3 1 (.slice (some ⟨g, 0, none⟩) C.length cap) (mix s.ps C t).length (ints (mix s.ps C t)) := own
            rw [e] at o
            exact o
          have cut := own_cut (m := ((C.take t).filter (live s.ps)).length) own' (by omega)
          have ecut : (ints (mix s.ps C t)).take ((C.take t).filter (live s.ps)).length = ints ((C.take t).filter (live s.ps)) := by
            unfold mix
            rw [app.ints_append, ← sl.ints_length ((C.take t).filter (live s.ps)), List.take_left']
            rfl
          rw [ecut] at cut
          have k5 := ew.list (j := 0) (M := (C.take t).filter (live s.ps)) (by decide) (grown_refl wr) cut ⟨rfl, rfl, rfl, Nat.le_refl _, fun _ _ _ => rfl⟩ (.inl (by rw [hgc]; rfl))
          rw [w0_w0] at k5
          have x50 := ew.cell (k := 50) (by decide)
          rw [at50, hgc] at x50
          have f50 := ew.fz 50
          have S5 := hide (And.intro k5.1 ((unhide hu).2.trans k5.2))
          have EP' : Hid (s.ps.uni = (s.w0 (.slice (some ⟨g, 0, none⟩) ((C.take t).filter (live s.ps)).length cap) ((C.take t).filter (live s.ps))).ps) := by
            show _ = _
            rw [w0_ps, unhide EP, unhide ES, et]
          have EX' : Hid (s.ps.uniX = if least s.ps ((C.take t).filter (live s.ps)) = s.K.length then 0 else fstI (opn (s.K.getD (least s.ps ((C.take t).filter (live s.ps))) zk).1 s.tk)) := by
            show _ = _
            rw [unhide EX, unhide ES, et]
          have lm := least_mem s.ps ((C.take t).filter (live s.ps))
          have ll := least_le s.ps ((C.take t).filter (live s.ps))
          have HM : Hid (∀ x ∈ (C.take t).filter (live s.ps), x ∈ C ∧ live s.ps x = true) := by
            intro x hx
            rw [et] at hx
            exact List.mem_filter.1 hx
          have y0 : (wr.setCell ⟨c, 50, none⟩ (.slice (some ⟨g, 0, none⟩) ((C.take t).filter (live s.ps)).length cap)).cell? ⟨c, 0, none⟩ = some (.slice a0 s.K.length cap0) := by
            have := (unhide S5).1.cell (k := 0) (by decide)
            rw [wm.at0] at this
            have e3 : (s.w0 (.slice (some ⟨g, 0, none⟩) ((C.take t).filter (live s.ps)).length cap) ((C.take t).filter (live s.ps))).V = s.V := rfl
            rw [e3, eV] at this
            exact this
          clear ew hgc hjl own own' cut ecut k5 et hu EX EP ES
          generalize (C.take t).filter (live s.ps) = F at *
          have LM := hide lm
          clear lm
          generalize hq : least s.ps F = q at *
          have hqK : q ≤ s.K.length := ll
          by_cases hql : q = s.K.length
          · have b1 : ((q : Int) == (s.K.length : Int)) = true := by simp [hql]
            go_wp2
            go_ret2
            first
              | exact ⟨by rw [unhide EX', if_pos hql]; rfl, _, (unhide S5).1, (unhide S5).2, (unhide EP').symm⟩
              | exact ⟨_, by rw [unhide EX', if_pos hql]; rfl, (unhide S5).1, (unhide S5).2, (unhide EP').symm⟩
          · have b1 : ((q : Int) == (s.K.length : Int)) = false := by
              rw [beq_eq_false_iff_ne]
              omega
            have hqi : q < s.K.length := by omega
            have co := open_ (s := s.w0 (.slice (some ⟨g, 0, none⟩) F.length cap) F) (i := q) (unhide S5).1 hqi hl (unhide HS q hqi) hT
            have e1 : (s.w0 (.slice (some ⟨g, 0, none⟩) F.length cap) F).K = s.K := rfl
            have e2 : (s.w0 (.slice (some ⟨g, 0, none⟩) F.length cap) F).tk = s.tk := rfl
            rw [e1, e2] at co
            have CO := hide co
            have hne : opn (s.K.getD q zk).1 s.tk ≠ 0 := by
              rcases unhide LM with z | ⟨x, hx, z⟩
              · exact absurd z (by show ¬ q = s.K.length; exact hql)
              · have hm := unhide HM x hx
                obtain ⟨k, rfl, hk⟩ := unhide HCI x hm.1
                have hk' : k = q := by
                  have : ((k : Int)).toNat = q := z
                  rw [Int.toNat_natCast] at this
                  exact this
                subst hk'
                refine unhide HOP k hm.1 ?_
                have hl2 := hm.2
                unfold live at hl2
                rw [Int.toNat_natCast, Bool.not_eq_true'] at hl2
                exact hl2
            have hol : opn (s.K.getD q zk).1 s.tk < 2 ^ 48 := andN_lt _ _ (unhide HS q hqi)
            have T5 := (unhide HT).stp (unhide S5).2
            have CF := hide (fun w t => srt.first (opn (s.K.getD q zk).1 s.tk) w t (by omega) hol)
            have T6 := hide T5.1
            clear co e1 e2 hne hol T5
            generalize opn (s.K.getD q zk).1 s.tk = O at *
            go_wp2_with fail
            refine (unhide CO).mono ?_; rintro e w6 ⟨rfl, m6, rfl⟩
            go_wp2_with fail
            refine (unhide CF _ ((unhide T6).kept (grown_drewN _ m6))).mono ?_; rintro e w7 ⟨rfl, hw⟩; have hw' := hw.symm; clear hw; subst hw'
            go_wp2_with fail
            go_ret2
            first
              | exact ⟨by rw [unhide EX', if_neg hql]; rfl, _, (unhide S5).1.kept (grown_drewN _ m6), (unhide S5).2.trans (Stp.of_grown (grown_drewN _ m6)), (unhide EP').symm⟩
              | exact ⟨_, by rw [unhide EX', if_neg hql]; rfl, (unhide S5).1.kept (grown_drewN _ m6), (unhide S5).2.trans (Stp.of_grown (grown_drewN _ m6)), (unhide EP').symm⟩
  · rw [hem] at x51
    have E1 : Hid (s.ps.uniX = 0) := by
      show _ = _
      unfold PS.uniX
      rw [if_pos (show s.ps.em = true from hem)]
    have E2 : Hid (s.ps.uni = s.ps) := by
      show _ = _
      unfold PS.uni
      rw [if_pos (show s.ps.em = true from hem)]
    have HW := hide h
    clear h hop hem
    go_enter Tryd.func181, Tryd.ntmps181
    go_wp2
    go_ret2
    first
      | exact ⟨by rw [unhide E1]; rfl, s, unhide HW, Stp.refl _ _ _, (unhide E2).symm⟩
      | exact ⟨s, by rw [unhide E1]; rfl, unhide HW, Stp.refl _ _ _, (unhide E2).symm⟩
end Go.Proofs.YtheigbmkldlicaaDoor.wm
