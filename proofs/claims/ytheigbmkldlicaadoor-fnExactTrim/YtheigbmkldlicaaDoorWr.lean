/- What rewatch of the program's watcher does; no condition but that the clause is there, its literals are some, and on sizes. -/
import Derived.Test.YtheigbmkldlicaaDoorWw
namespace Go.Proofs.YtheigbmkldlicaaDoor.wm
open Go.ChangeShapes Go.WideShapes Go.ChangeAt Go.RowKit
open Go.Proofs.YtheigbmkldlicaaDoor.wm0 (end0 ret0 stepW listW listB)
open Go.Proofs.YtheigbmkldlicaaDoor.lits (okB okB_iff)
open Go.Proofs.YtheigbmkldlicaaDoor.bset (placeN placeN_le placeC)
open Go.Proofs.YtheigbmkldlicaaDoor.srt (Tab woN woN_lt fstI oppN oppN_lt andN andN_lt)
open Go.Proofs.YtheigbmkldlicaaDoor.sl (Sl Own ints hide unhide ret_int ret_bool grown_refl grown_trans grown_drewN)
set_option linter.unusedVariables false

theorem rowsK_len (K : List (Nat × Int × Int)) : (rowsK K).length = K.length * 3 := by
  induction K with
  | nil => rfl
  | cons k l ih =>
    have e : rowsK (k :: l) = .int .u64 (k.1 : Int) :: .int .i8 k.2.1 :: .int .i8 k.2.2 :: rowsK l := rfl
    rw [e]
    simp only [List.length_cons, ih]
    omega
theorem rowsK_set1 (K : List (Nat × Int × Int)) (i : Nat) (a : Int) (h : i < K.length) : (rowsK K).set (i * 3 + 1) (.int .i8 a) = rowsK (K.set i ((K.getD i zk).1, a, (K.getD i zk).2.2)) := by
  induction K generalizing i with
  | nil => simp at h
  | cons k l ih =>
    have e : ∀ k l, rowsK (k :: l) = .int .u64 (k.1 : Int) :: .int .i8 k.2.1 :: .int .i8 k.2.2 :: rowsK l := fun _ _ => rfl
    cases i with
    | zero => rfl
    | succ i =>
      rw [List.set_cons_succ, e, e, show (i + 1) * 3 + 1 = i * 3 + 1 + 1 + 1 + 1 by omega, List.set_cons_succ, List.set_cons_succ, List.set_cons_succ, ih i (by simpa using h)]
      rfl
theorem rowsK_set2 (K : List (Nat × Int × Int)) (i : Nat) (a : Int) (h : i < K.length) : (rowsK K).set (i * 3 + 2) (.int .i8 a) = rowsK (K.set i ((K.getD i zk).1, (K.getD i zk).2.1, a)) := by
  induction K generalizing i with
  | nil => simp at h
  | cons k l ih =>
    have e : ∀ k l, rowsK (k :: l) = .int .u64 (k.1 : Int) :: .int .i8 k.2.1 :: .int .i8 k.2.2 :: rowsK l := fun _ _ => rfl
    cases i with
    | zero => rfl
    | succ i =>
      rw [List.set_cons_succ, e, e, show (i + 1) * 3 + 2 = i * 3 + 2 + 1 + 1 + 1 by omega, List.set_cons_succ, List.set_cons_succ, List.set_cons_succ, ih i (by simpa using h)]
      rfl
/-- a cell of the clauses' row is written -/
theorem Wat.setK {w : World} {c g cap j : Nat} {s : WS} {u : Value} {K' : List (Nat × Int × Int)} (h : Wat w c s) (hV : s.V = .slice (some ⟨g, 0, none⟩) s.K.length cap) (hK : (rowsK s.K).set j u = rowsK K') (hl : K'.length = s.K.length) :
    Wat (w.setCell ⟨g, j, none⟩ u) c { s with K := K' } ∧ Stp c s { s with K := K' } w (w.setCell ⟨g, j, none⟩ u) := by
  have gg := sl.grown_setCell w g j u
  have hcl := h.cl
  rw [hV] at hcl
  have hb : (Value.slice (some ⟨g, 0, none⟩) s.K.length cap).ownBlock = some g := rfl
  have ho : s.V.ownBlock = some g := by rw [hV]; rfl
  have hgc : g ≠ c := by
    rcases row_nec h.cl h.blk h.ty.1 with q | q
    · rw [ho] at q; cases q
    · intro e; exact q (by rw [ho, e])
  refine ⟨⟨?_, h.len, ?_, fun p hp => (h.ls p hp).kept gg ?_, h.ap, h.ty⟩, ⟨gg.os, gg.tape, gg.output, gg.size, fun k hk hn => gg.block k hk (fun e => hn (.inr (.inl (by rw [ho]; exact e.symm)))), fun k f => .inl f, rfl, rfl⟩⟩
  · show (w.setCell ⟨g, j, none⟩ u).heap[c]? = some (Obj.cells s.cells.toArray _ _)
    rw [gg.block c h.lt (fun e => hgc (by cases e; rfl))]
    exact h.blk
  · show (w.setCell ⟨g, j, none⟩ u).ownsRow 0 _ 3 s.V K'.length (rowsK K')
    rw [hV, hl, ← hK]
    exact (hcl.stored j u).1
  · rcases row_ne (h.ls p hp) h.cl (fun e => types3 e.symm) with q | q
    · exact .inl q
    · rw [ho] at q
      exact .inr q
theorem set_getD {K : List (Nat × Int × Int)} {i : Nat} (h : i < K.length) (k : Nat × Int × Int) : (K.set i k).getD i zk = k := by simp [h]
/-- the two that a clause is watched by, the lost one last -/
def sw0 (k : Nat × Int × Int) (lost : Int) : Int := if k.2.1 = lost then k.2.2 else k.2.1
def sw1 (k : Nat × Int × Int) (lost : Int) : Int := if k.2.1 = lost then k.2.1 else k.2.2
def swK (K : List (Nat × Int × Int)) (i : Nat) (lost : Int) : List (Nat × Int × Int) := K.set i ((K.getD i zk).1, sw0 (K.getD i zk) lost, sw1 (K.getD i zk) lost)
theorem self_set {K : List (Nat × Int × Int)} {i : Nat} (h : i < K.length) : K.set i (K.getD i zk) = K := by
  rw [show K.getD i zk = K[i] by simp [h]]
  exact List.set_getElem_self h
theorem swK_no {K : List (Nat × Int × Int)} {i : Nat} {lost : Int} (h : i < K.length) (hn : (K.getD i zk).2.1 ≠ lost) : swK K i lost = K := by
  unfold swK sw0 sw1
  rw [if_neg hn, if_neg hn]
  exact self_set h
theorem Wat.swap {w : World} {c g cap i : Nat} {s : WS} {lost : Int} (h : Wat w c s) (hi : i < s.K.length) (hV : s.V = .slice (some ⟨g, 0, none⟩) s.K.length cap) (hp : (s.K.getD i zk).2.1 = lost) :
    (Wat ((w.setCell ⟨g, i * 3 + 1, none⟩ (.int .i8 (s.K.getD i zk).2.2)).setCell ⟨g, i * 3 + 2, none⟩ (.int .i8 (s.K.getD i zk).2.1)) c { s with K := swK s.K i lost } ∧ Stp c s { s with K := swK s.K i lost } w ((w.setCell ⟨g, i * 3 + 1, none⟩ (.int .i8 (s.K.getD i zk).2.2)).setCell ⟨g, i * 3 + 2, none⟩ (.int .i8 (s.K.getD i zk).2.1))) ∧
    (Wat ((w.setCell ⟨g, i * 3 + 2, none⟩ (.int .i8 (s.K.getD i zk).2.1)).setCell ⟨g, i * 3 + 1, none⟩ (.int .i8 (s.K.getD i zk).2.2)) c { s with K := swK s.K i lost } ∧ Stp c s { s with K := swK s.K i lost } w ((w.setCell ⟨g, i * 3 + 2, none⟩ (.int .i8 (s.K.getD i zk).2.1)).setCell ⟨g, i * 3 + 1, none⟩ (.int .i8 (s.K.getD i zk).2.2))) := by
  have e : swK s.K i lost = s.K.set i ((s.K.getD i zk).1, (s.K.getD i zk).2.2, (s.K.getD i zk).2.1) := by
    unfold swK sw0 sw1
    rw [if_pos hp, if_pos hp]
  constructor
  · have a := h.setK (K' := s.K.set i ((s.K.getD i zk).1, (s.K.getD i zk).2.2, (s.K.getD i zk).2.2)) hV (rowsK_set1 s.K i _ hi) (by simp)
    have b := a.1.setK (cap := cap) (g := g) (j := i * 3 + 2) (u := .int .i8 (s.K.getD i zk).2.1) (K' := swK s.K i lost) (by show s.V = _; rw [hV]; simp) (by
      show (rowsK (s.K.set i _)).set _ _ = _
      rw [rowsK_set2 _ i _ (by simpa using hi), set_getD hi, e]
      simp) (by rw [e]; simp)
    exact ⟨b.1, a.2.trans b.2⟩
  · have a := h.setK (K' := s.K.set i ((s.K.getD i zk).1, (s.K.getD i zk).2.1, (s.K.getD i zk).2.1)) hV (rowsK_set2 s.K i _ hi) (by simp)
    have b := a.1.setK (cap := cap) (g := g) (j := i * 3 + 1) (u := .int .i8 (s.K.getD i zk).2.2) (K' := swK s.K i lost) (by show s.V = _; rw [hV]; simp) (by
      show (rowsK (s.K.set i _)).set _ _ = _
      rw [rowsK_set1 _ i _ (by simpa using hi), set_getD hi, e]
      simp) (by rw [e]; simp)
    exact ⟨b.1, a.2.trans b.2⟩

/-- what a watcher says, wherever it lies -/
structure PS where
  K : List (Nat × Int × Int)
  A : List (List Int)
  tk : Nat
  em : Bool
  ho : Bool
def WS.ps (s : WS) : PS := ⟨s.K, s.A.map (·.2), s.tk, s.em, s.ho⟩
def PS.more (P : PS) (j : Nat) (y : Int) : PS := { P with A := P.A.set j (P.A.getD j [] ++ [y]) }
theorem Upd.ps {c j : Nat} {s s' : WS} {y : Int} {w w' : World} (h : Upd c s s' j y w w') : s'.ps = s.ps.more j y := by
  obtain ⟨_, _, _, hK, ht, ⟨he, hh⟩, hA, _⟩ := h
  unfold WS.ps PS.more
  rw [hK, ht, he, hh, hA]
/-- what rewatch makes of it -/
def PS.rew (P : PS) (i : Nat) (lost : Int) : PS :=
  if clsd (P.K.getD i zk).1 P.tk then P
  else if opn (P.K.getD i zk).1 P.tk = 0 then { P with K := swK P.K i lost, em := true }
  else if woN (opn (P.K.getD i zk).1 P.tk) (sw0 (P.K.getD i zk) lost) = 0 then PS.more { P with K := swK P.K i lost } 0 (i : Int)
  else PS.more { P with K := P.K.set i ((P.K.getD i zk).1, sw0 (P.K.getD i zk) lost, fstI (woN (opn (P.K.getD i zk).1 P.tk) (sw0 (P.K.getD i zk) lost))) } (1 + placeN (fstI (woN (opn (P.K.getD i zk).1 P.tk) (sw0 (P.K.getD i zk) lost)))) (i : Int)
/-- whether rewatch finds another literal -/
def PS.mvd (P : PS) (i : Nat) (lost : Int) : Bool := !(clsd (P.K.getD i zk).1 P.tk) && decide (opn (P.K.getD i zk).1 P.tk ≠ 0 ∧ woN (opn (P.K.getD i zk).1 P.tk) (sw0 (P.K.getD i zk) lost) ≠ 0)
theorem mvd_closed {P : PS} {i : Nat} {lost : Int} (h : clsd (P.K.getD i zk).1 P.tk = true) : P.mvd i lost = false := by
  unfold PS.mvd
  rw [h]
  rfl
theorem mvd_no {P : PS} {i : Nat} {lost : Int} (h : opn (P.K.getD i zk).1 P.tk = 0 ∨ woN (opn (P.K.getD i zk).1 P.tk) (sw0 (P.K.getD i zk) lost) = 0) : P.mvd i lost = false := by
  unfold PS.mvd
  rw [decide_eq_false (fun k => by rcases h with h | h; exact k.1 h; exact k.2 h), Bool.and_false]
theorem mvd_yes {P : PS} {i : Nat} {lost : Int} (h : clsd (P.K.getD i zk).1 P.tk = false) (ho : opn (P.K.getD i zk).1 P.tk ≠ 0) (hr : woN (opn (P.K.getD i zk).1 P.tk) (sw0 (P.K.getD i zk) lost) ≠ 0) : P.mvd i lost = true := by
  unfold PS.mvd
  rw [h, decide_eq_true ⟨ho, hr⟩]
  rfl
theorem swK_at {K : List (Nat × Int × Int)} {i : Nat} {lost : Int} (h : i < K.length) : (swK K i lost).getD i zk = ((K.getD i zk).1, sw0 (K.getD i zk) lost, sw1 (K.getD i zk) lost) := set_getD h _
theorem swK_len (K : List (Nat × Int × Int)) (i : Nat) (lost : Int) : (swK K i lost).length = K.length := by unfold swK; simp

theorem rew_closed {P : PS} {i : Nat} {lost : Int} (h : clsd (P.K.getD i zk).1 P.tk = true) : P.rew i lost = P := by
  unfold PS.rew
  rw [if_pos h]
theorem rew_empty {P : PS} {i : Nat} {lost : Int} (h : clsd (P.K.getD i zk).1 P.tk = false) (ho : opn (P.K.getD i zk).1 P.tk = 0) : P.rew i lost = { P with K := swK P.K i lost, em := true } := by
  unfold PS.rew
  rw [if_neg (by rw [h]; simp), if_pos ho]
theorem rew_wait {P : PS} {i : Nat} {lost : Int} (h : clsd (P.K.getD i zk).1 P.tk = false) (ho : opn (P.K.getD i zk).1 P.tk ≠ 0) (hr : woN (opn (P.K.getD i zk).1 P.tk) (sw0 (P.K.getD i zk) lost) = 0) : P.rew i lost = PS.more { P with K := swK P.K i lost } 0 (i : Int) := by
  unfold PS.rew
  rw [if_neg (by rw [h]; simp), if_neg ho, if_pos hr]
theorem rew_move {P : PS} {i : Nat} {lost : Int} (h : clsd (P.K.getD i zk).1 P.tk = false) (ho : opn (P.K.getD i zk).1 P.tk ≠ 0) (hr : woN (opn (P.K.getD i zk).1 P.tk) (sw0 (P.K.getD i zk) lost) ≠ 0) :
    P.rew i lost = PS.more { P with K := P.K.set i ((P.K.getD i zk).1, sw0 (P.K.getD i zk) lost, fstI (woN (opn (P.K.getD i zk).1 P.tk) (sw0 (P.K.getD i zk) lost))) } (1 + placeN (fstI (woN (opn (P.K.getD i zk).1 P.tk) (sw0 (P.K.getD i zk) lost)))) (i : Int) := by
  unfold PS.rew
  rw [if_neg (by rw [h]; simp), if_neg ho, if_neg hr]
theorem swap_at {w : World} {c g cap i S : Nat} {s : WS} {lost p0 p1 : Int} (h : Wat w c s) (hi : i < s.K.length) (hV : s.V = .slice (some ⟨g, 0, none⟩) s.K.length cap) (ek : s.K.getD i zk = (S, p0, p1)) (hp : p0 = lost) :
    (Wat ((w.setCell ⟨g, i * 3 + 1, none⟩ (.int .i8 p1)).setCell ⟨g, i * 3 + 2, none⟩ (.int .i8 p0)) c { s with K := swK s.K i lost } ∧ Stp c s { s with K := swK s.K i lost } w ((w.setCell ⟨g, i * 3 + 1, none⟩ (.int .i8 p1)).setCell ⟨g, i * 3 + 2, none⟩ (.int .i8 p0))) ∧
    (Wat ((w.setCell ⟨g, i * 3 + 2, none⟩ (.int .i8 p0)).setCell ⟨g, i * 3 + 1, none⟩ (.int .i8 p1)) c { s with K := swK s.K i lost } ∧ Stp c s { s with K := swK s.K i lost } w ((w.setCell ⟨g, i * 3 + 2, none⟩ (.int .i8 p0)).setCell ⟨g, i * 3 + 1, none⟩ (.int .i8 p1))) := by
  have := h.swap hi hV (lost := lost) (by rw [ek]; exact hp)
  rw [ek] at this
  exact this
/-- the library's table, apart from the watcher -/
def TabF (c : Nat) (s : WS) (w : World) : Prop := Tab w ∧ ¬ Foot c s 1
theorem tab_lt {w : World} (h : Tab w) : (1 : Nat) < w.heap.size := World.block_lt_of_cell? w _ (h 0 (by decide))
theorem TabF.stp {c : Nat} {s s' : WS} {w w' : World} (h : TabF c s w) (k : Stp c s s' w w') : TabF c s' w' := by
  have hl := tab_lt h.1
  refine ⟨fun j hj => ?_, fun f => ?_⟩
  · rw [← h.1 j hj]
    exact World.cell?_of_block (a := ⟨1, j, none⟩) (k.block _ hl h.2)
  · rcases k.foot _ f with q | q
    · exact h.2 q
    · omega
/-- the lists of literals that are not open stay -/
def Same (O : Nat) (s s' : WS) : Prop := ∀ l, okB l = true → O.testBit (placeN l) = false → s'.A.getD (1 + placeN l) nil_ = s.A.getD (1 + placeN l) nil_
/-- the first part: the lost one is put last -/
def Swp (c : Nat) (s : WS) (i : Nat) (lost : Int) (w wx : World) : Prop := Wat wx c { s with K := swK s.K i lost } ∧ Stp c s { s with K := swK s.K i lost } w wx

set_option maxRecDepth 100000 in
set_option maxHeartbeats 8000000 in
theorem rewatch {w : World} {c i S : Nat} {s : WS} {lost p0 p1 : Int} (h : Wat w c s) (hTab : TabF c s w) (hi : i < s.K.length) (hl : s.K.length ≤ 1048576) (ek : s.K.getD i zk = (S, p0, p1)) (hS : S < 2 ^ 48) (hT : s.tk < 2 ^ 48)
    (ho : okB lost = true) (h0 : okB p0 = true) (h1 : okB p1 = true)
    (hw0 : (s.A.getD 0 nil_).2.length ≤ 4194304) (hw1 : ∀ q, okB q = true → (opn S s.tk).testBit (placeN q) = true → (s.A.getD (1 + placeN q) nil_).2.length ≤ 4194304) :
    Calls Tryd.prog 200 #[.pointer (some ⟨c, 0, none⟩), .int .i64 (i : Int), .int .i8 lost] w fun e w' => ∃ s', e = .returned (.bool (s.ps.mvd i lost)) ∧ Wat w' c s' ∧ Stp c s s' w w' ∧ s'.ps = s.ps.rew i lost ∧ Same (opn S s.tk) s s' := by
  have cc := closed h hi hl (by rw [ek]; exact hS) hT
  rw [ek] at cc
  have EK := hide ek
  cases hcl : clsd S s.tk
  · have cc' : Calls Tryd.prog 201 #[.pointer (some ⟨c, 0, none⟩), .int .i64 (i : Int)] w fun e w' => e = .returned (.bool false) ∧ ∃ m, w' = w.drewN m := by
      have := cc
      simp only [hcl] at this
      exact this
    have CC := hide cc'
    have HCL := hide hcl
    have HWW := hide h
    have HI := hide hi
    have HW1 := hide hw1
    clear cc cc' hcl h hw1 ek
    go_enter Tryd.func200, Tryd.ntmps200
    have hi' : (i : Int) < (s.K.length : Int) := by omega
    clear hi
    go_wp2_with fail
    refine (unhide CC).mono ?_; rintro e w2 ⟨rfl, m2, rfl⟩
    have W2 := (unhide HWW).kept (grown_drewN w m2)
    obtain ⟨g, cap, eV, hg, hc, c0, c1, c2, fz⟩ := W2.row (unhide HI)
    rw [unhide EK] at c0 c1 c2
    have x0 := W2.cell (k := 0) (by decide)
    rw [at0, eV] at x0
    have HW := hide W2
    have ST := hide (Stp.of_grown (c := c) (s := s) (grown_drewN w m2))
    have TB := hide (hTab.stp (Stp.of_grown (grown_drewN w m2)))
    have EV := hide eV
    clear CC W2 HWW eV hTab
    generalize w.drewN m2 = w2 at *
    go_upto_if 25 with fail
    clear x0 c0
    have WY := hide (fun (e : p0 = lost) => swap_at (unhide HW) (unhide HI) (unhide EV) (unhide EK) e)
    have f1 := fz (i * 3 + 1)
    have f2 := fz (i * 3 + 2)
    have WN : Hid (p0 ≠ lost → Swp c s i lost w2 w2) := by
      intro hne
      unfold Swp
      rw [swK_no (unhide HI) (by rw [unhide EK]; exact hne)]
      exact ⟨unhide HW, Stp.refl _ _ _⟩
    clear fz
    go_cut [] (fun wx => Hid (Swp c s i lost w2 wx))
    case first =>
      by_cases hp : p0 = lost
      · have hp' : (p0 == lost) = true := by simpa using hp
        have wz := (unhide WY hp).1
        have WZ : Hid (Swp c s i lost w2 ((w2.setCell ⟨g, i * 3 + 1, none⟩ (.int .i8 p1)).setCell ⟨g, i * 3 + 2, none⟩ (.int .i8 p0)).drew) :=
          ⟨wz.1.kept (cf.grown_drew _ none), wz.2.trans (Stp.of_grown (cf.grown_drew _ none))⟩
        clear WN WY hp wz
        go_wp2_with fail
        go_region
        go_wp2_with fail
        go_meet
        exact WZ
      · have hp' : (p0 == lost) = false := by simpa using hp
        have WZ := hide (unhide WN hp)
        clear WN WY hp
        go_wp2_with fail
        go_meet
        exact WZ
    case rest =>
      clear WY WN c1 c2 f1 f2 HW
      have hcut' := unhide hcut
      clear hcut
      obtain ⟨W3, S3⟩ := hcut'
      have T3 := hide ((unhide TB).stp S3)
      have SS := hide ((unhide ST).trans S3)
      have e3 : (swK s.K i lost).getD i zk = (S, sw0 (S, p0, p1) lost, sw1 (S, p0, p1) lost) := by rw [swK_at (unhide HI), unhide EK]
      have l3 := swK_len s.K i lost
      have k0 : okB (sw0 (S, p0, p1) lost) = true := by
        unfold sw0
        split
        · exact h1
        · exact h0
      have k1 : okB (sw1 (S, p0, p1) lost) = true := by
        unfold sw1
        split
        · exact h0
        · exact h1
      have hi3 : i < ({ s with K := swK s.K i lost } : WS).K.length := by show i < (swK s.K i lost).length; rw [l3]; exact unhide HI
      have co := open_ W3 hi3 (by show (swK s.K i lost).length ≤ _; rw [l3]; exact hl) (by show ((swK s.K i lost).getD i zk).1 < _; rw [e3]; exact hS) hT
      have e3' : ({ s with K := swK s.K i lost } : WS).K.getD i zk = (S, sw0 (S, p0, p1) lost, sw1 (S, p0, p1) lost) := e3
      rw [e3'] at co
      have CO : Hid (Calls Tryd.prog 202 #[.pointer (some ⟨c, 0, none⟩), .int .i64 (i : Int)] wc fun e w' => e = .returned (.int .u64 (opn S s.tk : Nat)) ∧ ∃ m, w' = wc.drewN m) := co
      have HW3 := hide W3
      have OL : Hid (opn S s.tk < 2 ^ 48) := andN_lt _ _ hS
      have E3 := hide e3'
      have HI3 := hide hi3
      have L3 := hide l3
      clear W3 S3 co e3 e3' hi3 l3
      generalize hq0 : sw0 (S, p0, p1) lost = q0 at *
      generalize hq1 : sw1 (S, p0, p1) lost = q1 at *
      have HQ0 := hide hq0
      clear hq0 hq1
      generalize hO : opn S s.tk = O at *
      have HO := hide hO
      clear hO
      go_wp2_with fail
      refine (unhide CO).mono ?_; rintro e w4 ⟨rfl, m4, rfl⟩
      have W4 := (unhide HW3).kept (grown_drewN wc m4)
      obtain ⟨g4, cap4, eV4, hg4, hc4, c0, c1, c2, fz⟩ := W4.row (unhide HI3)
      have eg : g4 = g ∧ cap4 = cap := by
        have : s.V = .slice (some ⟨g4, 0, none⟩) _ cap4 := eV4
        rw [unhide EV] at this
        simp only [Value.slice.injEq, Option.some.injEq, Addr.mk.injEq, and_true] at this
        exact ⟨this.1.symm, this.2.2.symm⟩
      obtain ⟨rfl, rfl⟩ := eg
      rw [unhide E3] at c1 c2
      have HW4 := hide W4
      have S4 := hide ((unhide SS).trans (Stp.of_grown (grown_drewN wc m4)))
      have T4 := hide ((unhide T3).stp (Stp.of_grown (grown_drewN wc m4)))
      have EV4 := hide eV4
      clear CO W4 HW3 SS T3 c0 eV4
      generalize wc.drewN m4 = w4 at *
      have CW := hide (fun w => srt.without O q0 w (unhide OL) k0)
      have RL : Hid (woN O q0 < 2 ^ 48) := woN_lt (unhide OL)
      generalize hR : woN O q0 = R at *
      have HR := hide hR
      clear hR
      go_wp2_with fail
      refine (unhide CW _).mono ?_; rintro e w5 ⟨rfl, hw⟩; have hw' := hw.symm; clear hw; subst hw'
      clear CW
      by_cases hO0 : O = 0
      · have b0 : ((O : Int) == 0) = true := by simp [hO0]
        have fe := (unhide HW4).fz 51
        have k5 := (unhide HW4).setEm true
        have E5 : Hid (({ ({ s with K := swK s.K i lost } : WS) with em := true } : WS).ps = s.ps.rew i lost) := by
          show _ = _
          rw [rew_empty (P := s.ps) (by show clsd (s.K.getD i zk).1 s.tk = false; rw [unhide EK]; exact unhide HCL) (by show opn (s.K.getD i zk).1 s.tk = 0; rw [unhide EK]; exact (unhide HO).trans hO0)]
          rfl
        have R5 := hide (And.intro k5.1 ((unhide S4).trans k5.2))
        have x51 := (unhide HW4).cell (k := 51) (by decide)
        clear k5
        have MV : Hid (s.ps.mvd i lost = false) := mvd_no (.inl (by show opn (s.K.getD i zk).1 s.tk = 0; rw [unhide EK]; exact (unhide HO).trans hO0))
        go_wp2_with fail
        go_ret
        rw [unhide MV]
        exact ⟨_, rfl, (unhide R5).1, (unhide R5).2, unhide E5, fun _ _ _ => rfl⟩
      · have b0 : ((O : Int) == 0) = false := by simp [hO0]
        by_cases hR0 : R = 0
        · have r0 : ((R : Int) == 0) = true := by simp [hR0]
          have x50 := (unhide HW4).cell (k := 50) (by decide)
          have f50 := (unhide HW4).fz 50
          have hA0 : 0 < s.A.length := by rw [show s.A.length = 50 from (unhide HW4).len]; decide
          have own0 : w4.ownsRow 0 3 1 (s.A.getD 0 nil_).1 (s.A.getD 0 nil_).2.length (ints (s.A.getD 0 nil_).2) := (unhide HW4).ls _ (mem_getD (A := s.A) hA0)
          have hne := row_nec own0 (unhide HW4).blk (unhide HW4).ty.2
          have FIN := hide (fun (w0 w1 : World) (g cap : Nat) (g0 : w4.grownBy w0 none) => (unhide HW4).one (y := (i : Int)) (w0 := w0) (w1 := w1) (g := g) (cap := cap) (show 0 < 50 by decide) g0)
          have E5 : Hid (({ s with K := swK s.K i lost } : WS).ps.more 0 (i : Int) = s.ps.rew i lost) := by
            show _ = _
            rw [rew_wait (P := s.ps) (by show clsd (s.K.getD i zk).1 s.tk = false; rw [unhide EK]; exact unhide HCL) (by show opn (s.K.getD i zk).1 s.tk ≠ 0; rw [unhide EK]; rw [← unhide HO] at hO0; exact hO0) (by show woN (opn (s.K.getD i zk).1 s.tk) (sw0 (s.K.getD i zk) lost) = 0; rw [unhide EK, show opn (S, p0, p1).1 s.tk = O from unhide HO, unhide HQ0]; exact (unhide HR).trans hR0)]
            rfl
          have CK : Hid (∀ w1, (w4.alloc (.cells #[.int .i64 (i : Int)] 3)).grownBy w1 (s.A.getD 0 nil_).1.ownBlock → w1.cell? ⟨c, 50, none⟩ = some (s.A.getD 0 nil_).1 ∧ w1.frozen? ⟨c, 50, none⟩ = false) := by
            intro w1 g1
            have h0 := (unhide HW4).kept (World.grownBy_alloc w4 (.cells #[.int .i64 (i : Int)] 3) none)
            have e : w1.heap[c]? = (w4.alloc (.cells #[.int .i64 (i : Int)] 3)).heap[c]? := g1.block c h0.lt (fun e => by
              rcases hne with q | q
              · rw [q] at e; cases e
              · exact q e.symm)
            exact ⟨(World.cell?_of_block (a := ⟨c, 50, none⟩) e).trans (h0.cell (k := 50) (by decide)), (World.frozen?_of_block (a := ⟨c, 50, none⟩) e).trans (h0.fz _)⟩
          obtain ⟨va, vc, ev, _⟩ := Sl.of_own own0
          have x50' : w4.cell? ⟨c, 50, none⟩ = some (s.A.getD 0 nil_).1 := x50
          have FIN' : Hid (∀ (w0 w1 : World) (g cap : Nat), w4.grownBy w0 none → w1.ownsRow 0 3 1 (.slice (some ⟨g, 0, none⟩) ((s.A.getD 0 nil_).2.length + 1) cap) ((s.A.getD 0 nil_).2.length + 1) (ints (s.A.getD 0 nil_).2 ++ [.int .i64 (i : Int)]) → w0.grownBy w1 (s.A.getD 0 nil_).1.ownBlock → ((s.A.getD 0 nil_).1.ownBlock = some g ∨ w4.heap.size ≤ g) →
              ∃ s', Upd c { s with K := swK s.K i lost } s' 0 (i : Int) w4 (w1.setCell ⟨c, 50, none⟩ (.slice (some ⟨g, 0, none⟩) ((s.A.getD 0 nil_).2.length + 1) cap))) := unhide FIN
          rw [ev] at own0 x50' FIN' CK
          have GA := hide (World.grownBy_alloc w4 (.cells #[.int .i64 (i : Int)] 3) none)
          have OWN := hide (own0.kept (unhide GA) (ne_none _))
          have NB : Hid ((w4.alloc (.cells #[.int .i64 (i : Int)] 3)).cell? ⟨w4.heap.size, 0, none⟩ = some (.int .i64 (i : Int))) := by
            show _ = _
            simp
          clear FIN x50 own0 hne ev hA0 HW4
          generalize (s.A.getD 0 nil_).2 = L0 at *
          go_wp2_with (at_builtin; refine listW (unhide OWN) (unhide NB) hw0 rfl (.tmp 74) (.tmp 76) rfl rfl rfl ?_)
          intro g5 cap5 w5 o5 g5' l5
          have k5 := (unhide CK w5 g5').1
          have k6 := (unhide CK w5 g5').2
          have R5 := hide (unhide FIN' _ w5 g5 cap5 (unhide GA) o5 g5' (by
            rcases l5 with q | q
            · exact .inl q
            · exact .inr (Nat.le_of_succ_le q)))
          clear o5 g5' l5 CK FIN' OWN NB
          have MV : Hid (s.ps.mvd i lost = false) := mvd_no (.inr (by show woN (opn (s.K.getD i zk).1 s.tk) (sw0 (s.K.getD i zk) lost) = 0; rw [unhide EK, show opn (S, p0, p1).1 s.tk = O from unhide HO, unhide HQ0]; exact (unhide HR).trans hR0))
          go_wp2_with fail
          obtain ⟨s', u5⟩ := unhide R5
          have F5 : Wat _ c s' ∧ Stp c s s' w _ ∧ s'.ps = s.ps.rew i lost ∧ Same (opn S s.tk) s s' := ⟨u5.1, (unhide S4).trans u5.2.1, u5.ps.trans (unhide E5), fun l _ _ => u5.2.2.2.2.2.2.2 _ (by omega)⟩
          go_ret
          rw [unhide MV]
          exact ⟨s', rfl, F5⟩
        · have r0 : ((R : Int) == 0) = false := by simp [hR0]
          have hRp : 0 < R := by omega
          have fs := fst_spec hRp (unhide RL)
          have CF := hide (fun w t => srt.first R w t hRp (unhide RL))
          have hOq : O.testBit (placeN (fstI R)) = true := by
            have := fs.2
            rw [← unhide HR, srt.woN_bit O q0 _ (unhide OL) k0, unhide HR, Bool.and_eq_true] at this
            exact this.1
          have hbq := unhide HW1 (fstI R) fs.1 hOq
          have E5 : Hid (PS.more { s.ps with K := s.K.set i (S, q0, fstI R) } (1 + placeN (fstI R)) (i : Int) = s.ps.rew i lost) := by
            show _ = _
            rw [rew_move (P := s.ps) (by show clsd (s.K.getD i zk).1 s.tk = false; rw [unhide EK]; exact unhide HCL) (by show opn (s.K.getD i zk).1 s.tk ≠ 0; rw [unhide EK]; rw [← unhide HO] at hO0; exact hO0) (by show woN (opn (s.K.getD i zk).1 s.tk) (sw0 (s.K.getD i zk) lost) ≠ 0; rw [unhide EK, show opn (S, p0, p1).1 s.tk = O from unhide HO, unhide HQ0, unhide HR]; exact hR0)]
            show _ = PS.more { s.ps with K := s.K.set i ((s.K.getD i zk).1, sw0 (s.K.getD i zk) lost, fstI (woN (opn (s.K.getD i zk).1 s.tk) (sw0 (s.K.getD i zk) lost))) } (1 + placeN (fstI (woN (opn (s.K.getD i zk).1 s.tk) (sw0 (s.K.getD i zk) lost)))) (i : Int)
            rw [unhide EK, show opn (S, p0, p1).1 s.tk = O from unhide HO, unhide HQ0, unhide HR]
          have MV : Hid (s.ps.mvd i lost = true) := mvd_yes (P := s.ps) (by show clsd (s.K.getD i zk).1 s.tk = false; rw [unhide EK]; exact unhide HCL) (by show opn (s.K.getD i zk).1 s.tk ≠ 0; rw [unhide EK]; rw [← unhide HO] at hO0; exact hO0) (by show woN (opn (s.K.getD i zk).1 s.tk) (sw0 (s.K.getD i zk) lost) ≠ 0; rw [unhide EK, show opn (S, p0, p1).1 s.tk = O from unhide HO, unhide HQ0, unhide HR]; exact hR0)
          have f2 := fz (i * 3 + 2)
          have K5 : Hid (Wat (w4.setCell ⟨g4, i * 3 + 2, none⟩ (.int .i8 (fstI R))) c { s with K := s.K.set i (S, q0, fstI R) } ∧ Stp c { s with K := swK s.K i lost } { s with K := s.K.set i (S, q0, fstI R) } w4 (w4.setCell ⟨g4, i * 3 + 2, none⟩ (.int .i8 (fstI R)))) := by
            refine (unhide HW4).setK (K' := s.K.set i (S, q0, fstI R)) (unhide EV4) ?_ (by show (s.K.set i _).length = (swK s.K i lost).length; rw [List.length_set]; exact (unhide L3).symm)
            show (rowsK (swK s.K i lost)).set (i * 3 + 2) _ = _
            rw [rowsK_set2 _ i _ (unhide HI3), show (swK s.K i lost).getD i zk = (S, q0, q1) from unhide E3]
            unfold swK
            rw [List.set_set]
          have TD := hide ((unhide T4).1.kept (cf.grown_drew w4 none))
          clear HW4 fz HW1 E3 HQ0 HR
          generalize hy : fstI R = y at *
          go_wp2_with fail
          go_region_law (first
            | (go_simp; go_at_call 91; refine (unhide CF _ (unhide TD)).mono ?_; rintro e w5 ⟨rfl, hw⟩; have hw' := hw.symm; clear hw; subst hw'))
          all_goals
            have K6 : Hid (Wat (w4.setCell ⟨g4, i * 3 + 2, none⟩ (.int .i8 y)).drew c { s with K := s.K.set i (S, q0, y) } ∧ Stp c s { s with K := s.K.set i (S, q0, y) } w (w4.setCell ⟨g4, i * 3 + 2, none⟩ (.int .i8 y)).drew) :=
              ⟨(unhide K5).1.kept (cf.grown_drew _ none), (unhide S4).trans ((unhide K5).2.trans (Stp.of_grown (cf.grown_drew _ none)))⟩
            have CWa := hide (watch (i := (i : Int)) (x := y) (unhide K6).1 fs.1 hbq)
            have r2 := ((unhide K6).1.row (i := i) (by show i < (s.K.set i _).length; rw [List.length_set]; exact unhide HI))
            obtain ⟨g7, cap7, eV7, _, _, d0, d1, d2, _⟩ := r2
            have eg : g7 = g4 := by
              have : s.V = .slice (some ⟨g7, 0, none⟩) _ cap7 := eV7
              rw [unhide EV] at this
              simp only [Value.slice.injEq, Option.some.injEq, Addr.mk.injEq, and_true] at this
              exact this.1.symm
            subst eg
            have ed : ({ s with K := s.K.set i (S, q0, y) } : WS).K.getD i zk = (S, q0, y) := set_getD (unhide HI) _
            rw [ed] at d2
            clear eV7 d0 d1 ed K5 c1 c2
            go_wp2_with fail
            refine (unhide CWa).mono ?_; rintro e w8 ⟨s8, rfl, u8⟩
            have F8 : Hid (Wat w8 c s8 ∧ Stp c s s8 w w8 ∧ s8.ps = s.ps.rew i lost ∧ Same (opn S s.tk) s s8) := ⟨u8.1, (unhide K6).2.trans u8.2.1, u8.ps.trans (unhide E5), fun l hl' hb => u8.2.2.2.2.2.2.2 _ (fun e => by
              have e' : placeN l = placeN y := by omega
              rw [unhide HO, e', hOq] at hb
              cases hb)⟩
            clear u8 CWa
            go_wp2_with fail
            go_ret
            rw [unhide MV]
            exact ⟨s8, rfl, unhide F8⟩
  · have CC := hide cc
    have E := hide (rew_closed (P := s.ps) (i := i) (lost := lost) (by show clsd (s.K.getD i zk).1 s.tk = true; rw [ek]; exact hcl))
    have MV : Hid (s.ps.mvd i lost = false) := mvd_closed (P := s.ps) (by show clsd (s.K.getD i zk).1 s.tk = true; rw [ek]; exact hcl)
    have HW := hide h
    rw [hcl] at CC
    clear cc hw1 hS hT h hcl ek
    go_enter Tryd.func200, Tryd.ntmps200
    go_wp2_with fail
    refine (unhide CC).mono ?_; rintro e w2 ⟨rfl, m2, rfl⟩
    go_wp2_with fail
    go_ret
    rw [unhide MV]
    exact ⟨s, rfl, (unhide HW).kept (grown_drewN w m2), Stp.of_grown (grown_drewN w m2), (unhide E).symm, fun _ _ _ => rfl⟩
end Go.Proofs.YtheigbmkldlicaaDoor.wm
