/- What rewatch of the program's watcher does; no condition but that the clause is there, its literals are some, and on sizes. A list of the watcher written in its own row, one number more where there is room, a row cut short; no condition but on sizes. What lose of the program's watcher does: the list of a lost literal keeps the clauses that are watched by it still; no condition but on the words, the literals and the sizes. What take of the program's watcher does; no condition but on the words, the literals and the sizes. What unit of the program's watcher answers and does; no condition but on the words, the literals and the sizes. What unit of the program's watcher answers and does: the walk; no condition but on the words, the literals and the sizes. Plain mathematics of the watcher: what holds of it while literals are taken, and that it tells the first clause that is single; no condition. Plain mathematics of the watcher: what holds of it is kept by rewatch, and by taking up the next literal; no condition. Plain mathematics of the watcher: what unit answers is the literal of the first clause that is single; forcing; no condition. What force of the program's watcher answers; no condition but on the sizes. What add of the program's watcher and watcherOf do; no condition but on the words and the sizes. What watcherOf makes of clauses: a watcher that has taken nothing; no condition but on the sizes. What the program's Unit and Force answer at every formula that holds at most 2^20 values and every list of at most 2^20 numbers, where the library's table of places lies as its text lays it. Unit, Force and Leaves of the program beside the model's. -/
import Derived.Test.YtloenjaonkdlaaaDoorWw
import Derived.ArgAppend
import Derived.Test.YtloenjaonkdlaaaDoorTw
import Derived.WalkMore
import Derived.Test.YtloenjaonkdlaaaDoorLv
import Derived.Deep.RegionHeld3
namespace Go.Proofs.YtloenjaonkdlaaaDoor.wm
open Go.ChangeShapes Go.WideShapes Go.ChangeAt Go.RowKit
open Go.Proofs.YtloenjaonkdlaaaDoor.wm0 (end0 ret0 stepW listW listB)
open Go.Proofs.YtloenjaonkdlaaaDoor.lits (okB okB_iff)
open Go.Proofs.YtloenjaonkdlaaaDoor.bset (placeN placeN_le placeC)
open Go.Proofs.YtloenjaonkdlaaaDoor.srt (Tab woN woN_lt fstI oppN oppN_lt andN andN_lt)
open Go.Proofs.YtloenjaonkdlaaaDoor.sl (Sl Own ints hide unhide ret_int ret_bool grown_refl grown_trans grown_drewN)
set_option linter.unusedVariables false

theorem rowsK_len (K : List (Nat × Int × Int)) : (rowsK K).length = K.length * 3 := by
  induction K with
  | nil => rfl
  | cons k l ih =>
    have e : rowsK (k :: l) = .int .u64 (k.1 : Int) :: .int .i8 k.2.1 :: .int .i8 k.2.2 :: rowsK l := rfl
    rw [e]
    simp only [List.length_cons, ih]
    omega
theorem rowsK_set1 (K : List (Nat × Int × Int)) (i : Nat) (a : Int) (h : i < K.length) : (rowsK K).set (i * 3 + 1) (.int .i8 a) = rowsK (K.set i ((K.getD i zk).1, a, (K.getD i zk).2.2)) := by
  induction K generalizing i with
  | nil => simp at h
  | cons k l ih =>
    have e : ∀ k l, rowsK (k :: l) = .int .u64 (k.1 : Int) :: .int .i8 k.2.1 :: .int .i8 k.2.2 :: rowsK l := fun _ _ => rfl
    cases i with
    | zero => rfl
    | succ i =>
      rw [List.set_cons_succ, e, e, show (i + 1) * 3 + 1 = i * 3 + 1 + 1 + 1 + 1 by omega, List.set_cons_succ, List.set_cons_succ, List.set_cons_succ, ih i (by simpa using h)]
      rfl
theorem rowsK_set2 (K : List (Nat × Int × Int)) (i : Nat) (a : Int) (h : i < K.length) : (rowsK K).set (i * 3 + 2) (.int .i8 a) = rowsK (K.set i ((K.getD i zk).1, (K.getD i zk).2.1, a)) := by
  induction K generalizing i with
  | nil => simp at h
  | cons k l ih =>
    have e : ∀ k l, rowsK (k :: l) = .int .u64 (k.1 : Int) :: .int .i8 k.2.1 :: .int .i8 k.2.2 :: rowsK l := fun _ _ => rfl
    cases i with
    | zero => rfl
    | succ i =>
      rw [List.set_cons_succ, e, e, show (i + 1) * 3 + 2 = i * 3 + 2 + 1 + 1 + 1 by omega, List.set_cons_succ, List.set_cons_succ, List.set_cons_succ, ih i (by simpa using h)]
      rfl
/-- a cell of the clauses' row is written -/
theorem Wat.setK {w : World} {c g cap j : Nat} {s : WS} {u : Value} {K' : List (Nat × Int × Int)} (h : Wat w c s) (hV : s.V = .slice (some ⟨g, 0, none⟩) s.K.length cap) (hK : (rowsK s.K).set j u = rowsK K') (hl : K'.length = s.K.length) :
    Wat (w.setCell ⟨g, j, none⟩ u) c { s with K := K' } ∧ Stp c s { s with K := K' } w (w.setCell ⟨g, j, none⟩ u) := by
  have gg := sl.grown_setCell w g j u
  have hcl := h.cl
  rw [hV] at hcl
  have hb : (Value.slice (some ⟨g, 0, none⟩) s.K.length cap).ownBlock = some g := rfl
  have ho : s.V.ownBlock = some g := by rw [hV]; rfl
  have hgc : g ≠ c := by
    rcases row_nec h.cl h.blk types1 with q | q
    · rw [ho] at q; cases q
    · intro e; exact q (by rw [ho, e])
  refine ⟨⟨?_, h.len, ?_, fun p hp => (h.ls p hp).kept gg ?_, h.ap⟩, ⟨gg.os, gg.tape, gg.output, gg.size, fun k hk hn => gg.block k hk (fun e => hn (.inr (.inl (by rw [ho]; exact e.symm)))), fun k f => .inl f⟩⟩
  · show (w.setCell ⟨g, j, none⟩ u).heap[c]? = some (Obj.cells s.cells.toArray _ _)
    rw [gg.block c h.lt (fun e => hgc (by cases e; rfl))]
    exact h.blk
  · show (w.setCell ⟨g, j, none⟩ u).ownsRow 0 _ 3 s.V K'.length (rowsK K')
    rw [hV, hl, ← hK]
    exact (hcl.stored j u).1
  · rcases row_ne (h.ls p hp) h.cl (fun e => types3 e.symm) with q | q
    · exact .inl q
    · rw [ho] at q
      exact .inr q
theorem set_getD {K : List (Nat × Int × Int)} {i : Nat} (h : i < K.length) (k : Nat × Int × Int) : (K.set i k).getD i zk = k := by simp [h]
/-- the two that a clause is watched by, the lost one last -/
def sw0 (k : Nat × Int × Int) (lost : Int) : Int := if k.2.1 = lost then k.2.2 else k.2.1
def sw1 (k : Nat × Int × Int) (lost : Int) : Int := if k.2.1 = lost then k.2.1 else k.2.2
def swK (K : List (Nat × Int × Int)) (i : Nat) (lost : Int) : List (Nat × Int × Int) := K.set i ((K.getD i zk).1, sw0 (K.getD i zk) lost, sw1 (K.getD i zk) lost)
theorem self_set {K : List (Nat × Int × Int)} {i : Nat} (h : i < K.length) : K.set i (K.getD i zk) = K := by
  rw [show K.getD i zk = K[i] by simp [h]]
  exact List.set_getElem_self h
theorem swK_no {K : List (Nat × Int × Int)} {i : Nat} {lost : Int} (h : i < K.length) (hn : (K.getD i zk).2.1 ≠ lost) : swK K i lost = K := by
  unfold swK sw0 sw1
  rw [if_neg hn, if_neg hn]
  exact self_set h
theorem Wat.swap {w : World} {c g cap i : Nat} {s : WS} {lost : Int} (h : Wat w c s) (hi : i < s.K.length) (hV : s.V = .slice (some ⟨g, 0, none⟩) s.K.length cap) (hp : (s.K.getD i zk).2.1 = lost) :
    (Wat ((w.setCell ⟨g, i * 3 + 1, none⟩ (.int .i8 (s.K.getD i zk).2.2)).setCell ⟨g, i * 3 + 2, none⟩ (.int .i8 (s.K.getD i zk).2.1)) c { s with K := swK s.K i lost } ∧ Stp c s { s with K := swK s.K i lost } w ((w.setCell ⟨g, i * 3 + 1, none⟩ (.int .i8 (s.K.getD i zk).2.2)).setCell ⟨g, i * 3 + 2, none⟩ (.int .i8 (s.K.getD i zk).2.1))) ∧
    (Wat ((w.setCell ⟨g, i * 3 + 2, none⟩ (.int .i8 (s.K.getD i zk).2.1)).setCell ⟨g, i * 3 + 1, none⟩ (.int .i8 (s.K.getD i zk).2.2)) c { s with K := swK s.K i lost } ∧ Stp c s { s with K := swK s.K i lost } w ((w.setCell ⟨g, i * 3 + 2, none⟩ (.int .i8 (s.K.getD i zk).2.1)).setCell ⟨g, i * 3 + 1, none⟩ (.int .i8 (s.K.getD i zk).2.2))) := by
  have e : swK s.K i lost = s.K.set i ((s.K.getD i zk).1, (s.K.getD i zk).2.2, (s.K.getD i zk).2.1) := by
    unfold swK sw0 sw1
    rw [if_pos hp, if_pos hp]
  constructor
  · have a := h.setK (K' := s.K.set i ((s.K.getD i zk).1, (s.K.getD i zk).2.2, (s.K.getD i zk).2.2)) hV (rowsK_set1 s.K i _ hi) (by simp)
    have b := a.1.setK (cap := cap) (g := g) (j := i * 3 + 2) (u := .int .i8 (s.K.getD i zk).2.1) (K' := swK s.K i lost) (by show s.V = _; rw [hV]; simp) (by
      show (rowsK (s.K.set i _)).set _ _ = _
      rw [rowsK_set2 _ i _ (by simpa using hi), set_getD hi, e]
      simp) (by rw [e]; simp)
    exact ⟨b.1, a.2.trans b.2⟩
  · have a := h.setK (K' := s.K.set i ((s.K.getD i zk).1, (s.K.getD i zk).2.1, (s.K.getD i zk).2.1)) hV (rowsK_set2 s.K i _ hi) (by simp)
    have b := a.1.setK (cap := cap) (g := g) (j := i * 3 + 1) (u := .int .i8 (s.K.getD i zk).2.2) (K' := swK s.K i lost) (by show s.V = _; rw [hV]; simp) (by
      show (rowsK (s.K.set i _)).set _ _ = _
      rw [rowsK_set1 _ i _ (by simpa using hi), set_getD hi, e]
      simp) (by rw [e]; simp)
    exact ⟨b.1, a.2.trans b.2⟩

/-- what a watcher says, wherever it lies -/
structure PS where
  K : List (Nat × Int × Int)
  A : List (List Int)
  tk : Nat
  em : Bool
  ho : Bool
def WS.ps (s : WS) : PS := ⟨s.K, s.A.map (·.2), s.tk, s.em, s.ho⟩
def PS.more (P : PS) (j : Nat) (y : Int) : PS := { P with A := P.A.set j (P.A.getD j [] ++ [y]) }
theorem Upd.ps {c j : Nat} {s s' : WS} {y : Int} {w w' : World} (h : Upd c s s' j y w w') : s'.ps = s.ps.more j y := by
  obtain ⟨_, _, _, hK, ht, ⟨he, hh⟩, hA, _⟩ := h
  unfold WS.ps PS.more
  rw [hK, ht, he, hh, hA]
/-- what rewatch makes of it -/
def PS.rew (P : PS) (i : Nat) (lost : Int) : PS :=
  if clsd (P.K.getD i zk).1 P.tk then P
  else if opn (P.K.getD i zk).1 P.tk = 0 then { P with K := swK P.K i lost, em := true }
  else if woN (opn (P.K.getD i zk).1 P.tk) (sw0 (P.K.getD i zk) lost) = 0 then PS.more { P with K := swK P.K i lost } 0 (i : Int)
  else PS.more { P with K := P.K.set i ((P.K.getD i zk).1, sw0 (P.K.getD i zk) lost, fstI (woN (opn (P.K.getD i zk).1 P.tk) (sw0 (P.K.getD i zk) lost))) } (1 + placeN (fstI (woN (opn (P.K.getD i zk).1 P.tk) (sw0 (P.K.getD i zk) lost)))) (i : Int)
/-- whether rewatch finds another literal -/
def PS.mvd (P : PS) (i : Nat) (lost : Int) : Bool := !(clsd (P.K.getD i zk).1 P.tk) && decide (opn (P.K.getD i zk).1 P.tk ≠ 0 ∧ woN (opn (P.K.getD i zk).1 P.tk) (sw0 (P.K.getD i zk) lost) ≠ 0)
theorem mvd_closed {P : PS} {i : Nat} {lost : Int} (h : clsd (P.K.getD i zk).1 P.tk = true) : P.mvd i lost = false := by
  unfold PS.mvd
  rw [h]
  rfl
theorem mvd_no {P : PS} {i : Nat} {lost : Int} (h : opn (P.K.getD i zk).1 P.tk = 0 ∨ woN (opn (P.K.getD i zk).1 P.tk) (sw0 (P.K.getD i zk) lost) = 0) : P.mvd i lost = false := by
  unfold PS.mvd
  rw [decide_eq_false (fun k => by rcases h with h | h; exact k.1 h; exact k.2 h), Bool.and_false]
theorem mvd_yes {P : PS} {i : Nat} {lost : Int} (h : clsd (P.K.getD i zk).1 P.tk = false) (ho : opn (P.K.getD i zk).1 P.tk ≠ 0) (hr : woN (opn (P.K.getD i zk).1 P.tk) (sw0 (P.K.getD i zk) lost) ≠ 0) : P.mvd i lost = true := by
  unfold PS.mvd
  rw [h, decide_eq_true ⟨ho, hr⟩]
  rfl
theorem swK_at {K : List (Nat × Int × Int)} {i : Nat} {lost : Int} (h : i < K.length) : (swK K i lost).getD i zk = ((K.getD i zk).1, sw0 (K.getD i zk) lost, sw1 (K.getD i zk) lost) := set_getD h _
theorem swK_len (K : List (Nat × Int × Int)) (i : Nat) (lost : Int) : (swK K i lost).length = K.length := by unfold swK; simp

theorem rew_closed {P : PS} {i : Nat} {lost : Int} (h : clsd (P.K.getD i zk).1 P.tk = true) : P.rew i lost = P := by
  unfold PS.rew
  rw [if_pos h]
theorem rew_empty {P : PS} {i : Nat} {lost : Int} (h : clsd (P.K.getD i zk).1 P.tk = false) (ho : opn (P.K.getD i zk).1 P.tk = 0) : P.rew i lost = { P with K := swK P.K i lost, em := true } := by
  unfold PS.rew
  rw [if_neg (by rw [h]; simp), if_pos ho]
theorem rew_wait {P : PS} {i : Nat} {lost : Int} (h : clsd (P.K.getD i zk).1 P.tk = false) (ho : opn (P.K.getD i zk).1 P.tk ≠ 0) (hr : woN (opn (P.K.getD i zk).1 P.tk) (sw0 (P.K.getD i zk) lost) = 0) : P.rew i lost = PS.more { P with K := swK P.K i lost } 0 (i : Int) := by
  unfold PS.rew
  rw [if_neg (by rw [h]; simp), if_neg ho, if_pos hr]
theorem rew_move {P : PS} {i : Nat} {lost : Int} (h : clsd (P.K.getD i zk).1 P.tk = false) (ho : opn (P.K.getD i zk).1 P.tk ≠ 0) (hr : woN (opn (P.K.getD i zk).1 P.tk) (sw0 (P.K.getD i zk) lost) ≠ 0) :
    P.rew i lost = PS.more { P with K := P.K.set i ((P.K.getD i zk).1, sw0 (P.K.getD i zk) lost, fstI (woN (opn (P.K.getD i zk).1 P.tk) (sw0 (P.K.getD i zk) lost))) } (1 + placeN (fstI (woN (opn (P.K.getD i zk).1 P.tk) (sw0 (P.K.getD i zk) lost)))) (i : Int) := by
  unfold PS.rew
  rw [if_neg (by rw [h]; simp), if_neg ho, if_neg hr]
theorem swap_at {w : World} {c g cap i S : Nat} {s : WS} {lost p0 p1 : Int} (h : Wat w c s) (hi : i < s.K.length) (hV : s.V = .slice (some ⟨g, 0, none⟩) s.K.length cap) (ek : s.K.getD i zk = (S, p0, p1)) (hp : p0 = lost) :
    (Wat ((w.setCell ⟨g, i * 3 + 1, none⟩ (.int .i8 p1)).setCell ⟨g, i * 3 + 2, none⟩ (.int .i8 p0)) c { s with K := swK s.K i lost } ∧ Stp c s { s with K := swK s.K i lost } w ((w.setCell ⟨g, i * 3 + 1, none⟩ (.int .i8 p1)).setCell ⟨g, i * 3 + 2, none⟩ (.int .i8 p0))) ∧
    (Wat ((w.setCell ⟨g, i * 3 + 2, none⟩ (.int .i8 p0)).setCell ⟨g, i * 3 + 1, none⟩ (.int .i8 p1)) c { s with K := swK s.K i lost } ∧ Stp c s { s with K := swK s.K i lost } w ((w.setCell ⟨g, i * 3 + 2, none⟩ (.int .i8 p0)).setCell ⟨g, i * 3 + 1, none⟩ (.int .i8 p1))) := by
  have := h.swap hi hV (lost := lost) (by rw [ek]; exact hp)
  rw [ek] at this
  exact this
/-- the library's table, apart from the watcher -/
def TabF (c : Nat) (s : WS) (w : World) : Prop := Tab w ∧ ¬ Foot c s 1
theorem tab_lt {w : World} (h : Tab w) : (1 : Nat) < w.heap.size := World.block_lt_of_cell? w _ (h 0 (by decide))
theorem TabF.stp {c : Nat} {s s' : WS} {w w' : World} (h : TabF c s w) (k : Stp c s s' w w') : TabF c s' w' := by
  have hl := tab_lt h.1
  refine ⟨fun j hj => ?_, fun f => ?_⟩
  · rw [← h.1 j hj]
    exact World.cell?_of_block (a := ⟨1, j, none⟩) (k.block _ hl h.2)
  · rcases k.foot _ f with q | q
    · exact h.2 q
    · omega
/-- the lists of literals that are not open stay -/
def Same (O : Nat) (s s' : WS) : Prop := ∀ l, okB l = true → O.testBit (placeN l) = false → s'.A.getD (1 + placeN l) nil_ = s.A.getD (1 + placeN l) nil_
/-- the first part: the lost one is put last -/
def Swp (c : Nat) (s : WS) (i : Nat) (lost : Int) (w wx : World) : Prop := Wat wx c { s with K := swK s.K i lost } ∧ Stp c s { s with K := swK s.K i lost } w wx

set_option maxRecDepth 100000 in
set_option maxHeartbeats 8000000 in
theorem rewatch {w : World} {c i S : Nat} {s : WS} {lost p0 p1 : Int} (h : Wat w c s) (hTab : TabF c s w) (hi : i < s.K.length) (hl : s.K.length ≤ 1048576) (ek : s.K.getD i zk = (S, p0, p1)) (hS : S < 2 ^ 48) (hT : s.tk < 2 ^ 48)
    (ho : okB lost = true) (h0 : okB p0 = true) (h1 : okB p1 = true)
    (hw0 : (s.A.getD 0 nil_).2.length ≤ 4194304) (hw1 : ∀ q, okB q = true → (opn S s.tk).testBit (placeN q) = true → (s.A.getD (1 + placeN q) nil_).2.length ≤ 4194304) :
    Calls Tryd.prog 177 #[.pointer (some ⟨c, 0, none⟩), .int .i64 (i : Int), .int .i8 lost] w fun e w' => ∃ s', e = .returned (.bool (s.ps.mvd i lost)) ∧ Wat w' c s' ∧ Stp c s s' w w' ∧ s'.ps = s.ps.rew i lost ∧ Same (opn S s.tk) s s' := by
  have cc := closed h hi hl (by rw [ek]; exact hS) hT
  rw [ek] at cc
  have EK := hide ek
  cases hcl : clsd S s.tk
  · have cc' : Calls Tryd.prog 129 #[.pointer (some ⟨c, 0, none⟩), .int .i64 (i : Int)] w fun e w' => e = .returned (.bool false) ∧ ∃ m, w' = w.drewN m := by
      have := cc
      simp only [hcl] at this
      exact this
    have CC := hide cc'
    have HCL := hide hcl
    have HWW := hide h
    have HI := hide hi
    have HW1 := hide hw1
    clear cc cc' hcl h hw1 ek
    go_enter Tryd.func177, Tryd.ntmps177
    have hi' : (i : Int) < (s.K.length : Int) := by omega
    clear hi
    go_wp2_with fail
    refine (unhide CC).mono ?_; rintro e w2 ⟨rfl, m2, rfl⟩
    have W2 := (unhide HWW).kept (grown_drewN w m2)
    obtain ⟨g, cap, eV, hg, hc, c0, c1, c2, fz⟩ := W2.row (unhide HI)
    rw [unhide EK] at c0 c1 c2
    have x0 := W2.cell (k := 0) (by decide)
    rw [at0, eV] at x0
    have HW := hide W2
    have ST := hide (Stp.of_grown (c := c) (s := s) (grown_drewN w m2))
    have TB := hide (hTab.stp (Stp.of_grown (grown_drewN w m2)))
    have EV := hide eV
    clear CC W2 HWW eV hTab
    generalize w.drewN m2 = w2 at *
    go_upto_if 25 with fail
    clear x0 c0
    have WY := hide (fun (e : p0 = lost) => swap_at (unhide HW) (unhide HI) (unhide EV) (unhide EK) e)
    have f1 := fz (i * 3 + 1)
    have f2 := fz (i * 3 + 2)
    have WN : Hid (p0 ≠ lost → Swp c s i lost w2 w2) := by
      intro hne
      unfold Swp
      rw [swK_no (unhide HI) (by rw [unhide EK]; exact hne)]
      exact ⟨unhide HW, Stp.refl _ _ _⟩
    clear fz
    go_cut [] (fun wx => Hid (Swp c s i lost w2 wx))
    case first =>
      by_cases hp : p0 = lost
      · have hp' : (p0 == lost) = true := by simpa using hp
        have wz := (unhide WY hp).1
        have WZ : Hid (Swp c s i lost w2 ((w2.setCell ⟨g, i * 3 + 1, none⟩ (.int .i8 p1)).setCell ⟨g, i * 3 + 2, none⟩ (.int .i8 p0)).drew) :=
          ⟨wz.1.kept (cf.grown_drew _ none), wz.2.trans (Stp.of_grown (cf.grown_drew _ none))⟩
        clear WN WY hp wz
        go_wp2_with fail
        go_region
        go_wp2_with fail
        go_meet
        exact WZ
      · have hp' : (p0 == lost) = false := by simpa using hp
        have WZ := hide (unhide WN hp)
        clear WN WY hp
        go_wp2_with fail
        go_meet
        exact WZ
    case rest =>
      clear WY WN c1 c2 f1 f2 HW
      have hcut' := unhide hcut
      clear hcut
      obtain ⟨W3, S3⟩ := hcut'
      have T3 := hide ((unhide TB).stp S3)
      have SS := hide ((unhide ST).trans S3)
      have e3 : (swK s.K i lost).getD i zk = (S, sw0 (S, p0, p1) lost, sw1 (S, p0, p1) lost) := by rw [swK_at (unhide HI), unhide EK]
      have l3 := swK_len s.K i lost
      have k0 : okB (sw0 (S, p0, p1) lost) = true := by
        unfold sw0
        split
        · exact h1
        · exact h0
      have k1 : okB (sw1 (S, p0, p1) lost) = true := by
        unfold sw1
        split
        · exact h0
        · exact h1
      have hi3 : i < ({ s with K := swK s.K i lost } : WS).K.length := by show i < (swK s.K i lost).length; rw [l3]; exact unhide HI
      have co := open_ W3 hi3 (by show (swK s.K i lost).length ≤ _; rw [l3]; exact hl) (by show ((swK s.K i lost).getD i zk).1 < _; rw [e3]; exact hS) hT
      have e3' : ({ s with K := swK s.K i lost } : WS).K.getD i zk = (S, sw0 (S, p0, p1) lost, sw1 (S, p0, p1) lost) := e3
      rw [e3'] at co
      have CO : Hid (Calls Tryd.prog 130 #[.pointer (some ⟨c, 0, none⟩), .int .i64 (i : Int)] wc fun e w' => e = .returned (.int .u64 (opn S s.tk : Nat)) ∧ ∃ m, w' = wc.drewN m) := co
      have HW3 := hide W3
      have OL : Hid (opn S s.tk < 2 ^ 48) := andN_lt _ _ hS
      have E3 := hide e3'
      have HI3 := hide hi3
      have L3 := hide l3
      clear W3 S3 co e3 e3' hi3 l3
      generalize hq0 : sw0 (S, p0, p1) lost = q0 at *
      generalize hq1 : sw1 (S, p0, p1) lost = q1 at *
      have HQ0 := hide hq0
      clear hq0 hq1
      generalize hO : opn S s.tk = O at *
      have HO := hide hO
      clear hO
      go_wp2_with fail
      refine (unhide CO).mono ?_; rintro e w4 ⟨rfl, m4, rfl⟩
      have W4 := (unhide HW3).kept (grown_drewN wc m4)
      obtain ⟨g4, cap4, eV4, hg4, hc4, c0, c1, c2, fz⟩ := W4.row (unhide HI3)
      have eg : g4 = g ∧ cap4 = cap := by
        have : s.V = .slice (some ⟨g4, 0, none⟩) _ cap4 := eV4
        rw [unhide EV] at this
        simp only [Value.slice.injEq, Option.some.injEq, Addr.mk.injEq, and_true] at this
        exact ⟨this.1.symm, this.2.2.symm⟩
      obtain ⟨rfl, rfl⟩ := eg
      rw [unhide E3] at c1 c2
      have HW4 := hide W4
      have S4 := hide ((unhide SS).trans (Stp.of_grown (grown_drewN wc m4)))
      have T4 := hide ((unhide T3).stp (Stp.of_grown (grown_drewN wc m4)))
      have EV4 := hide eV4
      clear CO W4 HW3 SS T3 c0 eV4
      generalize wc.drewN m4 = w4 at *
      have CW := hide (fun w => srt.without O q0 w (unhide OL) k0)
      have RL : Hid (woN O q0 < 2 ^ 48) := woN_lt (unhide OL)
      generalize hR : woN O q0 = R at *
      have HR := hide hR
      clear hR
      go_wp2_with fail
      refine (unhide CW _).mono ?_; rintro e w5 ⟨rfl, hw⟩; have hw' := hw.symm; clear hw; subst hw'
      clear CW
      by_cases hO0 : O = 0
      · have b0 : ((O : Int) == 0) = true := by simp [hO0]
        have fe := (unhide HW4).fz 51
        have k5 := (unhide HW4).setEm true
        have E5 : Hid (({ ({ s with K := swK s.K i lost } : WS) with em := true } : WS).ps = s.ps.rew i lost) := by
          show _ = _
          rw [rew_empty (P := s.ps) (by show clsd (s.K.getD i zk).1 s.tk = false; rw [unhide EK]; exact unhide HCL) (by show opn (s.K.getD i zk).1 s.tk = 0; rw [unhide EK]; exact (unhide HO).trans hO0)]
          rfl
        have R5 := hide (And.intro k5.1 ((unhide S4).trans k5.2))
        have x51 := (unhide HW4).cell (k := 51) (by decide)
        clear k5
        have MV : Hid (s.ps.mvd i lost = false) := mvd_no (.inl (by show opn (s.K.getD i zk).1 s.tk = 0; rw [unhide EK]; exact (unhide HO).trans hO0))
        go_wp2_with fail
        go_ret
        rw [unhide MV]
        exact ⟨_, rfl, (unhide R5).1, (unhide R5).2, unhide E5, fun _ _ _ => rfl⟩
      · have b0 : ((O : Int) == 0) = false := by simp [hO0]
        by_cases hR0 : R = 0
        · have r0 : ((R : Int) == 0) = true := by simp [hR0]
          have x50 := (unhide HW4).cell (k := 50) (by decide)
          have f50 := (unhide HW4).fz 50
          have hA0 : 0 < s.A.length := by rw [show s.A.length = 50 from (unhide HW4).len]; decide
          have own0 : w4.ownsRow 0 3 1 (s.A.getD 0 nil_).1 (s.A.getD 0 nil_).2.length (ints (s.A.getD 0 nil_).2) := (unhide HW4).ls _ (mem_getD (A := s.A) hA0)
          have hne := row_nec own0 (unhide HW4).blk types2
          have FIN := hide (fun (w0 w1 : World) (g cap : Nat) (g0 : w4.grownBy w0 none) => (unhide HW4).one (y := (i : Int)) (w0 := w0) (w1 := w1) (g := g) (cap := cap) (show 0 < 50 by decide) g0)
          have E5 : Hid (({ s with K := swK s.K i lost } : WS).ps.more 0 (i : Int) = s.ps.rew i lost) := by
            show _ = _
            rw [rew_wait (P := s.ps) (by show clsd (s.K.getD i zk).1 s.tk = false; rw [unhide EK]; exact unhide HCL) (by show opn (s.K.getD i zk).1 s.tk ≠ 0; rw [unhide EK]; rw [← unhide HO] at hO0; exact hO0) (by show woN (opn (s.K.getD i zk).1 s.tk) (sw0 (s.K.getD i zk) lost) = 0; rw [unhide EK, show opn (S, p0, p1).1 s.tk = O from unhide HO, unhide HQ0]; exact (unhide HR).trans hR0)]
            rfl
          have CK : Hid (∀ w1, (w4.alloc (.cells #[.int .i64 (i : Int)] 3)).grownBy w1 (s.A.getD 0 nil_).1.ownBlock → w1.cell? ⟨c, 50, none⟩ = some (s.A.getD 0 nil_).1 ∧ w1.frozen? ⟨c, 50, none⟩ = false) := by
            intro w1 g1
            have h0 := (unhide HW4).kept (World.grownBy_alloc w4 (.cells #[.int .i64 (i : Int)] 3) none)
            have e : w1.heap[c]? = (w4.alloc (.cells #[.int .i64 (i : Int)] 3)).heap[c]? := g1.block c h0.lt (fun e => by
              rcases hne with q | q
              · rw [q] at e; cases e
              · exact q e.symm)
            exact ⟨(World.cell?_of_block (a := ⟨c, 50, none⟩) e).trans (h0.cell (k := 50) (by decide)), (World.frozen?_of_block (a := ⟨c, 50, none⟩) e).trans (h0.fz _)⟩
          obtain ⟨va, vc, ev, _⟩ := Sl.of_own own0
          have x50' : w4.cell? ⟨c, 50, none⟩ = some (s.A.getD 0 nil_).1 := x50
          have FIN' : Hid (∀ (w0 w1 : World) (g cap : Nat), w4.grownBy w0 none → w1.ownsRow 0 3 1 (.slice (some ⟨g, 0, none⟩) ((s.A.getD 0 nil_).2.length + 1) cap) ((s.A.getD 0 nil_).2.length + 1) (ints (s.A.getD 0 nil_).2 ++ [.int .i64 (i : Int)]) → w0.grownBy w1 (s.A.getD 0 nil_).1.ownBlock → ((s.A.getD 0 nil_).1.ownBlock = some g ∨ w4.heap.size ≤ g) →
              ∃ s', Upd c { s with K := swK s.K i lost } s' 0 (i : Int) w4 (w1.setCell ⟨c, 50, none⟩ (.slice (some ⟨g, 0, none⟩) ((s.A.getD 0 nil_).2.length + 1) cap))) := unhide FIN
          rw [ev] at own0 x50' FIN' CK
          have GA := hide (World.grownBy_alloc w4 (.cells #[.int .i64 (i : Int)] 3) none)
          have OWN := hide (own0.kept (unhide GA) (ne_none _))
          have NB : Hid ((w4.alloc (.cells #[.int .i64 (i : Int)] 3)).cell? ⟨w4.heap.size, 0, none⟩ = some (.int .i64 (i : Int))) := by
            show _ = _
            simp
          clear FIN x50 own0 hne ev hA0 HW4
          generalize (s.A.getD 0 nil_).2 = L0 at *
          go_wp2_with (at_builtin; refine listW (unhide OWN) (unhide NB) hw0 rfl (.tmp 74) (.tmp 76) rfl rfl rfl ?_)
          intro g5 cap5 w5 o5 g5' l5
          have k5 := (unhide CK w5 g5').1
          have k6 := (unhide CK w5 g5').2
          have R5 := hide (unhide FIN' _ w5 g5 cap5 (unhide GA) o5 g5' (by
            rcases l5 with q | q
            · exact .inl q
            · exact .inr (Nat.le_of_succ_le q)))
          clear o5 g5' l5 CK FIN' OWN NB
          have MV : Hid (s.ps.mvd i lost = false) := mvd_no (.inr (by show woN (opn (s.K.getD i zk).1 s.tk) (sw0 (s.K.getD i zk) lost) = 0; rw [unhide EK, show opn (S, p0, p1).1 s.tk = O from unhide HO, unhide HQ0]; exact (unhide HR).trans hR0))
          go_wp2_with fail
          obtain ⟨s', u5⟩ := unhide R5
          have F5 : Wat _ c s' ∧ Stp c s s' w _ ∧ s'.ps = s.ps.rew i lost ∧ Same (opn S s.tk) s s' := ⟨u5.1, (unhide S4).trans u5.2.1, u5.ps.trans (unhide E5), fun l _ _ => u5.2.2.2.2.2.2.2 _ (by omega)⟩
          go_ret
          rw [unhide MV]
          exact ⟨s', rfl, F5⟩
        · have r0 : ((R : Int) == 0) = false := by simp [hR0]
          have hRp : 0 < R := by omega
          have fs := fst_spec hRp (unhide RL)
          have CF := hide (fun w t => srt.first R w t hRp (unhide RL))
          have hOq : O.testBit (placeN (fstI R)) = true := by
            have := fs.2
            rw [← unhide HR, srt.woN_bit O q0 _ (unhide OL) k0, unhide HR, Bool.and_eq_true] at this
            exact this.1
          have hbq := unhide HW1 (fstI R) fs.1 hOq
          have E5 : Hid (PS.more { s.ps with K := s.K.set i (S, q0, fstI R) } (1 + placeN (fstI R)) (i : Int) = s.ps.rew i lost) := by
            show _ = _
            rw [rew_move (P := s.ps) (by show clsd (s.K.getD i zk).1 s.tk = false; rw [unhide EK]; exact unhide HCL) (by show opn (s.K.getD i zk).1 s.tk ≠ 0; rw [unhide EK]; rw [← unhide HO] at hO0; exact hO0) (by show woN (opn (s.K.getD i zk).1 s.tk) (sw0 (s.K.getD i zk) lost) ≠ 0; rw [unhide EK, show opn (S, p0, p1).1 s.tk = O from unhide HO, unhide HQ0, unhide HR]; exact hR0)]
            show _ = PS.more { s.ps with K := s.K.set i ((s.K.getD i zk).1, sw0 (s.K.getD i zk) lost, fstI (woN (opn (s.K.getD i zk).1 s.tk) (sw0 (s.K.getD i zk) lost))) } (1 + placeN (fstI (woN (opn (s.K.getD i zk).1 s.tk) (sw0 (s.K.getD i zk) lost)))) (i : Int)
            rw [unhide EK, show opn (S, p0, p1).1 s.tk = O from unhide HO, unhide HQ0, unhide HR]
          have MV : Hid (s.ps.mvd i lost = true) := mvd_yes (P := s.ps) (by show clsd (s.K.getD i zk).1 s.tk = false; rw [unhide EK]; exact unhide HCL) (by show opn (s.K.getD i zk).1 s.tk ≠ 0; rw [unhide EK]; rw [← unhide HO] at hO0; exact hO0) (by show woN (opn (s.K.getD i zk).1 s.tk) (sw0 (s.K.getD i zk) lost) ≠ 0; rw [unhide EK, show opn (S, p0, p1).1 s.tk = O from unhide HO, unhide HQ0, unhide HR]; exact hR0)
          have f2 := fz (i * 3 + 2)
          have K5 : Hid (Wat (w4.setCell ⟨g4, i * 3 + 2, none⟩ (.int .i8 (fstI R))) c { s with K := s.K.set i (S, q0, fstI R) } ∧ Stp c { s with K := swK s.K i lost } { s with K := s.K.set i (S, q0, fstI R) } w4 (w4.setCell ⟨g4, i * 3 + 2, none⟩ (.int .i8 (fstI R)))) := by
            refine (unhide HW4).setK (K' := s.K.set i (S, q0, fstI R)) (unhide EV4) ?_ (by show (s.K.set i _).length = (swK s.K i lost).length; rw [List.length_set]; exact (unhide L3).symm)
            show (rowsK (swK s.K i lost)).set (i * 3 + 2) _ = _
            rw [rowsK_set2 _ i _ (unhide HI3), show (swK s.K i lost).getD i zk = (S, q0, q1) from unhide E3]
            unfold swK
            rw [List.set_set]
          have TD := hide ((unhide T4).1.kept (cf.grown_drew w4 none))
          clear HW4 fz HW1 E3 HQ0 HR
          generalize hy : fstI R = y at *
          go_wp2_with fail
          go_region_law (first
            | (go_simp; go_at_call 131; refine (unhide CF _ (unhide TD)).mono ?_; rintro e w5 ⟨rfl, hw⟩; have hw' := hw.symm; clear hw; subst hw'))
          all_goals
            have K6 : Hid (Wat (w4.setCell ⟨g4, i * 3 + 2, none⟩ (.int .i8 y)).drew c { s with K := s.K.set i (S, q0, y) } ∧ Stp c s { s with K := s.K.set i (S, q0, y) } w (w4.setCell ⟨g4, i * 3 + 2, none⟩ (.int .i8 y)).drew) :=
              ⟨(unhide K5).1.kept (cf.grown_drew _ none), (unhide S4).trans ((unhide K5).2.trans (Stp.of_grown (cf.grown_drew _ none)))⟩
            have CWa := hide (watch (i := (i : Int)) (x := y) (unhide K6).1 fs.1 hbq)
            have r2 := ((unhide K6).1.row (i := i) (by show i < (s.K.set i _).length; rw [List.length_set]; exact unhide HI))
            obtain ⟨g7, cap7, eV7, _, _, d0, d1, d2, _⟩ := r2
            have eg : g7 = g4 := by
              have : s.V = .slice (some ⟨g7, 0, none⟩) _ cap7 := eV7
              rw [unhide EV] at this
              simp only [Value.slice.injEq, Option.some.injEq, Addr.mk.injEq, and_true] at this
              exact this.1.symm
            subst eg
            have ed : ({ s with K := s.K.set i (S, q0, y) } : WS).K.getD i zk = (S, q0, y) := set_getD (unhide HI) _
            rw [ed] at d2
            clear eV7 d0 d1 ed K5 c1 c2
            go_wp2_with fail
            refine (unhide CWa).mono ?_; rintro e w8 ⟨s8, rfl, u8⟩
            have F8 : Hid (Wat w8 c s8 ∧ Stp c s s8 w w8 ∧ s8.ps = s.ps.rew i lost ∧ Same (opn S s.tk) s s8) := ⟨u8.1, (unhide K6).2.trans u8.2.1, u8.ps.trans (unhide E5), fun l hl' hb => u8.2.2.2.2.2.2.2 _ (fun e => by
              have e' : placeN l = placeN y := by omega
              rw [unhide HO, e', hOq] at hb
              cases hb)⟩
            clear u8 CWa
            go_wp2_with fail
            go_ret
            rw [unhide MV]
            exact ⟨s8, rfl, unhide F8⟩
  · have CC := hide cc
    have E := hide (rew_closed (P := s.ps) (i := i) (lost := lost) (by show clsd (s.K.getD i zk).1 s.tk = true; rw [ek]; exact hcl))
    have MV : Hid (s.ps.mvd i lost = false) := mvd_closed (P := s.ps) (by show clsd (s.K.getD i zk).1 s.tk = true; rw [ek]; exact hcl)
    have HW := hide h
    rw [hcl] at CC
    clear cc hw1 hS hT h hcl ek
    go_enter Tryd.func177, Tryd.ntmps177
    go_wp2_with fail
    refine (unhide CC).mono ?_; rintro e w2 ⟨rfl, m2, rfl⟩
    go_wp2_with fail
    go_ret
    rw [unhide MV]
    exact ⟨s, rfl, (unhide HW).kept (grown_drewN w m2), Stp.of_grown (grown_drewN w m2), (unhide E).symm, fun _ _ _ => rfl⟩
end Go.Proofs.YtloenjaonkdlaaaDoor.wm
namespace Go.Proofs.YtloenjaonkdlaaaDoor.wm
open Go.ChangeShapes Go.WideShapes Go.ChangeAt Go.RowKit
open Go.Proofs.YtloenjaonkdlaaaDoor.wm0 (end0 ret0 stepW listW listB)
open Go.Proofs.YtloenjaonkdlaaaDoor.lits (okB okB_iff)
open Go.Proofs.YtloenjaonkdlaaaDoor.bset (placeN placeN_le placeC)
open Go.Proofs.YtloenjaonkdlaaaDoor.srt (Tab woN woN_lt fstI oppN oppN_lt andN andN_lt orN_eq or_lt)
open Go.Proofs.YtloenjaonkdlaaaDoor.sl (Sl Own ints hide unhide ret_int ret_bool grown_refl grown_trans grown_drewN)
set_option linter.unusedVariables false

/-- one number more where there is room -/
theorem roomW {ops : Array Oper} {rest : List Oper} {o : Oper} {a : Act} {Q : Exit → Act → World → Prop} {wr : World} {g m cap b : Nat} {y : Int}
    (hb : wr.cell? ⟨b, 0, none⟩ = some (.int .i64 y)) (hroom : m + 1 ≤ cap) (hso : (wr.cell? ⟨g, m, none⟩).isSome = true) (hf : wr.frozen? ⟨g, m, none⟩ = false) (hgd : o.guard = none) (s x : Operand)
    (ho : o.op = .call { callee := .builtin .append, args := #[s, x], argTypes := #[24, 24] }) (hs : a.eval s = .slice (some ⟨g, 0, none⟩) m cap) (hx : a.eval x = .slice (some ⟨b, 0, none⟩) 1 1)
    (hK : wpList Tryd.prog ops Q rest (a.put o.dst (.slice (some ⟨g, 0, none⟩) (m + 1) cap)) (wr.setCell ⟨g, m, none⟩ (.int .i64 y))) :
    wpList Tryd.prog ops Q (o :: rest) a wr := by
  obtain ⟨i0, hi, hz0, hz1, hz2⟩ := info_parts sl.info3
  refine wpList_plain hgd fun K hK' => ?_
  have hrun := run_append_room_cells (P := Tryd.prog) wr 24 o.type 3 i0 Tryd.underlying24 hi g 0 m cap ⟨b, 0, none⟩ 1 1 [.int .i64 y] (by rw [hz1]; rfl) (by
    intro j u hj
    match j, hj with
    | 0, hj => simp at hj; subst hj; simpa [Addr.add] using hb) (by
    intro u hu
    simp at hu
    subst hu
    rfl) hroom (by
    intro j hj
    have : j = 0 := by simpa using hj
    subst this
    rw [hz1]
    simpa using hso) (by
    intro j hj
    have : j = 0 := by simpa using hj
    subst this
    rw [hz1]
    simpa using hf)
  unfold Oper.wp
  simp [execOp, ho, resolve, invoke, builtin, hs, hx, hrun, Result.andThen]
  refine hK' _ _ ?_
  rw [hz1, Nat.mul_one]
  exact hK
/-- a list is written in its own row -/
theorem Wat.rowj {w w0 : World} {c g n cap k j : Nat} {s : WS} {C C' : List Int} {u : Value} (h : Wat w c s) (hj : j < 50) (e : s.A.getD j nil_ = (.slice (some ⟨g, 0, none⟩) n cap, C)) (g0 : w.grownBy w0 none) (hn : C.length = n) (hC : C'.length = n) (hset : (ints C).set k u = ints C') :
    Wat (w0.setCell ⟨g, k, none⟩ u) c { s with A := s.A.set j (.slice (some ⟨g, 0, none⟩) n cap, C') } ∧ Stp c s { s with A := s.A.set j (.slice (some ⟨g, 0, none⟩) n cap, C') } w (w0.setCell ⟨g, k, none⟩ u) := by
  have hjl : j < s.A.length := by rw [h.len]; exact hj
  have h0 := h.kept g0
  have hown := h0.ls _ (mem_getD hjl)
  have hnc := row_nec hown h0.blk types2
  rw [e] at hown hnc
  have gg := sl.grown_setCell w0 g k u
  have hgc : g ≠ c := by
    rcases hnc with q | q
    · cases q
    · intro e'; subst e'; exact q rfl
  have hown' : w0.ownsRow 0 3 1 (.slice (some ⟨g, 0, none⟩) n cap) n (ints C) := by rw [← hn] at hown ⊢; exact hown
  have hst := (hown'.stored k u).1
  rw [hset] at hst
  have hob : (s.A.getD j nil_).1.ownBlock = some g := by rw [e]; rfl
  have ea : ∀ q, ((s.A.set j (Value.slice (some ⟨g, 0, none⟩) n cap, C')).getD q nil_).1 = (s.A.getD q nil_).1 := by
    intro q
    by_cases hq : q = j
    · subst hq
      rw [e]
      simp [hjl]
    · rw [List.getD, List.getElem?_set_ne (fun e => hq e.symm)]
      rfl
  have eg : ∀ q (hq : q < (s.A.set j (Value.slice (some ⟨g, 0, none⟩) n cap, C')).length) (hq' : q < s.A.length), ((s.A.set j (Value.slice (some ⟨g, 0, none⟩) n cap, C'))[q]).1 = (s.A[q]).1 := by
    intro q hq hq'
    have := ea q
    rw [List.getD, List.getD, List.getElem?_eq_getElem hq, List.getElem?_eq_getElem hq'] at this
    exact this
  refine ⟨⟨?_, by rw [List.length_set]; exact h.len, ?_, ?_, ?_⟩, ⟨gg.os.trans g0.os, gg.tape.trans g0.tape, gg.output.trans g0.output, Nat.le_trans g0.size gg.size, ?_, ?_⟩⟩
  · have ec : ({ s with A := s.A.set j (.slice (some ⟨g, 0, none⟩) n cap, C') } : WS).cells = s.cells := by
      unfold WS.cells
      apply List.map_congr_left
      intro q _
      unfold WS.at
      simp only [ea]
    rw [ec, gg.block c h0.lt (fun e => hgc (by cases e; rfl))]
    exact h0.blk
  · exact h0.cl.kept gg (by
      rcases row_ne h0.cl (h0.ls _ (mem_getD hjl)) types3 with q | q
      · exact .inl q
      · rw [hob] at q
        exact .inr q)
  · intro p hp
    obtain ⟨i, hi, rfl⟩ := List.mem_iff_getElem.1 hp
    rw [List.length_set] at hi
    rw [List.getElem_set]
    by_cases e0 : j = i
    · rw [if_pos e0]
      show (w0.setCell ⟨g, k, none⟩ u).ownsRow 0 3 1 (.slice (some ⟨g, 0, none⟩) n cap) C'.length (ints C')
      rw [hC]
      exact hst
    · rw [if_neg e0]
      have hr := h0.ls _ (mem_getD hi)
      have ha := apart_of h.ap hi hjl (fun q => e0 q.symm)
      rw [show s.A.getD i nil_ = s.A[i] by simp [hi]] at hr ha
      exact hr.kept gg (by
        cases q : (s.A[i]).1.ownBlock with
        | none => exact .inl rfl
        | some g' => exact .inr (fun e => ha g' q (by rw [hob]; exact e.symm)))
  · rw [List.pairwise_iff_getElem]
    intro a b ha hb hab
    have ha' := ha
    have hb' := hb
    rw [List.length_set] at ha' hb'
    have key := List.pairwise_iff_getElem.1 h.ap a b ha' hb' hab
    intro g' q1 q2
    rw [eg a ha ha'] at q1
    rw [eg b hb hb'] at q2
    exact key g' q1 q2
  · intro k' hk' hn'
    rw [gg.block k' (Nat.lt_of_lt_of_le hk' g0.size) (fun e => hn' (.inr (.inr ⟨_, mem_getD hjl, by rw [hob]; exact e.symm⟩)))]
    exact g0.block k' hk' (fun e => by cases e)
  · intro k' f
    refine .inl ?_
    rcases f with f | f | ⟨p, hp, f⟩
    · exact .inl f
    · exact .inr (.inl f)
    · obtain ⟨i, hi, rfl⟩ := List.mem_iff_getElem.1 hp
      have hi' := hi
      rw [List.length_set] at hi'
      rw [eg i hi hi'] at f
      exact .inr (.inr ⟨_, List.getElem_mem hi', f⟩)
theorem own_cut {w : World} {b g n m cap : Nat} {xs : List Value} (h : w.ownsRow b 3 1 (.slice (some ⟨g, 0, none⟩) n cap) n xs) (hm : m ≤ n) : w.ownsRow b 3 1 (.slice (some ⟨g, 0, none⟩) m cap) m (xs.take m) := by
  obtain ⟨h1, h2⟩ := h
  rcases h2 with ⟨e, _⟩ | ⟨g', cap', cur, e, hg, hh, hn, hm', hs, ht⟩
  · cases e
  · simp only [Value.slice.injEq, Option.some.injEq, Addr.mk.injEq, and_true, true_and] at e
    obtain ⟨rfl, rfl⟩ := e
    refine ⟨by rw [List.length_take]; omega, .inr ⟨g, cap, cur, rfl, hg, hh, by omega, hm', hs, ?_⟩⟩
    rw [← ht, List.take_take]
    congr 1
    omega

end Go.Proofs.YtloenjaonkdlaaaDoor.wm
namespace Go.Proofs.YtloenjaonkdlaaaDoor.wm
open Go.ChangeShapes Go.WideShapes Go.ChangeAt Go.RowKit
open Go.Proofs.YtloenjaonkdlaaaDoor.wm0 (end0 ret0 stepW listW listB)
open Go.Proofs.YtloenjaonkdlaaaDoor.lits (okB okB_iff)
open Go.Proofs.YtloenjaonkdlaaaDoor.bset (placeN placeN_le placeC)
open Go.Proofs.YtloenjaonkdlaaaDoor.srt (Tab woN woN_lt fstI oppN oppN_lt andN andN_lt orN_eq or_lt)
open Go.Proofs.YtloenjaonkdlaaaDoor.sl (Sl Own ints hide unhide ret_int ret_bool grown_refl grown_trans grown_drewN)
set_option linter.unusedVariables false

def PS.setL (P : PS) (j : Nat) (M : List Int) : PS := { P with A := P.A.set j M }
/-- what is asked of a watcher while literals are taken: R, what is left of them; l, whose list is at hand; F, what stays in it, and C, what is left of it -/
structure Fit (I : PS → Nat → Int → List Int → List Int → Prop) (N : Nat) : Prop where
  size : ∀ P R l F C, I P R l F C → P.K.length = N
  word : ∀ P R l F C, I P R l F C → P.tk < 2 ^ 48
  all : ∀ P R l F C, I P R l F C → ∀ i, i < N → (P.K.getD i zk).1 < 2 ^ 48
  lit0 : ∀ P R l F C, I P R l F C → ∀ i, i ∈ C → ∃ k : Nat, i = (k : Int) ∧ k < N ∧ okB (P.K.getD k zk).2.1 = true ∧ okB (P.K.getD k zk).2.2 = true ∧ (P.A.getD 0 []).length ≤ 4194304 ∧
    (∀ q, okB q = true → (opn (P.K.getD k zk).1 P.tk).testBit (placeN q) = true → (P.A.getD (1 + placeN q) []).length ≤ 4194304)
  lost : ∀ P R l F C, I P R l F C → C ≠ [] → okB l = true ∧ ∀ S, (opn S P.tk).testBit (placeN l) = false
  lens : ∀ P R l F C, I P R l F C → (F ++ C).length ≤ 4194304
  next : ∀ P R l F, I P R l F [] → 0 < R → R < 2 ^ 48 → I P (R &&& (R - 1)) (-fstI R) [] (P.A.getD (1 + placeN (-fstI R)) [])
  stay : ∀ P R l F (i : Nat) C, I P R l F ((i : Int) :: C) → P.mvd i l = false → I (P.rew i l) R l (F ++ [(i : Int)]) C
  move : ∀ P R l F (i : Nat) C, I P R l F ((i : Int) :: C) → P.mvd i l = true → I ((P.rew i l).setL (1 + placeN l) (F ++ C)) R l F C
theorem ps_getD (s : WS) (j : Nat) : s.ps.A.getD j [] = (s.A.getD j nil_).2 := map_getD s.A j
theorem drop_cons {C : List Int} {t : Nat} (h : t < C.length) : C.drop t = C.getD t 0 :: C.drop (t + 1) := by
  rw [List.drop_eq_getElem_cons h]
  simp [h]
theorem setL_setL (P : PS) (j : Nat) (M M' : List Int) : (P.setL j M).setL j M' = P.setL j M' := by
  unfold PS.setL
  simp only [List.set_set]
theorem more_setL (P : PS) {j i : Nat} (M : List Int) (y : Int) (h : i ≠ j) : (P.setL j M).more i y = (P.more i y).setL j M := by
  unfold PS.setL PS.more
  simp only [PS.mk.injEq, true_and, and_true]
  rw [show (P.A.set j M).getD i [] = P.A.getD i [] by rw [List.getD, List.getD, List.getElem?_set_ne (fun e => h e.symm)], List.set_comm _ _ (fun e => h e)]
/-- what is at hand does not matter to rewatch -/
theorem rew_setL (P : PS) {i : Nat} {l : Int} (M : List Int) (hl : okB l = true) (hlo : ∀ S, (opn S P.tk).testBit (placeN l) = false) (hS : (P.K.getD i zk).1 < 2 ^ 48) (h0 : okB (P.K.getD i zk).2.1 = true) (h1 : okB (P.K.getD i zk).2.2 = true) :
    (P.setL (1 + placeN l) M).rew i l = (P.rew i l).setL (1 + placeN l) M := by
  have eK : (P.setL (1 + placeN l) M).K = P.K := rfl
  have et : (P.setL (1 + placeN l) M).tk = P.tk := rfl
  have k0 : okB (sw0 (P.K.getD i zk) l) = true := by
    unfold sw0
    split
    · exact h1
    · exact h0
  unfold PS.rew
  rw [eK, et]
  split
  · rfl
  · split
    · rfl
    · rename_i hO
      split
      · exact more_setL { P with K := swK P.K i l } (j := 1 + placeN l) (i := 0) M (i : Int) (by omega)
      · rename_i hR
        have fs := fst_spec (show 0 < woN (opn (P.K.getD i zk).1 P.tk) (sw0 (P.K.getD i zk) l) by omega) (woN_lt (andN_lt _ _ hS))
        refine more_setL { P with K := P.K.set i _ } (j := 1 + placeN l) (i := 1 + placeN _) M (i : Int) (fun e => ?_)
        have e' : placeN (fstI (woN (opn (P.K.getD i zk).1 P.tk) (sw0 (P.K.getD i zk) l))) = placeN l := by omega
        have hb := fs.2
        have hol : opn (P.K.getD i zk).1 P.tk < 2 ^ 48 := andN_lt _ _ hS
        rw [srt.woN_bit (opn (P.K.getD i zk).1 P.tk) _ _ hol k0, Bool.and_eq_true, e', hlo] at hb
        exact absurd hb.1 (by simp)
theorem ps_set (s : WS) (j : Nat) (v : Value) (M : List Int) : ({ s with A := s.A.set j (v, M) } : WS).ps = s.ps.setL j M := by
  unfold WS.ps PS.setL
  simp only [List.map_set]
/-- what lose leaves -/
def Lse (I : PS → Nat → Int → List Int → List Int → Prop) (c : Nat) (s s' : WS) (w w' : World) (R : Nat) (l : Int) (F : List Int) : Prop := Wat w' c s' ∧ Stp c s s' w w' ∧ I s'.ps R l F []
/-- the loop's state: t are looked at, F of them stay -/
def Mid (I : PS → Nat → Int → List Int → List Int → Prop) (c : Nat) (s s2 : WS) (w wr : World) (R : Nat) (l : Int) (g cap t : Nat) (F C : List Int) : Prop :=
  Wat wr c s2 ∧ Stp c s s2 w wr ∧ s2.A.getD (1 + placeN l) nil_ = (.slice (some ⟨g, 0, none⟩) C.length cap, F ++ C.drop F.length) ∧ I (s2.ps.setL (1 + placeN l) (F ++ C.drop t)) R l F (C.drop t)

set_option maxRecDepth 100000 in
set_option maxHeartbeats 8000000 in
theorem lose {I : PS → Nat → Int → List Int → List Int → Prop} {N R c : Nat} {w : World} {s : WS} {l : Int} (FT : Fit I N) (hN : N ≤ 1048576) (h : Wat w c s) (hTab : TabF c s w) (hl : okB l = true) (hI : I s.ps R l [] (s.A.getD (1 + placeN l) nil_).2) :
    Calls Tryd.prog 157 #[.pointer (some ⟨c, 0, none⟩), .int .i8 l] w fun e w' => ∃ s' F, e = .returned (.tuple #[]) ∧ Lse I c s s' w w' R l F := by
  have CP := hide (fun w => placeC l w hl)
  have hp := placeN_le hl
  have hj49 : 1 + placeN l < 49 := by omega
  have hj : 1 + placeN l < 50 := by omega
  have hjl : 1 + placeN l < s.A.length := by rw [h.len]; exact hj
  have own1 := h.ls _ (mem_getD hjl)
  have ep : pos (1 + placeN l) = 1 + placeN l := by unfold pos; rw [if_neg (by omega), if_neg (by omega)]
  have x1 := h.cell (pos_lt hj)
  rw [atPos s hj, ep] at x1
  have f1 := h.fz (1 + placeN l)
  have hlen := FT.lens _ _ _ _ _ hI
  have HT := hide hTab
  have HF := hide FT
  have HL := hide hl
  obtain ⟨v, C, eA⟩ : ∃ v C, s.A.getD (1 + placeN l) nil_ = (v, C) := ⟨_, _, rfl⟩
  rw [eA] at own1 x1 hI hlen
  have own1' : w.ownsRow 0 3 1 v C.length (ints C) := own1
  have x1' : w.cell? ⟨c, 1 + placeN l, none⟩ = some v := x1
  have hI' : I s.ps R l [] C := hI
  have hCl : C.length ≤ 4194304 := hlen
  have hp' : (placeN l : Int) < 48 := by omega
  have own2 := own1'
  obtain ⟨_, ho⟩ := own2
  rcases ho with ⟨rfl, hn0⟩ | ⟨g, cap, cur, rfl, _, _, hnc, hmc, _, _⟩
  · have hC : C = [] := List.eq_nil_of_length_eq_zero hn0
    subst hC
    have k := h.set (s' := s) (q := 1 + placeN l) (v := .slice none 0 0) (by omega) (fun q hq => by
      by_cases e : q = 1 + placeN l
      · subst e
        rw [if_pos rfl]
        have a := atPos s hj
        rw [ep, eA] at a
        exact a
      · rw [if_neg e]) rfl rfl rfl
    have gk := fun (w1 : World) (g1 : w.grownBy w1 none) => ((h.kept g1).set (s' := s) (q := 1 + placeN l) (v := .slice none 0 0) (by omega) (fun q hq => by
      by_cases e : q = 1 + placeN l
      · subst e
        rw [if_pos rfl]
        have a := atPos s hj
        rw [ep, eA] at a
        exact a
      · rw [if_neg e]) rfl rfl rfl)
    have FD : Hid (∀ nq, Lse I c s s w ((w.drewN nq).setCell ⟨c, 1 + placeN l, none⟩ (.slice none 0 0)).drew R l []) := fun nq =>
      ⟨(gk _ (grown_drewN w nq)).1.kept (grown_drewN _ 1), (Stp.of_grown (grown_drewN w nq)).trans ((gk _ (grown_drewN w nq)).2.trans (Stp.of_grown (grown_drewN _ 1))), hI'⟩
    have f1' : Hid (∀ nq, (w.drewN nq).cell? ⟨c, 1 + placeN l, none⟩ = some (.slice none 0 0) ∧ (w.drewN nq).frozen? ⟨c, 1 + placeN l, none⟩ = false) := fun nq => ⟨x1', f1⟩
    clear h hTab FT hl own1 own1' x1 hI hI' hlen hjl eA k gk hn0
    generalize hpp : placeN l = p at *
    go_enter Tryd.func157, Tryd.ntmps157
    go_wp2_with fail
    go_quiet ((go_at_call 158; exact Calls.quiet_of_same (unhide CP _)))
    have FE := hide (unhide FD nq)
    obtain ⟨y1, y2⟩ := unhide f1' nq
    clear FD f1' x1' f1
    generalize w.drewN nq = w2 at *
    go_wp2_with fail
    refine wp_loop_rounds 1 ?_
    rw [rounds_succ]
    go_wp2_with fail
    go_region_with (go_at_call 158; refine (unhide CP _).mono ?_; rintro e w3 ⟨rfl, hw⟩; have hw' := hw.symm; clear hw; subst hw')
    all_goals
      go_wp2_with fail
      first
        | exact end0 rfl rfl ⟨s, [], rfl, unhide FE⟩
        | exact ret0 rfl rfl ⟨s, [], rfl, unhide FE⟩
  · have K0 : Hid (Mid I c s s w w R l g cap 0 [] C) := by
      refine ⟨h, Stp.refl _ _ _, by rw [eA]; rfl, ?_⟩
      have : s.ps.setL (1 + placeN l) ([] ++ C.drop 0) = s.ps := by
        unfold PS.setL WS.ps
        have e : (s.A.map (·.2)).set (1 + placeN l) ([] ++ C.drop 0) = s.A.map (·.2) := by
          rw [List.nil_append, List.drop_zero]
          have e2 : C = (s.A.map (·.2))[1 + placeN l]'(by rw [List.length_map]; exact hjl) := by
            rw [List.getElem_map, show s.A[1 + placeN l] = s.A.getD (1 + placeN l) nil_ by simp [hjl], eA]
          rw [e2]
          exact List.set_getElem_self _
        simp only [e]
      rw [this]
      exact hI'
    have hcap : C.length ≤ cap := hnc
    clear h hTab FT hl own1 own1' x1 hI hI' hlen hjl eA hnc hmc
    generalize hpp : placeN l = p at *
    go_enter Tryd.func157, Tryd.ntmps157
    go_wp2_with fail
    go_quiet ((go_at_call 158; exact Calls.quiet_of_same (unhide CP _)))
    have K1 : Hid (Mid I c s s w (w.drewN nq) R l g cap 0 [] C) := by
      have k := unhide K0
      exact ⟨k.1.kept (grown_drewN w nq), k.2.1.trans (Stp.of_grown (grown_drewN w nq)), k.2.2.1, k.2.2.2⟩
    clear K0 x1' f1
    go_wp2_with fail
    go_loopw [5, 7, 19] (fun u _ iv wr => ∃ (t : Nat) (F : List Int) (s2 : WS), t ≤ C.length ∧ F.length ≤ t ∧ iv = .int .i64 (t : Int) ∧ u = .slice (some ⟨g, 0, none⟩) F.length cap ∧ Hid (Mid I c s s2 w wr R l g cap t F C)) (fun _ _ iv _ => C.length - (intOf iv).toNat)
    case atStart => exact ⟨0, [], s, Nat.zero_le _, Nat.le_refl _, rfl, rfl, K1⟩
    case round =>
      obtain ⟨t, F, s2, ht, hFt, rfl, rfl, hk⟩ := hrel
      clear K1
      have hpj : 1 + placeN l = 1 + p := by rw [hpp]
      by_cases hlt : t < C.length
      · have hi' : (t : Int) < (C.length : Int) := by omega
        obtain ⟨W2, S2, eA, I2⟩ := unhide hk
        have hjl : 1 + placeN l < s2.A.length := by rw [W2.len]; omega
        have own2 := W2.ls _ (mem_getD hjl)
        rw [eA] at own2
        have hfl : (F ++ C.drop F.length).length = C.length := by rw [List.length_append, List.length_drop]; omega
        have c1 : wr.cell? ⟨g, t, none⟩ = some (.int .i64 (C.getD t 0)) := by
          have o2 : wr.ownsRow 0 3 1 (.slice (some ⟨g, 0, none⟩) C.length cap) C.length (ints (F ++ C.drop F.length)) := by
            have := own2
            rw [hfl] at this
            exact this
          rw [o2.cellAt t (by omega)]
          have e : (F ++ C.drop F.length)[t]? = some (C.getD t 0) := by
            rw [List.getElem?_append_right hFt, List.getElem?_drop, show F.length + (t - F.length) = t by omega, List.getElem?_eq_getElem hlt]
            simp [hlt]
          rw [sl.ints, List.getElem?_map, e]
          rfl
        have ed := drop_cons hlt
        rw [ed] at I2
        generalize C.getD t 0 = x at *
        obtain ⟨k, rfl, hkN, o0, o1, z0, z1⟩ := (unhide HF).lit0 _ _ _ _ _ I2 x (by simp)
        have hsz : s2.K.length = N := (unhide HF).size _ _ _ _ _ I2
        have hlo := (unhide HF).lost _ _ _ _ _ I2 (by simp)
        have hka : k < s2.K.length := by rw [hsz]; exact hkN
        have T2 := (unhide HT).stp S2
        have hS := (unhide HF).all _ _ _ _ _ I2 k hkN
        have hTk := (unhide HF).word _ _ _ _ _ I2
        have oth : ∀ q, q ≠ 1 + placeN l → (s2.ps.setL (1 + placeN l) (F ++ (k : Int) :: C.drop (t + 1))).A.getD q [] = (s2.A.getD q nil_).2 := fun q hq => by
          rw [← ps_getD]
          show (s2.ps.A.set (1 + placeN l) _).getD q [] = _
          rw [List.getD, List.getElem?_set_ne (fun e => hq e.symm)]
          rfl
        rw [oth 0 (by omega)] at z0
        have CR := rewatch (lost := l) W2 T2 hka (by rw [hsz]; exact hN) rfl hS hTk (unhide HL) o0 o1 z0 (fun q hq hb => by
          have := z1 q hq hb
          rw [oth (1 + placeN q) (fun e => by
            have e' : placeN q = placeN l := by omega
            have hb2 : (opn (s2.K.getD k zk).1 s2.tk).testBit (placeN q) = true := hb
            rw [e'] at hb2
            have hb3 := hlo.2 (s2.K.getD k zk).1
            rw [show (s2.ps.setL (1 + placeN l) (F ++ (k : Int) :: C.drop (t + 1))).tk = s2.tk from rfl, hb2] at hb3
            cases hb3)] at this
          exact this)
        have RS := fun M => rew_setL s2.ps (i := k) (l := l) M (unhide HL) hlo.2 hS o0 o1
        have MV : ∀ M, (s2.ps.setL (1 + placeN l) M).mvd k l = s2.ps.mvd k l := fun _ => rfl
        cases hmv : s2.ps.mvd k l
        · have I3 := (unhide HF).stay _ _ _ _ _ _ I2 (by rw [MV]; exact hmv)
          rw [RS] at I3
          rw [hmv] at CR
          have NX : Hid (∀ s3 w3, Wat w3 c s3 → Stp c s2 s3 wr w3 → s3.ps = s2.ps.rew k l → Same (opn (s2.K.getD k zk).1 s2.tk) s2 s3 →
              (w3.cell? ⟨g, F.length, none⟩).isSome = true ∧ w3.frozen? ⟨g, F.length, none⟩ = false ∧ (∃ s4, Mid I c s s4 w ((w3.alloc (.cells #[.int .i64 (k : Int)] 3)).setCell ⟨g, F.length, none⟩ (.int .i64 (k : Int))) R l g cap (t + 1) (F ++ [(k : Int)]) C)) := by
            intro s3 w3 q1 q2 q3 q4
            have e3 : s3.A.getD (1 + placeN l) nil_ = (.slice (some ⟨g, 0, none⟩) C.length cap, F ++ C.drop F.length) := by rw [q4 l (unhide HL) (hlo.2 _)]; exact eA
            have hjl3 : 1 + placeN l < s3.A.length := by rw [q1.len]; omega
            have own3 := q1.ls _ (mem_getD hjl3)
            rw [e3] at own3
            have o3 : w3.ownsRow 0 3 1 (.slice (some ⟨g, 0, none⟩) C.length cap) C.length (ints (F ++ C.drop F.length)) := by
              have := own3
              rw [hfl] at this
              exact this
            refine ⟨?_, o3.frozenAt _, ?_⟩
            · rw [o3.cellAt F.length (by omega), List.getElem?_eq_getElem (by rw [sl.ints_length, hfl]; omega)]
              rfl
            · have hset : (ints (F ++ C.drop F.length)).set F.length (.int .i64 (k : Int)) = ints ((F ++ [(k : Int)]) ++ C.drop (F ++ [(k : Int)]).length) := by
                have hd : C.drop F.length = C.getD F.length 0 :: C.drop (F.length + 1) := drop_cons (by omega)
                rw [hd]
                unfold sl.ints
                rw [List.map_append, List.set_append_right _ _ (by simp)]
                simp
              have k4 := q1.rowj (k := F.length) (C' := (F ++ [(k : Int)]) ++ C.drop (F ++ [(k : Int)]).length) hj (by rw [← hpj] at *; exact e3) (World.grownBy_alloc w3 (.cells #[.int .i64 (k : Int)] 3) none) hfl (by rw [List.length_append, List.length_append, List.length_drop]; simp; omega) hset
              rw [← hpj] at k4
              refine ⟨_, k4.1, S2.trans (q2.trans k4.2), ?_, ?_⟩
              · show (s3.A.set _ _).getD _ nil_ = _
                simp [hjl3]
              · rw [ps_set, setL_setL, q3]
                have e5 : F ++ (k : Int) :: C.drop (t + 1) = (F ++ [(k : Int)]) ++ C.drop (t + 1) := by simp
                rw [← e5]
                exact I3
          have HCR := hide CR
          have hroom : F.length + 1 ≤ cap := by omega
          clear CR W2 S2 I2 eA own2 hlo hsz o0 o1 z0 z1 T2 ed hk RS MV I3 oth hS hTk hfl hmv
          go_wp2_with fail
          refine (unhide HCR).mono ?_; rintro e w3 ⟨s3, rfl, q1, q2, q3, q4⟩
          obtain ⟨r1, r2, s4, r3⟩ := unhide NX s3 w3 q1 q2 q3 q4
          have lg : g < w3.heap.size := by
            cases hh : w3.cell? ⟨g, F.length, none⟩ with
            | none => rw [hh] at r1; cases r1
            | some u => exact World.block_lt_of_cell? w3 _ hh
          have hne : ¬ g = w3.heap.size := by omega
          have ew : (w3.alloc (.cells #[.int .i64 (k : Int)] 3)).setCell ⟨g, F.length, none⟩ (.int .i64 (k : Int)) = (w3.setCell ⟨g, F.length, none⟩ (.int .i64 (k : Int))).alloc (.cells #[.int .i64 (k : Int)] 3) := World.setCell_alloc_past _ _ _ _ lg
          rw [ew] at r3
          have R3 := hide r3
          clear ew
          have A1 : Hid (((w3.alloc (.cells #[.int .i64 (k : Int)] 3)).cell? ⟨g, F.length, none⟩).isSome = true ∧ (w3.alloc (.cells #[.int .i64 (k : Int)] 3)).frozen? ⟨g, F.length, none⟩ = false ∧ (w3.alloc (.cells #[.int .i64 (k : Int)] 3)).cell? ⟨w3.heap.size, 0, none⟩ = some (.int .i64 (k : Int))) := by
            have e : (w3.alloc (.cells #[.int .i64 (k : Int)] 3)).heap[g]? = w3.heap[g]? := Go.heap_alloc_old w3 _ lg
            exact ⟨by rw [World.cell?_of_block (a := ⟨g, F.length, none⟩) e]; exact r1, by rw [World.frozen?_of_block (a := ⟨g, F.length, none⟩) e]; exact r2, by simp⟩
          clear q1 q2 q3 q4 NX HCR r1 r2 r3
          go_wp2_with (at_builtin; refine roomW (unhide A1).2.2 hroom (unhide A1).1 (unhide A1).2.1 rfl (.tmp 28) (.tmp 30) rfl rfl rfl ?_)
          have fl : (F ++ [(k : Int)]).length = F.length + 1 := by simp
          go_roundw
          case rel => exact ⟨t + 1, F ++ [(k : Int)], s4, by omega, by omega, by go_num, by rw [fl], R3⟩
          case measure => simp [intOf]; omega
        · have I3 := (unhide HF).move _ _ _ _ _ _ I2 (by rw [MV]; exact hmv)
          rw [RS, setL_setL] at I3
          rw [hmv] at CR
          have NX : Hid (∀ s3 w3, Wat w3 c s3 → Stp c s2 s3 wr w3 → s3.ps = s2.ps.rew k l → Same (opn (s2.K.getD k zk).1 s2.tk) s2 s3 → Mid I c s s3 w w3 R l g cap (t + 1) F C) := by
            intro s3 w3 q1 q2 q3 q4
            refine ⟨q1, S2.trans q2, by rw [q4 l (unhide HL) (hlo.2 _)]; exact eA, ?_⟩
            rw [q3]
            exact I3
          have HCR := hide CR
          clear CR W2 S2 I2 eA own2 hlo hsz o0 o1 z0 z1 T2 ed hk RS MV I3 oth hS hTk hfl hmv
          go_wp2_with fail
          refine (unhide HCR).mono ?_; rintro e w3 ⟨s3, rfl, q1, q2, q3, q4⟩
          have R3 := hide (unhide NX s3 w3 q1 q2 q3 q4)
          clear q1 q2 q3 q4 NX HCR
          go_wp2_with fail
          go_roundw
          case rel => exact ⟨t + 1, F, s3, by omega, by omega, by go_num, rfl, R3⟩
          case measure => simp [intOf]; omega
      · have hi' : ¬ (t : Int) < (C.length : Int) := by omega
        obtain ⟨W2, S2, eA, I2⟩ := unhide hk
        have hjl : 1 + placeN l < s2.A.length := by rw [W2.len]; omega
        have own2 := W2.ls _ (mem_getD hjl)
        rw [eA] at own2
        have hfl : (F ++ C.drop F.length).length = C.length := by rw [List.length_append, List.length_drop]; omega
        have o2 : wr.ownsRow 0 3 1 (.slice (some ⟨g, 0, none⟩) C.length cap) C.length (ints (F ++ C.drop F.length)) := by
          have := own2
          rw [hfl] at this
          exact this
        have o3 := own_cut o2 (show F.length ≤ C.length by omega)
        have et : (ints (F ++ C.drop F.length)).take F.length = ints F := by
          unfold sl.ints
          rw [← List.map_take, List.take_left]
        rw [et] at o3
        have hdt : C.drop t = [] := List.drop_eq_nil_of_le (by omega)
        rw [hdt, List.append_nil] at I2
        have FIN : Hid (∀ w1, wr.grownBy w1 none → Lse I c s { s2 with A := s2.A.set (1 + placeN l) (.slice (some ⟨g, 0, none⟩) F.length cap, F) } w (w1.setCell ⟨c, pos (1 + placeN l), none⟩ (.slice (some ⟨g, 0, none⟩) F.length cap)) R l F) := by
          intro w1 g1
          have k := W2.list (w0 := w1) (w1 := w1) (j := 1 + placeN l) (M := F) (g := g) (n := F.length) (cap := cap) (by omega) g1 (o3.kept g1 (ne_none _)) ⟨rfl, rfl, rfl, Nat.le_refl _, fun _ _ _ => rfl⟩ (.inl (by rw [eA]; rfl))
          exact ⟨k.1, S2.trans k.2, by rw [ps_set]; exact I2⟩
        have x1 := W2.cell (pos_lt hj)
        have eA' := eA
        rw [hpj] at eA'
        rw [atPos s2 hj, ep, eA'] at x1
        have f1 := W2.fz (1 + p)
        rw [hpj, ep] at FIN
        have FD : Hid (Lse I c s { s2 with A := s2.A.set (1 + p) (.slice (some ⟨g, 0, none⟩) F.length cap, F) } w (wr.setCell ⟨c, 1 + p, none⟩ (.slice (some ⟨g, 0, none⟩) F.length cap)).drew R l F) := by
          have k := unhide FIN wr (grown_refl _)
          exact ⟨k.1.kept (grown_drewN _ 1), k.2.1.trans (Stp.of_grown (grown_drewN _ 1)), k.2.2⟩
        clear W2 S2 eA eA' own2 o2 o3 et hdt I2 hk hfl FIN hjl
        go_wp2_with fail
        go_region_with (go_at_call 158; refine (unhide CP _).mono ?_; rintro e w3 ⟨rfl, hw⟩; have hw' := hw.symm; clear hw; subst hw')
        all_goals
          go_wp2_with fail
          first
            | exact end0 rfl rfl ⟨_, F, rfl, unhide FD⟩
            | exact ret0 rfl rfl ⟨_, F, rfl, unhide FD⟩
end Go.Proofs.YtloenjaonkdlaaaDoor.wm
namespace Go.Proofs.YtloenjaonkdlaaaDoor.wm
open Go.ChangeShapes Go.WideShapes Go.ChangeAt Go.RowKit
open Go.Proofs.YtloenjaonkdlaaaDoor.wm0 (end0 ret0 stepW listW listB)
open Go.Proofs.YtloenjaonkdlaaaDoor.lits (okB okB_iff)
open Go.Proofs.YtloenjaonkdlaaaDoor.bset (placeN placeN_le placeC)
open Go.Proofs.YtloenjaonkdlaaaDoor.srt (Tab woN woN_lt fstI oppN oppN_lt andN andN_lt orN_eq or_lt)
open Go.Proofs.YtloenjaonkdlaaaDoor.sl (Sl Own ints hide unhide ret_int ret_bool grown_refl grown_trans grown_drewN)
set_option linter.unusedVariables false

def Tk (I : PS → Nat → Int → List Int → List Int → Prop) (c : Nat) (s s' : WS) (w w' : World) (R : Nat) (l : Int) (F : List Int) : Prop := Wat w' c s' ∧ Stp c s s' w w' ∧ I s'.ps R l F []

set_option maxRecDepth 100000 in
set_option maxHeartbeats 8000000 in
theorem take {I : PS → Nat → Int → List Int → List Int → Prop} {N L c : Nat} {w : World} {s : WS} {l0 : Int} {F0 : List Int} (F : Fit I N) (hN : N ≤ 1048576) (h : Wat w c s) (hTab : TabF c s w) (hL : L < 2 ^ 48) (ht : s.tk < 2 ^ 48) (hI : I { s.ps with tk := s.tk ||| L } L l0 F0 []) :
    Calls Tryd.prog 125 #[.pointer (some ⟨c, 0, none⟩), .int .u64 (L : Int)] w fun e w' => ∃ s' l F', e = .returned (.tuple #[]) ∧ Tk I c s s' w w' 0 l F' := by
  have x49 := h.cell (k := 49) (by decide)
  have f49 := h.fz 49
  rw [at49] at x49
  have e1 := orN_eq s.tk L ht hL
  have k1 := h.setTk (s.tk ||| L)
  have st : Hid (Tk I c s { s with tk := s.tk ||| L } w (w.setCell ⟨c, 49, none⟩ (.int .u64 ((s.tk ||| L : Nat) : Int))) L l0 F0) := ⟨k1.1, k1.2, hI⟩
  rw [← e1] at st
  have HT := hide hTab
  have HF := hide F
  generalize s.tk = T at *
  clear k1 e1 hI h hTab ht F
  go_enter Tryd.func125, Tryd.ntmps125
  go_wp2
  clear x49 f49
  go_loopw [1] (fun sv wr => ∃ (R : Nat) (s' : WS) (l : Int) (F : List Int), sv = .int .u64 (R : Int) ∧ R < 2 ^ 48 ∧ Hid (Tk I c s s' w wr R l F)) (fun sv _ => (intOf sv).toNat)
  case atStart => exact ⟨L, _, l0, F0, rfl, hL, st⟩
  case round =>
    obtain ⟨R, s1, l1, F1, rfl, hR, hk⟩ := hrel
    clear st
    by_cases h0 : R = 0
    · subst h0
      go_wp2
      first
        | exact end0 rfl rfl ⟨s1, l1, F1, rfl, unhide hk⟩
        | exact ret0 rfl rfl ⟨s1, l1, F1, rfl, unhide hk⟩
    · have hne : ((R : Int) != 0) = true := by simp; omega
      have hRp : 0 < R := by omega
      have fs := fst_spec hRp hR
      have T1 := (unhide HT).stp (unhide hk).2.1
      have CF := hide (srt.first R _ T1.1 hRp hR)
      have bd := okB_iff.1 fs.1
      have oo := opp_ok fs.1
      have hI2 := (unhide HF).next _ _ _ _ (unhide hk).2.2 hRp hR
      rw [ps_getD] at hI2
      have hand := srt.and_pred R hRp hR
      have hns : R &&& (R - 1) < R := srt.next_lt hRp
      have hs1 : 1 ≤ R := by omega
      have CL := hide (lose (unhide HF) hN (unhide hk).1 T1 oo hI2)
      have K1 := hide (unhide hk).2.1
      have HA := hide hand
      have NS := hide hns
      clear hI2 fs hand hns T1 hk oo
      generalize hy : fstI R = y at *
      obtain ⟨b0, b1, b2⟩ := bd
      go_wp2_with fail
      refine (unhide CF).mono ?_; rintro e w2 ⟨rfl, hw⟩; have hw' := hw.symm; clear hw; subst hw'
      go_wp2_with fail
      refine (unhide CL).mono ?_; rintro e w3 ⟨s3, F3, rfl, q1, q2, q3⟩
      have R3 : Hid (Tk I c s s3 w w3 (R &&& (R - 1)) (-y) F3) := ⟨q1, (unhide K1).trans q2, q3⟩
      clear q1 q2 q3 CL CF
      go_wp2_with fail
      go_roundw
      case rel => exact ⟨R &&& (R - 1), s3, -y, F3, by rw [← unhide HA], Nat.lt_trans (unhide NS) hR, R3⟩
      case measure => rw [unhide HA]; simp [intOf]; have := unhide NS; omega
end Go.Proofs.YtloenjaonkdlaaaDoor.wm
namespace Go.Proofs.YtloenjaonkdlaaaDoor.wm
open Go.ChangeShapes Go.WideShapes Go.ChangeAt Go.RowKit
open Go.Proofs.YtloenjaonkdlaaaDoor.wm0 (end0 ret0 stepW listW listB)
open Go.Proofs.YtloenjaonkdlaaaDoor.lits (okB okB_iff)
open Go.Proofs.YtloenjaonkdlaaaDoor.bset (placeN placeN_le placeC)
open Go.Proofs.YtloenjaonkdlaaaDoor.srt (Tab woN woN_lt fstI oppN oppN_lt andN andN_lt orN_eq or_lt)
open Go.Proofs.YtloenjaonkdlaaaDoor.sl (Sl Own ints hide unhide ret_int ret_bool grown_refl grown_trans grown_drewN)
set_option linter.unusedVariables false

/-- what waits is written in its own row -/
theorem Wat.row0 {w w0 : World} {c g n cap k : Nat} {s : WS} {C C' : List Int} {u : Value} (h : Wat w c s) (e : s.A.getD 0 nil_ = (.slice (some ⟨g, 0, none⟩) n cap, C)) (g0 : w.grownBy w0 none) (hn : C.length = n) (hC : C'.length = n) (hset : (ints C).set k u = ints C') :
    Wat (w0.setCell ⟨g, k, none⟩ u) c { s with A := s.A.set 0 (.slice (some ⟨g, 0, none⟩) n cap, C') } ∧ Stp c s { s with A := s.A.set 0 (.slice (some ⟨g, 0, none⟩) n cap, C') } w (w0.setCell ⟨g, k, none⟩ u) :=
  h.rowj (by decide) e g0 hn hC hset

/-- whether what waits may still be single -/
def live (P : PS) (x : Int) : Bool := !clsd (P.K.getD x.toNat zk).1 P.tk
def still (P : PS) : List Int := (P.A.getD 0 []).filter (live P)
def least (P : PS) (F : List Int) : Nat := F.foldl (fun a x => min a x.toNat) P.K.length
def PS.uni (P : PS) : PS := if P.em then P else { P with A := P.A.set 0 (still P) }
def PS.uniX (P : PS) : Int := if P.em then 0 else if least P (still P) = P.K.length then 0 else fstI (opn (P.K.getD (least P (still P)) zk).1 P.tk)
theorem least_snoc (P : PS) (F : List Int) (x : Int) : least P (F ++ [x]) = min (least P F) x.toNat := by unfold least; rw [List.foldl_append]; rfl
theorem least_le (P : PS) (F : List Int) : least P F ≤ P.K.length := by
  unfold least
  suffices H : ∀ (F : List Int) (a : Nat), F.foldl (fun a x => min a x.toNat) a ≤ a from H F _
  intro F
  induction F with
  | nil => intro a; exact Nat.le_refl _
  | cons x l ih => intro a; exact Nat.le_trans (ih _) (Nat.min_le_left _ _)
theorem least_mem (P : PS) (F : List Int) : least P F = P.K.length ∨ ∃ x ∈ F, x.toNat = least P F := by
  unfold least
  suffices H : ∀ (F : List Int) (a : Nat), F.foldl (fun a x => min a x.toNat) a = a ∨ ∃ x ∈ F, x.toNat = F.foldl (fun a x => min a x.toNat) a from H F _
  intro F
  induction F with
  | nil => intro a; exact .inl rfl
  | cons x l ih =>
    intro a
    rw [List.foldl_cons]
    rcases ih (min a x.toNat) with q | ⟨y, hy, q⟩
    · rcases Nat.le_total a x.toNat with hle | hle
      · rw [q, Nat.min_eq_left hle]
        exact .inl rfl
      · exact .inr ⟨x, by simp, by rw [q, Nat.min_eq_right hle]⟩
    · exact .inr ⟨y, by simp [hy], q⟩
theorem least_all (P : PS) (F : List Int) : ∀ x ∈ F, least P F ≤ x.toNat := by
  unfold least
  suffices H : ∀ (F : List Int) (a : Nat), F.foldl (fun a x => min a x.toNat) a ≤ a ∧ ∀ x ∈ F, F.foldl (fun a x => min a x.toNat) a ≤ x.toNat from (H F _).2
  intro F
  induction F with
  | nil => intro a; exact ⟨Nat.le_refl _, fun x hx => by cases hx⟩
  | cons y l ih =>
    intro a
    rw [List.foldl_cons]
    have k := ih (min a y.toNat)
    refine ⟨Nat.le_trans k.1 (Nat.min_le_left _ _), fun x hx => ?_⟩
    rcases List.mem_cons.1 hx with rfl | hx
    · exact Nat.le_trans k.1 (Nat.min_le_right _ _)
    · exact k.2 x hx
end Go.Proofs.YtloenjaonkdlaaaDoor.wm
namespace Go.Proofs.YtloenjaonkdlaaaDoor.wm
open Go.ChangeShapes Go.WideShapes Go.ChangeAt Go.RowKit
open Go.Proofs.YtloenjaonkdlaaaDoor.wm0 (end0 ret0 stepW listW listB)
open Go.Proofs.YtloenjaonkdlaaaDoor.lits (okB okB_iff)
open Go.Proofs.YtloenjaonkdlaaaDoor.bset (placeN placeN_le placeC)
open Go.Proofs.YtloenjaonkdlaaaDoor.srt (Tab woN woN_lt fstI oppN oppN_lt andN andN_lt orN_eq or_lt)
open Go.Proofs.YtloenjaonkdlaaaDoor.sl (Sl Own ints hide unhide ret_int ret_bool grown_refl grown_trans grown_drewN)
set_option linter.unusedVariables false

def WS.w0 (s : WS) (v : Value) (X : List Int) : WS := { s with A := s.A.set 0 (v, X) }
theorem w0_get {s : WS} {v : Value} {X : List Int} (h : s.A.length = 50) : (s.w0 v X).A.getD 0 nil_ = (v, X) := by
  show (s.A.set 0 (v, X)).getD 0 nil_ = _
  have : 0 < s.A.length := by omega
  simp [this]
theorem w0_w0 {s : WS} {v v' : Value} {X X' : List Int} : ({ s.w0 v X with A := (s.w0 v X).A.set 0 (v', X') } : WS) = s.w0 v' X' := by
  unfold WS.w0
  rw [List.set_set]
theorem w0_self {s : WS} {v : Value} {X : List Int} (h : s.A.length = 50) (e : s.A.getD 0 nil_ = (v, X)) : s.w0 v X = s := by
  unfold WS.w0
  have h0 : 0 < s.A.length := by omega
  have : s.A.set 0 (v, X) = s.A := by
    rw [← e, show s.A.getD 0 nil_ = s.A[0] by simp [h0]]
    exact List.set_getElem_self h0
  rw [this]
theorem w0_ps {s : WS} {v : Value} {X : List Int} : (s.w0 v X).ps = { s.ps with A := s.ps.A.set 0 X } := by
  unfold WS.ps WS.w0
  rw [List.map_set]
theorem Wat.vform {w : World} {c : Nat} {s : WS} (h : Wat w c s) : ∃ a cap, s.V = .slice a s.K.length cap := by
  obtain ⟨_, h2⟩ := h.cl
  rcases h2 with ⟨e, h0⟩ | ⟨g, cap, cur, e, _⟩
  · exact ⟨none, 0, by rw [e, h0]⟩
  · exact ⟨_, cap, e⟩
theorem Wat.at0 {w : World} {c g n cap : Nat} {s : WS} {X : List Int} (h : Wat w c s) (e : s.A.getD 0 nil_ = (.slice (some ⟨g, 0, none⟩) n cap, X)) (hn : X.length = n) (t : Nat) (ht : t < n) : w.cell? ⟨g, t, none⟩ = some (.int .i64 (X.getD t 0)) ∧ w.frozen? ⟨g, t, none⟩ = false ∧ n ≤ cap := by
  have hjl : 0 < s.A.length := by rw [h.len]; decide
  have own := h.ls _ (mem_getD hjl)
  rw [e] at own
  have own' : w.ownsRow 0 3 1 (.slice (some ⟨g, 0, none⟩) n cap) n (ints X) := by rw [← hn] at own ⊢; exact own
  refine ⟨?_, own'.frozenAt t, ?_⟩
  · rw [own'.cellAt t (by omega)]
    rw [← hn] at ht
    simp [sl.ints, ht]
  · obtain ⟨_, h2⟩ := own'
    rcases h2 with ⟨e, _⟩ | ⟨g', cap', cur, e, _, _, hn', _⟩
    · cases e
    · simp only [Value.slice.injEq] at e
      obtain ⟨_, _, rfl⟩ := e
      exact hn'
/-- what waits while it is gone through: what stays of the first t, then the rest of the row -/
def mix (P : PS) (C : List Int) (t : Nat) : List Int := (C.take t).filter (live P) ++ C.drop ((C.take t).filter (live P)).length
theorem flen (P : PS) (C : List Int) (t : Nat) (h : t ≤ C.length) : ((C.take t).filter (live P)).length ≤ t := Nat.le_trans (List.length_filter_le _ _) (by rw [List.length_take]; omega)
theorem mix_len (P : PS) (C : List Int) (t : Nat) (h : t ≤ C.length) : (mix P C t).length = C.length := by
  have := flen P C t h
  unfold mix
  rw [List.length_append, List.length_drop]
  omega
theorem mix_at (P : PS) (C : List Int) (t : Nat) (h : t < C.length) : (mix P C t).getD t 0 = C.getD t 0 := by
  have hl := flen P C t (by omega)
  unfold mix
  rw [List.getD, List.getD, List.getElem?_append_right hl, List.getElem?_drop, show ((C.take t).filter (live P)).length + (t - ((C.take t).filter (live P)).length) = t by omega]
theorem filt_yes (P : PS) (C : List Int) (t : Nat) (h : t < C.length) (hl : live P (C.getD t 0) = true) : (C.take (t + 1)).filter (live P) = (C.take t).filter (live P) ++ [C.getD t 0] := by
  rw [take_snoc C t h, List.filter_append, List.filter_cons_of_pos hl]
  rfl
theorem filt_no (P : PS) (C : List Int) (t : Nat) (h : t < C.length) (hl : live P (C.getD t 0) = false) : (C.take (t + 1)).filter (live P) = (C.take t).filter (live P) := by
  rw [take_snoc C t h, List.filter_append, List.filter_cons_of_neg (by rw [hl]; simp)]
  simp
theorem mix_set (P : PS) (C : List Int) (t : Nat) (h : t < C.length) (hl : live P (C.getD t 0) = true) : (ints (mix P C t)).set ((C.take t).filter (live P)).length (.int .i64 (C.getD t 0)) = ints (mix P C (t + 1)) := by
  have hl' := flen P C t (by omega)
  unfold mix
  rw [filt_yes P C t h hl]
  generalize (C.take t).filter (live P) = F at *
  have e : C.drop F.length = C[F.length]'(by omega) :: C.drop (F.length + 1) := List.drop_eq_getElem_cons (by omega)
  rw [e, app.ints_append, app.ints_append, app.ints_append]
  rw [List.set_append_right _ _ (by rw [sl.ints_length]; exact Nat.le_refl _), sl.ints_length, Nat.sub_self]
  rw [show ints (C[F.length]'(by omega) :: C.drop (F.length + 1)) = Value.int .i64 (C[F.length]'(by omega)) :: ints (C.drop (F.length + 1)) from rfl, List.set_cons_zero, List.length_append]
  simp only [sl.ints, List.map_cons, List.map_nil, List.append_assoc, List.cons_append, List.nil_append, List.length_cons, List.length_nil]
theorem mix_no (P : PS) (C : List Int) (t : Nat) (h : t < C.length) (hl : live P (C.getD t 0) = false) : mix P C (t + 1) = mix P C t := by
  unfold mix
  rw [filt_no P C t h hl]
theorem new_cell (w : World) (y : Int) : (w.alloc (.cells #[.int .i64 y] 3)).cell? ⟨w.heap.size, 0, none⟩ = some (.int .i64 y) := by simp
theorem min_eq (k q : Nat) : (if k < q then (k : Int) else (q : Int)) = ((min q ((k : Int).toNat) : Nat) : Int) := by
  rw [Int.toNat_natCast]
  split <;> omega
/-- a watcher whose waiting list was gone through up to t -/
def Unt (c : Nat) (s : WS) (g cap : Nat) (C : List Int) (t : Nat) (w wx : World) : Prop := Wat wx c (s.w0 (.slice (some ⟨g, 0, none⟩) C.length cap) (mix s.ps C t)) ∧ Stp c s (s.w0 (.slice (some ⟨g, 0, none⟩) C.length cap) (mix s.ps C t)) w wx

set_option maxRecDepth 100000 in
set_option maxHeartbeats 8000000 in
theorem unit {w : World} {c : Nat} {s : WS} {v : Value} {C : List Int} (h : Wat w c s) (hTab : TabF c s w) (hl : s.K.length ≤ 1048576) (hT : s.tk < 2 ^ 48) (hS : ∀ i, i < s.K.length → (s.K.getD i zk).1 < 2 ^ 48)
    (hC : s.A.getD 0 nil_ = (v, C)) (hCi : ∀ x ∈ C, ∃ k : Nat, x = (k : Int) ∧ k < s.K.length) (hCl : C.length ≤ 4194304)
    (hop : s.em = false → ∀ k : Nat, (k : Int) ∈ C → clsd (s.K.getD k zk).1 s.tk = false → opn (s.K.getD k zk).1 s.tk ≠ 0) :
    Calls Tryd.prog 86 #[.pointer (some ⟨c, 0, none⟩)] w fun e w' => ∃ s', e = .returned (.tuple #[.int .i8 s.ps.uniX, .bool (!s.em)]) ∧ Wat w' c s' ∧ Stp c s s' w w' ∧ s'.ps = s.ps.uni := by
  have x51 := h.cell (k := 51) (by decide)
  rw [at51] at x51
  cases hem : s.em
  · rw [hem] at x51
    have eX : s.ps.uniX = if least s.ps (still s.ps) = s.K.length then 0 else fstI (opn (s.K.getD (least s.ps (still s.ps)) zk).1 s.tk) := by
      unfold PS.uniX
      rw [if_neg (show ¬ s.ps.em = true by show ¬ s.em = true; rw [hem]; simp)]
      rfl
    have eP : s.ps.uni = { s.ps with A := s.ps.A.set 0 (still s.ps) } := by
      unfold PS.uni
      rw [if_neg (show ¬ s.ps.em = true by show ¬ s.em = true; rw [hem]; simp)]
    have eS : still s.ps = C.filter (live s.ps) := by
      unfold still
      rw [ps_getD, hC]
    have hop' := hop hem
    obtain ⟨a0, cap0, eV⟩ := h.vform
    have x0 := h.cell (k := 0) (by decide)
    rw [wm.at0, eV] at x0
    have x50 := h.cell (k := 50) (by decide)
    rw [at50, hC] at x50
    have f50 := h.fz 50
    have hjl : 0 < s.A.length := by rw [h.len]; decide
    have own := h.ls _ (mem_getD hjl)
    rw [hC] at own
    have EX := hide eX
    have EP := hide eP
    have ES := hide eS
    have HOP := hide hop'
    have HS := hide hS
    have HCI := hide hCi
    have HT := hide hTab
    have HW := hide h
    have HC := hide hC
    clear eX eP eS hop hop' hS hCi hTab hem hjl
    obtain ⟨_, h2⟩ := own
    rcases h2 with ⟨e, h0⟩ | ⟨g, cap, cur, e, _, _, hcap, _⟩
    · have e' : v = .slice none 0 0 := e
      subst e'
      have hnil : C = [] := List.eq_nil_of_length_eq_zero h0
      subst hnil
      have W2 := h.set (q := 50) (s' := s) (v := .slice none 0 0) (by decide) (fun k hk => by
        by_cases q : k = 50
        · subst q
          rw [if_pos rfl, at50, unhide HC]
        · rw [if_neg q]) rfl rfl rfl
      have R2 := hide W2
      have E1 : Hid (s.ps.uniX = 0) := by
        show _ = _
        rw [unhide EX, unhide ES]
        exact if_pos rfl
      have E2 : Hid (s.ps.uni = s.ps) := by
        show _ = _
        rw [unhide EP, unhide ES]
        have := w0_ps (s := s) (v := .slice none 0 0) (X := [])
        rw [w0_self h.len (unhide HC)] at this
        exact this.symm
      clear W2 h
      go_enter Tryd.func86, Tryd.ntmps86
      go_wp2
      go_loop [4, 5, 27] (fun lv sv iv => lv = .int .i64 (s.K.length : Int) ∧ sv = .slice none 0 0 ∧ iv = .int .i64 0) (fun _ _ _ => 0)
      case atStart => exact ⟨rfl, rfl, rfl⟩
      case round =>
        obtain ⟨rfl, rfl, rfl⟩ := hrel
        have y0 : (w.setCell ⟨c, 50, none⟩ (.slice none 0 0)).cell? ⟨c, 0, none⟩ = some (.slice a0 s.K.length cap0) := by
          have := (unhide R2).1.cell (k := 0) (by decide)
          rw [wm.at0, eV] at this
          exact this
        go_wp2
        go_ret2
        first
          | exact ⟨by rw [unhide E1]; rfl, s, (unhide R2).1, (unhide R2).2, (unhide E2).symm⟩
          | exact ⟨s, by rw [unhide E1]; rfl, (unhide R2).1, (unhide R2).2, (unhide E2).symm⟩
    · have e' : v = .slice (some ⟨g, 0, none⟩) C.length cap := e
      subst e'
      have st : Hid (Unt c s g cap C 0 w w) := by
        have e0 : mix s.ps C 0 = C := by unfold mix; simp
        unfold Unt
        rw [e0, w0_self h.len (unhide HC)]
        exact ⟨h, Stp.refl _ _ _⟩
      have hA49 := hide h.len
      clear h
      go_enter Tryd.func86, Tryd.ntmps86
      go_wp2
      clear x51 x50 f50 x0
      go_loopw [4, 5, 27] (fun lv sv iv wx => ∃ t : Nat, t ≤ C.length ∧ iv = .int .i64 (t : Int) ∧ lv = .int .i64 (least s.ps ((C.take t).filter (live s.ps)) : Nat) ∧ sv = .slice (some ⟨g, 0, none⟩) ((C.take t).filter (live s.ps)).length cap ∧ Hid (Unt c s g cap C t w wx)) (fun _ _ iv _ => C.length - (intOf iv).toNat)
      case atStart => exact ⟨0, Nat.zero_le _, rfl, rfl, rfl, st⟩
      case round =>
        obtain ⟨t, ht, rfl, rfl, rfl, hu⟩ := hrel
        clear st
        by_cases hlt : t < C.length
        · have hi' : (t : Int) < (C.length : Int) := by omega
          have c1 := (unhide hu).1.at0 (w0_get (unhide hA49)) (mix_len s.ps C t ht) t hlt
          rw [mix_at s.ps C t hlt] at c1
          have hfl := flen s.ps C t ht
          have c2 := (unhide hu).1.at0 (w0_get (unhide hA49)) (mix_len s.ps C t ht) ((C.take t).filter (live s.ps)).length (by omega)
          obtain ⟨k, hk, hkK⟩ := unhide HCI (C.getD t 0) (by rw [show C.getD t 0 = C[t] by simp [hlt]]; exact List.getElem_mem hlt)
          have cc := closed (s := s.w0 (.slice (some ⟨g, 0, none⟩) C.length cap) (mix s.ps C t)) (i := k) (unhide hu).1 hkK hl (unhide HS k hkK) hT
          have hlive : live s.ps (C.getD t 0) = !clsd (s.K.getD k zk).1 s.tk := by
            unfold live
            rw [hk]
            rfl
          have fy := filt_yes s.ps C t hlt
          have fn := filt_no s.ps C t hlt
          have my := mix_set s.ps C t hlt
          have mn := mix_no s.ps C t hlt
          have ls := least_snoc s.ps ((C.take t).filter (live s.ps)) (C.getD t 0)
          have ll := least_le s.ps ((C.take t).filter (live s.ps))
          have hml := mix_len s.ps C (t + 1) (by omega)
          rw [hk] at c1 hlive fy fn my mn ls
          have e1 : (s.w0 (.slice (some ⟨g, 0, none⟩) C.length cap) (mix s.ps C t)).K = s.K := rfl
          have e2 : (s.w0 (.slice (some ⟨g, 0, none⟩) C.length cap) (mix s.ps C t)).tk = s.tk := rfl
          rw [e1, e2] at cc
          have cw := c1.1
          clear e1 e2
          cases hcl : clsd (s.K.getD k zk).1 s.tk
          · rw [hcl] at cc hlive
            have CC := hide cc
            have FY := hide (fy hlive)
            have NX : Hid (∀ w0, wr.grownBy w0 none → Unt c s g cap C (t + 1) w (w0.setCell ⟨g, ((C.take t).filter (live s.ps)).length, none⟩ (.int .i64 (k : Int)))) := by
              intro w0 g0
              have k1 := (unhide hu).1.row0 (w0_get (unhide hA49)) g0 (mix_len s.ps C t ht) hml (my hlive)
              rw [w0_w0] at k1
              exact ⟨k1.1, (unhide hu).2.trans k1.2⟩
            have LS := hide ls
            have HU := hide (unhide hu).1
            clear cc hlive fy fn my mn ls hcl hu hk
            have hcell := c2.1
            have hfz := c2.2.1
            have hcap' := c2.2.2
            generalize (C.take t).filter (live s.ps) = F at *
            generalize hq : least s.ps F = q at *
            have CS : Hid (∀ w0, wr.grownBy w0 none → (w0.cell? ⟨g, F.length, none⟩).isSome = true ∧ w0.frozen? ⟨g, F.length, none⟩ = false) := by
              intro w0 g0
              have := ((unhide HU).kept g0).at0 (w0_get (unhide hA49)) (mix_len s.ps C t ht) F.length (by omega)
              exact ⟨by rw [this.1]; rfl, this.2.1⟩
            clear c1 c2 hcell hfz HU
            go_wp2_with fail
            refine (unhide CC).mono ?_; rintro e w3 ⟨rfl, m3, rfl⟩
            have GD := hide (grown_trans (r := none) (grown_drewN wr m3) (World.grownBy_alloc (wr.drewN m3) (.cells #[.int .i64 (k : Int)] 3) none))
            have NB : Hid (((wr.drewN m3).alloc (.cells #[.int .i64 (k : Int)] 3)).cell? ⟨(wr.drewN m3).heap.size, 0, none⟩ = some (.int .i64 (k : Int))) := by
              exact new_cell _ _
            have R3 := hide (unhide NX _ (unhide GD))
            clear CC NX
            go_wp2_with (at_builtin; refine roomW (unhide NB) (by omega) (unhide CS _ (unhide GD)).1 (unhide CS _ (unhide GD)).2 rfl _ _ rfl rfl rfl ?_)
            clear CS NB GD
            go_wp2
            go_roundw
            case rel => exact ⟨t + 1, by omega, by go_num, by rw [unhide FY, unhide LS, min_eq], by rw [unhide FY, List.length_append]; rfl, unhide R3⟩
            case measure => simp [intOf]; omega
          · rw [hcl] at cc hlive
            have CC := hide cc
            have FN := hide (fn hlive)
            have R3 : Hid (Unt c s g cap C (t + 1) w wr) := by
              unfold Unt
              rw [mn hlive]
              exact unhide hu
            clear cc hlive fy fn my mn ls hcl hu hk c1 c2
            generalize (C.take t).filter (live s.ps) = F at *
            go_wp2_with fail
            refine (unhide CC).mono ?_; rintro e w3 ⟨rfl, m3, rfl⟩
            have R4 : Hid (Unt c s g cap C (t + 1) w (wr.drewN m3)) := ⟨(unhide R3).1.kept (grown_drewN wr m3), (unhide R3).2.trans (Stp.of_grown (grown_drewN wr m3))⟩
            clear CC R3
            go_wp2
            go_roundw
            case rel => exact ⟨t + 1, by omega, by go_num, by rw [unhide FN], by rw [unhide FN], R4⟩
            case measure => simp [intOf]; omega
        · have hi' : ¬ (t : Int) < (C.length : Int) := by omega
          have et : C.take t = C := List.take_of_length_le (by omega)
          have hfl := flen s.ps C t ht
          have ew := (unhide hu).1
          have hgc := w0_get (s := s) (v := .slice (some ⟨g, 0, none⟩) C.length cap) (X := mix s.ps C t) (unhide hA49)
          have hjl : 0 < (s.w0 (.slice (some ⟨g, 0, none⟩) C.length cap) (mix s.ps C t)).A.length := by rw [ew.len]; decide
          have own := ew.ls _ (mem_getD hjl)
          rw [hgc] at own
          have own' : wr.ownsRow 0 3 1 (.slice (some ⟨g, 0, none⟩) C.length cap) C.length (ints (mix s.ps C t)) := by
            have e := mix_len s.ps C t ht
            have o : wr.ownsRow 0 3 1 (.slice (some ⟨g, 0, none⟩) C.length cap) (mix s.ps C t).length (ints (mix s.ps C t)) := own
            rw [e] at o
            exact o
          have cut := own_cut (m := ((C.take t).filter (live s.ps)).length) own' (by omega)
          have ecut : (ints (mix s.ps C t)).take ((C.take t).filter (live s.ps)).length = ints ((C.take t).filter (live s.ps)) := by
            unfold mix
            rw [app.ints_append, ← sl.ints_length ((C.take t).filter (live s.ps)), List.take_left']
            rfl
          rw [ecut] at cut
          have k5 := ew.list (j := 0) (M := (C.take t).filter (live s.ps)) (by decide) (grown_refl wr) cut ⟨rfl, rfl, rfl, Nat.le_refl _, fun _ _ _ => rfl⟩ (.inl (by rw [hgc]; rfl))
          rw [w0_w0] at k5
          have x50 := ew.cell (k := 50) (by decide)
          rw [at50, hgc] at x50
          have f50 := ew.fz 50
          have S5 := hide (And.intro k5.1 ((unhide hu).2.trans k5.2))
          have EP' : Hid (s.ps.uni = (s.w0 (.slice (some ⟨g, 0, none⟩) ((C.take t).filter (live s.ps)).length cap) ((C.take t).filter (live s.ps))).ps) := by
            show _ = _
            rw [w0_ps, unhide EP, unhide ES, et]
          have EX' : Hid (s.ps.uniX = if least s.ps ((C.take t).filter (live s.ps)) = s.K.length then 0 else fstI (opn (s.K.getD (least s.ps ((C.take t).filter (live s.ps))) zk).1 s.tk)) := by
            show _ = _
            rw [unhide EX, unhide ES, et]
          have lm := least_mem s.ps ((C.take t).filter (live s.ps))
          have ll := least_le s.ps ((C.take t).filter (live s.ps))
          have HM : Hid (∀ x ∈ (C.take t).filter (live s.ps), x ∈ C ∧ live s.ps x = true) := by
            intro x hx
            rw [et] at hx
            exact List.mem_filter.1 hx
          have y0 : (wr.setCell ⟨c, 50, none⟩ (.slice (some ⟨g, 0, none⟩) ((C.take t).filter (live s.ps)).length cap)).cell? ⟨c, 0, none⟩ = some (.slice a0 s.K.length cap0) := by
            have := (unhide S5).1.cell (k := 0) (by decide)
            rw [wm.at0] at this
            have e3 : (s.w0 (.slice (some ⟨g, 0, none⟩) ((C.take t).filter (live s.ps)).length cap) ((C.take t).filter (live s.ps))).V = s.V := rfl
            rw [e3, eV] at this
            exact this
          clear ew hgc hjl own own' cut ecut k5 et hu EX EP ES
          generalize (C.take t).filter (live s.ps) = F at *
          have LM := hide lm
          clear lm
          generalize hq : least s.ps F = q at *
          have hqK : q ≤ s.K.length := ll
          by_cases hql : q = s.K.length
          · have b1 : ((q : Int) == (s.K.length : Int)) = true := by simp [hql]
            go_wp2
            go_ret2
            first
              | exact ⟨by rw [unhide EX', if_pos hql]; rfl, _, (unhide S5).1, (unhide S5).2, (unhide EP').symm⟩
              | exact ⟨_, by rw [unhide EX', if_pos hql]; rfl, (unhide S5).1, (unhide S5).2, (unhide EP').symm⟩
          · have b1 : ((q : Int) == (s.K.length : Int)) = false := by
              rw [beq_eq_false_iff_ne]
              omega
            have hqi : q < s.K.length := by omega
            have co := open_ (s := s.w0 (.slice (some ⟨g, 0, none⟩) F.length cap) F) (i := q) (unhide S5).1 hqi hl (unhide HS q hqi) hT
            have e1 : (s.w0 (.slice (some ⟨g, 0, none⟩) F.length cap) F).K = s.K := rfl
            have e2 : (s.w0 (.slice (some ⟨g, 0, none⟩) F.length cap) F).tk = s.tk := rfl
            rw [e1, e2] at co
            have CO := hide co
            have hne : opn (s.K.getD q zk).1 s.tk ≠ 0 := by
              rcases unhide LM with z | ⟨x, hx, z⟩
              · exact absurd z (by show ¬ q = s.K.length; exact hql)
              · have hm := unhide HM x hx
                obtain ⟨k, rfl, hk⟩ := unhide HCI x hm.1
                have hk' : k = q := by
                  have : ((k : Int)).toNat = q := z
                  rw [Int.toNat_natCast] at this
                  exact this
                subst hk'
                refine unhide HOP k hm.1 ?_
                have hl2 := hm.2
                unfold live at hl2
                rw [Int.toNat_natCast, Bool.not_eq_true'] at hl2
                exact hl2
            have hol : opn (s.K.getD q zk).1 s.tk < 2 ^ 48 := andN_lt _ _ (unhide HS q hqi)
            have T5 := (unhide HT).stp (unhide S5).2
            have CF := hide (fun w t => srt.first (opn (s.K.getD q zk).1 s.tk) w t (by omega) hol)
            have T6 := hide T5.1
            clear co e1 e2 hne hol T5
            generalize opn (s.K.getD q zk).1 s.tk = O at *
            go_wp2_with fail
            refine (unhide CO).mono ?_; rintro e w6 ⟨rfl, m6, rfl⟩
            go_wp2_with fail
            refine (unhide CF _ ((unhide T6).kept (grown_drewN _ m6))).mono ?_; rintro e w7 ⟨rfl, hw⟩; have hw' := hw.symm; clear hw; subst hw'
            go_wp2_with fail
            go_ret2
            first
              | exact ⟨by rw [unhide EX', if_neg hql]; rfl, _, (unhide S5).1.kept (grown_drewN _ m6), (unhide S5).2.trans (Stp.of_grown (grown_drewN _ m6)), (unhide EP').symm⟩
              | exact ⟨_, by rw [unhide EX', if_neg hql]; rfl, (unhide S5).1.kept (grown_drewN _ m6), (unhide S5).2.trans (Stp.of_grown (grown_drewN _ m6)), (unhide EP').symm⟩
  · rw [hem] at x51
    have E1 : Hid (s.ps.uniX = 0) := by
      show _ = _
      unfold PS.uniX
      rw [if_pos (show s.ps.em = true from hem)]
    have E2 : Hid (s.ps.uni = s.ps) := by
      show _ = _
      unfold PS.uni
      rw [if_pos (show s.ps.em = true from hem)]
    have HW := hide h
    clear h hop hem
    go_enter Tryd.func86, Tryd.ntmps86
    go_wp2
    go_ret2
    first
      | exact ⟨by rw [unhide E1]; rfl, s, unhide HW, Stp.refl _ _ _, (unhide E2).symm⟩
      | exact ⟨s, by rw [unhide E1]; rfl, unhide HW, Stp.refl _ _ _, (unhide E2).symm⟩
end Go.Proofs.YtloenjaonkdlaaaDoor.wm
namespace Go.Proofs.YtloenjaonkdlaaaDoor.wm
open Go.RowKit
open Go.Proofs.YtloenjaonkdlaaaDoor.lits (okB okB_iff)
open Go.Proofs.YtloenjaonkdlaaaDoor.bset (placeN placeN_le placeN_inj)
open Go.Proofs.YtloenjaonkdlaaaDoor.srt (woN woN_lt woN_bit fstI oppN oppN_bit oppN_lt swp swp_lt andN andN_bit andN_lt or_lt hi_bit)
set_option linter.unusedVariables false

theorem ne_bit {O : Nat} (h : O ≠ 0) : ∃ b, O.testBit b = true := Nat.exists_testBit_of_ne_zero h
/-- the weight of the lists that are still to be gone through -/
def wf (P : PS) (R p : Nat) : Nat := if P.tk.testBit (swp p) && !R.testBit (swp p) then 0 else (P.A.getD (1 + p) []).length
def wgt (P : PS) (R : Nat) : Nat := sumR 48 (wf P R) + (P.A.getD 0 []).length
theorem wf_yes {P : PS} {R p : Nat} (h : (P.tk.testBit (swp p) && !R.testBit (swp p)) = false) : wf P R p = (P.A.getD (1 + p) []).length := by
  unfold wf
  rw [h]
  rfl
theorem wf_no {P : PS} {R p : Nat} (h : (P.tk.testBit (swp p) && !R.testBit (swp p)) = true) : wf P R p = 0 := by
  unfold wf
  rw [h]
  rfl
/-- what is still to come to clause i by way of p -/
def pend (P : PS) (R : Nat) (l : Int) (C : List Int) (i : Nat) (p : Int) : Prop := R.testBit (placeN (-p)) = true ∨ (p = l ∧ (i : Int) ∈ C)
def lost (P : PS) (p : Int) : Prop := P.tk.testBit (placeN (-p)) = true
/-- how it stands with clause i (S all its literals, p and q the two that it is watched by) -/
def Stn (P : PS) (R : Nat) (l : Int) (C : List Int) (i S : Nat) (p q : Int) : Prop :=
  ((i : Int) ∈ P.A.getD 0 [] ∧ ∃ y, (y = p ∨ y = q) ∧ (opn S P.tk).testBit (placeN y) = true ∧ ∀ b, (opn S P.tk).testBit b = true → b = placeN y) ∨
  (P.em = true ∧ opn S P.tk = 0) ∨
  (p ≠ q ∧ (lost P p → pend P R l C i p) ∧ (lost P q → pend P R l C i q)) ∨
  ((i : Int) ∈ P.A.getD 0 [] ∧ opn S P.tk = 0 ∧ ((lost P p ∧ pend P R l C i p) ∨ (lost P q ∧ pend P R l C i q)))
/-- how many numbers the lists by literals hold -/
def tot (P : PS) : Nat := sumR 48 (fun p => (P.A.getD (1 + p) []).length)
structure Jn (Ss : List Nat) (P : PS) (R : Nat) (l : Int) (F C : List Int) : Prop where
  len : P.K.length = Ss.length
  sets : ∀ i, i < Ss.length → (P.K.getD i zk).1 = Ss.getD i 0
  wd : ∀ i, i < Ss.length → Ss.getD i 0 < 2 ^ 48
  tk : P.tk < 2 ^ 48
  rk : R < 2 ^ 48
  al : P.A.length = 50
  rin : ∀ b, R.testBit b = true → P.tk.testBit b = true
  wat : ∀ i, i < Ss.length → Ss.getD i 0 ≠ 0 → okB (P.K.getD i zk).2.1 = true ∧ okB (P.K.getD i zk).2.2 = true ∧ (Ss.getD i 0).testBit (placeN (P.K.getD i zk).2.1) = true ∧ (Ss.getD i 0).testBit (placeN (P.K.getD i zk).2.2) = true ∧
    (i : Int) ∈ P.A.getD (1 + placeN (P.K.getD i zk).2.1) [] ∧ (i : Int) ∈ P.A.getD (1 + placeN (P.K.getD i zk).2.2) []
  idx : ∀ j, ∀ x ∈ P.A.getD j [], ∃ k : Nat, x = (k : Int) ∧ k < Ss.length ∧ Ss.getD k 0 ≠ 0
  cin : ∀ x ∈ C, ∃ k : Nat, x = (k : Int) ∧ k < Ss.length ∧ Ss.getD k 0 ≠ 0
  lo : C ≠ [] → okB l = true ∧ P.tk.testBit (placeN (-l)) = true
  hand : C ≠ [] → P.A.getD (1 + placeN l) [] = F ++ C
  bd : wgt P R + C.length ≤ 4194304
  nl : Ss.length ≤ 1048576
  tt : tot P ≤ 2 * Ss.length
  fl : F.length + C.length ≤ 2 * Ss.length
  sg : ∀ i, i < Ss.length → Ss.getD i 0 ≠ 0 → (P.K.getD i zk).2.1 = (P.K.getD i zk).2.2 → (i : Int) ∈ P.A.getD 49 []
  so : ∀ k : Nat, (k : Int) ∈ P.A.getD 49 [] → ∀ a b, (Ss.getD k 0).testBit a = true → (Ss.getD k 0).testBit b = true → a = b
  sn : (P.A.getD 49 []).length ≤ Ss.length
  hz : P.ho = true ↔ ∃ i, i < Ss.length ∧ Ss.getD i 0 = 0
  wt : ∀ k : Nat, (k : Int) ∈ P.A.getD 0 [] → clsd (Ss.getD k 0) P.tk = false → ∀ a b, (opn (Ss.getD k 0) P.tk).testBit a = true → (opn (Ss.getD k 0) P.tk).testBit b = true → a = b
  es : P.em = true → ∃ i, i < Ss.length ∧ clsd (Ss.getD i 0) P.tk = false ∧ opn (Ss.getD i 0) P.tk = 0
  ez : ∀ i, i < Ss.length → Ss.getD i 0 = 0 → P.em = true
  st : ∀ i, i < Ss.length → Ss.getD i 0 ≠ 0 → clsd (Ss.getD i 0) P.tk = false → Stn P R l C i (Ss.getD i 0) (P.K.getD i zk).2.1 (P.K.getD i zk).2.2

theorem wgt_at {P : PS} {R q : Nat} (hq : q < 48) (h : (P.tk.testBit (swp q) && !R.testBit (swp q)) = false) : (P.A.getD (1 + q) []).length ≤ wgt P R := by
  unfold wgt
  have := sumR_get (n := 48) (f := wf P R) hq
  rw [wf_yes h] at this
  omega
theorem getD_set {A : List (List Int)} {j : Nat} {X : List Int} (k : Nat) : (A.set j X).getD k [] = if k = j ∧ j < A.length then X else A.getD k [] := by
  rw [List.getD, List.getD, List.getElem?_set]
  by_cases e : j = k
  · subst e
    by_cases h : j < A.length
    · rw [if_pos rfl, if_pos h, if_pos ⟨rfl, h⟩]
      rfl
    · rw [if_pos rfl, if_neg h, if_neg (fun q => h q.2), List.getElem?_eq_none (by omega)]
  · rw [if_neg e, if_neg (fun q => e q.1.symm)]
theorem more_get (P : PS) (j : Nat) (y : Int) (k : Nat) : (P.more j y).A.getD k [] = if k = j ∧ j < P.A.length then P.A.getD k [] ++ [y] else P.A.getD k [] := by
  show (P.A.set j _).getD k [] = _
  rw [getD_set]
  by_cases h : k = j ∧ j < P.A.length
  · rw [if_pos h, if_pos h, h.1]
  · rw [if_neg h, if_neg h]
theorem more_mem {P : PS} {j k : Nat} {y x : Int} (h : x ∈ P.A.getD k []) : x ∈ (P.more j y).A.getD k [] := by
  rw [more_get]
  split
  · exact List.mem_append_left _ h
  · exact h
theorem more_new {P : PS} {j : Nat} {y : Int} (h : j < P.A.length) : y ∈ (P.more j y).A.getD j [] := by
  rw [more_get, if_pos ⟨rfl, h⟩]
  simp
theorem more_of {P : PS} {j k : Nat} {y x : Int} (h : x ∈ (P.more j y).A.getD k []) : x ∈ P.A.getD k [] ∨ (k = j ∧ x = y) := by
  rw [more_get] at h
  split at h
  · rename_i q
    rcases List.mem_append.1 h with h | h
    · exact .inl h
    · exact .inr ⟨q.1, by simpa using h⟩
  · exact .inl h
/-- one number more in a list that counts -/
theorem wgt_more {P : PS} {R j : Nat} {y : Int} : wgt (P.more j y) R ≤ wgt P R + 1 := by
  unfold wgt
  have e0 : ((P.more j y).A.getD 0 []).length ≤ (P.A.getD 0 []).length + (if j = 0 then 1 else 0) := by
    rw [more_get]
    split
    · rename_i q
      rw [if_pos q.1.symm, List.length_append]
      exact Nat.le_refl _
    · omega
  have eq : ∀ p, 1 + p ≠ j → wf (P.more j y) R p = wf P R p := by
    intro p hp
    have e : (P.more j y).A.getD (1 + p) [] = P.A.getD (1 + p) [] := by rw [more_get P j y (1 + p), if_neg (fun q => hp q.1)]
    unfold wf
    rw [e]
    rfl
  by_cases hj : 1 ≤ j ∧ j - 1 < 48
  · have := sumR_one (n := 48) (q := j - 1) (d := 1) (f := wf (P.more j y) R) (g := wf P R) hj.2 (fun p hp hne => by rw [eq p (by omega)]; exact Nat.le_refl _) (by
      unfold wf
      show (if P.tk.testBit (swp (j - 1)) && !R.testBit (swp (j - 1)) then 0 else _) ≤ _
      cases P.tk.testBit (swp (j - 1)) && !R.testBit (swp (j - 1))
      · show ((P.more j y).A.getD (1 + (j - 1)) []).length ≤ (P.A.getD (1 + (j - 1)) []).length + 1
        rw [more_get]
        split
        · rw [List.length_append]
          exact Nat.le_refl _
        · omega
      · exact Nat.zero_le _)
    rw [if_neg (by omega)] at e0
    omega
  · have := sumR_le (n := 48) (f := wf (P.more j y) R) (g := wf P R) (fun p hp => by rw [eq p (by omega)]; exact Nat.le_refl _)
    split at e0 <;> omega
theorem tot_more {P : PS} {q : Nat} {y : Int} (hq : q < 48) : tot (P.more (1 + q) y) ≤ tot P + 1 := by
  refine sumR_one hq (fun p hp hne => ?_) ?_
  · rw [more_get, if_neg (fun e => hne (by omega))]
    exact Nat.le_refl _
  · rw [more_get]
    split
    · rw [List.length_append]
      exact Nat.le_refl _
    · exact Nat.le_succ _
theorem tot_more0 {P : PS} {y : Int} : tot (P.more 0 y) ≤ tot P := by
  refine sumR_le (fun p hp => ?_)
  rw [more_get, if_neg (fun e => by omega)]
  exact Nat.le_refl _
theorem setL_get (P : PS) (j : Nat) (M : List Int) (k : Nat) : (P.setL j M).A.getD k [] = if k = j ∧ j < P.A.length then M else P.A.getD k [] := getD_set k
theorem tot_cut {P : PS} {q : Nat} {M : List Int} (hq : q < 48) (hl : 1 + q < P.A.length) (h : M.length + 1 ≤ (P.A.getD (1 + q) []).length) : tot (P.setL (1 + q) M) + 1 ≤ tot P := by
  refine sumR_cut (q := q) hq (fun p hp hne => ?_) ?_
  · rw [setL_get, if_neg (fun e => hne (by omega))]
    exact Nat.le_refl _
  · rw [setL_get, if_pos ⟨rfl, hl⟩]
    exact h
theorem wgt_cut {P : PS} {R q : Nat} {M : List Int} (h : M.length ≤ (P.A.getD (1 + q) []).length) : wgt (P.setL (1 + q) M) R ≤ wgt P R := by
  unfold wgt
  have e0 : (P.setL (1 + q) M).A.getD 0 [] = P.A.getD 0 [] := by rw [setL_get, if_neg (fun e => by omega)]
  rw [e0]
  have := sumR_le (n := 48) (f := wf (P.setL (1 + q) M) R) (g := wf P R) (fun p hp => by
    unfold wf
    show (if P.tk.testBit (swp p) && !R.testBit (swp p) then 0 else _) ≤ _
    split
    · exact Nat.le_refl _
    · rw [setL_get]
      split
      · rename_i e
        rw [e.1]
        exact h
      · exact Nat.le_refl _)
  omega
end Go.Proofs.YtloenjaonkdlaaaDoor.wm
namespace Go.Proofs.YtloenjaonkdlaaaDoor.wm
open Go.RowKit
open Go.Proofs.YtloenjaonkdlaaaDoor.lits (okB okB_iff)
open Go.Proofs.YtloenjaonkdlaaaDoor.bset (placeN placeN_le placeN_inj)
open Go.Proofs.YtloenjaonkdlaaaDoor.srt (woN woN_lt woN_bit fstI oppN oppN_bit oppN_lt swp swp_lt andN andN_bit andN_lt or_lt hi_bit)
set_option linter.unusedVariables false

theorem Jn.build {Ss : List Nat} {P P' : PS} {R i : Nat} {l : Int} {F F' C : List Int} (h : Jn Ss P R l F ((i : Int) :: C)) (hi : i < Ss.length) (hS : Ss.getD i 0 ≠ 0) (htk : P'.tk = P.tk) (hho : P'.ho = P.ho) (hlen : P'.K.length = P.K.length)
    (hKo : ∀ j, j ≠ i → P'.K.getD j zk = P.K.getD j zk) (hKi : (P'.K.getD i zk).1 = (P.K.getD i zk).1) (hal : P'.A.length = 50)
    (hA : ∀ k x, x ≠ (i : Int) → x ∈ P.A.getD k [] → x ∈ P'.A.getD k []) (hidx : ∀ k x, x ∈ P'.A.getD k [] → x ∈ P.A.getD k [] ∨ x = (i : Int)) (h49 : P'.A.getD 49 [] = P.A.getD 49 []) (hbd : wgt P' R ≤ wgt P R + 1) (htt : tot P' ≤ tot P)
    (hfl : F'.length ≤ F.length + 1) (hhand : C ≠ [] → P'.A.getD (1 + placeN l) [] = F' ++ C) (hem : P.em = true → P'.em = true)
    (hwat : okB (P'.K.getD i zk).2.1 = true ∧ okB (P'.K.getD i zk).2.2 = true ∧ (Ss.getD i 0).testBit (placeN (P'.K.getD i zk).2.1) = true ∧ (Ss.getD i 0).testBit (placeN (P'.K.getD i zk).2.2) = true ∧
      (i : Int) ∈ P'.A.getD (1 + placeN (P'.K.getD i zk).2.1) [] ∧ (i : Int) ∈ P'.A.getD (1 + placeN (P'.K.getD i zk).2.2) [])
    (hsg : (P'.K.getD i zk).2.1 = (P'.K.getD i zk).2.2 → (i : Int) ∈ P.A.getD 49 [])
    (hwt : (i : Int) ∈ P'.A.getD 0 [] → clsd (Ss.getD i 0) P.tk = false → ∀ a b, (opn (Ss.getD i 0) P.tk).testBit a = true → (opn (Ss.getD i 0) P.tk).testBit b = true → a = b)
    (hes : P'.em = true → ∃ i, i < Ss.length ∧ clsd (Ss.getD i 0) P.tk = false ∧ opn (Ss.getD i 0) P.tk = 0)
    (hst : clsd (Ss.getD i 0) P.tk = false → Stn P' R l C i (Ss.getD i 0) (P'.K.getD i zk).2.1 (P'.K.getD i zk).2.2) : Jn Ss P' R l F' C where
  len := by rw [hlen]; exact h.len
  sets := fun j hj => by
    by_cases e : j = i
    · subst e
      rw [hKi]
      exact h.sets j hj
    · rw [hKo j e]
      exact h.sets j hj
  wd := h.wd
  tk := by rw [htk]; exact h.tk
  rk := h.rk
  al := hal
  rin := by rw [htk]; exact h.rin
  wat := fun j hj hSj => by
    by_cases e : j = i
    · subst e
      exact hwat
    · rw [hKo j e]
      have := h.wat j hj hSj
      exact ⟨this.1, this.2.1, this.2.2.1, this.2.2.2.1, hA _ _ (by omega) this.2.2.2.2.1, hA _ _ (by omega) this.2.2.2.2.2⟩
  idx := fun k x hx => by
    rcases hidx k x hx with q | q
    · exact h.idx k x q
    · exact ⟨i, q, hi, hS⟩
  cin := fun x hx => h.cin x (List.mem_cons_of_mem _ hx)
  lo := fun _ => by rw [htk]; exact h.lo (by simp)
  hand := hhand
  bd := by
    have := h.bd
    rw [List.length_cons] at this
    omega
  nl := h.nl
  tt := Nat.le_trans htt h.tt
  fl := by
    have := h.fl
    rw [List.length_cons] at this
    omega
  sg := fun j hj hSj => by
    rw [h49]
    by_cases e : j = i
    · subst e
      exact hsg
    · rw [hKo j e]
      exact h.sg j hj hSj
  so := by rw [h49]; exact h.so
  sn := by rw [h49]; exact h.sn
  hz := by rw [hho]; exact h.hz
  wt := fun k hk => by
    rw [htk]
    rcases hidx 0 _ hk with q | q
    · exact h.wt k q
    · have : k = i := by omega
      subst this
      exact hwt hk
  es := by rw [htk]; exact hes
  ez := fun j hj hz => hem (h.ez j hj hz)
  st := fun j hj hSj => by
    rw [htk]
    intro hc
    by_cases e : j = i
    · subst e
      exact hst hc
    · rw [hKo j e]
      have hji : (j : Int) ≠ (i : Int) := by omega
      have pe : ∀ p, pend P R l ((i : Int) :: C) j p → pend P' R l C j p := by
        intro p hp
        rcases hp with q | ⟨q1, q2⟩
        · exact .inl q
        · rcases List.mem_cons.1 q2 with q | q
          · omega
          · exact .inr ⟨q1, q⟩
      have lo : ∀ p, lost P' p ↔ lost P p := fun p => by unfold lost; rw [htk]
      rcases h.st j hj hSj hc with ⟨a1, y, a2, a3, a4⟩ | ⟨b1, b2⟩ | ⟨c1, c2, c3⟩ | ⟨d1, d2, d3⟩
      · exact .inl ⟨hA _ _ hji a1, y, a2, by rw [htk]; exact a3, by rw [htk]; exact a4⟩
      · exact .inr (.inl ⟨hem b1, by rw [htk]; exact b2⟩)
      · exact .inr (.inr (.inl ⟨c1, fun q => pe _ (c2 ((lo _).1 q)), fun q => pe _ (c3 ((lo _).1 q))⟩))
      · refine .inr (.inr (.inr ⟨hA _ _ hji d1, by rw [htk]; exact d2, ?_⟩))
        rcases d3 with ⟨q1, q2⟩ | ⟨q1, q2⟩
        · exact .inl ⟨(lo _).2 q1, pe _ q2⟩
        · exact .inr ⟨(lo _).2 q1, pe _ q2⟩
theorem wgt_K {P : PS} {K : List (Nat × Int × Int)} {b : Bool} {R : Nat} : wgt { P with K := K, em := b } R = wgt P R := rfl
theorem K_other {K : List (Nat × Int × Int)} {i j : Nat} {k : Nat × Int × Int} (h : j ≠ i) : (K.set i k).getD j zk = K.getD j zk := by
  rw [List.getD, List.getD, List.getElem?_set_ne (fun e => h e.symm)]
theorem swK_other {K : List (Nat × Int × Int)} {i j : Nat} {l : Int} (h : j ≠ i) : (swK K i l).getD j zk = K.getD j zk := K_other h
theorem sw_pair {Ss : List Nat} {P : PS} {k : Nat} {l : Int}
    (hw : okB (P.K.getD k zk).2.1 = true ∧ okB (P.K.getD k zk).2.2 = true ∧ (Ss.getD k 0).testBit (placeN (P.K.getD k zk).2.1) = true ∧ (Ss.getD k 0).testBit (placeN (P.K.getD k zk).2.2) = true ∧
      (k : Int) ∈ P.A.getD (1 + placeN (P.K.getD k zk).2.1) [] ∧ (k : Int) ∈ P.A.getD (1 + placeN (P.K.getD k zk).2.2) []) :
    okB (sw0 (P.K.getD k zk) l) = true ∧ okB (sw1 (P.K.getD k zk) l) = true ∧ (Ss.getD k 0).testBit (placeN (sw0 (P.K.getD k zk) l)) = true ∧ (Ss.getD k 0).testBit (placeN (sw1 (P.K.getD k zk) l)) = true ∧
      (k : Int) ∈ P.A.getD (1 + placeN (sw0 (P.K.getD k zk) l)) [] ∧ (k : Int) ∈ P.A.getD (1 + placeN (sw1 (P.K.getD k zk) l)) [] := by
  unfold sw0 sw1
  split
  · exact ⟨hw.2.1, hw.1, hw.2.2.2.1, hw.2.2.1, hw.2.2.2.2.2, hw.2.2.2.2.1⟩
  · exact hw
theorem sw_eq {k : Nat × Int × Int} {l : Int} (h : sw0 k l = sw1 k l) : k.2.1 = k.2.2 := by
  unfold sw0 sw1 at h
  split at h
  · exact h.symm
  · exact h
/-- a clause that is not watched by another literal stays in the list -/
theorem Jn.stay {Ss : List Nat} {P : PS} {R i : Nat} {l : Int} {F C : List Int} (h : Jn Ss P R l F ((i : Int) :: C)) (hm : P.mvd i l = false) : Jn Ss (P.rew i l) R l (F ++ [(i : Int)]) C := by
  obtain ⟨k, hk, hi, hS⟩ := h.cin (i : Int) (by simp)
  have hk' : k = i := by omega
  subst hk'
  clear hk
  have hiK : k < P.K.length := by rw [h.len]; exact hi
  have hw := h.wat k hi hS
  have hs := h.sets k hi
  have hwd := h.wd k hi
  have hfl : (F ++ [(k : Int)]).length ≤ F.length + 1 := by simp
  have hhand : P.A.getD (1 + placeN l) [] = (F ++ [(k : Int)]) ++ C := by
    rw [h.hand (by simp), List.append_assoc]
    rfl
  have hsg := h.sg k hi hS
  cases hc : clsd (Ss.getD k 0) P.tk
  · have hc' : clsd (P.K.getD k zk).1 P.tk = false := by rw [hs]; exact hc
    have hw' := sw_pair (l := l) hw
    have q0ok := hw'.1
    have hol : opn (Ss.getD k 0) P.tk < 2 ^ 48 := andN_lt _ _ hwd
    by_cases hO : opn (P.K.getD k zk).1 P.tk = 0
    · rw [rew_empty hc' hO]
      rw [hs] at hO
      have hsw : (({ P with K := swK P.K k l, em := true } : PS).K.getD k zk) = ((P.K.getD k zk).1, sw0 (P.K.getD k zk) l, sw1 (P.K.getD k zk) l) := swK_at hiK
      refine h.build hi hS rfl rfl (swK_len _ _ _) (fun j hj => swK_other hj) (by rw [hsw]) h.al (fun _ _ _ q => q) (fun _ _ q => .inl q) rfl (by rw [wgt_K]; omega) (Nat.le_refl _) hfl (fun _ => hhand) (fun _ => rfl) (by rw [hsw]; exact hw') (by rw [hsw]; exact fun e => hsg (sw_eq e)) (fun q => h.wt k q) (fun _ => ⟨k, hi, hc, hO⟩) (fun _ => .inr (.inl ⟨rfl, hO⟩))
    · by_cases hr : woN (opn (P.K.getD k zk).1 P.tk) (sw0 (P.K.getD k zk) l) = 0
      · rw [rew_wait hc' hO hr]
        rw [hs] at hO hr
        have hsw : ((PS.more { P with K := swK P.K k l } 0 (k : Int)).K.getD k zk) = ((P.K.getD k zk).1, sw0 (P.K.getD k zk) l, sw1 (P.K.getD k zk) l) := swK_at hiK
        have one : ∀ b, (opn (Ss.getD k 0) P.tk).testBit b = true → b = placeN (sw0 (P.K.getD k zk) l) := by
          intro b hb
          have := congrArg (fun q => q.testBit b) hr
          simp only [woN_bit _ _ _ hol q0ok, Nat.zero_testBit, hb, Bool.true_and] at this
          have t : decide (placeN (sw0 (P.K.getD k zk) l) = b) = true := by
            cases hd : decide (placeN (sw0 (P.K.getD k zk) l) = b)
            · rw [hd] at this
              cases this
            · rfl
          exact (of_decide_eq_true t).symm
        obtain ⟨b, hb⟩ := ne_bit hO
        have hb' := one b hb
        subst hb'
        have ne0 : ∀ j, j ≠ 0 → (PS.more { P with K := swK P.K k l } 0 (k : Int)).A.getD j [] = P.A.getD j [] := fun j hj => by rw [more_get, if_neg (fun e => hj e.1)]
        refine h.build hi hS rfl rfl (swK_len _ _ _) (fun j hj => swK_other hj) (by rw [hsw]) (by show (P.A.set 0 _).length = 50; rw [List.length_set]; exact h.al) (fun k x _ q => more_mem (P := { P with K := swK P.K _ l }) q) (fun k' x q => by
          rcases more_of (P := { P with K := swK P.K k l }) q with z | z
          · exact .inl z
          · exact .inr z.2) (ne0 49 (by decide)) (wgt_more (P := { P with K := swK P.K k l })) (tot_more0 (P := { P with K := swK P.K k l })) hfl (fun _ => by rw [ne0 _ (by omega)]; exact hhand) (fun q => q) (by
          rw [hsw]
          exact ⟨hw'.1, hw'.2.1, hw'.2.2.1, hw'.2.2.2.1, more_mem (P := { P with K := swK P.K k l }) hw'.2.2.2.2.1, more_mem (P := { P with K := swK P.K k l }) hw'.2.2.2.2.2⟩) (by rw [hsw]; exact fun e => hsg (sw_eq e)) (fun _ _ a b ha hb => (one a ha).trans (one b hb).symm) h.es (fun _ => .inl ⟨more_new (P := { P with K := swK P.K k l }) (by show 0 < P.A.length; rw [h.al]; decide), _, .inl (by rw [hsw]), hb, fun a ha => one a ha⟩)
      · rw [mvd_yes hc' hO hr] at hm
        cases hm
  · have hc' : clsd (P.K.getD k zk).1 P.tk = true := by rw [hs]; exact hc
    rw [rew_closed hc']
    exact h.build hi hS rfl rfl rfl (fun _ _ => rfl) rfl h.al (fun _ _ _ q => q) (fun _ _ q => .inl q) rfl (by omega) (Nat.le_refl _) hfl (fun _ => hhand) (fun q => q) hw hsg (fun q => h.wt k q) h.es (fun q => by rw [hc] at q; cases q)
/-- a clause that is watched by another literal leaves the list -/
theorem Jn.move {Ss : List Nat} {P : PS} {R i : Nat} {l : Int} {F C : List Int} (h : Jn Ss P R l F ((i : Int) :: C)) (hm : P.mvd i l = true) : Jn Ss ((P.rew i l).setL (1 + placeN l) (F ++ C)) R l F C := by
  obtain ⟨k, hk, hi, hS⟩ := h.cin (i : Int) (by simp)
  have hk' : k = i := by omega
  subst hk'
  clear hk
  have hiK : k < P.K.length := by rw [h.len]; exact hi
  have hlo := h.lo (by simp)
  have hw := h.wat k hi hS
  have hs := h.sets k hi
  have hwd := h.wd k hi
  have hhand := h.hand (by simp)
  have hpl := placeN_le hlo.1
  cases hc : clsd (Ss.getD k 0) P.tk
  · have hc' : clsd (P.K.getD k zk).1 P.tk = false := by rw [hs]; exact hc
    have hsi := h.st k hi hS hc
    have hw' := sw_pair (l := l) hw
    have q0ok := hw'.1
    have hol : opn (Ss.getD k 0) P.tk < 2 ^ 48 := andN_lt _ _ hwd
    by_cases hO : opn (P.K.getD k zk).1 P.tk = 0
    · rw [mvd_no (.inl hO)] at hm
      cases hm
    · by_cases hr : woN (opn (P.K.getD k zk).1 P.tk) (sw0 (P.K.getD k zk) l) = 0
      · rw [mvd_no (.inr hr)] at hm
        cases hm
      · clear hm
        rw [rew_move hc' hO hr]
        rw [hs] at hO hr ⊢
        have hrl : woN (opn (Ss.getD k 0) P.tk) (sw0 (P.K.getD k zk) l) < 2 ^ 48 := woN_lt hol
        have fs := fst_spec (Nat.pos_of_ne_zero hr) hrl
        generalize hf : fstI (woN (opn (Ss.getD k 0) P.tk) (sw0 (P.K.getD k zk) l)) = f at *
        have fb := fs.2
        rw [woN_bit _ _ _ hol q0ok, Bool.and_eq_true, Bool.not_eq_true', decide_eq_false_iff_not] at fb
        have fb1 := fb.1
        rw [opn_bit _ _ _ hwd, Bool.and_eq_true, Bool.not_eq_true', swp_place fs.1] at fb1
        have hfl := placeN_le fs.1
        have hnl : placeN f ≠ placeN l := fun e => by
          have := placeN_inj fs.1 hlo.1 e
          rw [this, hlo.2] at fb1
          cases fb1.2
        have hp2 : (P.K.getD k zk).2.1 ≠ (P.K.getD k zk).2.2 := fun e => by
          have one := h.so k (h.sg k hi hS e)
          exact fb.2 (one _ _ hw'.2.2.1 fb1.1)
        have h0l : sw0 (P.K.getD k zk) l ≠ l := by
          unfold sw0
          split
          · rename_i z
            exact fun e => hp2 (z.trans e.symm)
          · assumption
        have h0l' : placeN (sw0 (P.K.getD k zk) l) ≠ placeN l := fun e => h0l (placeN_inj q0ok hlo.1 e)
        obtain ⟨Q, hQ⟩ : ∃ Q, Q = PS.more { P with K := P.K.set k (Ss.getD k 0, sw0 (P.K.getD k zk) l, f) } (1 + placeN f) (k : Int) := ⟨_, rfl⟩
        have mm : ∀ {j x}, x ∈ P.A.getD j [] → x ∈ Q.A.getD j [] := fun q => by rw [hQ]; exact more_mem (P := { P with K := P.K.set k (Ss.getD k 0, sw0 (P.K.getD k zk) l, f) }) q
        have mo : ∀ {j x}, x ∈ Q.A.getD j [] → x ∈ P.A.getD j [] ∨ (j = 1 + placeN f ∧ x = (k : Int)) := fun q => by rw [hQ] at q; exact more_of (P := { P with K := P.K.set k (Ss.getD k 0, sw0 (P.K.getD k zk) l, f) }) q
        have mn : (k : Int) ∈ Q.A.getD (1 + placeN f) [] := by rw [hQ]; exact more_new (P := { P with K := P.K.set k (Ss.getD k 0, sw0 (P.K.getD k zk) l, f) }) (by show 1 + placeN f < P.A.length; rw [h.al]; omega)
        have ms : ∀ j, j ≠ 1 + placeN f → Q.A.getD j [] = P.A.getD j [] := fun j hj => by rw [hQ, more_get, if_neg (fun e => hj e.1)]
        have ql : Q.A.length = 50 := by rw [hQ]; show (P.A.set _ _).length = 50; rw [List.length_set]; exact h.al
        have qw : wgt Q R ≤ wgt P R + 1 := by rw [hQ]; exact wgt_more (P := { P with K := P.K.set k (Ss.getD k 0, sw0 (P.K.getD k zk) l, f) })
        have qt : tot Q ≤ tot P + 1 := by rw [hQ]; exact tot_more (P := { P with K := P.K.set k (Ss.getD k 0, sw0 (P.K.getD k zk) l, f) }) (by omega)
        have hsw : ((Q.setL (1 + placeN l) (F ++ C)).K.getD k zk) = (Ss.getD k 0, sw0 (P.K.getD k zk) l, f) := by rw [hQ]; exact set_getD hiK _
        have sl : ∀ j, (Q.setL (1 + placeN l) (F ++ C)).A.getD j [] = if j = 1 + placeN l then F ++ C else Q.A.getD j [] := fun j => by
          rw [setL_get]
          by_cases e : j = 1 + placeN l
          · rw [if_pos ⟨e, by rw [ql]; omega⟩, if_pos e]
          · rw [if_neg (fun z => e z.1), if_neg e]
        have hQl : Q.A.getD (1 + placeN l) [] = F ++ (k : Int) :: C := by rw [ms _ (by omega)]; exact hhand
        have et : Q.tk = P.tk := by rw [hQ]; rfl
        have eho : Q.ho = P.ho := by rw [hQ]; rfl
        have eem : Q.em = P.em := by rw [hQ]; rfl
        have eK : Q.K = P.K.set k (Ss.getD k 0, sw0 (P.K.getD k zk) l, f) := by rw [hQ]; rfl
        rw [← hQ]
        refine h.build hi hS et eho (by show Q.K.length = _; rw [eK, List.length_set]) (fun j hj => by show Q.K.getD j zk = _; rw [eK]; exact K_other hj) (by rw [hsw, hs]) (by show (Q.A.set _ _).length = 50; rw [List.length_set]; exact ql) (fun j x hx q => ?_) (fun j x q => ?_) ?_ (Nat.le_trans (wgt_cut (by rw [hQl]; simp)) qw) ?_ (Nat.le_succ _) (fun _ => by rw [sl, if_pos rfl]) (fun q => by show Q.em = true; rw [eem]; exact q) ?_ ?_ (fun q => ?_) (by show Q.em = true → _; rw [eem]; exact h.es) (fun _ => ?_)
        · rw [sl]
          split
          · rename_i e
            rw [e, hhand, List.mem_append, List.mem_cons] at q
            rw [List.mem_append]
            rcases q with z | z | z
            · exact .inl z
            · exact absurd z hx
            · exact .inr z
          · exact mm q
        · rw [sl] at q
          split at q
          · rename_i e
            rw [e, hhand, List.mem_append, List.mem_cons]
            rw [List.mem_append] at q
            rcases q with z | z
            · exact .inl (.inl z)
            · exact .inl (.inr (.inr z))
          · rcases mo q with z | z
            · exact .inl z
            · exact .inr z.2
        · rw [sl, if_neg (by omega), ms _ (by omega)]
        · have := tot_cut (P := Q) (q := placeN l) (M := F ++ C) (by omega) (by rw [ql]; omega) (by rw [hQl]; simp only [List.length_append, List.length_cons]; omega)
          omega
        · rw [hsw]
          refine ⟨hw'.1, fs.1, hw'.2.2.1, fb1.1, ?_, ?_⟩
          · show (k : Int) ∈ (Q.setL (1 + placeN l) (F ++ C)).A.getD (1 + placeN (sw0 (P.K.getD k zk) l)) []
            rw [sl, if_neg (by omega)]
            exact mm hw'.2.2.2.2.1
          · show (k : Int) ∈ (Q.setL (1 + placeN l) (F ++ C)).A.getD (1 + placeN f) []
            rw [sl, if_neg (by omega)]
            exact mn
        · rw [hsw]
          exact fun e => absurd (congrArg placeN e) fb.2
        · rw [sl, if_neg (by omega)] at q
          rcases mo q with z | z
          · exact h.wt k z
          · omega
        rw [hsw]
        have hne : sw0 (P.K.getD k zk) l ≠ f := fun e => fb.2 (by rw [e])
        have z0 : (Q.setL (1 + placeN l) (F ++ C)).A.getD 0 [] = P.A.getD 0 [] := by rw [sl, if_neg (by omega), ms _ (by omega)]
        have et' : (Q.setL (1 + placeN l) (F ++ C)).tk = P.tk := et
        unfold Stn
        rw [z0, et']
        rcases hsi with ⟨a1, y, a2, a3, a4⟩ | ⟨b1, b2⟩ | ⟨c1, c2, c3⟩ | ⟨d1, d2, d3⟩
        · have e := a4 _ fb.1
          refine .inl ⟨a1, f, .inr rfl, fb.1, fun b hb => ?_⟩
          rw [a4 b hb, e]
        · exact absurd b2 hO
        · have hl : (lost P (sw0 (P.K.getD k zk) l) → pend P R l ((k : Int) :: C) k (sw0 (P.K.getD k zk) l)) := by
            unfold sw0
            split
            · exact c3
            · exact c2
          refine .inr (.inr (.inl ⟨hne, fun q => ?_, fun q => ?_⟩))
          · have q' : lost P (sw0 (P.K.getD k zk) l) := by
              unfold lost at q ⊢
              rw [← et']
              exact q
            rcases hl q' with z | z
            · exact .inl z
            · exact absurd z.1 h0l
          · have q' : P.tk.testBit (placeN (-f)) = true := by
              unfold lost at q
              rw [← et']
              exact q
            rw [fb1.2] at q'
            cases q'
        · exact absurd d2 hO
  · have hc' : clsd (P.K.getD k zk).1 P.tk = true := by rw [hs]; exact hc
    rw [mvd_closed hc'] at hm
    cases hm

theorem opn_lost (S : Nat) {T : Nat} {l : Int} (hl : okB l = true) (h : T.testBit (placeN (-l)) = true) : (opn S T).testBit (placeN l) = false := by
  unfold opn srt.andN
  have hp := placeN_le hl
  have e : 18446744073709551615 - oppN T = 2 ^ 64 - (oppN T + 1) := by have := oppN_lt T; omega
  have ob : (oppN T).testBit (placeN l) = true := by
    rw [oppN_bit, decide_eq_true (by omega), Bool.true_and, swp_place hl]
    exact h
  rw [Nat.testBit_and, e, Nat.testBit_two_pow_sub_succ (by have := oppN_lt T; omega), ob]
  simp
/-- the bits of a word without its lowest -/
theorem low_bits {R : Nat} (h0 : 0 < R) (h : R < 2 ^ 48) (b : Nat) : (R &&& (R - 1)).testBit b = (R.testBit b && !decide (b = placeN (fstI R))) := by
  obtain ⟨t, m, et, ht, es⟩ := srt.low h0 h
  have ef : placeN (fstI R) = t := by
    unfold srt.fstI
    rw [← et]
    exact (litI_spec ht).2
  rw [srt.next_bit es, ef]
  by_cases h1 : t + 1 ≤ b
  · rw [decide_eq_true h1, decide_eq_false (show ¬ b = t by omega)]
    rfl
  · rw [decide_eq_false h1, Bool.and_false]
    by_cases h2 : b = t
    · rw [decide_eq_true h2]
      simp
    · rw [es, srt.low_bit, if_pos (by omega), decide_eq_false (by omega)]
      rfl
theorem neg_inj {x y : Int} (hx : okB x = true) (hy : okB y = true) (h : placeN (-x) = placeN y) : x = -y := by
  have := placeN_inj (opp_ok hx) hy h
  omega
theorem Jn.next {Ss : List Nat} {P : PS} {R : Nat} {l : Int} {F : List Int} (h : Jn Ss P R l F []) (h0 : 0 < R) : Jn Ss P (R &&& (R - 1)) (-fstI R) [] (P.A.getD (1 + placeN (-fstI R)) []) := by
  have fs := fst_spec h0 h.rk
  have lb := low_bits h0 h.rk
  generalize fstI R = y at *
  have oy := opp_ok fs.1
  have py := placeN_le oy
  have sq : swp (placeN (-y)) = placeN y := by rw [swp_place oy, Int.neg_neg]
  have pe : ∀ i p, (p = (P.K.getD i zk).2.1 ∨ p = (P.K.getD i zk).2.2) → okB p = true → (i : Int) ∈ P.A.getD (1 + placeN p) [] → pend P R l [] i p → pend P (R &&& (R - 1)) (-y) (P.A.getD (1 + placeN (-y)) []) i p := by
    intro i p _ hp hm hq
    rcases hq with q | q
    · by_cases e : placeN (-p) = placeN y
      · have := neg_inj hp fs.1 e
        subst this
        exact .inr ⟨rfl, hm⟩
      · left
        rw [lb, q, decide_eq_false e]
        rfl
    · cases q.2
  refine ⟨h.len, h.sets, h.wd, h.tk, Nat.lt_of_le_of_lt Nat.and_le_left h.rk, h.al, fun b hb => ?_, h.wat, h.idx, h.idx _, fun _ => ⟨oy, ?_⟩, fun _ => rfl, ?_, h.nl, h.tt, ?_, h.sg, h.so, h.sn, h.hz, h.wt, h.es, h.ez, fun i hi hS hc => ?_⟩
  · rw [lb, Bool.and_eq_true] at hb
    exact h.rin b hb.1
  · rw [Int.neg_neg]
    exact h.rin _ fs.2
  · have hb := h.bd
    have := sumR_cut (n := 48) (q := placeN (-y)) (d := (P.A.getD (1 + placeN (-y)) []).length) (f := wf P (R &&& (R - 1))) (g := wf P R) (by omega) (fun p hp hne => by
      by_cases e : swp p = placeN y
      · have : p = placeN (-y) := by rw [← srt.swp_swp p, e, swp_place fs.1]
        exact absurd this hne
      · unfold wf
        rw [lb, decide_eq_false e]
        simp) (by
      rw [wf_no (by rw [sq, h.rin _ fs.2, lb, fs.2]; simp), wf_yes (by rw [sq, fs.2]; simp)]
      omega)
    unfold wgt at hb ⊢
    simp only [List.length_nil] at hb
    omega
  · have := h.tt
    have := sumR_get (n := 48) (q := placeN (-y)) (f := fun p => (P.A.getD (1 + p) []).length) (by omega)
    unfold tot at *
    simp only [List.length_nil] at *
    omega
  · have hw := h.wat i hi hS
    rcases h.st i hi hS hc with a | b | ⟨c1, c2, c3⟩ | ⟨d1, d2, d3⟩
    · exact .inl a
    · exact .inr (.inl b)
    · exact .inr (.inr (.inl ⟨c1, fun q => pe i _ (.inl rfl) hw.1 hw.2.2.2.2.1 (c2 q), fun q => pe i _ (.inr rfl) hw.2.1 hw.2.2.2.2.2 (c3 q)⟩))
    · refine .inr (.inr (.inr ⟨d1, d2, ?_⟩))
      rcases d3 with ⟨q1, q2⟩ | ⟨q1, q2⟩
      · exact .inl ⟨q1, pe i _ (.inl rfl) hw.1 hw.2.2.2.2.1 q2⟩
      · exact .inr ⟨q1, pe i _ (.inr rfl) hw.2.1 hw.2.2.2.2.2 q2⟩
theorem fit (Ss : List Nat) : Fit (Jn Ss) Ss.length where
  size := fun P R l F C h => h.len
  word := fun P R l F C h => h.tk
  all := fun P R l F C h i hi => by rw [h.sets i hi]; exact h.wd i hi
  lit0 := fun P R l F C h i hi => by
    obtain ⟨k, hk, hkN, hS⟩ := h.cin i hi
    have hw := h.wat k hkN hS
    have hb := h.bd
    refine ⟨k, hk, hkN, hw.1, hw.2.1, ?_, fun q hq hbq => ?_⟩
    · unfold wgt at hb
      omega
    · have hp := placeN_le hq
      rw [h.sets k hkN, opn_bit _ _ _ (h.wd k hkN), Bool.and_eq_true, Bool.not_eq_true'] at hbq
      have := wgt_at (P := P) (R := R) (q := placeN q) (by omega) (by rw [hbq.2]; rfl)
      omega
  lost := fun P R l F C h hC => ⟨(h.lo hC).1, fun S => opn_lost S (h.lo hC).1 (h.lo hC).2⟩
  lens := fun P R l F C h => by
    have := h.fl
    have := h.nl
    rw [List.length_append]
    omega
  next := fun P R l F h h0 _ => h.next h0
  stay := fun P R l F i C h hm => h.stay hm
  move := fun P R l F i C h hm => h.move hm
/-- literals are taken up -/
theorem Jn.start {Ss : List Nat} {P : PS} {l l' : Int} {L : Nat} {F : List Int} (h : Jn Ss P 0 l F []) (hL : L < 2 ^ 48) (hd : ∀ b, L.testBit b = true → P.tk.testBit b = false) (he : P.em = true → ∃ i, i < Ss.length ∧ Ss.getD i 0 = 0) : Jn Ss { P with tk := P.tk ||| L } L l' [] [] := by
  have tb : ∀ b, (P.tk ||| L).testBit b = (P.tk.testBit b || L.testBit b) := fun b => Nat.testBit_or ..
  have cl : ∀ S, clsd S (P.tk ||| L) = false → clsd S P.tk = false := by
    intro S hc
    rw [clsd_no] at hc ⊢
    intro b hb
    exact hc b ⟨hb.1, by rw [tb, hb.2]; rfl⟩
  have op : ∀ S, S < 2 ^ 48 → ∀ b, (opn S (P.tk ||| L)).testBit b = true → (opn S P.tk).testBit b = true := by
    intro S hS b hb
    rw [opn_bit _ _ _ hS, tb, Bool.and_eq_true, Bool.not_eq_true', Bool.or_eq_false_iff] at hb
    rw [opn_bit _ _ _ hS, hb.1, hb.2.1]
    rfl
  refine ⟨h.len, h.sets, h.wd, or_lt h.tk hL, hL, h.al, fun b hb => (by show (P.tk ||| L).testBit b = true; rw [tb, hb, Bool.or_true]), h.wat, h.idx, fun x hx => (by cases hx), fun q => absurd rfl q, fun q => absurd rfl q, ?_, h.nl, h.tt, Nat.zero_le _, h.sg, h.so, h.sn, h.hz, fun k hk hc a b ha hb => ?_, fun q => ?_, h.ez, fun i hi hS hc => ?_⟩
  · have hb := h.bd
    have := sumR_le (n := 48) (f := wf { P with tk := P.tk ||| L } L) (g := wf P 0) (fun p hp => by
      unfold wf
      show (if (P.tk ||| L).testBit (swp p) && !L.testBit (swp p) then 0 else (P.A.getD (1 + p) []).length) ≤ if P.tk.testBit (swp p) && !(0 : Nat).testBit (swp p) then 0 else (P.A.getD (1 + p) []).length
      rw [tb, Nat.zero_testBit]
      cases h1 : L.testBit (swp p)
      · simp
      · rw [hd _ h1]
        simp)
    unfold wgt at hb ⊢
    show sumR 48 (wf { P with tk := P.tk ||| L } L) + (P.A.getD 0 []).length + 0 ≤ _
    simp only [List.length_nil] at hb
    omega
  · obtain ⟨k', e, hkN, _⟩ := h.idx 0 _ hk
    have : k' = k := by omega
    subst this
    exact h.wt k' hk (cl _ hc) a b (op _ (h.wd k' hkN) a ha) (op _ (h.wd k' hkN) b hb)
  · obtain ⟨i, hi, hz⟩ := he q
    refine ⟨i, hi, ?_, ?_⟩
    · rw [hz]
      exact clsd_no.2 (fun b hb => by rw [Nat.zero_testBit] at hb; cases hb.1)
    · rw [hz]
      exact Nat.zero_and _
  · have hw := h.wat i hi hS
    have hwd := h.wd i hi
    have ls : ∀ p, okB p = true → lost { P with tk := P.tk ||| L } p → ¬ lost P p → pend { P with tk := P.tk ||| L } L l' [] i p := by
      intro p hp h1 h2
      left
      have h1' : (P.tk ||| L).testBit (placeN (-p)) = true := h1
      rw [tb] at h1'
      cases hq : P.tk.testBit (placeN (-p))
      · rw [hq] at h1'
        exact h1'
      · exact absurd hq h2
    rcases h.st i hi hS (cl _ hc) with ⟨a1, y, a2, a3, a4⟩ | ⟨b1, b2⟩ | ⟨c1, c2, c3⟩ | ⟨d1, d2, d3⟩
    · have oy : okB y = true := by rcases a2 with e | e <;> rw [e]; exact hw.1; exact hw.2.1
      have a3' := a3
      rw [opn_bit _ _ _ hwd, Bool.and_eq_true, Bool.not_eq_true', swp_place oy] at a3'
      cases hq : L.testBit (placeN (-y))
      · refine .inl ⟨a1, y, a2, ?_, fun b hb => a4 b (op _ hwd b hb)⟩
        show (opn _ (P.tk ||| L)).testBit _ = true
        rw [opn_bit _ _ _ hwd, tb, swp_place oy, hq, a3'.1, a3'.2]
        rfl
      · refine .inr (.inr (.inr ⟨a1, zero_of fun b => ?_, ?_⟩))
        · cases hb : (opn (Ss.getD i 0) (P.tk ||| L)).testBit b
          · rfl
          · have e := a4 b (op _ hwd b hb)
            rw [e, opn_bit _ _ _ hwd, tb, swp_place oy, hq, Bool.or_true] at hb
            simp at hb
        · have lo : lost { P with tk := P.tk ||| L } y := by
            show (P.tk ||| L).testBit _ = true
            rw [tb, hq, Bool.or_true]
          rcases a2 with e | e
          · rw [← e]
            exact .inl ⟨lo, .inl hq⟩
          · rw [← e]
            exact .inr ⟨lo, .inl hq⟩
    · refine .inr (.inl ⟨b1, zero_of fun b => ?_⟩)
      cases hb : (opn (Ss.getD i 0) (P.tk ||| L)).testBit b
      · rfl
      · have := op _ hwd b hb
        rw [b2, Nat.zero_testBit] at this
        cases this
    · have no : ∀ p, ¬ pend P 0 l [] i p := by
        intro p hp
        rcases hp with q | q
        · rw [Nat.zero_testBit] at q
          cases q
        · cases q.2
      exact .inr (.inr (.inl ⟨c1, fun q => ls _ hw.1 q (fun z => no _ (c2 z)), fun q => ls _ hw.2.1 q (fun z => no _ (c3 z))⟩))
    · have no : ∀ p, ¬ pend P 0 l [] i p := by
        intro p hp
        rcases hp with q | q
        · rw [Nat.zero_testBit] at q
          cases q
        · cases q.2
      rcases d3 with z | z
      · exact absurd z.2 (no _)
      · exact absurd z.2 (no _)
end Go.Proofs.YtloenjaonkdlaaaDoor.wm
namespace Go.Proofs.YtloenjaonkdlaaaDoor.wm
open Go.RowKit
open Go.Proofs.YtloenjaonkdlaaaDoor.lits (okB okB_iff)
open Go.Proofs.YtloenjaonkdlaaaDoor.bset (placeN placeN_le placeN_inj setOf setOf_lt withN withN_lt withN_bit)
open Go.Proofs.YtloenjaonkdlaaaDoor.srt (woN woN_lt woN_bit fstI oppN oppN_bit oppN_lt swp swp_lt andN andN_bit andN_lt or_lt hi_bit)
set_option linter.unusedVariables false

/-- with nothing left to come each clause that is open has an open literal, unless it is told -/
theorem Jn.open_ {Ss : List Nat} {P : PS} {l : Int} {F : List Int} (h : Jn Ss P 0 l F []) (he : P.em = false) {i : Nat} (hi : i < Ss.length) (hc : clsd (Ss.getD i 0) P.tk = false) : opn (Ss.getD i 0) P.tk ≠ 0 ∧
    (((i : Int) ∈ P.A.getD 0 []) ∨ ∃ a b, (opn (Ss.getD i 0) P.tk).testBit a = true ∧ (opn (Ss.getD i 0) P.tk).testBit b = true ∧ a ≠ b) := by
  have hS : Ss.getD i 0 ≠ 0 := fun e => by
    have := h.ez i hi e
    rw [he] at this
    cases this
  have hw := h.wat i hi hS
  have hwd := h.wd i hi
  have no : ∀ p, ¬ pend P 0 l [] i p := by
    intro p hp
    rcases hp with q | q
    · rw [Nat.zero_testBit] at q
      cases q
    · cases q.2
  rcases h.st i hi hS hc with ⟨a1, y, a2, a3, a4⟩ | ⟨b1, b2⟩ | ⟨c1, c2, c3⟩ | ⟨d1, d2, d3⟩
  · exact ⟨fun e => (by rw [e, Nat.zero_testBit] at a3; cases a3), .inl a1⟩
  · rw [he] at b1
    cases b1
  · have ob : ∀ p, okB p = true → (Ss.getD i 0).testBit (placeN p) = true → (lost P p → pend P 0 l [] i p) → (opn (Ss.getD i 0) P.tk).testBit (placeN p) = true := by
      intro p hp hs hl
      rw [opn_bit _ _ _ hwd, hs, swp_place hp]
      cases hq : P.tk.testBit (placeN (-p))
      · rfl
      · exact absurd (hl hq) (no p)
    have o1 := ob _ hw.1 hw.2.2.1 c2
    have o2 := ob _ hw.2.1 hw.2.2.2.1 c3
    exact ⟨fun e => (by rw [e, Nat.zero_testBit] at o1; cases o1), .inr ⟨_, _, o1, o2, fun e => c1 (placeN_inj hw.1 hw.2.1 e)⟩⟩
  · rcases d3 with z | z
    · exact absurd z.2 (no _)
    · exact absurd z.2 (no _)
theorem Jn.unit {Ss : List Nat} {P : PS} {l : Int} {F : List Int} (h : Jn Ss P 0 l F []) : (P.uniX, !P.em) = unitN Ss P.tk := by
  unfold unitN
  cases he : P.em
  · have na : (Ss.map (clauseN · P.tk)).any (· == -100) = false := by
      rw [List.any_eq_false]
      intro x hx e
      rw [List.mem_map] at hx
      obtain ⟨S, hS, rfl⟩ := hx
      obtain ⟨i, hi, rfl⟩ := List.mem_iff_getElem.1 hS
      have ei : Ss.getD i 0 = Ss[i] := by simp [hi]
      have e' : clauseN (Ss.getD i 0) P.tk = -100 := by rw [ei]; simpa using e
      cases hc : clsd (Ss.getD i 0) P.tk
      · have ho := (h.open_ he hi hc).1
        by_cases hr : woN (opn (Ss.getD i 0) P.tk) (fstI (opn (Ss.getD i 0) P.tk)) = 0
        · rw [clauseN_one hc ho hr] at e'
          exact (ok_ne (fst_spec (Nat.pos_of_ne_zero ho) (andN_lt _ _ (h.wd i hi))).1).2 e'
        · rw [clauseN_two hc ho hr] at e'
          omega
      · rw [clauseN_closed hc] at e'
        omega
    rw [if_neg (by rw [na]; simp)]
    have eX : P.uniX = if least P (still P) = P.K.length then 0 else fstI (opn (P.K.getD (least P (still P)) zk).1 P.tk) := by
      unfold PS.uniX
      rw [if_neg (by rw [he]; simp)]
    have inst : ∀ i, i < Ss.length → clauseN (Ss.getD i 0) P.tk ≠ 0 → (i : Int) ∈ still P := by
      intro i hi hn
      cases hc : clsd (Ss.getD i 0) P.tk
      · have ho := h.open_ he hi hc
        have hr : woN (opn (Ss.getD i 0) P.tk) (fstI (opn (Ss.getD i 0) P.tk)) = 0 := by
          apply Classical.byContradiction
          intro hr
          exact hn (clauseN_two hc ho.1 hr)
        have one := (one_iff (andN_lt _ _ (h.wd i hi)) ho.1).1 hr
        rcases ho.2 with q | ⟨a, b, ha, hb, hab⟩
        · unfold still
          rw [List.mem_filter]
          refine ⟨q, ?_⟩
          unfold live
          rw [Int.toNat_natCast, h.sets i hi, hc]
          rfl
        · exact absurd (one a b ha hb) hab
      · exact absurd (clauseN_closed hc) hn
    rw [eX]
    congr 1
    by_cases hl : least P (still P) = P.K.length
    · rw [if_pos hl, firstN_none]
      intro x hx
      rw [List.mem_map] at hx
      obtain ⟨S, hS, rfl⟩ := hx
      obtain ⟨i, hi, rfl⟩ := List.mem_iff_getElem.1 hS
      have ei : Ss.getD i 0 = Ss[i] := by simp [hi]
      apply Classical.byContradiction
      intro hn
      rw [← ei] at hn
      have := least_all P (still P) _ (inst i hi hn)
      rw [Int.toNat_natCast, hl, h.len] at this
      omega
    · rw [if_neg hl]
      have hlt : least P (still P) < Ss.length := by
        have := least_le P (still P)
        rw [h.len] at this hl
        omega
      have hm : ((least P (still P) : Nat) : Int) ∈ still P := by
        rcases least_mem P (still P) with q | ⟨x, hx, q⟩
        · exact absurd q hl
        · have hx0 := (List.mem_filter.1 hx).1
          obtain ⟨k, rfl, _⟩ := h.idx 0 x hx0
          rw [Int.toNat_natCast] at q
          rw [← q]
          exact hx
      have hm' := List.mem_filter.1 hm
      have hcl : clsd (Ss.getD (least P (still P)) 0) P.tk = false := by
        have := hm'.2
        unfold live at this
        rw [Int.toNat_natCast, h.sets _ hlt, Bool.not_eq_true'] at this
        exact this
      have ho := (h.open_ he hlt hcl).1
      have hr := (one_iff (andN_lt _ _ (h.wd _ hlt)) ho).2 (h.wt _ hm'.1 hcl)
      have e1 := clauseN_one hcl ho hr
      rw [h.sets _ hlt, ← e1]
      have hne : clauseN (Ss.getD (least P (still P)) 0) P.tk ≠ 0 := by
        rw [e1]
        exact (ok_ne (fst_spec (Nat.pos_of_ne_zero ho) (andN_lt _ _ (h.wd _ hlt))).1).1
      rw [firstN_at (i := least P (still P)) (by rw [List.length_map]; exact hlt) (by rw [map_at hlt]; exact hne) (fun j hj => ?_), map_at hlt]
      rw [map_at (by omega)]
      apply Classical.byContradiction
      intro hn
      have := least_all P (still P) _ (inst j (by omega) hn)
      rw [Int.toNat_natCast] at this
      omega
  · obtain ⟨i, hi, hc, ho⟩ := h.es he
    have : (Ss.map (clauseN · P.tk)).any (· == -100) = true := by
      rw [List.any_eq_true]
      refine ⟨clauseN (Ss.getD i 0) P.tk, ?_, by rw [clauseN_empty hc ho]; rfl⟩
      rw [List.mem_map]
      exact ⟨Ss.getD i 0, by rw [show Ss.getD i 0 = Ss[i] by simp [hi]]; exact List.getElem_mem hi, rfl⟩
    rw [if_pos this]
    unfold PS.uniX
    rw [if_pos he]
    rfl
theorem filter_len (P : PS) : (still P).length ≤ (P.A.getD 0 []).length := List.length_filter_le _ _
theorem Jn.uni {Ss : List Nat} {P : PS} {l : Int} {F : List Int} (h : Jn Ss P 0 l F []) : Jn Ss P.uni 0 l F [] := by
  unfold PS.uni
  split
  · exact h
  · rename_i he
    have g0 : ∀ k, (({ P with A := P.A.set 0 (still P) } : PS).A.getD k []) = if k = 0 then still P else P.A.getD k [] := by
      intro k
      show (P.A.set 0 (still P)).getD k [] = _
      rw [getD_set]
      by_cases e : k = 0
      · rw [if_pos ⟨e, by rw [h.al]; decide⟩, if_pos e]
      · rw [if_neg (fun q => e q.1), if_neg e]
    have sub : ∀ k x, x ∈ (({ P with A := P.A.set 0 (still P) } : PS).A.getD k []) → x ∈ P.A.getD k [] := by
      intro k x hx
      rw [g0] at hx
      split at hx
      · rename_i e
        subst e
        exact (List.mem_filter.1 hx).1
      · exact hx
    have keep : ∀ i : Nat, i < Ss.length → clsd (Ss.getD i 0) P.tk = false → (i : Int) ∈ P.A.getD 0 [] → (i : Int) ∈ (({ P with A := P.A.set 0 (still P) } : PS).A.getD 0 []) := by
      intro i hi hc hm
      rw [g0, if_pos rfl]
      unfold still
      rw [List.mem_filter]
      refine ⟨hm, ?_⟩
      unfold live
      rw [Int.toNat_natCast, h.sets i hi, hc]
      rfl
    refine ⟨h.len, h.sets, h.wd, h.tk, h.rk, by show (P.A.set 0 _).length = 50; rw [List.length_set]; exact h.al, h.rin, fun i hi hS => ?_, fun k x hx => h.idx k x (sub k x hx), h.cin, h.lo, fun q => absurd rfl q, ?_, h.nl, ?_, h.fl, fun i hi hS e => ?_, fun k hk => h.so k (sub 49 _ hk), ?_, h.hz, fun k hk => h.wt k (sub 0 _ hk), h.es, h.ez, fun i hi hS hc => ?_⟩
    · have hw := h.wat i hi hS
      refine ⟨hw.1, hw.2.1, hw.2.2.1, hw.2.2.2.1, ?_, ?_⟩
      · rw [g0, if_neg (by omega)]
        exact hw.2.2.2.2.1
      · rw [g0, if_neg (by omega)]
        exact hw.2.2.2.2.2
    · have hb := h.bd
      have := sumR_le (n := 48) (f := wf { P with A := P.A.set 0 (still P) } 0) (g := wf P 0) (fun p hp => by
        have e := g0 (1 + p)
        rw [if_neg (by omega)] at e
        unfold wf
        rw [e]
        exact Nat.le_refl _)
      have := filter_len P
      unfold wgt at hb ⊢
      rw [g0, if_pos rfl]
      simp only [List.length_nil] at hb ⊢
      omega
    · refine Nat.le_trans (sumR_le (fun p hp => ?_)) h.tt
      rw [g0, if_neg (by omega)]
      exact Nat.le_refl _
    · rw [g0, if_neg (by omega)]
      exact h.sg i hi hS e
    · rw [g0, if_neg (by omega)]
      exact h.sn
    · rcases h.st i hi hS hc with ⟨a1, a2⟩ | b | c | ⟨d1, d2⟩
      · exact .inl ⟨keep i hi hc a1, a2⟩
      · exact .inr (.inl b)
      · exact .inr (.inr (.inl c))
      · exact .inr (.inr (.inr ⟨keep i hi hc d1, d2⟩))
end Go.Proofs.YtloenjaonkdlaaaDoor.wm
namespace Go.Proofs.YtloenjaonkdlaaaDoor.wm
open Go.ChangeShapes Go.WideShapes Go.ChangeAt Go.RowKit
open Go.Proofs.YtloenjaonkdlaaaDoor.wm0 (end0 ret0 stepW listW listB)
open Go.Proofs.YtloenjaonkdlaaaDoor.lits (okB okB_iff)
open Go.Proofs.YtloenjaonkdlaaaDoor.bset (placeN placeN_le placeC withN withN_lt withN_bit withC)
open Go.Proofs.YtloenjaonkdlaaaDoor.srt (Tab)
open Go.Proofs.YtloenjaonkdlaaaDoor.wo (Made)
open Go.Proofs.YtloenjaonkdlaaaDoor.sl (Sl Own ints hide unhide ret_int ret_bool grown_refl grown_trans grown_drewN)
set_option linter.unusedVariables false

/-- all of a watcher lies behind a place -/
def Far (B c : Nat) (s : WS) : Prop := ∀ k, Foot c s k → B ≤ k
theorem Far.stp {B c : Nat} {s s' : WS} {w w' : World} (h : Far B c s) (k : Stp c s s' w w') (hB : B ≤ w.heap.size) : Far B c s' := by
  intro b f
  rcases k.foot b f with q | q
  · exact h b q
  · omega
theorem grown_stp {c : Nat} {s s' : WS} {wB w w' : World} (g : wB.grownBy w none) (h : Far wB.heap.size c s) (k : Stp c s s' w w') : wB.grownBy w' none :=
  ⟨k.os.trans g.os, k.tape.trans g.tape, k.output.trans g.output, Nat.le_trans g.size k.size, fun b hb _ => (k.block b (Nat.lt_of_lt_of_le hb g.size) (fun f => by have := h b f; omega)).trans (g.block b hb (fun e => by cases e))⟩
theorem Wat.by {w w' : World} {c : Nat} {s : WS} {r : Option Nat} (h : Wat w c s) (g : w.grownBy w' r) (hr : ∀ k, r = some k → ¬ Foot c s k) : Wat w' c s := by
  have nr : ∀ {v : Value}, (∀ k, v.ownBlock = some k → Foot c s k) → v.ownBlock = none ∨ v.ownBlock ≠ r := by
    intro v hv
    cases e : v.ownBlock with
    | none => exact .inl rfl
    | some k => exact .inr (fun e' => hr k e'.symm (hv k e))
  exact ⟨by rw [g.block c h.lt (fun e => hr c e.symm (.inl rfl))]; exact h.blk, h.len, h.cl.kept g (nr fun k e => .inr (.inl e)), fun p hp => (h.ls p hp).kept g (nr fun k e => .inr (.inr ⟨p, hp, e⟩)), h.ap⟩
theorem own_stp {c : Nat} {s s' : WS} {w w' : World} {b n : Nat} {v : Value} {xs : List Value} (h : w.ownsRow b 3 1 v n xs) (k : Stp c s s' w w') (hn : ∀ q, v.ownBlock = some q → ¬ Foot c s q) : w'.ownsRow b 3 1 v n xs := by
  refine ⟨h.1, ?_⟩
  rcases h.2 with hz | ⟨g, cap, cur, rfl, hb, hgg, rest⟩
  · exact .inl hz
  · refine .inr ⟨g, cap, cur, rfl, hb, ?_, rest⟩
    rw [k.block g (Array.getElem?_eq_some_iff.1 hgg).1 (hn g rfl)]
    exact hgg
theorem apart_stp {c : Nat} {s s' : WS} {w w' : World} {b n : Nat} {v : Value} {xs : List Value} (h : w.ownsRow b 3 1 v n xs) (k : Stp c s s' w w') (hn : ∀ q, v.ownBlock = some q → ¬ Foot c s q) : ∀ q, v.ownBlock = some q → ¬ Foot c s' q := by
  intro q e f
  rcases k.foot q f with z | z
  · exact hn q e z
  · have := (h.lt q e).2
    omega
/-- the same, with what is taken -/
def JT (Ss : List Nat) (T : Nat) (P : PS) (R : Nat) (l : Int) (F C : List Int) : Prop := Jn Ss P R l F C ∧ P.tk = T
theorem rew_tk (P : PS) (i : Nat) (l : Int) : (P.rew i l).tk = P.tk := by
  unfold PS.rew
  split
  · rfl
  · split
    · rfl
    · split <;> rfl
theorem fitT (Ss : List Nat) (T : Nat) : Fit (JT Ss T) Ss.length where
  size := fun P R l F C h => (fit Ss).size P R l F C h.1
  word := fun P R l F C h => (fit Ss).word P R l F C h.1
  all := fun P R l F C h => (fit Ss).all P R l F C h.1
  lit0 := fun P R l F C h => (fit Ss).lit0 P R l F C h.1
  lost := fun P R l F C h => (fit Ss).lost P R l F C h.1
  lens := fun P R l F C h => (fit Ss).lens P R l F C h.1
  next := fun P R l F h h0 h1 => ⟨(fit Ss).next P R l F h.1 h0 h1, h.2⟩
  stay := fun P R l F i C h hm => ⟨(fit Ss).stay P R l F i C h.1 hm, by rw [rew_tk]; exact h.2⟩
  move := fun P R l F i C h hm => ⟨(fit Ss).move P R l F i C h.1 hm, by show (P.rew i l).tk = T; rw [rew_tk]; exact h.2⟩
/-- a watcher, and a path of the call's own beside it -/
structure Frc (Ss : List Nat) (wB : World) (c : Nat) (s : WS) (w : World) (pv : Value) (p : List Int) : Prop where
  wat : Wat w c s
  tb : Tab wB
  jn : ∃ l F, Jn Ss s.ps 0 l F []
  g : wB.grownBy w none
  far : Far wB.heap.size c s
  own : w.ownsRow wB.heap.size 3 1 pv p.length (ints p)
  ap : ∀ q, pv.ownBlock = some q → ¬ Foot c s q
theorem Frc.tab {Ss : List Nat} {wB : World} {c : Nat} {s : WS} {w : World} {pv : Value} {p : List Int} (h : Frc Ss wB c s w pv p) : TabF c s w :=
  ⟨h.tb.kept h.g, fun f => by have := h.far _ f; have := tab_lt h.tb; omega⟩
theorem Frc.stp {Ss : List Nat} {wB : World} {c : Nat} {s s' : WS} {w w' : World} {pv : Value} {p : List Int} (h : Frc Ss wB c s w pv p) (k : Stp c s s' w w') (hw : Wat w' c s') (hj : ∃ l F, Jn Ss s'.ps 0 l F []) : Frc Ss wB c s' w' pv p :=
  ⟨hw, h.tb, hj, grown_stp h.g h.far k, h.far.stp k h.g.size, own_stp h.own k h.ap, apart_stp h.own k h.ap⟩
/-- the watcher's own list that waits -/
theorem wait_facts {Ss : List Nat} {s : WS} {l : Int} {F : List Int} (h : Jn Ss s.ps 0 l F []) {v : Value} {C : List Int} (hC : s.A.getD 0 nil_ = (v, C)) : (∀ x ∈ C, ∃ k : Nat, x = (k : Int) ∧ k < s.K.length) ∧ C.length ≤ 4194304 ∧
    (s.em = false → ∀ k : Nat, (k : Int) ∈ C → clsd (s.K.getD k zk).1 s.tk = false → opn (s.K.getD k zk).1 s.tk ≠ 0) := by
  have e0 : s.ps.A.getD 0 [] = C := by rw [ps_getD, hC]
  have hlen : s.K.length = Ss.length := h.len
  refine ⟨fun x hx => ?_, ?_, fun he k hk hc => ?_⟩
  · obtain ⟨k, hk, hk', _⟩ := h.idx 0 x (by rw [e0]; exact hx)
    exact ⟨k, hk, by rw [hlen]; exact hk'⟩
  · have := h.bd
    unfold wgt at this
    rw [e0] at this
    omega
  · obtain ⟨k', e, hk', _⟩ := h.idx 0 (k : Int) (by rw [e0]; exact hk)
    have : k' = k := by omega
    subst this
    have hs : (s.K.getD k' zk).1 = Ss.getD k' 0 := h.sets k' hk'
    rw [hs] at hc ⊢
    exact (h.open_ he hk' hc).1
/-- one literal more behind the path -/
theorem Frc.push {Ss : List Nat} {wB w w1 : World} {c g cap : Nat} {s : WS} {pv : Value} {p : List Int} {x : Int} (h : Frc Ss wB c s w pv p) {o : Obj}
    (hown : w1.ownsRow wB.heap.size 3 1 (.slice (some ⟨g, 0, none⟩) (p.length + 1) cap) (p.length + 1) (ints p ++ [.int .i64 x])) (hg : (w.alloc o).grownBy w1 pv.ownBlock) (hl : pv.ownBlock = some g ∨ w.heap.size ≤ g) :
    Frc Ss wB c s w1 (.slice (some ⟨g, 0, none⟩) (p.length + 1) cap) (p ++ [x]) := by
  have ga := World.grownBy_alloc w o none
  have wa := h.wat.kept ga
  have wb : Wat w1 c s := wa.by hg h.ap
  refine ⟨wb, h.tb, h.jn, ?_, h.far, ?_, fun q e f => ?_⟩
  · exact ⟨hg.os.trans h.g.os, hg.tape.trans h.g.tape, hg.output.trans h.g.output, Nat.le_trans h.g.size (Nat.le_trans ga.size hg.size), fun b hb _ => by
      rw [hg.block b (Nat.lt_of_lt_of_le hb (Nat.le_trans h.g.size ga.size)) (fun e => by have := (h.own.lt b e.symm).1; omega), ga.block b (Nat.lt_of_lt_of_le hb h.g.size) (fun e => by cases e)]
      exact h.g.block b hb (fun e => by cases e)⟩
  · rw [List.length_append, app.ints_append]
    exact hown
  · have e' : g = q := by simpa [Value.ownBlock] using e
    subst e'
    rcases hl with z | z
    · exact h.ap g z f
    · have hlt : g < w.heap.size := by
        rcases f with f | f | ⟨p', hp', f⟩
        · subst f
          exact h.wat.lt
        · exact (h.wat.cl.lt g f).2
        · exact ((h.wat.ls p' hp').lt g f).2
      omega

/-- the loop's place: n rounds are left -/
def At (Ss : List Nat) (wB : World) (c : Nat) (w : World) (pv : Value) (F : List Int × Bool) (m n : Nat) (p : List Int) (s : WS) : Prop := Frc Ss wB c s w pv p ∧ frc Ss n s.tk p = F ∧ p.length + n = m ∧ 49 ≤ n + pc s.tk
theorem pv_form {w : World} {b : Nat} {v : Value} {p : List Int} (h : w.ownsRow b 3 1 v p.length (ints p)) : ∃ a c, v = .slice a p.length c := by
  obtain ⟨a, c, e, _⟩ := Sl.of_own h
  exact ⟨a, c, e⟩

set_option maxRecDepth 100000 in
set_option maxHeartbeats 8000000 in
theorem force {Ss : List Nat} {wB w : World} {c : Nat} {s : WS} {pv : Value} {p : List Int} (h : Frc Ss wB c s w pv p) (hN : Ss.length ≤ 1048576) (hp : p.length ≤ 1048576) (hS : ∀ S ∈ Ss, S < 2 ^ 48) :
    Calls Tryd.prog 78 #[.pointer (some ⟨c, 0, none⟩), pv] w fun e w' => ∃ u s', e = .returned (.tuple #[u, .bool (frc Ss 49 s.tk p).2]) ∧ Frc Ss wB c s' w' u (frc Ss 49 s.tk p).1 := by
  have st : Hid (At Ss wB c w pv (frc Ss 49 s.tk p) (p.length + 49) 49 p s) := ⟨h, rfl, rfl, by omega⟩
  generalize frc Ss 49 s.tk p = F at *
  generalize hm : p.length + 49 = m at *
  have hm' : m ≤ 1048700 := by omega
  have HSS := hide hS
  clear h hm hS
  go_enter Tryd.func78, Tryd.ntmps78
  go_wp2
  go_step3
  go_wp2
  go_step3
  go_wp2
  go_loopw [1] (fun pv wr => ∃ (n : Nat) (p : List Int) (s : WS), slLen pv + n = m ∧ Hid (At Ss wB c wr pv F m n p s)) (fun pv _ => m - slLen pv)
  case atStart =>
    refine ⟨49, p, s, ?_, st⟩
    obtain ⟨a, c', e⟩ := pv_form (unhide st).1.own
    rw [e]
    exact (unhide st).2.2.1
  case round =>
    obtain ⟨n, p1, s1, hn, ha⟩ := hrel
    clear st
    obtain ⟨fr, f1, f2, f3⟩ := unhide ha
    have hn0 : n ≠ 0 := fun e => by
      have := pc_le s1.tk
      omega
    obtain ⟨n', rfl⟩ : ∃ n', n = n' + 1 := ⟨n - 1, by omega⟩
    obtain ⟨l, F0, jn⟩ := fr.jn
    obtain ⟨v, C, eC⟩ : ∃ v C, s1.A.getD 0 nil_ = (v, C) := ⟨_, _, rfl⟩
    have wf := wait_facts jn eC
    have cu := unit fr.wat fr.tab (by show s1.K.length ≤ _; rw [show s1.K.length = Ss.length from jn.len]; exact hN) jn.tk (fun i hi => by
      have hi' : i < Ss.length := by rw [← show s1.K.length = Ss.length from jn.len]; exact hi
      rw [show (s1.K.getD i zk).1 = Ss.getD i 0 from jn.sets i hi']
      exact jn.wd i hi') eC wf.1 wf.2.1 wf.2.2
    have eu := jn.unit
    have eu1 : s1.ps.uniX = (unitN Ss s1.tk).1 := congrArg Prod.fst eu
    have eu2 : (!s1.em) = (unitN Ss s1.tk).2 := congrArg Prod.snd eu
    rw [eu1, eu2] at cu
    have un := unit_new (Ss := Ss) (T := s1.tk) (unhide HSS)
    have NX : Hid (∀ s2 w2, Wat w2 c s2 → Stp c s1 s2 wr w2 → s2.ps = s1.ps.uni → Frc Ss wB c s2 w2 u1 p1 ∧ s2.tk = s1.tk ∧ s2.em = s1.em) := by
      intro s2 w2 q1 q2 q3
      have ej : Jn Ss s2.ps 0 l F0 [] := by rw [q3]; exact jn.uni
      refine ⟨fr.stp q2 q1 ⟨l, F0, ej⟩, ?_, ?_⟩
      · have : s2.ps.tk = s1.ps.tk := by rw [q3]; unfold PS.uni; split <;> rfl
        exact this
      · have : s2.ps.em = s1.ps.em := by rw [q3]; unfold PS.uni; split <;> rfl
        exact this
    obtain ⟨pa, pcap, ep⟩ := pv_form fr.own
    cases hok : (unitN Ss s1.tk).2
    · rw [hok] at cu
      have eF : F = (p1, false) := by rw [← f1]; exact frc_stop hok
      have CU := hide cu
      clear cu eu eu1 eu2 un wf jn fr f1 f2 f3 ha hok eC
      subst eF
      subst ep
      generalize (unitN Ss s1.tk).1 = x at *
      go_wp2_with fail
      refine (unhide CU).mono ?_; rintro e w2 ⟨s2, rfl, q1, q2, q3⟩
      have R2 := hide (unhide NX s2 w2 q1 q2 q3).1
      clear CU q1 q2 q3 NX
      go_wp2_with fail
      rw [Exit.noGoto_ret]
      go_ret2
      exact ⟨_, _, rfl, unhide R2⟩
    · rw [hok] at cu
      by_cases hx0 : (unitN Ss s1.tk).1 = 0
      · rw [hx0] at cu
        have eF : F = (p1, true) := by rw [← f1]; exact frc_end hok hx0
        have CU := hide cu
        clear cu eu eu1 eu2 un wf jn fr f1 f2 f3 ha hok eC hx0
        subst eF
        subst ep
        go_wp2_with fail
        refine (unhide CU).mono ?_; rintro e w2 ⟨s2, rfl, q1, q2, q3⟩
        have R2 := hide (unhide NX s2 w2 q1 q2 q3).1
        clear CU q1 q2 q3 NX
        go_wp2_with fail
        rw [Exit.noGoto_ret]
        go_ret2
        exact ⟨_, _, rfl, unhide R2⟩
      · have un' := un hok hx0
        have eF := frc_more (n := n') (p := p1) hok hx0
        rw [f1] at eF
        have hem : s1.em = false := by
          have : (!s1.em) = true := eu2.trans hok
          simpa using this
        generalize hxx : (unitN Ss s1.tk).1 = x at *
        have bd := okB_iff.1 un'.1
        have hpc := pc_with un'.1 un'.2.1
        have htk : s1.tk < 2 ^ 48 := jn.tk
        have CU := hide cu
        have hw0 := withC 0 x
        have TKE : Hid (∀ s2 w2, Frc Ss wB c s2 w2 u1 p1 → s2.tk = s1.tk → s2.em = s1.em → Calls Tryd.prog 125 #[.pointer (some ⟨c, 0, none⟩), .int .u64 ((withN 0 x : Nat) : Int)] w2 fun e w' => ∃ s', e = .returned (.tuple #[]) ∧ Frc Ss wB c s' w' u1 p1 ∧ s'.tk = withN s1.tk x) := by
          intro s2 w2 q e1 e2
          obtain ⟨l2, F2, j2⟩ := q.jn
          have hL : withN 0 x < 2 ^ 48 := withN_lt (by decide) un'.1
          have js := j2.start (l' := l2) hL (fun b hb => by
            rw [withN_bit, Nat.zero_testBit, Bool.false_or, decide_eq_true_iff] at hb
            rw [← hb, show s2.ps.tk = s1.tk from e1]
            exact un'.2.1) (fun z => by
            have : s2.em = true := z
            rw [e2, hem] at this
            cases this)
          refine (take (l0 := l2) (F0 := []) (fitT Ss (s2.tk ||| withN 0 x)) hN q.wat q.tab hL j2.tk ⟨js, rfl⟩).mono ?_
          rintro e w' ⟨s', l', F', rfl, t1, t2, t3⟩
          refine ⟨s', rfl, q.stp t2 t1 ⟨l', F', t3.1⟩, ?_⟩
          have : s'.tk = s2.tk ||| withN 0 x := t3.2
          rw [this, e1]
          unfold bset.withN
          rw [Nat.zero_or]
        have W0 := hide (fun w => withC 0 x w (by decide) un'.1)
        have FX : Hid (F = frc Ss n' (withN s1.tk x) (p1 ++ [x])) := eF
        have hp1 : p1.length ≤ 1048700 := by omega
        obtain ⟨b0, b1, b2⟩ := bd
        have hmm := hide (And.intro f2 (And.intro f3 hpc))
        clear cu eu eu1 eu2 un un' wf jn fr f1 f2 f3 ha hok eC hx0 eF hem hw0 hpc
        subst ep
        generalize withN 0 x = wx at *
        go_wp2_with fail
        refine (unhide CU).mono ?_; rintro e w2 ⟨s2, rfl, q1, q2, q3⟩
        obtain ⟨r1, r2, r3⟩ := unhide NX s2 w2 q1 q2 q3
        have CT := hide (unhide TKE s2 w2 r1 r2 r3)
        clear CU q1 q2 q3 NX TKE r1 r2 r3
        have hxz : (x == 0) = false := by simpa using b0
        go_wp2_with fail
        refine (unhide W0 _).mono ?_; rintro e w3 ⟨rfl, hw⟩; have hw' := hw.symm; clear hw; subst hw'
        go_wp2_with fail
        refine (unhide CT).mono ?_; rintro e w4 ⟨s4, rfl, r4, r5⟩
        have R4 := hide r4
        have R5 := hide r5
        have ga := World.grownBy_alloc w4 (.cells #[.int .i64 x] 3) none
        have OWB := hide (r4.own.kept ga (ne_none _))
        have hBs : wB.heap.size ≤ (w4.alloc (.cells #[.int .i64 x] 3)).heap.size := Nat.le_trans r4.g.size ga.size
        have HBs := hide hBs
        have NC := hide (new_cell w4 x)
        clear CT W0 r4 r5 hBs
        go_wp2_with (at_builtin; refine listB (unhide OWB) (unhide NC) (unhide HBs) (by omega) rfl _ _ rfl rfl rfl ?_)
        intro g5 cap5 w5 o5 g5' l5
        have R6 := hide ((unhide R4).push o5 g5' (by
          rcases l5 with z | z
          · exact .inl z
          · exact .inr (Nat.le_of_succ_le z)))
        clear o5 g5' l5 OWB NC HBs ga R4
        have hk := unhide hmm
        go_wp2_with fail
        go_roundw
        case rel => exact ⟨n', p1 ++ [x], s4, by show p1.length + 1 + n' = m; omega, unhide R6, by rw [unhide R5]; exact (unhide FX).symm, by rw [List.length_append]; show p1.length + 1 + n' = m; omega, by rw [unhide R5]; omega⟩
        case measure => show m - (p1.length + 1) < m - p1.length; omega
end Go.Proofs.YtloenjaonkdlaaaDoor.wm
namespace Go.Proofs.YtloenjaonkdlaaaDoor.wm
open Go.ChangeShapes Go.WideShapes Go.ChangeAt Go.RowKit
open Go.Proofs.YtloenjaonkdlaaaDoor.wm0 (end0 ret0 stepW listW listB)
open Go.Proofs.YtloenjaonkdlaaaDoor.lits (okB okB_iff)
open Go.Proofs.YtloenjaonkdlaaaDoor.bset (placeN placeN_le placeC)
open Go.Proofs.YtloenjaonkdlaaaDoor.srt (Tab woN woN_lt fstI)
open Go.Proofs.YtloenjaonkdlaaaDoor.sl (Sl Own ints hide unhide ret_int ret_bool grown_refl grown_trans grown_drewN)
set_option linter.unusedVariables false

theorem infoK : (Tryd.prog.info? 160).map (fun i => (i.zero, i.size, i.bytes)) = some (some (.agg #[.int .u64 0, .int .i8 0, .int .i8 0]), 3, 16) := by kernel_rfl
theorem rowsK_snoc (K : List (Nat × Int × Int)) (S : Nat) (a b : Int) : rowsK (K ++ [(S, a, b)]) = rowsK K ++ [.int .u64 (S : Int), .int .i8 a, .int .i8 b] := by
  unfold rowsK
  rw [List.flatMap_append]
  rfl
/-- one clause more behind the clauses -/
theorem listK {ops : Array Oper} {rest : List Oper} {o : Oper} {a : Act} {Q : Exit → Act → World → Prop} {wr : World} {v : Value} {K : List (Nat × Int × Int)} {S : Nat} {x y : Int} {b : Nat}
    (hw : wr.ownsRow 0 160 3 v K.length (rowsK K)) (hb : wr.heap[b]? = some (.cells #[.int .u64 (S : Int), .int .i8 x, .int .i8 y] 160 (0, 0))) (hM : K.length ≤ 1048576) (hgd : o.guard = none) (s t : Operand)
    (ho : o.op = .call { callee := .builtin .append, args := #[s, t], argTypes := #[127, 127] }) (hs : a.eval s = v) (hx : a.eval t = .slice (some ⟨b, 0, none⟩) 1 1)
    (hK : ∀ g cap w1, w1.ownsRow 0 160 3 (.slice (some ⟨g, 0, none⟩) (K.length + 1) cap) (K.length + 1) (rowsK (K ++ [(S, x, y)])) → wr.grownBy w1 v.ownBlock → (v.ownBlock = some g ∨ wr.heap.size ≤ g) → wpList Tryd.prog ops Q rest (a.put o.dst (.slice (some ⟨g, 0, none⟩) (K.length + 1) cap)) w1) :
    wpList Tryd.prog ops Q (o :: rest) a wr := by
  obtain ⟨i0, hi, hz0, hz1, hz2⟩ := info_parts infoK
  refine wpList_append_lies _ hgd s t 127 ho 0 160 i0 _ 3 16 Tryd.underlying127 hi hz0 hz1 hz2 rfl (by decide) v K.length (rowsK K) hs hw ⟨b, 0, none⟩ 1 1 [.int .u64 (S : Int), .int .i8 x, .int .i8 y] hx rfl ?_ ?_ (by decide) ?_ ?_ (Nat.zero_le _) wr.heap.size rfl ?_
  · intro j u hj
    rw [Addr.add_lit, Nat.zero_add]
    simp only [World.cell?, hb]
    simpa using hj
  · intro u hu
    simp at hu
    rcases hu with rfl | rfl | rfl <;> rfl
  · unfold maxLen; omega
  · omega
  · intro g cap w1 h1 hg hl _
    refine hK g cap w1 ?_ hg (by rcases hl with q | q; exact .inl q; exact .inr (by omega))
    rw [rowsK_snoc]
    exact h1
/-- the clauses are put anew -/
theorem Wat.addK {w w0 w1 : World} {c g cap : Nat} {s : WS} {K' : List (Nat × Int × Int)} (h : Wat w c s) (g0 : w.grownBy w0 none)
    (hown : w1.ownsRow 0 160 3 (.slice (some ⟨g, 0, none⟩) K'.length cap) K'.length (rowsK K')) (hg : w0.grownBy w1 s.V.ownBlock) (hl : s.V.ownBlock = some g ∨ w.heap.size ≤ g) :
    Wat (w1.setCell ⟨c, 0, none⟩ (.slice (some ⟨g, 0, none⟩) K'.length cap)) c { s with V := .slice (some ⟨g, 0, none⟩) K'.length cap, K := K' } ∧ Stp c s { s with V := .slice (some ⟨g, 0, none⟩) K'.length cap, K := K' } w (w1.setCell ⟨c, 0, none⟩ (.slice (some ⟨g, 0, none⟩) K'.length cap)) := by
  have h0 := h.kept g0
  have hnc := row_nec h0.cl h0.blk types1
  have hb1 : w1.heap[c]? = some (.cells s.cells.toArray 130 (0, 0)) := by
    rw [hg.block c h0.lt (fun e => by
      rcases hnc with q | q
      · rw [q] at e; cases e
      · exact q e.symm)]
    exact h0.blk
  have g2 := sl.grown_setCell w1 c 0 (.slice (some ⟨g, 0, none⟩) K'.length cap)
  refine ⟨⟨put hb1 (by decide) (fun k hk => ?_), h.len, hown.kept g2 (row_nec hown hb1 types1), fun p hp => ?_, h.ap⟩, ⟨g2.os.trans (hg.os.trans g0.os), g2.tape.trans (hg.tape.trans g0.tape), g2.output.trans (hg.output.trans g0.output), Nat.le_trans g0.size (Nat.le_trans hg.size g2.size), fun k hk hn => ?_, fun k f => ?_⟩⟩
  · by_cases e : k = 0
    · subst e
      rfl
    · rw [if_neg e]
      unfold WS.at
      rw [if_neg e, if_neg e]
  · have := (h0.ls p hp).kept hg (row_ne (h0.ls p hp) h0.cl (fun e => types3 e.symm))
    exact this.kept g2 (row_nec this hb1 types2)
  · rw [g2.block k (Nat.lt_of_lt_of_le hk (Nat.le_trans g0.size hg.size)) (fun e => hn (.inl (by cases e; rfl)))]
    rw [hg.block k (Nat.lt_of_lt_of_le hk g0.size) (fun e => hn (.inr (.inl e.symm)))]
    exact g0.block k hk (fun e => by cases e)
  · rcases f with f | f | f
    · exact .inl (.inl f)
    · have e : g = k := by
        have : (Value.slice (some ⟨g, 0, none⟩) K'.length cap).ownBlock = some k := f
        simpa [Value.ownBlock] using this
      subst e
      rcases hl with q | q
      · exact .inl (.inr (.inl q))
      · exact .inr q
    · exact .inl (.inr (.inr f))
/-- what add makes of a watcher -/
def PS.add (P : PS) (S : Nat) : PS :=
  if S = 0 then { P with K := P.K ++ [(0, 0, 0)], em := true, ho := true }
  else if woN S (fstI S) = 0 then { (((P.more 0 (P.K.length : Int)).more 49 (P.K.length : Int)).more (1 + placeN (fstI S)) (P.K.length : Int)) with K := P.K ++ [(S, fstI S, fstI S)] }
  else { ((P.more (1 + placeN (fstI (woN S (fstI S)))) (P.K.length : Int)).more (1 + placeN (fstI S)) (P.K.length : Int)) with K := P.K ++ [(S, fstI S, fstI (woN S (fstI S)))] }

theorem new_block (w : World) (o : Obj) : (w.alloc o).heap[w.heap.size]? = some o := by
  show (w.heap.push o)[w.heap.size]? = _
  simp
theorem Wat.keep {w w1 : World} {c k : Nat} {s : WS} {o : Obj} {r : Option Nat} (h : Wat w c s) (hr : r = none ∨ r ≠ some c) (g : (w.alloc o).grownBy w1 r) (hk : k < 54) : w1.cell? ⟨c, k, none⟩ = some (s.at k) ∧ w1.frozen? ⟨c, k, none⟩ = false := by
  have h0 := h.kept (World.grownBy_alloc w o none)
  have e : w1.heap[c]? = (w.alloc o).heap[c]? := g.block c h0.lt (fun e => by
    rcases hr with q | q
    · rw [q] at e; cases e
    · exact q e.symm)
  exact ⟨(World.cell?_of_block (a := ⟨c, k, none⟩) e).trans (h0.cell hk), (World.frozen?_of_block (a := ⟨c, k, none⟩) e).trans (h0.fz _)⟩
/-- all that the walk asks at the append of a clause -/
structure AddK (c : Nat) (s : WS) (w : World) (v : Value) (k : Nat × Int × Int) : Prop where
  own : (w.alloc (.cells #[.int .u64 (k.1 : Int), .int .i8 k.2.1, .int .i8 k.2.2] 160)).ownsRow 0 160 3 v s.K.length (rowsK s.K)
  cell : ∀ w1, (w.alloc (.cells #[.int .u64 (k.1 : Int), .int .i8 k.2.1, .int .i8 k.2.2] 160)).grownBy w1 v.ownBlock → w1.cell? ⟨c, 0, none⟩ = some v ∧ w1.frozen? ⟨c, 0, none⟩ = false
  fin : ∀ g cap w1, w1.ownsRow 0 160 3 (.slice (some ⟨g, 0, none⟩) (s.K.length + 1) cap) (s.K.length + 1) (rowsK (s.K ++ [k])) → (w.alloc (.cells #[.int .u64 (k.1 : Int), .int .i8 k.2.1, .int .i8 k.2.2] 160)).grownBy w1 v.ownBlock → (v.ownBlock = some g ∨ w.heap.size + 1 ≤ g) →
    ∃ s', Wat (w1.setCell ⟨c, 0, none⟩ (.slice (some ⟨g, 0, none⟩) (s.K.length + 1) cap)) c s' ∧ Stp c s s' w (w1.setCell ⟨c, 0, none⟩ (.slice (some ⟨g, 0, none⟩) (s.K.length + 1) cap)) ∧ s'.ps = { s.ps with K := s.K ++ [k] } ∧ s'.em = s.em
theorem addK_of {c : Nat} {s : WS} {w : World} {v : Value} (h : Wat w c s) (e : s.V = v) (k : Nat × Int × Int) : AddK c s w v k := by
  subst e
  have ga := World.grownBy_alloc w (.cells #[.int .u64 (k.1 : Int), .int .i8 k.2.1, .int .i8 k.2.2] 160) none
  refine ⟨h.cl.kept ga (ne_none _), fun w1 g1 => ?_, fun g cap w1 o1 g1 l1 => ?_⟩
  · exact h.keep (k := 0) (row_nec h.cl h.blk types1) g1 (by decide)
  · have el : (s.K ++ [k]).length = s.K.length + 1 := by simp
    have := h.addK (K' := s.K ++ [k]) (g := g) (cap := cap) ga (by rw [el]; exact o1) g1 (by rcases l1 with q | q; exact .inl q; exact .inr (by omega))
    rw [el] at this
    exact ⟨_, this.1, this.2, rfl, rfl⟩

/-- all that the walk asks at the append to a list -/
structure AddL (c : Nat) (s : WS) (w : World) (j q : Nat) (y : Int) (v : Value) (L : List Int) : Prop where
  own : (w.alloc (.cells #[.int .i64 y] 3)).ownsRow 0 3 1 v L.length (ints L)
  cell : ∀ w1, (w.alloc (.cells #[.int .i64 y] 3)).grownBy w1 v.ownBlock → w1.cell? ⟨c, q, none⟩ = some v ∧ w1.frozen? ⟨c, q, none⟩ = false
  fin : ∀ g cap w1, w1.ownsRow 0 3 1 (.slice (some ⟨g, 0, none⟩) (L.length + 1) cap) (L.length + 1) (ints L ++ [.int .i64 y]) → (w.alloc (.cells #[.int .i64 y] 3)).grownBy w1 v.ownBlock → (v.ownBlock = some g ∨ w.heap.size ≤ g) →
    ∃ s', Upd c s s' j y w (w1.setCell ⟨c, q, none⟩ (.slice (some ⟨g, 0, none⟩) (L.length + 1) cap))
theorem addL_of {c j q : Nat} {s : WS} {w : World} (h : Wat w c s) (hj : j < 50) (hq : pos j = q) (y : Int) : ∃ a cp L, (s.A.getD j nil_) = (.slice a L.length cp, L) ∧ s.at q = .slice a L.length cp ∧ AddL c s w j q y (.slice a L.length cp) L := by
  subst hq
  have hjl : j < s.A.length := by rw [h.len]; exact hj
  have own0 := h.ls _ (mem_getD hjl)
  have ea := atPos s hj
  obtain ⟨v, L, eA⟩ : ∃ v L, s.A.getD j nil_ = (v, L) := ⟨_, _, rfl⟩
  rw [eA] at own0 ea
  obtain ⟨a, cp, ev, _⟩ := Sl.of_own own0
  have ev' : v = .slice a L.length cp := ev
  subst ev'
  refine ⟨a, cp, L, eA, ea, own0.kept (World.grownBy_alloc w _ none) (ne_none _), fun w1 g1 => ?_, fun g cap w1 o1 g1 l1 => ?_⟩
  · have := h.keep (k := pos j) (row_nec own0 h.blk types2) g1 (pos_lt hj)
    rw [ea] at this
    exact this
  · have := h.one (y := y) (w1 := w1) (g := g) (cap := cap) hj (World.grownBy_alloc w (.cells #[.int .i64 y] 3) none) (by rw [eA]; exact o1) (by rw [eA]; exact g1) (by rw [eA]; exact l1)
    rw [eA] at this
    exact this

set_option maxRecDepth 100000 in
set_option maxHeartbeats 8000000 in
theorem add {w : World} {c S : Nat} {s : WS} (h : Wat w c s) (hTab : TabF c s w) (hS : S < 2 ^ 48) (hl : s.K.length ≤ 1048576) (hb : ∀ j, (s.A.getD j nil_).2.length ≤ 4194000) :
    Calls Tryd.prog 137 #[.pointer (some ⟨c, 0, none⟩), .int .u64 (S : Int)] w fun e w' => ∃ s', e = .returned (.tuple #[]) ∧ Wat w' c s' ∧ Stp c s s' w w' ∧ s'.ps = s.ps.add S := by
  obtain ⟨a0, cap0, eV⟩ := h.vform
  have x0 := h.cell (k := 0) (by decide)
  rw [at0, eV] at x0
  have f0 := h.fz 0
  by_cases h0 : S = 0
  · subst h0
    have EP : Hid (s.ps.add 0 = { s.ps with K := s.K ++ [(0, 0, 0)], em := true, ho := true }) := rfl
    have AK := hide (addK_of h eV (0, 0, 0))
    have ne0 := World.new_ne w _ x0
    have NB := hide (new_block w (.cells #[.int .u64 0, .int .i8 0, .int .i8 0] 160))
    clear h
    go_enter Tryd.func137, Tryd.ntmps137
    go_wp2_with (at_builtin; refine listK (S := 0) (x := 0) (y := 0) (b := w.heap.size) (unhide AK).own (unhide NB) hl rfl _ _ rfl rfl rfl ?_)
    intro g cap w1 o1 g1 l1
    have y0 := ((unhide AK).cell w1 g1).1
    have y1 := ((unhide AK).cell w1 g1).2
    obtain ⟨s', q1, q2, q3, q4⟩ := (unhide AK).fin g cap w1 o1 g1 (by rcases l1 with q | q; exact .inl q; exact .inr q)
    have k5 := q1.setEm true
    have f51 := q1.fz 51
    have x51 := q1.cell (k := 51) (by decide)
    rw [at51] at x51
    have k6 := k5.1.setHo true
    have f53 := k5.1.fz 53
    have x53 := k5.1.cell (k := 53) (by decide)
    rw [at53] at x53
    have R : Hid (Wat _ c { s' with em := true, ho := true } ∧ Stp c s { s' with em := true, ho := true } w _ ∧ ({ s' with em := true, ho := true } : WS).ps = s.ps.add 0) := ⟨k6.1, (q2.trans k5.2).trans k6.2, by
      rw [unhide EP]
      show ({ s'.ps with em := true, ho := true } : PS) = _
      rw [q3]⟩
    clear o1 g1 l1 q1 q2 q3 q4 k5 k6 AK NB
    go_wp2_with fail
    exact ret0 rfl rfl ⟨rfl, _, unhide R⟩
  · have hSp : 0 < S := by omega
    have hS0 : ((S : Int) == 0) = false := by simp [h0]
    have fs := fst_spec hSp hS
    have CF := hide (srt.first S w hTab.1 hSp hS)
    have CW := hide (srt.without S (fstI S) w hS fs.1)
    have hrl : woN S (fstI S) < 2 ^ 48 := woN_lt hS
    have hi' : (0 : Int) ≤ (s.K.length : Int) := by omega
    by_cases hr : woN S (fstI S) = 0
    · have EP : Hid (s.ps.add S = { (((s.ps.more 0 (s.K.length : Int)).more 49 (s.K.length : Int)).more (1 + placeN (fstI S)) (s.K.length : Int)) with K := s.K ++ [(S, fstI S, fstI S)] }) := by
        show _ = _
        unfold PS.add
        rw [if_neg h0, if_pos hr]
        rfl
      have hr0 : ((woN S (fstI S) : Int) != 0) = false := by rw [hr]; rfl
      have x50 := h.cell (k := 50) (by decide)
      have f50 := h.fz 50
      obtain ⟨a1, c1, L1, eA1, eat1, AL1⟩ := addL_of h (j := 0) (q := 50) (by decide) rfl (s.K.length : Int)
      rw [eat1] at x50
      have hb0 := hb 0
      rw [eA1] at hb0
      have NB := hide (new_cell w (s.K.length : Int))
      have EV := hide eV
      have HB := hide hb
      have ALH := hide AL1
      clear AL1 eA1 eat1 h hTab hb
      generalize hy : fstI S = y at *
      have HFS := hide fs.1
      rw [hr] at CW
      go_enter Tryd.func137, Tryd.ntmps137
      go_wp2_with fail
      refine (unhide CF).mono ?_; rintro e w2 ⟨rfl, hw⟩; have hw' := hw.symm; clear hw; subst hw'
      go_wp2_with fail
      refine (unhide CW).mono ?_; rintro e w2 ⟨rfl, hw⟩; have hw' := hw.symm; clear hw; subst hw'
      clear CF CW
      go_wp2_with (at_builtin; refine listW (unhide ALH).own (unhide NB) (by omega) rfl _ _ rfl rfl rfl ?_)
      intro g cap w1 o1 g1 l1
      have y0 := ((unhide ALH).cell w1 g1).1
      have y1 := ((unhide ALH).cell w1 g1).2
      obtain ⟨s0, u0⟩ := (unhide ALH).fin g cap w1 o1 g1 (by rcases l1 with q | q; exact .inl q; exact .inr (Nat.le_of_succ_le q))
      have x52 := u0.1.cell (k := 52) (by decide)
      have f52 := u0.1.fz 52
      obtain ⟨a2, c2, L2, eA2, eat2, AL2⟩ := addL_of u0.1 (j := 49) (q := 52) (by decide) rfl (s.K.length : Int)
      rw [eat2] at x52
      have hb49 : L2.length ≤ 4194000 := by
        have e := u0.2.2.2.2.2.2.2 49 (by decide)
        rw [eA2] at e
        have := unhide HB 49
        rw [← e] at this
        exact this
      have NB2 := hide (new_cell (w1.setCell ⟨c, 50, none⟩ (.slice (some ⟨g, 0, none⟩) (L1.length + 1) cap)) (s.K.length : Int))
      have es : (w1.setCell ⟨c, 50, none⟩ (.slice (some ⟨g, 0, none⟩) (L1.length + 1) cap)).heap.size = w1.heap.size := by simp
      rw [es] at NB2
      have ES := hide es
      clear es
      have ALH2 := hide AL2
      have U0 := hide u0
      clear o1 g1 l1 ALH NB u0 AL2 eA2 eat2
      go_wp2_with (at_builtin; refine listW (unhide ALH2).own (unhide NB2) (by omega) rfl _ _ rfl rfl rfl ?_)
      intro g' cap' w1' o1 g1 l1
      have y0' := ((unhide ALH2).cell w1' g1).1
      have y1' := ((unhide ALH2).cell w1' g1).2
      obtain ⟨s1, u1⟩ := (unhide ALH2).fin g' cap' w1' o1 g1 (by rcases l1 with q | q; exact .inl q; exact .inr (by rw [unhide ES]; exact Nat.le_of_succ_le q))
      have hb1 : (s1.A.getD (1 + placeN y) nil_).2.length ≤ 4194304 := by
        have hp := placeN_le (unhide HFS)
        rw [u1.2.2.2.2.2.2.2 _ (by omega), (unhide U0).2.2.2.2.2.2.2 _ (by omega)]
        have := unhide HB (1 + placeN y)
        omega
      have CWa := hide (watch (i := (s.K.length : Int)) (x := y) u1.1 (unhide HFS) hb1)
      have U1 := hide u1
      clear o1 g1 l1 ALH2 NB2 u1
      go_wp2_with fail
      refine (unhide CWa).mono ?_; rintro e w3 ⟨s3, rfl, u3⟩
      have eV3 : s3.V = .slice a0 s.K.length cap0 := by rw [u3.2.2.1, (unhide U1).2.2.1, (unhide U0).2.2.1]; exact unhide EV
      have eK3 : s3.K = s.K := by rw [u3.2.2.2.1, (unhide U1).2.2.2.1, (unhide U0).2.2.2.1]
      have AK := addK_of u3.1 eV3 (S, y, y)
      have EE : Hid (∀ s4 : WS, s4.ps = { s3.ps with K := s3.K ++ [(S, y, y)] } → s4.ps = s.ps.add S) := by
        intro s4 q
        rw [q, unhide EP, u3.ps, (unhide U1).ps, (unhide U0).ps, eK3]
      have ST := hide (((unhide U0).2.1.trans (unhide U1).2.1).trans u3.2.1)
      have z0 := u3.1.cell (k := 0) (by decide)
      rw [at0, eV3] at z0
      have ne3 := World.new_ne w3 _ z0
      have NB := hide (new_block w3 (.cells #[.int .u64 (S : Int), .int .i8 y, .int .i8 y] 160))
      have HAK := hide AK
      have hl3 : s3.K.length ≤ 1048576 := by rw [eK3]; exact hl
      have EK3 := hide eK3
      clear CWa U1 U0 u3 AK EP eV3 eK3
      go_wp2_with (at_builtin; refine listK (K := s3.K) (S := S) (x := y) (y := y) (b := w3.heap.size) (unhide HAK).own (unhide NB) hl3 rfl _ _ rfl rfl rfl ?_)
      intro g5 cap5 w5 o5 g5' l5
      have v0 := ((unhide HAK).cell w5 g5').1
      have v1 := ((unhide HAK).cell w5 g5').2
      obtain ⟨s5, q1, q2, q3, q4⟩ := (unhide HAK).fin g5 cap5 w5 o5 g5' (by rcases l5 with q | q; exact .inl q; exact .inr q)
      have R : Hid (Wat _ c s5 ∧ Stp c s s5 w _ ∧ s5.ps = s.ps.add S) := ⟨q1, (unhide ST).trans q2, unhide EE s5 q3⟩
      clear o5 g5' l5 q1 q2 q3 q4 HAK NB EE ST
      go_wp2_with fail
      first
        | exact end0 rfl rfl ⟨_, rfl, unhide R⟩
        | exact ret0 rfl rfl ⟨_, rfl, unhide R⟩
    · have hrp : 0 < woN S (fstI S) := by omega
      have fz := fst_spec hrp hrl
      have CF2 := hide (srt.first (woN S (fstI S)) w hTab.1 hrp hrl)
      have hne : placeN (fstI (woN S (fstI S))) ≠ placeN (fstI S) := by
        have := fz.2
        rw [srt.woN_bit _ _ _ hS fs.1, Bool.and_eq_true, Bool.not_eq_true', decide_eq_false_iff_not] at this
        exact fun e => this.2 e.symm
      have EP : Hid (s.ps.add S = { ((s.ps.more (1 + placeN (fstI (woN S (fstI S)))) (s.K.length : Int)).more (1 + placeN (fstI S)) (s.K.length : Int)) with K := s.K ++ [(S, fstI S, fstI (woN S (fstI S)))] }) := by
        show _ = _
        unfold PS.add
        rw [if_neg h0, if_neg hr]
        rfl
      have hr0 : ((woN S (fstI S) : Int) != 0) = true := by simp; omega
      have hb1 := hb (1 + placeN (fstI (woN S (fstI S))))
      have CW1 := hide (watch (i := (s.K.length : Int)) (x := fstI (woN S (fstI S))) h fz.1 (by omega))
      have EV := hide eV
      have HB := hide hb
      have HNE := hide hne
      have HFS := hide fs.1
      clear h hTab hb hb1 hne fz hr hrp hrl
      generalize hz : fstI (woN S (fstI S)) = z at *
      generalize woN S (fstI S) = r at *
      generalize hy : fstI S = y at *
      go_enter Tryd.func137, Tryd.ntmps137
      go_wp2_with fail
      refine (unhide CF).mono ?_; rintro e w2 ⟨rfl, hw⟩; have hw' := hw.symm; clear hw; subst hw'
      go_wp2_with fail
      refine (unhide CW).mono ?_; rintro e w2 ⟨rfl, hw⟩; have hw' := hw.symm; clear hw; subst hw'
      go_wp2_with fail
      refine (unhide CF2).mono ?_; rintro e w2 ⟨rfl, hw⟩; have hw' := hw.symm; clear hw; subst hw'
      clear CF CW CF2
      go_wp2_with fail
      refine (unhide CW1).mono ?_; rintro e w1 ⟨s1, rfl, u1⟩
      have hb1 : (s1.A.getD (1 + placeN y) nil_).2.length ≤ 4194304 := by
        rw [u1.2.2.2.2.2.2.2 _ (fun e => unhide HNE (by omega))]
        have := unhide HB (1 + placeN y)
        omega
      have CWa := hide (watch (i := (s.K.length : Int)) (x := y) u1.1 (unhide HFS) hb1)
      have U1 := hide u1
      clear CW1 u1
      go_wp2_with fail
      refine (unhide CWa).mono ?_; rintro e w3 ⟨s3, rfl, u3⟩
      have eV3 : s3.V = .slice a0 s.K.length cap0 := by rw [u3.2.2.1, (unhide U1).2.2.1]; exact unhide EV
      have eK3 : s3.K = s.K := by rw [u3.2.2.2.1, (unhide U1).2.2.2.1]
      have AK := addK_of u3.1 eV3 (S, y, z)
      have EE : Hid (∀ s4 : WS, s4.ps = { s3.ps with K := s3.K ++ [(S, y, z)] } → s4.ps = s.ps.add S) := by
        intro s4 q
        rw [q, unhide EP, u3.ps, (unhide U1).ps, eK3]
      have ST := hide ((unhide U1).2.1.trans u3.2.1)
      have z0 := u3.1.cell (k := 0) (by decide)
      rw [at0, eV3] at z0
      have ne3 := World.new_ne w3 _ z0
      have NB := hide (new_block w3 (.cells #[.int .u64 (S : Int), .int .i8 y, .int .i8 z] 160))
      have HAK := hide AK
      have hl3 : s3.K.length ≤ 1048576 := by rw [eK3]; exact hl
      clear CWa U1 u3 AK EP eV3 eK3
      go_wp2_with (at_builtin; refine listK (K := s3.K) (S := S) (x := y) (y := z) (b := w3.heap.size) (unhide HAK).own (unhide NB) hl3 rfl _ _ rfl rfl rfl ?_)
      intro g5 cap5 w5 o5 g5' l5
      have v0 := ((unhide HAK).cell w5 g5').1
      have v1 := ((unhide HAK).cell w5 g5').2
      obtain ⟨s5, q1, q2, q3, q4⟩ := (unhide HAK).fin g5 cap5 w5 o5 g5' (by rcases l5 with q | q; exact .inl q; exact .inr q)
      have R : Hid (Wat _ c s5 ∧ Stp c s s5 w _ ∧ s5.ps = s.ps.add S) := ⟨q1, (unhide ST).trans q2, unhide EE s5 q3⟩
      clear o5 g5' l5 q1 q2 q3 q4 HAK NB EE ST
      go_wp2_with fail
      first
        | exact end0 rfl rfl ⟨_, rfl, unhide R⟩
        | exact ret0 rfl rfl ⟨_, rfl, unhide R⟩
end Go.Proofs.YtloenjaonkdlaaaDoor.wm
namespace Go.Proofs.YtloenjaonkdlaaaDoor.wm
open Go.ChangeShapes Go.WideShapes Go.ChangeAt Go.RowKit
open Go.Proofs.YtloenjaonkdlaaaDoor.wm0 (end0 ret0 stepW listW listB)
open Go.Proofs.YtloenjaonkdlaaaDoor.lits (okB okB_iff)
open Go.Proofs.YtloenjaonkdlaaaDoor.bset (placeN placeN_le placeC placeN_inj setOf setOf_lt)
open Go.Proofs.YtloenjaonkdlaaaDoor.srt (Tab woN woN_lt woN_bit fstI swp)
open Go.Proofs.YtloenjaonkdlaaaDoor.css (Sls)
open Go.Proofs.YtloenjaonkdlaaaDoor.sl (Sl Own ints hide unhide ret_int ret_bool grown_refl grown_trans grown_drewN)
set_option linter.unusedVariables false

theorem opn0 {S : Nat} (hS : S < 2 ^ 48) (b : Nat) : (opn S 0).testBit b = S.testBit b := by
  rw [opn_bit _ _ _ hS, Nat.zero_testBit]
  simp
theorem clsd0 (S : Nat) : clsd S 0 = false := by
  unfold clsd
  rw [Nat.and_zero]
  rfl
theorem opn00 {S : Nat} (hS : S < 2 ^ 48) : opn S 0 = S := Nat.eq_of_testBit_eq fun b => opn0 hS b
theorem K_snoc_old {K : List (Nat × Int × Int)} {k : Nat × Int × Int} {j : Nat} (h : j < K.length) : (K ++ [k]).getD j zk = K.getD j zk := by
  rw [List.getD, List.getD, List.getElem?_append_left h]
theorem K_snoc_new {K : List (Nat × Int × Int)} {k : Nat × Int × Int} : (K ++ [k]).getD K.length zk = k := by
  rw [List.getD, List.getElem?_append_right (Nat.le_refl _)]
  simp
theorem S_snoc_old {Ss : List Nat} {S j : Nat} (h : j < Ss.length) : (Ss ++ [S]).getD j 0 = Ss.getD j 0 := by
  rw [List.getD, List.getD, List.getElem?_append_left h]
theorem S_snoc_new {Ss : List Nat} {S : Nat} : (Ss ++ [S]).getD Ss.length 0 = S := by
  rw [List.getD, List.getElem?_append_right (Nat.le_refl _)]
  simp
/-- a watcher that has taken nothing: one clause more -/
theorem Jn.grow {Ss : List Nat} {P P' : PS} {S : Nat} {k : Nat × Int × Int} (h : Jn Ss P 0 0 [] []) (h0 : P.tk = 0) (hS : S < 2 ^ 48) (hN : Ss.length < 1048576) (htk : P'.tk = 0) (hK : P'.K = P.K ++ [k]) (hk : k.1 = S) (hal : P'.A.length = 50)
    (hA : ∀ j x, x ∈ P.A.getD j [] → x ∈ P'.A.getD j []) (hidx : ∀ j x, x ∈ P'.A.getD j [] → x ∈ P.A.getD j [] ∨ (x = (Ss.length : Int) ∧ S ≠ 0)) (hbd : wgt P' 0 ≤ 4194304) (htt : tot P' ≤ tot P + 2) (h49 : S ≠ 0 → k.2.1 = k.2.2 → (Ss.length : Int) ∈ P'.A.getD 49 []) (h49o : (Ss.length : Int) ∈ P'.A.getD 49 [] → ∀ a b, S.testBit a = true → S.testBit b = true → a = b) (h49n : (P'.A.getD 49 []).length ≤ (P.A.getD 49 []).length + 1) (hho : P'.ho = true ↔ P.ho = true ∨ S = 0) (hem : P.em = true → P'.em = true)
    (hez : S = 0 → P'.em = true) (hes : P'.em = true → P.em = true ∨ S = 0)
    (hwat : S ≠ 0 → okB k.2.1 = true ∧ okB k.2.2 = true ∧ S.testBit (placeN k.2.1) = true ∧ S.testBit (placeN k.2.2) = true ∧ (Ss.length : Int) ∈ P'.A.getD (1 + placeN k.2.1) [] ∧ (Ss.length : Int) ∈ P'.A.getD (1 + placeN k.2.2) [])
    (hwt : (Ss.length : Int) ∈ P'.A.getD 0 [] → ∀ a b, S.testBit a = true → S.testBit b = true → a = b)
    (hst : S ≠ 0 → ((Ss.length : Int) ∈ P'.A.getD 0 [] ∧ ∀ b, S.testBit b = true → b = placeN k.2.1) ∨ k.2.1 ≠ k.2.2) : Jn (Ss ++ [S]) P' 0 0 [] [] := by
  have hlen : P.K.length = Ss.length := h.len
  have cs : ∀ {i}, i < (Ss ++ [S]).length → i < Ss.length ∨ i = Ss.length := fun {i} hi => by rw [List.length_append] at hi; simp at hi; omega
  have ko : ∀ i, i < Ss.length → P'.K.getD i zk = P.K.getD i zk := fun i hi => by rw [hK]; exact K_snoc_old (by omega)
  have kn : P'.K.getD Ss.length zk = k := by rw [hK, ← hlen]; exact K_snoc_new
  refine ⟨(by rw [hK]; simp [hlen]), fun i hi => ?_, fun i hi => ?_, (by rw [htk]; decide), (by decide), hal, fun b hb => (by rw [Nat.zero_testBit] at hb; cases hb), fun i hi hSi => ?_, fun j x hx => ?_, fun x hx => (by cases hx), fun q => absurd rfl q, fun q => absurd rfl q, (by simpa using hbd), (by simp; omega), ?_, Nat.zero_le _, fun i hi hSi => ?_, fun q hq => ?_, ?_, ?_, fun q hq _ => ?_, fun he => ?_, fun i hi hz => ?_, fun i hi hSi _ => ?_⟩
  · rcases cs hi with q | q
    · rw [ko i q, S_snoc_old q]
      exact h.sets i q
    · subst q
      rw [kn, S_snoc_new]
      exact hk
  · rcases cs hi with q | q
    · rw [S_snoc_old q]
      exact h.wd i q
    · subst q
      rw [S_snoc_new]
      exact hS
  · rcases cs hi with q | q
    · rw [S_snoc_old q] at hSi ⊢
      rw [ko i q]
      have := h.wat i q hSi
      exact ⟨this.1, this.2.1, this.2.2.1, this.2.2.2.1, hA _ _ this.2.2.2.2.1, hA _ _ this.2.2.2.2.2⟩
    · subst q
      rw [S_snoc_new] at hSi ⊢
      rw [kn]
      exact hwat hSi
  · rcases hidx j x hx with q | ⟨q1, q2⟩
    · obtain ⟨k', e1, e2, e3⟩ := h.idx j x q
      exact ⟨k', e1, by rw [List.length_append]; omega, by rw [S_snoc_old e2]; exact e3⟩
    · exact ⟨Ss.length, q1, by simp, by rw [S_snoc_new]; exact q2⟩
  · have := h.tt
    rw [List.length_append, List.length_singleton]
    omega
  · rcases cs hi with q | q
    · rw [S_snoc_old q] at hSi
      rw [ko i q]
      exact fun e => hA _ _ (h.sg i q hSi e)
    · subst q
      rw [S_snoc_new] at hSi
      rw [kn]
      exact h49 hSi
  · rcases hidx 49 _ hq with z | ⟨z1, z2⟩
    · obtain ⟨k', e1, e2, e3⟩ := h.idx 49 _ z
      have : k' = q := by omega
      subst this
      rw [S_snoc_old e2]
      exact h.so k' z
    · have : q = Ss.length := by omega
      subst this
      rw [S_snoc_new]
      exact h49o hq
  · have := h.sn
    rw [List.length_append, List.length_singleton]
    omega
  · rw [hho, h.hz]
    constructor
    · rintro (⟨i, hi, e⟩ | e)
      · exact ⟨i, by rw [List.length_append]; omega, by rw [S_snoc_old hi]; exact e⟩
      · exact ⟨Ss.length, by simp, by rw [S_snoc_new]; exact e⟩
    · rintro ⟨i, hi, e⟩
      rcases cs hi with q | q
      · rw [S_snoc_old q] at e
        exact .inl ⟨i, q, e⟩
      · subst q
        rw [S_snoc_new] at e
        exact .inr e
  · rw [htk]
    rcases hidx 0 _ hq with z | ⟨z1, z2⟩
    · obtain ⟨k', e1, e2, e3⟩ := h.idx 0 _ z
      have : k' = q := by omega
      subst this
      rw [S_snoc_old e2]
      have := h.wt k' z (by rw [h0]; exact clsd0 _)
      rw [h0] at this
      exact this
    · have : q = Ss.length := by omega
      subst this
      rw [S_snoc_new, opn00 hS]
      exact hwt hq
  · rw [htk]
    rcases hes he with z | z
    · obtain ⟨i, hi, hc, ho⟩ := h.es z
      rw [h0] at hc ho
      exact ⟨i, by rw [List.length_append]; omega, by rw [S_snoc_old hi]; exact hc, by rw [S_snoc_old hi]; exact ho⟩
    · exact ⟨Ss.length, by simp, clsd0 _, by rw [S_snoc_new, opn00 hS]; exact z⟩
  · rcases cs hi with q | q
    · rw [S_snoc_old q] at hz
      exact hem (h.ez i q hz)
    · subst q
      rw [S_snoc_new] at hz
      exact hez hz
  · have nl : ∀ p, ¬ lost P' p := fun p z => by
      have : P'.tk.testBit (placeN (-p)) = true := z
      rw [htk, Nat.zero_testBit] at this
      cases this
    rcases cs hi with q | q
    · rw [S_snoc_old q] at hSi ⊢
      rw [ko i q]
      rcases h.st i q hSi (by rw [h0]; exact clsd0 _) with ⟨a1, y, a2, a3, a4⟩ | ⟨b1, b2⟩ | ⟨c1, c2, c3⟩ | ⟨d1, d2, d3⟩
      · rw [h0] at a3 a4
        exact .inl ⟨hA _ _ a1, y, a2, by rw [htk]; exact a3, by rw [htk]; exact a4⟩
      · rw [h0] at b2
        exact .inr (.inl ⟨hem b1, by rw [htk]; exact b2⟩)
      · exact .inr (.inr (.inl ⟨c1, fun z => absurd z (nl _), fun z => absurd z (nl _)⟩))
      · exfalso
        have nl0 : ∀ p, ¬ lost P p := fun p z => by
          have : P.tk.testBit (placeN (-p)) = true := z
          rw [h0, Nat.zero_testBit] at this
          cases this
        rcases d3 with z | z
        · exact nl0 _ z.1
        · exact nl0 _ z.1
    · subst q
      rw [S_snoc_new] at hSi ⊢
      rw [kn]
      rcases hst hSi with ⟨z1, z2⟩ | z
      · refine .inl ⟨z1, k.2.1, .inl rfl, ?_, fun b hb => ?_⟩
        · rw [htk, opn00 hS]
          exact (hwat hSi).2.2.1
        · rw [htk, opn00 hS] at hb
          exact z2 b hb
      · exact .inr (.inr (.inl ⟨z, fun z => absurd z (nl _), fun z => absurd z (nl _)⟩))
theorem wgt_same {P : PS} {K : List (Nat × Int × Int)} {R : Nat} : wgt { P with K := K } R = wgt P R := rfl
theorem Jn.add {Ss : List Nat} {P : PS} {S : Nat} (h : Jn Ss P 0 0 [] []) (h0 : P.tk = 0) (hS : S < 2 ^ 48) (hb : wgt P 0 ≤ 3 * Ss.length) (hN : Ss.length < 1048576) : Jn (Ss ++ [S]) (P.add S) 0 0 [] [] ∧ (P.add S).tk = 0 ∧ wgt (P.add S) 0 ≤ 3 * (Ss ++ [S]).length := by
  have hlen : P.K.length = Ss.length := h.len
  have l1 : (Ss ++ [S]).length = Ss.length + 1 := by simp
  unfold PS.add
  by_cases hz : S = 0
  · rw [if_pos hz]
    have no49 : (Ss.length : Int) ∉ P.A.getD 49 [] := fun q => by
      obtain ⟨k', e1, e2, e3⟩ := h.idx 49 _ q
      omega
    refine ⟨h.grow (k := (0, 0, 0)) h0 hS hN h0 rfl hz.symm h.al (fun _ _ q => q) (fun _ _ q => .inl q) ?_ (Nat.le_add_right _ _) (fun q => absurd hz q) (fun q => absurd q no49) (Nat.le_add_right _ _) ⟨fun _ => .inr hz, fun _ => rfl⟩ (fun _ => rfl) (fun _ => rfl) (fun _ => .inr hz) (fun q => absurd hz q) (fun q => ?_) (fun q => absurd hz q), h0, ?_⟩
    · show wgt P 0 ≤ _
      omega
    · obtain ⟨k', e1, e2, e3⟩ := h.idx 0 _ q
      omega
    · rw [l1]
      show wgt P 0 ≤ _
      omega
  · rw [if_neg hz]
    have hSp : 0 < S := by omega
    have fs := fst_spec hSp hS
    have hfl := placeN_le fs.1
    by_cases hr : woN S (fstI S) = 0
    · rw [if_pos hr]
      have one := (one_iff hS hz).1 hr
      generalize fstI S = y at *
      obtain ⟨P1, hP1⟩ : ∃ P1, P1 = P.more 0 (P.K.length : Int) := ⟨_, rfl⟩
      obtain ⟨P2, hP2⟩ : ∃ P2, P2 = P1.more 49 (P.K.length : Int) := ⟨_, rfl⟩
      have w1 : wgt P1 0 ≤ wgt P 0 + 1 := by rw [hP1]; exact wgt_more
      have w2 : wgt P2 0 ≤ wgt P1 0 := by
        rw [hP2]
        unfold wgt
        have e0 : (P1.more 49 (P.K.length : Int)).A.getD 0 [] = P1.A.getD 0 [] := by rw [more_get, if_neg (fun e => by omega)]
        rw [e0]
        have := sumR_le (n := 48) (f := wf (P1.more 49 (P.K.length : Int)) 0) (g := wf P1 0) (fun p hp => by
          have e : (P1.more 49 (P.K.length : Int)).A.getD (1 + p) [] = P1.A.getD (1 + p) [] := by rw [more_get, if_neg (fun e => by omega)]
          unfold wf
          rw [e]
          exact Nat.le_refl _)
        omega
      have w3 := wgt_more (P := P2) (R := 0) (j := 1 + placeN y) (y := (P.K.length : Int))
      have t1 : tot P1 ≤ tot P := by rw [hP1]; exact tot_more0
      have t2 : tot P2 ≤ tot P1 := by
        rw [hP2]
        refine sumR_le (fun p hp => ?_)
        rw [more_get, if_neg (fun e => by omega)]
        exact Nat.le_refl _
      have t3 := tot_more (P := P2) (q := placeN y) (y := (P.K.length : Int)) (by omega)
      have l0 : P1.A.length = 50 := by rw [hP1]; show (P.A.set 0 _).length = 50; rw [List.length_set]; exact h.al
      have la : P2.A.length = 50 := by rw [hP2]; show (P1.A.set 49 _).length = 50; rw [List.length_set]; exact l0
      have m0 : ∀ {j x}, x ∈ P.A.getD j [] → x ∈ P1.A.getD j [] := fun q => by rw [hP1]; exact more_mem q
      have m1 : ∀ {j x}, x ∈ P1.A.getD j [] → x ∈ P2.A.getD j [] := fun q => by rw [hP2]; exact more_mem q
      have n1 : (P.K.length : Int) ∈ P1.A.getD 0 [] := by rw [hP1]; exact more_new (by rw [h.al]; decide)
      have n2 : (P.K.length : Int) ∈ P2.A.getD 49 [] := by rw [hP2]; exact more_new (by rw [l0]; decide)
      have e49 : (P2.more (1 + placeN y) (P.K.length : Int)).A.getD 49 [] = P.A.getD 49 [] ++ [(P.K.length : Int)] := by
        rw [more_get, if_neg (fun e => by omega), hP2, more_get, if_pos ⟨rfl, by rw [l0]; decide⟩, hP1, more_get, if_neg (fun e => by omega)]
      have ho2 : P2.ho = P.ho := by rw [hP2, hP1]; rfl
      have em2 : P2.em = P.em := by rw [hP2, hP1]; rfl
      have tk2 : P2.tk = P.tk := by rw [hP2, hP1]; rfl
      rw [← hP1, ← hP2]
      refine ⟨h.grow (k := (S, y, y)) h0 hS hN (tk2.trans h0) rfl rfl (by show (P2.A.set _ _).length = 50; rw [List.length_set]; exact la) (fun j x q => more_mem (P := P2) (m1 (m0 q))) (fun j x q => ?_) ?_ ?_ (fun _ _ => ?_) (fun _ => one) ?_ ?_ (fun q => em2.trans q) (fun q => absurd q hz) (fun q => .inl (em2.symm.trans q)) (fun _ => ?_) (fun _ => one) (fun _ => .inl ⟨?_, fun b hb => one b _ hb fs.2⟩), tk2.trans h0, ?_⟩
      · rcases more_of (P := P2) q with z | z
        · rw [hP2] at z
          rcases more_of z with z | z
          · rw [hP1] at z
            rcases more_of z with z | z
            · exact .inl z
            · exact .inr ⟨by rw [z.2, hlen], hz⟩
          · exact .inr ⟨by rw [z.2, hlen], hz⟩
        · exact .inr ⟨by rw [z.2, hlen], hz⟩
      · show wgt (P2.more (1 + placeN y) (P.K.length : Int)) 0 ≤ _
        omega
      · show tot (P2.more (1 + placeN y) (P.K.length : Int)) ≤ _
        omega
      · show (Ss.length : Int) ∈ (P2.more (1 + placeN y) (P.K.length : Int)).A.getD 49 []
        rw [e49, hlen]
        simp
      · show ((P2.more (1 + placeN y) (P.K.length : Int)).A.getD 49 []).length ≤ _
        rw [e49]
        simp
      · show P2.ho = true ↔ _
        rw [ho2]
        exact ⟨fun q => .inl q, fun q => q.resolve_right hz⟩
      · have := more_new (P := P2) (j := 1 + placeN y) (y := (P.K.length : Int)) (by rw [la]; omega)
        rw [hlen] at this
        rw [hlen]
        exact ⟨fs.1, fs.1, fs.2, fs.2, this, this⟩
      · have := more_mem (P := P2) (j := 1 + placeN y) (y := (P.K.length : Int)) (m1 n1)
        rw [hlen] at this
        rw [hlen]
        exact this
      · rw [l1]
        show wgt (P2.more (1 + placeN y) (P.K.length : Int)) 0 ≤ _
        omega
    · rw [if_neg hr]
      have fz := fst_spec (Nat.pos_of_ne_zero hr) (woN_lt hS)
      have fzb := fz.2
      rw [woN_bit _ _ _ hS fs.1, Bool.and_eq_true, Bool.not_eq_true', decide_eq_false_iff_not] at fzb
      have hzl := placeN_le fz.1
      generalize fstI (woN S (fstI S)) = z at *
      generalize fstI S = y at *
      have w1 := wgt_more (P := P) (R := 0) (j := 1 + placeN z) (y := (P.K.length : Int))
      have w2 := wgt_more (P := P.more (1 + placeN z) (P.K.length : Int)) (R := 0) (j := 1 + placeN y) (y := (P.K.length : Int))
      have la : (P.more (1 + placeN z) (P.K.length : Int)).A.length = 50 := by show (P.A.set _ _).length = 50; rw [List.length_set]; exact h.al
      have t1 := tot_more (P := P) (q := placeN z) (y := (P.K.length : Int)) (by omega)
      have t2 := tot_more (P := P.more (1 + placeN z) (P.K.length : Int)) (q := placeN y) (y := (P.K.length : Int)) (by omega)
      have e49 : ((P.more (1 + placeN z) (P.K.length : Int)).more (1 + placeN y) (P.K.length : Int)).A.getD 49 [] = P.A.getD 49 [] := by
        rw [more_get, if_neg (fun e => by omega), more_get, if_neg (fun e => by omega)]
      have no49 : (Ss.length : Int) ∉ P.A.getD 49 [] := fun q => by
        obtain ⟨k', e1, e2, e3⟩ := h.idx 49 _ q
        omega
      have hyz : y ≠ z := fun e => fzb.2 (by rw [e])
      refine ⟨h.grow (k := (S, y, z)) h0 hS hN h0 rfl rfl (by show ((P.more (1 + placeN z) (P.K.length : Int)).A.set _ _).length = 50; rw [List.length_set]; exact la) (fun j x q => more_mem (P := P.more (1 + placeN z) (P.K.length : Int)) (more_mem q)) (fun j x q => ?_) ?_ ?_ (fun _ e => absurd e hyz) (fun q => absurd (show (Ss.length : Int) ∈ P.A.getD 49 [] by rw [← e49]; exact q) no49) ?_ ⟨fun q => .inl q, fun q => q.resolve_right hz⟩ (fun q => q) (fun q => absurd q hz) (fun q => .inl q) (fun _ => ?_) (fun q => ?_) (fun _ => .inr (fun e => fzb.2 (by show placeN y = placeN z; rw [show y = z from e]))), h0, ?_⟩
      · rcases more_of (P := P.more (1 + placeN z) (P.K.length : Int)) q with q | q
        · rcases more_of q with q | q
          · exact .inl q
          · exact .inr ⟨by rw [q.2, hlen], hz⟩
        · exact .inr ⟨by rw [q.2, hlen], hz⟩
      · show wgt ((P.more (1 + placeN z) (P.K.length : Int)).more (1 + placeN y) (P.K.length : Int)) 0 ≤ _
        omega
      · show tot ((P.more (1 + placeN z) (P.K.length : Int)).more (1 + placeN y) (P.K.length : Int)) ≤ _
        omega
      · show (((P.more (1 + placeN z) (P.K.length : Int)).more (1 + placeN y) (P.K.length : Int)).A.getD 49 []).length ≤ _
        rw [e49]
        exact Nat.le_add_right _ _
      · have m1 := more_new (P := P.more (1 + placeN z) (P.K.length : Int)) (j := 1 + placeN y) (y := (P.K.length : Int)) (by rw [la]; omega)
        have m2 := more_mem (P := P.more (1 + placeN z) (P.K.length : Int)) (j := 1 + placeN y) (y := (P.K.length : Int)) (more_new (P := P) (j := 1 + placeN z) (y := (P.K.length : Int)) (by rw [h.al]; omega))
        rw [hlen] at m1 m2
        rw [hlen]
        exact ⟨fs.1, fz.1, fs.2, fzb.1, m1, m2⟩
      · exfalso
        rcases more_of (P := P.more (1 + placeN z) (P.K.length : Int)) q with q | q
        · rcases more_of q with q | q
          · obtain ⟨k', e1, e2, e3⟩ := h.idx 0 _ q
            omega
          · omega
        · omega
      · rw [l1]
        show wgt ((P.more (1 + placeN z) (P.K.length : Int)).more (1 + placeN y) (P.K.length : Int)) 0 ≤ _
        omega
/-- a watcher of no clauses -/
def WS.zero (v : Value) : WS := ⟨v, [], List.replicate 50 nil_, 0, false, false⟩
theorem zero_cells (v : Value) : (WS.zero v).cells.toArray = #[v, .slice none 0 0, .slice none 0 0, .slice none 0 0, .slice none 0 0, .slice none 0 0, .slice none 0 0, .slice none 0 0, .slice none 0 0, .slice none 0 0, .slice none 0 0, .slice none 0 0, .slice none 0 0, .slice none 0 0, .slice none 0 0, .slice none 0 0, .slice none 0 0, .slice none 0 0, .slice none 0 0, .slice none 0 0, .slice none 0 0, .slice none 0 0, .slice none 0 0, .slice none 0 0, .slice none 0 0, .slice none 0 0, .slice none 0 0, .slice none 0 0, .slice none 0 0, .slice none 0 0, .slice none 0 0, .slice none 0 0, .slice none 0 0, .slice none 0 0, .slice none 0 0, .slice none 0 0, .slice none 0 0, .slice none 0 0, .slice none 0 0, .slice none 0 0, .slice none 0 0, .slice none 0 0, .slice none 0 0, .slice none 0 0, .slice none 0 0, .slice none 0 0, .slice none 0 0, .slice none 0 0, .slice none 0 0, .int .u64 0, .slice none 0 0, .bool false, .slice none 0 0, .bool false] := by rfl
theorem Wat.zero {w w1 : World} {v : Value} (ho : w1.ownsRow w.heap.size 160 3 v 0 []) : Wat (w1.alloc (.cells (WS.zero v).cells.toArray 130)) w1.heap.size (WS.zero v) := by
  refine ⟨new_block _ _, by simp [WS.zero], ?_, fun p hp => ?_, ?_⟩
  · exact (css.own_mono ho (Nat.zero_le _)).alloc _
  · have : p = nil_ := List.eq_of_mem_replicate hp
    subst this
    exact World.ownsRow_nil _ _ _ _
  · show (List.replicate 50 nil_).Pairwise css.Apart
    rw [List.pairwise_replicate]
    right
    intro g e
    cases e
theorem rep_get (j : Nat) : ((List.replicate 50 nil_).map (·.2)).getD j [] = ([] : List Int) := by
  rw [List.map_replicate, List.getD, List.getElem?_replicate]
  split <;> rfl
theorem wgt_zero (v : Value) : wgt (WS.zero v).ps 0 = 0 := by
  have g0 : ∀ j, (WS.zero v).ps.A.getD j [] = [] := rep_get
  unfold wgt
  rw [g0]
  have : ∀ n, sumR n (wf (WS.zero v).ps 0) = 0 := by
    intro n
    induction n with
    | zero => rfl
    | succ n ih =>
      show sumR n _ + wf _ _ n = 0
      rw [ih]
      unfold wf
      rw [g0]
      split <;> rfl
  rw [this]
  rfl
theorem tot_zero (v : Value) : tot (WS.zero v).ps = 0 := by
  have g0 : ∀ j, (WS.zero v).ps.A.getD j [] = [] := rep_get
  have : ∀ n, sumR n (fun p => ((WS.zero v).ps.A.getD (1 + p) []).length) = 0 := by
    intro n
    induction n with
    | zero => rfl
    | succ n ih =>
      show sumR n _ + ((WS.zero v).ps.A.getD (1 + n) []).length = 0
      rw [ih, g0]
      rfl
  exact this 48
theorem Jn.zero (v : Value) : Jn [] (WS.zero v).ps 0 0 [] [] := by
  have g0 : ∀ j, (WS.zero v).ps.A.getD j [] = [] := rep_get
  have w0 := wgt_zero v
  refine ⟨rfl, fun i hi => (by cases hi), fun i hi => (by cases hi), (by show (0 : Nat) < _; decide), (by decide), (by show ((List.replicate 50 nil_).map (·.2)).length = 50; simp), fun b hb => (by rw [Nat.zero_testBit] at hb; cases hb), fun i hi => (by cases hi), fun j x hx => (by rw [g0] at hx; cases hx), fun x hx => (by cases hx), fun q => absurd rfl q, fun q => absurd rfl q, (by rw [w0]; decide), (by decide), (by rw [tot_zero]; decide), Nat.zero_le _, fun i hi => (by cases hi), fun k hk => (by rw [g0] at hk; cases hk), (by rw [g0]; exact Nat.zero_le _), ⟨fun q => (by cases q), fun ⟨i, hi, _⟩ => (by cases hi)⟩, fun k hk => (by rw [g0] at hk; cases hk), fun q => (by cases q), fun i hi => (by cases hi), fun i hi => (by cases hi)⟩
/-- a watcher of some clauses that has taken nothing -/
structure Wof (Ss : List Nat) (wB w : World) (c : Nat) (s : WS) : Prop where
  wat : Wat w c s
  g : wB.grownBy w none
  far : Far wB.heap.size c s
  jn : Jn Ss s.ps 0 0 [] []
  tk : s.tk = 0
  bd : wgt s.ps 0 ≤ 3 * Ss.length

set_option maxRecDepth 100000 in
set_option maxHeartbeats 8000000 in
theorem watcherOf (v : Value) (LL : List (List Int)) (w : World) (hT : Tab w) (hn : css.tot LL ≤ 1048576) (hv : Sls w v LL) :
    Calls Tryd.prog 124 #[v] w fun e w' => ∃ c s, e = .returned (.pointer (some ⟨c, 0, none⟩)) ∧ Wof (LL.map setOf) w w' c s := by
  have hl := Nat.le_trans (css.tot_len LL) hn
  obtain ⟨i0, hi, hz0, hz1, hz2⟩ := info_parts infoK
  have HV := hide hv
  obtain ⟨a, cap, rfl, ha⟩ := hv
  have HA := hide ha
  have HT := hide hT
  clear ha hT
  go_enter Tryd.func124, Tryd.ntmps124
  go_wp2_with (first | (at_make; refine wpList_make_own _ rfl _ _ 127 rfl w.heap.size 160 i0 _ 3 Tryd.underlying127 hi hz0 hz1 _ _ _ LL.length rfl rfl (by rfl) ?b1 ?b2 ?b3 ?_) | go_in)
  case b1 => rw [hz2]; omega
  case b2 => unfold maxLen; omega
  case b3 => exact Nat.le_refl _
  intro w1 hown hgrow
  have hz := Wat.zero hown
  have st : Hid (Wof [] w (w1.alloc (.cells (WS.zero (.slice (some ⟨w.heap.size, 0, none⟩) 0 LL.length)).cells.toArray 130)) w1.heap.size (WS.zero (.slice (some ⟨w.heap.size, 0, none⟩) 0 LL.length))) := by
    refine ⟨hz, grown_trans hgrow (World.grownBy_alloc _ _ _), fun k f => ?_, Jn.zero _, rfl, ?_⟩
    · rcases f with f | f | ⟨p, hp, f⟩
      · rw [f]
        exact hgrow.size
      · have : (Value.slice (some ⟨w.heap.size, 0, none⟩) 0 LL.length).ownBlock = some k := f
        have e : w.heap.size = k := by simpa [Value.ownBlock] using this
        omega
      · have : p = nil_ := List.eq_of_mem_replicate hp
        subst this
        cases f
    · have := (Jn.zero (.slice (some ⟨w.heap.size, 0, none⟩) 0 LL.length)).bd
      have z : wgt (WS.zero (.slice (some ⟨w.heap.size, 0, none⟩) 0 LL.length)).ps 0 = 0 := wgt_zero _
      rw [z]
      exact Nat.zero_le _
  rw [zero_cells] at st
  clear hz hown hgrow
  go_wp2_with fail
  go_loopw [13] (fun iv wr => ∃ (k : Nat) (s : WS), k ≤ LL.length ∧ iv = .int .i64 (k : Int) ∧ Hid (Wof ((LL.take k).map setOf) w wr w1.heap.size s)) (fun iv _ => LL.length - (intOf iv).toNat)
  case atStart => exact ⟨0, _, Nat.zero_le _, rfl, st⟩
  case round =>
    obtain ⟨k, s, hk, rfl, hw⟩ := hrel
    clear st
    by_cases hlt : k < LL.length
    · rcases unhide HA with h | ⟨b, off, rfl, hb, hcb⟩
      · rw [h] at hlt
        simp at hlt
      · obtain ⟨u, hu, hs⟩ := hcb k hlt
        have hg := (unhide hw).g
        have c1 : wr.cell? ⟨b, off + k, none⟩ = some u := hg.cell hu (fun e => by cases e)
        have hi' : (k : Int) < (LL.length : Int) := by omega
        have hL := Nat.le_trans (css.tot_in LL k) hn
        have hts := css.take_snoc LL k hlt
        have hlk : ((LL.take k).map setOf).length = k := by rw [List.length_map, List.length_take]; omega
        generalize LL.getD k [] = L at *
        have CL := hide (bset.litsOf u L wr hL (hs.kept hg (.inl rfl)))
        have EM : (LL.take (k + 1)).map setOf = (LL.take k).map setOf ++ [setOf L] := by rw [hts]; simp
        have ww := unhide hw
        have tf : TabF w1.heap.size s wr := ⟨(unhide HT).kept ww.g, fun f => by have := ww.far _ f; have := tab_lt (unhide HT); omega⟩
        have bds : ∀ j, (s.A.getD j nil_).2.length ≤ 4194000 := by
          intro j
          have hbd := ww.bd
          rw [hlk] at hbd
          rw [← ps_getD]
          by_cases j0 : j = 0
          · subst j0
            unfold wgt at hbd
            omega
          · by_cases j48 : j ≤ 48
            · have := wgt_at (P := s.ps) (R := 0) (q := j - 1) (by omega) (by rw [show s.ps.tk = 0 from ww.tk, Nat.zero_testBit]; rfl)
              rw [show 1 + (j - 1) = j by omega] at this
              omega
            · by_cases j49 : j = 49
              · subst j49
                have := ww.jn.sn
                rw [hlk] at this
                omega
              · rw [List.getD, List.getElem?_eq_none (by rw [ww.jn.al]; omega)]
                exact Nat.zero_le _
        have CA := hide (add (S := setOf L) ww.wat tf (setOf_lt L) (by rw [show s.K.length = _ from ww.jn.len, hlk]; omega) bds)
        have NX : Hid (∀ s' w', Wat w' w1.heap.size s' → Stp w1.heap.size s s' wr w' → s'.ps = s.ps.add (setOf L) → Wof ((LL.take (k + 1)).map setOf) w w' w1.heap.size s') := by
          intro s' w' q1 q2 q3
          have ja := ww.jn.add (S := setOf L) ww.tk (setOf_lt L) ww.bd (by rw [hlk]; omega)
          rw [EM]
          refine ⟨q1, grown_stp ww.g ww.far q2, ww.far.stp q2 ww.g.size, by rw [q3]; exact ja.1, ?_, by rw [q3]; exact ja.2.2⟩
          have : s'.ps.tk = 0 := by rw [q3]; exact ja.2.1
          exact this
        clear hcb hs hu hg hts ww tf bds hw EM
        go_wp2_with fail
        refine (unhide CL).mono ?_; rintro e w2 ⟨rfl, hww⟩; have hw' := hww.symm; clear hww; subst hw'
        go_wp2_with fail
        refine (unhide CA).mono ?_; rintro e w2 ⟨s2, rfl, q1, q2, q3⟩
        have R2 := hide (unhide NX s2 w2 q1 q2 q3)
        clear CL CA NX q1 q2 q3
        go_wp2_with fail
        go_roundw
        case rel => exact ⟨k + 1, s2, by omega, by go_num, R2⟩
        case measure => simp [intOf]; omega
    · have hi' : ¬ (k : Int) < (LL.length : Int) := by omega
      have e : LL.take k = LL := List.take_of_length_le (by omega)
      rw [e] at hw
      clear HA e
      go_wp2_with fail
      go_ret
      first
        | exact ⟨_, s, rfl, unhide hw⟩
        | exact ⟨_, rfl, s, unhide hw⟩
        | exact ⟨rfl, s, unhide hw⟩
end Go.Proofs.YtloenjaonkdlaaaDoor.wm
namespace Go.Proofs.YtloenjaonkdlaaaDoor.wm
open Go.ChangeShapes Go.WideShapes Go.ChangeAt Go.RowKit
open Go.Proofs.YtloenjaonkdlaaaDoor.wm0 (end0 ret0 stepW listW listB)
open Go.Proofs.YtloenjaonkdlaaaDoor.lits (okB okB_iff)
open Go.Proofs.YtloenjaonkdlaaaDoor.bset (placeN placeN_le placeC placeN_inj setOf setOf_lt)
open Go.Proofs.YtloenjaonkdlaaaDoor.srt (Tab)
open Go.Proofs.YtloenjaonkdlaaaDoor.css (Sls)
open Go.Proofs.YtloenjaonkdlaaaDoor.cf (Box)
open Go.Proofs.YtloenjaonkdlaaaDoor.ok (cnfB litIn)
open Go.Proofs.YtloenjaonkdlaaaDoor.wo (Made)
open Go.Proofs.YtloenjaonkdlaaaDoor.sl (Sl Own ints hide unhide ret_int ret_bool grown_refl grown_trans grown_drewN)
set_option linter.unusedVariables false

/-- a watcher that has taken T -/
structure Wta (Ss : List Nat) (T : Nat) (wB w : World) (c : Nat) (s : WS) : Prop where
  wat : Wat w c s
  g : wB.grownBy w none
  far : Far wB.heap.size c s
  jn : ∃ l F, Jn Ss s.ps 0 l F []
  tk : s.tk = T
theorem Wta.tab {Ss : List Nat} {T c : Nat} {wB w : World} {s : WS} (h : Wta Ss T wB w c s) (ht : Tab wB) : TabF c s w :=
  ⟨ht.kept h.g, fun f => by have := h.far _ f; have := tab_lt ht; omega⟩
theorem Wta.low {Ss : List Nat} {T c : Nat} {wA wB w : World} {s : WS} (h : Wta Ss T wB w c s) (g : wA.grownBy wB none) : Wta Ss T wA w c s :=
  ⟨h.wat, grown_trans g h.g, fun k f => Nat.le_trans g.size (h.far k f), h.jn, h.tk⟩

set_option maxRecDepth 100000 in
set_option maxHeartbeats 4000000 in
theorem watcherAt_no (v u : Value) (n : Int) (LL : List (List Int)) (L : List Int) (w : World) (hn : css.tot LL ≤ 1048576) (hL : L.length ≤ 1048576) (hv : Sls w v LL) (hu : Sl w u L) (hb : okU n LL L = false) :
    Calls Tryd.prog 77 #[.agg #[.int .i64 n, v], u] w fun e w' => e = .returned (.tuple #[.pointer none, .bool false]) ∧ w.grownBy w' none := by
  have g0 := World.grownBy_alloc w (.cells #[.int .i64 n, v] 34) none
  have cc := ok.implCnfOk v n LL _ hn (hv.kept g0)
  have F0 := hide (Box.new 34 w (.int .i64 n) v)
  have G0 := hide g0
  have HU := hide (hu.kept g0 (.inl rfl))
  clear hv g0 hu
  have x0 := (unhide F0).c0
  have x1 := (unhide F0).c1
  unfold okU at hb
  cases hc : cnfB n LL
  · rw [hc] at cc
    have CC := hide cc
    clear cc hb hc
    go_enter Tryd.func77, Tryd.ntmps77
    go_wp2_with fail
    refine (unhide CC).mono ?_; rintro e w2 ⟨rfl, g2⟩
    have G2 := hide (grown_trans (r := none) (unhide G0) g2)
    clear g2 x0 x1
    go_wp2_with fail
    go_ret2
    exact ⟨rfl, unhide G2⟩
  · rw [hc] at cc hb
    have hb' : L.all (litIn n) = false := hb
    have CC := hide cc
    clear cc hb hc
    go_enter Tryd.func77, Tryd.ntmps77
    go_wp2_with fail
    refine (unhide CC).mono ?_; rintro e w2 ⟨rfl, g2⟩
    have G2 := hide (grown_trans (r := none) (unhide G0) g2)
    have cl := ok.literalsOf u L n w2 hL ((unhide HU).kept g2 (.inl rfl))
    rw [hb'] at cl
    have CL := hide cl
    have F2 := hide ((unhide F0).kept g2)
    clear g2 x0 x1 cl hb'
    have y0 := (unhide F2).c0
    have y1 := (unhide F2).c1
    go_wp2_with fail
    refine (unhide CL).mono ?_; rintro e w3 ⟨rfl, hw⟩; have hw' := hw.symm; clear hw; subst hw'
    go_wp2_with fail
    go_ret2
    exact ⟨rfl, unhide G2⟩

set_option maxRecDepth 100000 in
set_option maxHeartbeats 4000000 in
theorem watcherAt_yes (v u : Value) (n : Int) (LL : List (List Int)) (L : List Int) (w : World) (hT : Tab w) (hn : css.tot LL ≤ 1048576) (hL : L.length ≤ 1048576) (hv : Sls w v LL) (hu : Sl w u L) (hb : okU n LL L = true) :
    Calls Tryd.prog 77 #[.agg #[.int .i64 n, v], u] w fun e w' => ∃ c s, e = .returned (.tuple #[.pointer (some ⟨c, 0, none⟩), .bool true]) ∧ Wta (LL.map setOf) (setOf L) w w' c s := by
  have g0 := World.grownBy_alloc w (.cells #[.int .i64 n, v] 34) none
  have cc := ok.implCnfOk v n LL _ hn (hv.kept g0)
  have F0 := hide (Box.new 34 w (.int .i64 n) v)
  have G0 := hide g0
  have HU := hide (hu.kept g0 (.inl rfl))
  have HV := hide (hv.kept g0)
  have HT := hide (hT.kept g0)
  have hl : (LL.map setOf).length ≤ 1048576 := by rw [List.length_map]; exact Nat.le_trans (css.tot_len LL) hn
  have HL := hide hl
  clear hv g0 hu hT hl
  have x0 := (unhide F0).c0
  have x1 := (unhide F0).c1
  unfold okU at hb
  rw [Bool.and_eq_true] at hb
  rw [hb.1] at cc
  have hb' := hb.2
  have CC := hide cc
  clear cc hb
  go_enter Tryd.func77, Tryd.ntmps77
  go_wp2_with fail
  refine (unhide CC).mono ?_; rintro e w2 ⟨rfl, g2⟩
  have G2 := hide (grown_trans (r := none) (unhide G0) g2)
  have cl := ok.literalsOf u L n w2 hL ((unhide HU).kept g2 (.inl rfl))
  rw [hb'] at cl
  have CL := hide cl
  have F2 := hide ((unhide F0).kept g2)
  have U2 := hide ((unhide HU).kept g2 (.inl rfl))
  have V2 := hide ((unhide HV).kept g2)
  have T2 := hide ((unhide HT).kept g2)
  clear g2 x0 x1 cl hb' CC HU HV HT F0 G0
  have y0 := (unhide F2).c0
  have y1 := (unhide F2).c1
  go_wp2_with fail
  refine (unhide CL).mono ?_; rintro e w3 ⟨rfl, hw⟩; have hw' := hw.symm; clear hw; subst hw'
  have CO := hide (watcherOf v LL w2 (unhide T2) hn (unhide V2))
  clear CL
  go_wp2_with fail
  refine (unhide CO).mono ?_; rintro e w3 ⟨c, s, rfl, wo⟩
  have CS := hide (bset.litsOf u L w3 hL ((unhide U2).kept wo.g (.inl rfl)))
  have tf : TabF c s w3 := ⟨(unhide T2).kept wo.g, fun f => by have := wo.far _ f; have := tab_lt (unhide T2); omega⟩
  have js := wo.jn.start (l' := 0) (setOf_lt L) (fun b _ => by rw [show s.ps.tk = 0 from wo.tk, Nat.zero_testBit]) (fun z => by
    obtain ⟨i, hi, _, ho⟩ := wo.jn.es z
    rw [show s.ps.tk = 0 from wo.tk, opn00 (wo.jn.wd i hi)] at ho
    exact ⟨i, hi, ho⟩)
  have CT := hide (take (l0 := 0) (F0 := []) (fitT (LL.map setOf) (s.tk ||| setOf L)) (unhide HL) wo.wat tf (setOf_lt L) (by rw [wo.tk]; decide) ⟨js, rfl⟩)
  have NX : Hid (∀ s' w' l F, Tk (JT (LL.map setOf) (s.tk ||| setOf L)) c s s' w3 w' 0 l F → Wta (LL.map setOf) (setOf L) w w' c s') := by
    intro s' w' l F q
    refine Wta.low ⟨q.1, grown_stp wo.g wo.far q.2.1, wo.far.stp q.2.1 wo.g.size, ⟨l, F, q.2.2.1⟩, ?_⟩ (unhide G2)
    have : s'.tk = s.tk ||| setOf L := q.2.2.2
    rw [this, wo.tk, Nat.zero_or]
  clear CO wo tf js y0 y1 F2 U2 V2
  go_wp2_with fail
  refine (unhide CS).mono ?_; rintro e w4 ⟨rfl, hw⟩; have hw' := hw.symm; clear hw; subst hw'
  go_wp2_with fail
  refine (unhide CT).mono ?_; rintro e w4 ⟨s4, l4, F4, rfl, q4⟩
  have R4 := hide (unhide NX s4 w4 l4 F4 q4)
  clear CS CT NX q4
  go_wp2_with fail
  go_ret2
  first
    | exact ⟨c, s4, rfl, unhide R4⟩
    | exact ⟨c, rfl, s4, unhide R4⟩
    | exact ⟨rfl, s4, unhide R4⟩

set_option maxRecDepth 100000 in
set_option maxHeartbeats 4000000 in
theorem implUnit (v u : Value) (n : Int) (LL : List (List Int)) (L : List Int) (w : World) (hT : Tab w) (hn : css.tot LL ≤ 1048576) (hL : L.length ≤ 1048576) (hv : Sls w v LL) (hu : Sl w u L) :
    Calls Tryd.prog 29 #[.agg #[.int .i64 n, v], u] w fun e w' => e = .returned (.tuple #[.int .i64 (unitB n LL L).1, .bool (unitB n LL L).2]) ∧ w.grownBy w' none := by
  have g0 := World.grownBy_alloc w (.cells #[.int .i64 n, v] 34) none
  have F0 := hide (Box.new 34 w (.int .i64 n) v)
  have G0 := hide g0
  have x0 := (unhide F0).c0
  have x1 := (unhide F0).c1
  cases hb : okU n LL L
  · have e : unitB n LL L = (0, false) := by unfold unitB; rw [hb]; rfl
    rw [e]
    have CA := hide (watcherAt_no v u n LL L _ hn hL (hv.kept g0) (hu.kept g0 (.inl rfl)) hb)
    clear hv hu hT g0 hb e
    go_enter Tryd.func29, Tryd.ntmps29
    go_wp2_with fail
    refine (unhide CA).mono ?_; rintro e w2 ⟨rfl, g2⟩
    have G2 := hide (grown_trans (r := none) (unhide G0) g2)
    clear g2 CA
    go_wp2_with fail
    go_ret2
    exact ⟨rfl, unhide G2⟩
  · have e : unitB n LL L = unitN (LL.map setOf) (setOf L) := by unfold unitB; rw [hb]; rfl
    rw [e]
    have CA := hide (watcherAt_yes v u n LL L _ (hT.kept g0) hn hL (hv.kept g0) (hu.kept g0 (.inl rfl)) hb)
    have HT := hide (hT.kept g0)
    have hl : (LL.map setOf).length ≤ 1048576 := by rw [List.length_map]; exact Nat.le_trans (css.tot_len LL) hn
    have HL := hide hl
    clear hv hu hT g0 hb e hl
    go_enter Tryd.func29, Tryd.ntmps29
    go_wp2_with fail
    refine (unhide CA).mono ?_; rintro e w2 ⟨c, s, rfl, wt⟩
    obtain ⟨l, F0, jn⟩ := wt.jn
    obtain ⟨vv, C, eC⟩ : ∃ v C, s.A.getD 0 nil_ = (v, C) := ⟨_, _, rfl⟩
    have wf := wait_facts jn eC
    have cu := unit wt.wat (wt.tab (unhide HT)) (by show s.K.length ≤ _; rw [show s.K.length = _ from jn.len]; exact unhide HL) jn.tk (fun i hi => by
      have hi' : i < (LL.map setOf).length := by rw [← show s.K.length = _ from jn.len]; exact hi
      rw [show (s.K.getD i zk).1 = (LL.map setOf).getD i 0 from jn.sets i hi']
      exact jn.wd i hi') eC wf.1 wf.2.1 wf.2.2
    have eu := jn.unit
    rw [show s.ps.tk = setOf L from wt.tk] at eu
    have eu1 : s.ps.uniX = (unitN (LL.map setOf) (setOf L)).1 := congrArg Prod.fst eu
    have eu2 : (!s.em) = (unitN (LL.map setOf) (setOf L)).2 := congrArg Prod.snd eu
    rw [eu1, eu2] at cu
    have CU := hide cu
    have GG : Hid (∀ s' w', Stp c s s' w2 w' → w.grownBy w' none) := fun s' w' q => grown_trans (unhide G0) (grown_stp wt.g wt.far q)
    have rg : -24 ≤ (unitN (LL.map setOf) (setOf L)).1 ∧ (unitN (LL.map setOf) (setOf L)).1 ≤ 24 := by
      by_cases hz : (unitN (LL.map setOf) (setOf L)).2 = true ∧ (unitN (LL.map setOf) (setOf L)).1 ≠ 0
      · have := okB_iff.1 (unit_new (fun S hS => by
          rw [List.mem_map] at hS
          obtain ⟨M, _, rfl⟩ := hS
          exact setOf_lt M) hz.1 hz.2).1
        omega
      · have : (unitN (LL.map setOf) (setOf L)).1 = 0 := by
          apply Classical.byContradiction
          intro hne
          apply hz
          refine ⟨?_, hne⟩
          unfold unitN at hne ⊢
          split
          · rename_i q
            rw [if_pos q] at hne
            exact absurd rfl hne
          · rfl
        omega
    clear CA wt jn wf cu eu eu1 eu2 eC HT
    generalize hx : (unitN (LL.map setOf) (setOf L)).1 = x at *
    generalize hy : (unitN (LL.map setOf) (setOf L)).2 = y at *
    have HX := hide hx
    have HY := hide hy
    clear hx hy
    obtain ⟨r1, r2⟩ := rg
    go_wp2_with fail
    refine (unhide CU).mono ?_; rintro e w3 ⟨s3, rfl, q1, q2, q3⟩
    have G3 := hide (unhide GG s3 w3 q2)
    clear CU GG q1 q2 q3
    go_wp2_with fail
    go_ret2
    exact ⟨by rw [unhide HX, unhide HY]; rfl, unhide G3⟩

theorem foot_lt {w : World} {c k : Nat} {s : WS} (h : Wat w c s) (f : Foot c s k) : k < w.heap.size := by
  rcases f with f | f | ⟨p, hp, f⟩
  · subst f
    exact h.lt
  · exact (h.cl.lt k f).2
  · exact ((h.ls p hp).lt k f).2
theorem Wta.frc {Ss : List Nat} {T c : Nat} {wB w w1 : World} {s : WS} {pv : Value} {p : List Int} (h : Wta Ss T wB w c s) (ht : Tab wB) (m : Made w w1 pv p) : Frc Ss wB c s w1 pv p :=
  ⟨h.wat.kept m.2, ht, h.jn, grown_trans h.g m.2, h.far, css.own_mono m.1 h.g.size, fun q e f => by
    have h1 := (m.1.lt q e).1
    have h2 := foot_lt h.wat f
    omega⟩
set_option maxRecDepth 100000 in
set_option maxHeartbeats 4000000 in
theorem implForce (v u : Value) (n : Int) (LL : List (List Int)) (L : List Int) (lo hi : Nat) (w : World) (hT : Tab w) (hn : css.tot LL ≤ 1048576) (hL : L.length ≤ 1048576) (hv : Sls w v LL) (hu : Own lo hi w u L) :
    Calls Tryd.prog 25 #[.agg #[.int .i64 n, v], u] w fun e w' => ∃ r, e = .returned (.tuple #[r, .bool (forceB n LL L).2]) ∧ Made w w' r (forceB n LL L).1 := by
  have g0 := World.grownBy_alloc w (.cells #[.int .i64 n, v] 34) none
  have F0 := hide (Box.new 34 w (.int .i64 n) v)
  have G0 := hide g0
  have x0 := (unhide F0).c0
  have x1 := (unhide F0).c1
  cases hb : okU n LL L
  · have e : forceB n LL L = ([], false) := by unfold forceB; rw [hb]; rfl
    rw [e]
    have CA := hide (watcherAt_no v u n LL L _ hn hL (hv.kept g0) ((hu.kept g0).sl) hb)
    clear hv hu hT g0 hb e
    go_enter Tryd.func25, Tryd.ntmps25
    go_wp2_with fail
    refine (unhide CA).mono ?_; rintro e w2 ⟨rfl, g2⟩
    have M2 := hide (made_low (grown_trans (r := none) (unhide G0) g2) (app.made_nil w2))
    clear g2 CA
    go_wp2_with fail
    go_ret2
    exact ⟨_, rfl, unhide M2⟩
  · have e : forceB n LL L = frc (LL.map setOf) 49 (setOf L) L := by unfold forceB; rw [hb]; rfl
    rw [e]
    have CA := hide (watcherAt_yes v u n LL L _ (hT.kept g0) hn hL (hv.kept g0) ((hu.kept g0).sl) hb)
    have HT := hide hT
    have HU := hide (hu.kept g0)
    have hl : (LL.map setOf).length ≤ 1048576 := by rw [List.length_map]; exact Nat.le_trans (css.tot_len LL) hn
    have HL := hide hl
    obtain ⟨ua, uc, eu, _⟩ := hu.sl
    subst eu
    clear hv hu hT g0 hb e hl
    go_enter Tryd.func25, Tryd.ntmps25
    go_wp2_with fail
    refine (unhide CA).mono ?_; rintro e w2 ⟨c, s, rfl, wt⟩
    have WT := hide (wt.low (unhide G0))
    have mn := hide (app.made_nil w2)
    have U2 := hide (((unhide HU).kept wt.g).kept (unhide mn).2)
    clear CA wt HU
    go_wp2_with (at_builtin; refine app.appendI (A := []) (unhide mn).2 (unhide mn).1 (unhide U2) (by show 0 + L.length ≤ 4194304; omega) rfl _ _ rfl rfl rfl ?_)
    intro y w3 m3 g3
    have m3' : Made w2 w3 y L := m3
    have fr := (unhide WT).frc (unhide HT) m3'
    have cf := force fr (unhide HL) hL (set_bd LL)
    rw [(unhide WT).tk] at cf
    have CF := hide cf
    obtain ⟨ya, yc, ey, _⟩ := Sl.of_own m3'.1
    subst ey
    clear m3 m3' g3 fr cf mn U2
    generalize hF : frc (LL.map setOf) 49 (setOf L) L = F at *
    have HF := hide hF
    clear hF
    go_wp2_with fail
    refine (unhide CF).mono ?_; rintro e w4 ⟨r, s4, rfl, f4⟩
    have m4 : Made w w4 r F.1 := ⟨f4.own, f4.g⟩
    have M4 := hide m4
    clear f4
    clear m4 CF
    go_wp2_with fail
    go_ret2
    exact ⟨r, by rw [unhide HF]; rfl, by rw [unhide HF]; exact unhide M4⟩
end Go.Proofs.YtloenjaonkdlaaaDoor.wm
namespace Go.Proofs.YtloenjaonkdlaaaDoor.sp
open Go.ChangeShapes Go.WideShapes Go.ChangeAt Go.RowKit
open Go.Proofs.YtloenjaonkdlaaaDoor.lits (okB varI okB_iff)
open Go.Proofs.YtloenjaonkdlaaaDoor.bset (setOf setOf_lt)
open Go.Proofs.YtloenjaonkdlaaaDoor.srt (Tab)
open Go.Proofs.YtloenjaonkdlaaaDoor.css (Sls tot)
open Go.Proofs.YtloenjaonkdlaaaDoor.cf (Box)
open Go.Proofs.YtloenjaonkdlaaaDoor.ok (cnfB litIn clB)
open Go.Proofs.YtloenjaonkdlaaaDoor.wo (Made)
open Go.Proofs.YtloenjaonkdlaaaDoor.wm hiding tot
open Go.Proofs.YtloenjaonkdlaaaDoor.sl (Sl Own ints hide unhide ret_int ret_bool grown_refl grown_trans grown_drewN)
set_option linter.unusedVariables false
theorem bothU (n : Int) (LL : List (List Int)) (L : List Int) (hn : tot LL ≤ 1048576) (hL : L.length ≤ 1048576) : ∃ (X : Int) (Y : Bool),
    (∀ v u w, Sls w v LL → Sl w u L → Calls Tryd.prog 53 #[.agg #[.int .i64 n, v], u] w fun e w' => e = .returned (.tuple #[.int .i64 X, .bool Y]) ∧ w.grownBy w' none) ∧
    (∀ v u w, srt.Tab w → Sls w v LL → Sl w u L → Calls Tryd.prog 29 #[.agg #[.int .i64 n, v], u] w fun e w' => e = .returned (.tuple #[.int .i64 X, .bool Y]) ∧ w.grownBy w' none) :=
  ⟨_, _, fun v u w h k => specUnit v u n LL L w hn hL h k, fun v u w t h k => implUnit v u n LL L w t hn hL h k⟩
theorem bothF (n : Int) (LL : List (List Int)) (L : List Int) (hn : tot LL ≤ 1048576) (hL : L.length ≤ 1048576) : ∃ (R : List Int) (b : Bool), R.length ≤ 1048700 ∧
    (∀ v u lo hi w, Sls w v LL → Own lo hi w u L → Calls Tryd.prog 26 #[.agg #[.int .i64 n, v], u] w fun e w' => ∃ r, e = .returned (.tuple #[r, .bool b]) ∧ w'.ownsRow w.heap.size 3 1 r R.length (ints R) ∧ w.grownBy w' none) ∧
    (∀ v u lo hi w, srt.Tab w → Sls w v LL → Own lo hi w u L → Calls Tryd.prog 25 #[.agg #[.int .i64 n, v], u] w fun e w' => ∃ r, e = .returned (.tuple #[r, .bool b]) ∧ w'.ownsRow w.heap.size 3 1 r R.length (ints R) ∧ w.grownBy w' none) :=
  ⟨_, _, Nat.le_trans (forceB_len n LL L) (by omega), fun v u lo hi w h k => specForce v u n LL L lo hi w hn hL h k, fun v u lo hi w t h k => implForce v u n LL L lo hi w t hn hL h k⟩
set_option maxRecDepth 100000 in
set_option maxHeartbeats 4000000 in
theorem implLeaves (v u : Value) (n : Int) (LL : List (List Int)) (L : List Int) (w : World) (hT : Tab w) (hn : tot LL ≤ 1048576) (hL : L.length ≤ 1048576) (hv : Sls w v LL) (hu : Sl w u L) :
    Calls Tryd.prog 32 #[.agg #[.int .i64 n, v], u] w fun e w' => e = .returned (.bool (leavesB n LL L)) ∧ w.grownBy w' none := by
  have g0 := World.grownBy_alloc w (.cells #[.int .i64 n, v] 34) none
  have cc := ok.implCnfOk v n LL _ hn (hv.kept g0)
  have F0 := hide (Box.new 34 w (.int .i64 n) v)
  have G0 := hide g0
  have HU := hide (hu.kept g0 (.inl rfl))
  have HV := hide (hv.kept g0)
  have HT := hide (hT.kept g0)
  clear g0 hu hv hT 
  have x0 := (unhide F0).c0
  have x1 := (unhide F0).c1
  cases hc : cnfB n LL
  · have E := hide (show leavesB n LL L = false by unfold leavesB; rw [hc]; rfl)
    rw [hc] at cc
    have CC := hide cc
    clear cc hc HU HV
    go_enter Tryd.func32, Tryd.ntmps32
    go_wp2_with fail
    refine (unhide CC).mono ?_; rintro e w2 ⟨rfl, g2⟩
    have G2 := hide (grown_trans (r := none) (unhide G0) g2)
    clear g2 x0 x1
    go_wp2_with fail
    go_ret
    exact ⟨ret_bool (unhide E).symm, unhide G2⟩
  · rw [hc] at cc
    have CC := hide cc
    have hok := hide (okU_facts hc)
    cases hb : clB n L
    · have E := hide (show leavesB n LL L = false by unfold leavesB; rw [hc, hb]; rfl)
      have HB := hide hb
      clear cc hc hb
      go_enter Tryd.func32, Tryd.ntmps32
      go_wp2_with fail
      refine (unhide CC).mono ?_; rintro e w2 ⟨rfl, g2⟩
      have G2 := hide (grown_trans (r := none) (unhide G0) g2)
      have cl := ok.clauseOf u L n w2 hL ((unhide HU).kept g2 (.inl rfl))
      rw [unhide HB] at cl
      have CL := hide cl
      have F2 := hide ((unhide F0).kept g2)
      clear g2 x0 x1 cl
      have z0 := (unhide F2).c0
      have z1 := (unhide F2).c1
      go_wp2_with fail
      refine (unhide CL).mono ?_; rintro e w3 ⟨rfl, hw⟩; have hw' := hw.symm; clear hw; subst hw'
      go_wp2_with fail
      go_ret
      exact ⟨ret_bool (unhide E).symm, unhide G2⟩
    · have E := hide (show leavesB n LL L = !(frc (LL.map setOf) 49 (setOf (negL L)) (negL L)).2 by unfold leavesB; rw [hc, hb]; rfl)
      have HB := hide hb
      have HO := hide (cl_ok hb)
      have HC := hide hc
      clear cc hc hb
      go_enter Tryd.func32, Tryd.ntmps32
      go_wp2_with fail
      refine (unhide CC).mono ?_; rintro e w2 ⟨rfl, g2⟩
      have G2 := hide (grown_trans (r := none) (unhide G0) g2)
      have cl := ok.clauseOf u L n w2 hL ((unhide HU).kept g2 (.inl rfl))
      rw [unhide HB] at cl
      have CL := hide cl
      have F2 := hide ((unhide F0).kept g2)
      have U2 := hide ((unhide HU).kept g2 (.inl rfl))
      have V2 := hide ((unhide HV).kept g2)
      have T2 := hide ((unhide HT).kept g2)
      clear g2 x0 x1 cl HU HV
      have z0 := (unhide F2).c0
      have z1 := (unhide F2).c1
      go_wp2_with fail
      refine (unhide CL).mono ?_; rintro e w3 ⟨rfl, hw⟩; have hw' := hw.symm; clear hw; subst hw'
      have CO := hide (oppositesOf u L w2.drew hL (unhide HO) ((unhide U2).kept (cf.grown_drew w2 none) (.inl rfl)))
      have hnl : (negL L).length ≤ 1048576 := by unfold negL; rw [List.length_map]; exact hL
      have CF := hide (fun (r : Value) (w3 : World) (g : w2.grownBy w3 none) (m : Made w2.drew w3 r (negL L)) => (by have := implForce v r n LL (negL L) _ _ w3 ((unhide T2).kept g) hn hnl ((unhide V2).kept g) (Own.of m.1); rw [force_neg (unhide HC) (unhide HB)] at this; exact this : Calls Tryd.prog 25 #[.agg #[.int .i64 n, v], r] w3 fun e w' => ∃ q, e = .returned (.tuple #[q, .bool (frc (LL.map setOf) 49 (setOf (negL L)) (negL L)).2]) ∧ Made w3 w' q (frc (LL.map setOf) 49 (setOf (negL L)) (negL L)).1))
      have CK := hide (fun (w3 : World) (g : w2.grownBy w3 none) => And.intro ((unhide F2).kept g).c0 ((unhide F2).kept g).c1)
      clear CL HO
      generalize hF : frc (LL.map setOf) 49 (setOf (negL L)) (negL L) = F at *
      obtain ⟨FL, FB⟩ := F
      go_upto_region 3 with fail
      go_region_held3 (fun w' => w'.cell? ⟨w.heap.size, 0, none⟩ = some (.int .i64 n) ∧ w'.cell? ⟨w.heap.size, 1, none⟩ = some v) (go_keep) (first
        | (go_at_call 89; refine (unhide CO).mono ?_; rintro e w5 ⟨u5, rfl, m5⟩; have G5 := hide (grown_trans (r := none) (cf.grown_drew w2 none) m5.2); have C5 := hide (unhide CF u5 w5 (unhide G5) m5); have k1 := (unhide CK w5 (unhide G5)).1; have k2 := (unhide CK w5 (unhide G5)).2; clear m5)
        | (go_at_call 25; refine (unhide C5).mono ?_; rintro e w6 ⟨r6, rfl, m6⟩; have G6 := hide (grown_trans (r := none) (unhide G5) m6.2); have k3 := (unhide CK w6 (unhide G6)).1; have k4 := (unhide CK w6 (unhide G6)).2; clear m6))
      all_goals
        go_wp2_with fail
        go_ret
        exact ⟨ret_bool (by rw [unhide E]), grown_trans (unhide G2) (unhide G6)⟩
theorem bothL (n : Int) (LL : List (List Int)) (L : List Int) (hn : tot LL ≤ 1048576) (hL : L.length ≤ 1048576) : ∃ b : Bool,
    (∀ v u w, Sls w v LL → Sl w u L → Calls Tryd.prog 33 #[.agg #[.int .i64 n, v], u] w fun e w' => e = .returned (.bool b) ∧ w.grownBy w' none) ∧
    (∀ v u w, Tab w → Sls w v LL → Sl w u L → Calls Tryd.prog 32 #[.agg #[.int .i64 n, v], u] w fun e w' => e = .returned (.bool b) ∧ w.grownBy w' none) :=
  ⟨_, fun v u w h k => specLeaves v u n LL L w hn hL h k, fun v u w t h k => implLeaves v u n LL L w t hn hL h k⟩
end Go.Proofs.YtloenjaonkdlaaaDoor.sp
