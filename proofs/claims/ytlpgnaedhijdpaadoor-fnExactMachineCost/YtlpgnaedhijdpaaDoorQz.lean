/- What a step of the walker does: the step of the machine; no condition but that the walker is one and runs. -/
import Derived.Test.YtlpgnaedhijdpaaDoorQy
import Derived.Laws.EntriesVeiled
namespace Go.Proofs.YtlpgnaedhijdpaaDoor.qw
open Go.ChangeShapes Go.WideShapes Go.ChangeAt Go.RowKit
open Go.Proofs.YtlpgnaedhijdpaaDoor.kd (SV Slv)
open Go.Proofs.YtlpgnaedhijdpaaDoor.as_ (litAt tl tl_snoc tl_len)
open Go.Proofs.YtlpgnaedhijdpaaDoor.qm (cutN back MS stepM runM OkM cut_le)
open Go.Proofs.YtlpgnaedhijdpaaDoor.wm0 (end0 ret0)
open Go.Proofs.YtlpgnaedhijdpaaDoor.sl (Sl Own ints hide unhide ret_bool ret_int grown_refl grown_trans)
set_option linter.unusedVariables false
/-- what a walker has become -/
def Now (n : Nat) (LL : List (List Int)) (a mid c : Nat) (s : SV) (f : Value) (w w' : World) (m : MS) : Prop := ∃ v', v'.st = m.st ∧ v'.k = m.k ∧ v'.f = f ∧ Wlk n LL a mid w' c v' s m.A ∧ Below mid w w'
set_option maxRecDepth 100000 in
set_option maxHeartbeats 4000000 in
theorem step {n : Nat} {LL : List (List Int)} {a mid : Nat} {w : World} {c : Nat} {v : WV} {s : SV} {A : List Int} (h : Wlk n LL a mid w c v s A) (hs : v.st = 0) (hk0 : 0 ≤ v.k) (hk : v.k < 1000000000) :
    Calls Tryd.prog 65 #[.pointer (some ⟨c, 0, none⟩)] w fun e w' => e = .returned (.tuple #[]) ∧ Now n LL a mid c s v.f w w' (stepM n LL ⟨A, v.st, v.k⟩) := by
  have gA := World.grownBy_alloc w (.cells #[.func (.func 100) #[] #[], .func (.func 101) #[] #[], .func (.func 102) #[] #[]] 119) none
  have x4 : w.cell? ⟨c, 4, none⟩ = some (.int .i64 v.k) := h.blk.cell (k := 4) (by decide)
  have y4 := gA.cell x4 (fun e => by cases e)
  have f4 := (h.kept gA).blk.fz 4
  have ne4 := World.new_ne w _ x4
  go_enter Tryd.func65, Tryd.ntmps65
  go_wp2_with fail
  have HW1 := (h.kept gA).cellC (v' := { v with k := v.k + 1 }) (sl.grown_setCell _ c 4 (.int .i64 (v.k + 1))) ((h.kept gA).blk.set (cellsK _ (v.k + 1))) rfl rfl rfl rfl rfl (fun _ _ => rfl) h.xb
  have BL := hide (bel_set (i := 4) (u := .int .i64 (v.k + 1)) (bel_by (m := mid) (Nat.le_trans h.hc (Nat.le_of_lt h.blk.lt)) gA (fun b e => by cases e)) h.hc)
  have hcl := h.blk.lt
  have FB : Hid (∀ w5 : World, ((w.alloc (.cells #[.func (.func 100) #[] #[], .func (.func 101) #[] #[], .func (.func 102) #[] #[]] 119)).setCell ⟨c, 4, none⟩ (.int .i64 (v.k + 1))).grownBy w5 none → w5.cell? ⟨w.heap.size, 0, none⟩ = some (.func (.func 100) #[] #[]) ∧ w5.cell? ⟨w.heap.size, 1, none⟩ = some (.func (.func 101) #[] #[]) ∧ w5.cell? ⟨w.heap.size, 2, none⟩ = some (.func (.func 102) #[] #[])) := by
    intro w5 g5
    have hb : ∀ i : Nat, ((w.alloc (.cells #[.func (.func 100) #[] #[], .func (.func 101) #[] #[], .func (.func 102) #[] #[]] 119)).setCell ⟨c, 4, none⟩ (.int .i64 (v.k + 1))).cell? ⟨w.heap.size, i, none⟩ = (w.alloc (.cells #[.func (.func 100) #[] #[], .func (.func 101) #[] #[], .func (.func 102) #[] #[]] 119)).cell? ⟨w.heap.size, i, none⟩ := fun i => World.cell?_setCell_other _ _ _ _ (fun e => by have := congrArg Addr.block e; simp at this; omega)
    refine ⟨g5.cell ((hb 0).trans (by simp)) (fun e => by cases e), g5.cell ((hb 1).trans (by simp)) (fun e => by cases e), g5.cell ((hb 2).trans (by simp)) (fun e => by cases e)⟩
  have PI := hide (pathIs HW1)
  have hlen := h.len
  have HH := hide HW1
  clear h x4 y4 f4 ne4 gA HW1 hcl
  generalize hW1 : (w.alloc (.cells #[.func (.func 100) #[] #[], .func (.func 101) #[] #[], .func (.func 102) #[] #[]] 119)).setCell ⟨c, 4, none⟩ (.int .i64 (v.k + 1)) = W1 at *
  clear hW1
  refine (unhide PI).mono ?_
  rintro e w5 ⟨rfl, g5⟩
  have b5 := unhide FB w5 g5
  have t0 := b5.1
  have t1 := b5.2.1
  have t2 := b5.2.2
  have B5 := hide (bel_trans (unhide BL) (bel_by (m := mid) (Nat.le_trans (unhide HH).hc (Nat.le_of_lt (unhide HH).blk.lt)) g5 (fun b e => by cases e)))
  have H5 := hide ((unhide HH).kept g5)
  have SM : Hid (stepM n LL ⟨A, v.st, v.k⟩ = if l4.openB LL (tl 0 A) then (if A.length = n then ⟨A, 1, v.k + 1⟩ else ⟨A ++ [0], 0, v.k + 1⟩) else if cutN A A.length = 0 then ⟨[], 2, v.k + 1⟩ else ⟨back A, 0, v.k + 1⟩) := by
    show stepM n LL ⟨A, v.st, v.k⟩ = _
    unfold qm.stepM
    rw [if_pos ⟨hs, hk⟩]
  clear g5 b5 HH FB BL PI
  cases ho : l4.openB LL (tl 0 A)
  · rw [ho] at SM
    have CT := hide (turn (unhide H5))
    clear H5 ho
    go_wp2_with fail
    refine (unhide CT).mono ?_
    rintro e w6 ⟨rfl, v6, p1, p2, p3, p4, p5⟩
    have F := hide (And.intro p1 (And.intro p2 (And.intro p3 (And.intro p4 (bel_trans (unhide B5) p5)))))
    clear p1 p2 p3 p4 p5 CT B5
    go_wp2_with fail
    (try simp only [Exit.inBlock, Exit.then])
    obtain ⟨p1, p2, p3, p4, p5⟩ := unhide F
    refine end0 rfl rfl ⟨rfl, ?_⟩
    rw [unhide SM]
    rw [if_neg (by decide)]
    by_cases hz : cutN A A.length = 0
    · rw [if_pos hz] at p1 p4 ⊢
      exact ⟨v6, p1, p2, p3, p4, p5⟩
    · rw [if_neg hz] at p1 p4 ⊢
      exact ⟨v6, p1.trans hs, p2, p3, p4, p5⟩
  · rw [ho] at SM
    by_cases hn : A.length = n
    · have CT := hide (finish (unhide H5))
      have SM2 := hide ((unhide SM).trans (by rw [if_pos rfl, if_pos hn]))
      clear SM
      have SM := SM2
      subst hn
      clear H5 ho SM2
      go_wp2_with fail
      refine (unhide CT).mono ?_
      rintro e w6 ⟨rfl, v6, p1, p2, p3, p4, p5⟩
      have F := hide (And.intro p1 (And.intro p2 (And.intro p3 (And.intro p4 (bel_trans (unhide B5) p5)))))
      clear p1 p2 p3 p4 p5 CT B5
      go_wp2_with fail
      (try simp only [Exit.inBlock, Exit.then])
      obtain ⟨p1, p2, p3, p4, p5⟩ := unhide F
      refine end0 rfl rfl ⟨rfl, ?_⟩
      rw [unhide SM]
      exact ⟨v6, p1, p2, p3, p4, p5⟩
    · have CT := hide (deepen (unhide H5) (by omega))
      have SM2 := hide ((unhide SM).trans (by rw [if_pos rfl, if_neg hn]))
      clear SM
      have SM := SM2
      clear H5 ho SM2
      go_wp2_with fail
      refine (unhide CT).mono ?_
      rintro e w6 ⟨rfl, v6, p1, p2, p3, p4, p5⟩
      have F := hide (And.intro p1 (And.intro p2 (And.intro p3 (And.intro p4 (bel_trans (unhide B5) p5)))))
      clear p1 p2 p3 p4 p5 CT B5
      go_wp2_with fail
      (try simp only [Exit.inBlock, Exit.then])
      obtain ⟨p1, p2, p3, p4, p5⟩ := unhide F
      refine end0 rfl rfl ⟨rfl, ?_⟩
      rw [unhide SM]
      exact ⟨v6, p1.trans hs, p2, p3, p4, p5⟩
end Go.Proofs.YtlpgnaedhijdpaaDoor.qw
