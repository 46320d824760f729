/- What the walker's steps do: turn, finish, deepen, moves, step; no condition but that the walker is one. -/
import Derived.Test.YtnlllcgcaddhmaaGreatDoorJXQx
import Derived.Test.YtnlllcgcaddhmaaGreatDoorJXNs
namespace Go.Proofs.YtnlllcgcaddhmaaGreatDoor.qw
open Go.ChangeShapes Go.WideShapes Go.ChangeAt Go.RowKit
open kd (SV Slv)
open ks (Right Closed)
open as_ (litAt tl tl_snoc tl_len)
open qm (cutN back MS stepM runM OkM cut_le)
open wm0 (end0 ret0)
open sl (Sl Own ints hide unhide ret_bool ret_int grown_refl grown_trans)
set_option linter.unusedVariables false
theorem wrap8 {x : Int} (h1 : -24 ≤ x) (h2 : x ≤ 24) : IntKind.i8.wrap x = x := by
 have key : ∀ j : Fin 49, IntKind.i8.wrap ((j.val : Int) - 24) = (j.val : Int) - 24 := by decide
 have := key ⟨(x + 24).toNat, by omega⟩
 rw [show (((x + 24).toNat : Nat) : Int) - 24 = x by omega] at this
 exact this
theorem Wlk.cut {n : Nat} {LL : List (List Int)} {a mid : Nat} {w : World} {c : Nat} {v : WV} {s : SV} {A : List Int} {g cap m : Nat} (h : Wlk n LL a mid w c v s A) (hp : v.p = .slice (some ⟨g, 0, none⟩) A.length cap) (hm : m ≤ A.length) :
  Wlk n LL a mid (w.setCell ⟨c, 2, none⟩ (.slice (some ⟨g, 0, none⟩) m cap)) c { v with p := .slice (some ⟨g, 0, none⟩) m cap } s (A.take m) := by
 have hl : (A.take m).length = m := by rw [List.length_take]; omega
 refine h.path (w1 := w) ⟨rfl, rfl, rfl, Nat.le_refl _, fun _ _ _ => rfl⟩ ?_ (by have := h.len; omega) (fun x hx => h.bit x (List.mem_of_mem_take hx)) (fun i hi => ?_) ⟨g, cap, by rw [hl]⟩
 ·have o := h.ow
  rw [hp] at o
  have := own_take o hm
  rw [hl, ← qm.tl_take]
  have e : ints ((tl 0 A).take m) = (ints (tl 0 A)).take m := by unfold sl.ints; rw [List.map_take]
  rw [e]
  exact this
 ·rw [hl] at hi
  rw [List.take_take, Nat.min_eq_left hi]
  exact h.xs i (by omega)
set_option maxRecDepth 100000 in
set_option maxHeartbeats 4000000 in
theorem turn {n : Nat} {LL : List (List Int)} {a mid : Nat} {w : World} {c : Nat} {v : WV} {s : SV} {A : List Int} (h : Wlk n LL a mid w c v s A) :
  Calls Tryz.prog 160 #[.pointer (some ⟨c, 0, none⟩)] w fun e w' => e = .returned (.tuple #[]) ∧ ∃ v', v'.st = (if cutN A A.length = 0 then 2 else v.st) ∧ v'.k = v.k ∧ v'.f = v.f ∧ Wlk n LL a mid w' c v' s (if cutN A A.length = 0 then [] else back A) ∧ Below mid w w' := by
 obtain ⟨g, cap, hp⟩ := h.ps
 have h24 := h.rt.n24
 have hl := h.len
 have x2 := h.blk.cell (k := 2) (by decide)
 have e2 : v.at 2 = .slice (some ⟨g, 0, none⟩) A.length cap := hp
 rw [e2] at x2
 have HW := hide h
 have HP := hide hp
 have CC : Hid (∀ k, k < A.length → w.cell? ⟨g, k, none⟩ = some (.int .i64 (litAt k (A.getD k 0)))) := by
  intro k hk
  have o := h.ow
  rw [hp] at o
  rw [o.cellAt k (by omega)]
  have e := qm.tl_getD A 0 k hk
  rw [Nat.zero_add] at e
  rw [← e]
  simp [sl.ints, tl_len, hk]
 clear h hp e2
 go_enter Tryz.func160, Tryz.ntmps160
 go_wp2_with fail
 go_loop [2] (fun i => ∃ k : Nat, k ≤ A.length ∧ i = .int .i64 k ∧ Hid (cutN A k = cutN A A.length)) (fun i => (intOf i).toNat)
 case atStart => exact ⟨A.length, Nat.le_refl _, rfl, rfl⟩
 case round =>
  obtain ⟨k, hk, rfl, hc⟩ := hrel
  by_cases h0 : k = 0
  ·subst h0
   have hz : cutN A A.length = 0 := (unhide hc).symm
   have w1 := (unhide HW).cut (m := 0) (unhide HP) (Nat.zero_le _)
   have w2 := w1.cellC (v' := { v with p := .slice (some ⟨g, 0, none⟩) 0 cap, st := 2 }) (sl.grown_setCell _ c 3 (.int .i64 2)) (w1.blk.set (cellsS _ 2)) rfl rfl rfl rfl rfl (fun _ _ => rfl) w1.xb
   have F := hide (And.intro w2 (bel_set (i := 3) (u := .int .i64 2) (bel_set (i := 2) (u := .slice (some ⟨g, 0, none⟩) 0 cap) (Below.refl mid w) (unhide HW).hc) (unhide HW).hc))
   have f2 := (unhide HW).blk.fz 2
   have f3 := (unhide HW).blk.fz 3
   have x3 := (unhide HW).blk.cell (k := 3) (by decide)
   have HZ := hide hz
   clear hz w1 w2 CC HW HP hc
   generalize v.at 3 = v3 at *
   go_wp2_with fail
   (try simp only [Exit.inBlock, Exit.then])
   refine ret0 rfl rfl ⟨rfl, ?_⟩
   (try rw [if_pos (unhide HZ)])
   (try rw [if_pos (unhide HZ)])
   exact ⟨{ v with p := .slice (some ⟨g, 0, none⟩) 0 cap, st := 2 }, rfl, rfl, rfl, (unhide F).1, (unhide F).2⟩
  ·have c1 := unhide CC (k - 1) (by omega)
   have hk1 : 1 ≤ k := by omega
   have hkI : ¬ (k : Int) ≤ 0 := by omega
   have hwr : IntKind.i64.wrap ((k : Int) - 1) = ((k - 1 : Nat) : Int) := by rw [IntKind.wrap_i64]; omega
   have hib : ((k - 1 : Nat) : Int) < (A.length : Int) := by omega
   have hcs : cutN A k = if A.getD (k - 1) 0 = 1 then cutN A (k - 1) else k := by
    obtain ⟨j, rfl⟩ : ∃ j, k = j + 1 := ⟨k - 1, by omega⟩
    rfl
   by_cases hx : A.getD (k - 1) 0 = 1
   ·rw [hx] at c1
    rw [if_pos hx] at hcs
    have hpos : litAt (k - 1) 1 > 0 := by unfold as_.litAt; rw [if_pos rfl]; omega
    have R : Hid (cutN A (k - 1) = cutN A A.length) := by rw [← hcs]; exact hc
    clear hx hcs hc CC HW
    generalize litAt (k - 1) 1 = y at *
    go_wp2_with fail
    go_round
    case rel => exact ⟨k - 1, by omega, by go_num, R⟩
    case measure => simp [intOf]; omega
   ·rw [if_neg hx] at hcs
    have hz : cutN A A.length = k := by rw [← hcs]; exact (unhide hc).symm
    have hx0 : A.getD (k - 1) 0 = 0 := by
     rcases (unhide HW).bit _ (qm.getD_mem (A := A) (i := k - 1) (by omega)) with q | q
     ·exact q
     ·exact absurd q hx
    rw [hx0] at c1
    have hneg : ¬ litAt (k - 1) 0 > 0 := by unfold as_.litAt; rw [if_neg (by decide)]; omega
    have w1 := (unhide HW).cut (m := k - 1) (unhide HP) (by omega)
    have hlt : (A.take (k - 1)).length = k - 1 := by rw [List.length_take]; omega
    have CP := put w1 (x := 1) (by rw [hlt]; omega) (.inr rfl)
    have e8 : litAt (A.take (k - 1)).length 1 = IntKind.i8.wrap (k : Int) := by
     rw [hlt, wrap8 (by omega) (by omega)]
     unfold as_.litAt
     rw [if_pos rfl]
     omega
    rw [e8] at CP
    have hbk : A.take (k - 1) ++ [1] = back A := by unfold qm.back; rw [hz]
    rw [hbk] at CP
    have BL := hide (bel_set (i := 2) (u := .slice (some ⟨g, 0, none⟩) (k - 1) cap) (Below.refl mid w) (unhide HW).hc)
    have f2 := (unhide HW).blk.fz 2
    have HZ : Hid (¬ cutN A A.length = 0) := by rw [hz]; exact h0
    have hcap : A.length ≤ cap := by
     have o := (unhide HW).ow
     rw [unhide HP] at o
     rcases o.2 with ⟨e, _⟩ | ⟨g', cap', cur, e, _, _, hn, _⟩
     ·cases e
     ·injection e with e1 e2 e3
      omega
    have hcI : ((k - 1 : Nat) : Int) ≤ (cap : Int) := by omega
    have hk0 : ((k : Int) == 0) = false := by simp; omega
    have h8 : IntKind.i8.wrap (k : Int) = (k : Int) := wrap8 (by omega) (by omega)
    have HC8 := hide (by rw [h8] at CP; exact CP)
    clear hx hx0 hcs hc CC HW HP hz w1 hlt CP e8 hbk h8
    generalize litAt (k - 1) 0 = y at *
    go_wp2_with fail
    refine (unhide HC8).mono ?_
    rintro e w5 ⟨rfl, v5, p1, p2, p3, p4, p5⟩
    have F := hide (And.intro p1 (And.intro p2 (And.intro p3 (And.intro p4 (bel_trans (unhide BL) p5)))))
    clear p1 p2 p3 p4 p5 HC8 BL
    go_wp2_with fail
    (try simp only [Exit.inBlock, Exit.then])
    obtain ⟨p1, p2, p3, p4, p5⟩ := unhide F
    refine end0 rfl rfl ⟨rfl, v5, ?_, p2, p3, ?_, p5⟩
    ·(try rw [if_neg (unhide HZ)])
     exact p1
    ·(try rw [if_neg (unhide HZ)])
     exact p4
set_option maxHeartbeats 1000000 in
theorem finish {n : Nat} {LL : List (List Int)} {a mid : Nat} {w : World} {c : Nat} {v : WV} {s : SV} {A : List Int} (h : Wlk n LL a mid w c v s A) :
  Calls Tryz.prog 161 #[.pointer (some ⟨c, 0, none⟩)] w fun e w' => e = .returned (.tuple #[]) ∧ ∃ v', v'.st = 1 ∧ v'.k = v.k ∧ v'.f = v.f ∧ Wlk n LL a mid w' c v' s A ∧ Below mid w w' := by
 have w2 := h.cellC (v' := { v with st := 1 }) (sl.grown_setCell _ c 3 (.int .i64 1)) (h.blk.set (cellsS _ 1)) rfl rfl rfl rfl rfl (fun _ _ => rfl) h.xb
 have F := hide (And.intro w2 (bel_set (i := 3) (u := .int .i64 1) (Below.refl mid w) h.hc))
 have f3 := h.blk.fz 3
 have x3 := h.blk.cell (k := 3) (by decide)
 clear w2 h
 generalize v.at 3 = v3 at *
 go_enter Tryz.func161, Tryz.ntmps161
 go_wp2_with fail
 (try simp only [Exit.inBlock, Exit.then])
 exact end0 rfl rfl ⟨rfl, { v with st := 1 }, rfl, rfl, rfl, (unhide F).1, (unhide F).2⟩
set_option maxHeartbeats 1000000 in
theorem deepen {n : Nat} {LL : List (List Int)} {a mid : Nat} {w : World} {c : Nat} {v : WV} {s : SV} {A : List Int} (h : Wlk n LL a mid w c v s A) (hl : A.length < n) :
  Calls Tryz.prog 162 #[.pointer (some ⟨c, 0, none⟩)] w fun e w' => e = .returned (.tuple #[]) ∧ ∃ v', v'.st = v.st ∧ v'.k = v.k ∧ v'.f = v.f ∧ Wlk n LL a mid w' c v' s (A ++ [0]) ∧ Below mid w w' := by
 have h24 := h.rt.n24
 obtain ⟨g, cap, hp⟩ := h.ps
 have x2 := h.blk.cell (k := 2) (by decide)
 have e2 : v.at 2 = .slice (some ⟨g, 0, none⟩) A.length cap := hp
 rw [e2] at x2
 have CP := put h (x := 0) hl (.inl rfl)
 have e8 : litAt A.length 0 = -((A.length : Int) + 1) := by unfold as_.litAt; rw [if_neg (by decide)]; omega
 rw [e8] at CP
 have HC := hide CP
 have hw1 : IntKind.i8.wrap ((A.length : Int) + 1) = (A.length : Int) + 1 := wrap8 (by omega) (by omega)
 have hw2 : IntKind.i8.wrap (-((A.length : Int) + 1)) = -((A.length : Int) + 1) := wrap8 (by omega) (by omega)
 clear CP e8 h hp e2
 go_enter Tryz.func162, Tryz.ntmps162
 go_wp2_with fail
 refine (unhide HC).mono ?_
 rintro e w5 ⟨rfl, v5, p1, p2, p3, p4, p5⟩
 have F := hide (And.intro p1 (And.intro p2 (And.intro p3 (And.intro p4 p5))))
 clear p1 p2 p3 p4 p5 HC
 go_wp2_with fail
 (try simp only [Exit.inBlock, Exit.then])
 obtain ⟨p1, p2, p3, p4, p5⟩ := unhide F
 exact end0 rfl rfl ⟨rfl, v5, p1, p2, p3, p4, p5⟩
set_option maxHeartbeats 1000000 in
theorem moves {w : World} {c : Nat} {v : WV} (h : Blk w c v) :
  Calls Tryz.prog 122 #[.pointer (some ⟨c, 0, none⟩)] w fun e w' => e = .returned (.bool (decide (v.st = 0 ∧ v.k < 1000000000))) ∧ w' = w := by
 have x3 : w.cell? ⟨c, 3, none⟩ = some (.int .i64 v.st) := h.cell (k := 3) (by decide)
 have x4 : w.cell? ⟨c, 4, none⟩ = some (.int .i64 v.k) := h.cell (k := 4) (by decide)
 clear h
 generalize v.st = st at *
 generalize v.k = k at *
 by_cases hs : st = 0
 ·subst hs
  go_enter Tryz.func122, Tryz.ntmps122
  go_wp2_with fail
  go_ret
  exact ⟨ret_bool (by simp), rfl⟩
 ·have hs' : (st == 0) = false := by simpa using hs
  go_enter Tryz.func122, Tryz.ntmps122
  go_wp2_with fail
  go_ret
  exact ⟨ret_bool (by simp [hs]), rfl⟩
end Go.Proofs.YtnlllcgcaddhmaaGreatDoor.qw
