/- What the law on turned variables draws, and values for any number of variables; whatever the bytes. -/
import Derived.Test.YtgmbahbdepllnaaDf
namespace Go.Proofs.Ytgmbahbdepllnaa.jb
open Go.ChangeShapes Go.WideShapes Go.ChangeAt Go.RowKit
open Go.Proofs.Ytgmbahbdepllnaa.sl (Sl Own ints hide unhide grown_refl grown_trans grown_trans' of_below below_of grown_drewN)
open Go.Proofs.Ytgmbahbdepllnaa.css (Sls OwnS tot)
open Go.Proofs.Ytgmbahbdepllnaa.cf (Box)
open Go.Proofs.Ytgmbahbdepllnaa.draw (Cur Bs I64 newCur grown_new)
open Go.Proofs.Ytgmbahbdepllnaa.dcn (Came Bd Drawn)
open Go.Proofs.Ytgmbahbdepllnaa.wo (Made)
set_option linter.unusedVariables false

set_option maxHeartbeats 800000 in
theorem valuesM (a : Option Addr) (n cap : Nat) (m : Nat) (w : World) (hn : n ≤ 1048576) (hm : m ≤ 100) (hB : Bs w a n) :
    Calls Try.prog 18 #[.slice a n cap, .int .i64 (m : Int)] w fun e w' => ∃ v X, e = .returned v ∧ X.length = m ∧ (∀ x ∈ X, x = 0 ∨ x = 1) ∧ Made w w' v X := by
  have HB := hide hB
  clear hB
  have START := hide (app.made_nil w)
  go_enter Try.func18, Try.ntmps18
  go_wp2
  go_loopw [5, 6] (fun u i wr => ∃ (k : Nat) (X : List Int), k ≤ m ∧ X.length = k ∧ i = .int .i64 k ∧ Hid (∀ x ∈ X, x = 0 ∨ x = 1) ∧ Hid (Made w wr u X)) (fun _ i _ => m - (intOf i).toNat)
  case atStart => exact ⟨0, [], Nat.zero_le _, rfl, rfl, (fun x hx => by cases hx), START⟩
  case round =>
    obtain ⟨k, X, hk, hX, rfl, hb, hmd⟩ := hrel
    clear START
    by_cases hlt : k < m
    · have hi : (k : Int) < (m : Int) := by omega
      have C := hide (dva.at_ a n cap ((k : Int) + 5) wr hn (by omega) (by omega) ((unhide HB).below (below_of (unhide hmd).2)))
      go_wp2_with fail
      refine (unhide C).mono ?_; rintro e w2 ⟨x, rfl, x0, x1, hw⟩
      have hw' := hw.symm
      clear hw
      subst hw'
      have hx2 : x.tmod 2 = x % 2 := Int.tmod_eq_emod_of_nonneg x0
      have B2 : Hid (∀ y ∈ X ++ [x % 2], y = 0 ∨ y = 1) := by
        intro y hy
        rw [List.mem_append, List.mem_singleton] at hy
        rcases hy with hy | rfl
        · exact unhide hb y hy
        · omega
      clear C hb
      generalize hz : x % 2 = z at *
      clear hz
      go_wp2_with (at_builtin; refine wo.append1 (unhide hmd).2 (unhide hmd).1 (by omega) rfl _ _ rfl rfl rfl ?_)
      intro v' w3 R
      have R3 := hide R
      clear R hmd
      go_wp2
      go_roundw
      case rel => exact ⟨k + 1, X ++ [z], by omega, by rw [List.length_append, hX]; rfl, by go_num, B2, R3⟩
      case measure => simp [intOf]; omega
    · have hi : ¬ (k : Int) < (m : Int) := by omega
      go_wp2
      go_ret
      exact ⟨_, rfl, X, by omega, unhide hb, unhide hmd⟩

/-- no value where there is no variable -/
theorem valuesZ (a : Option Addr) (n cap : Nat) (x : Int) (w : World) (hx : x < 0) :
    Calls Try.prog 18 #[.slice a n cap, .int .i64 x] w fun e w' => ∃ v, e = .returned v ∧ Made w w' v [] := by
  have START := hide (app.made_nil w)
  have hx2 : ¬ (0 : Int) < x := by omega
  go_enter Try.func18, Try.ntmps18
  go_wp2
  refine wp_loop_rounds 1 ?_
  rw [rounds_succ]
  go_wp2
  go_ret
  exact ⟨_, rfl, unhide START⟩
theorem valuesA (a : Option Addr) (n cap : Nat) (x : Int) (w : World) (hn : n ≤ 1048576) (hx : x ≤ 25) (hB : Bs w a n) :
    Calls Try.prog 18 #[.slice a n cap, .int .i64 x] w fun e w' => ∃ v X, e = .returned v ∧ X.length = x.toNat ∧ (∀ y ∈ X, y = 0 ∨ y = 1) ∧ Made w w' v X := by
  by_cases h : x < 0
  · refine (valuesZ a n cap x w h).mono ?_
    rintro e w' ⟨v, rfl, m⟩
    exact ⟨v, [], rfl, by rw [List.length_nil]; omega, (fun y hy => by cases hy), m⟩
  · obtain ⟨m, rfl⟩ := Int.eq_ofNat_of_zero_le (show 0 ≤ x by omega)
    refine (valuesM a n cap m w hn (by omega) hB).mono ?_
    rintro e w' ⟨v, X, rfl, h1, h2, h3⟩
    exact ⟨v, X, rfl, by rw [h1]; rfl, h2, h3⟩
theorem results_cell_tmp2 {fn : Func} {p u q : Tmp} {ty : TypeId} (h : fn.results = #[.cell p ty, .tmp u, .tmp q]) (tmps : Array Value) (P : Program) (w : World) :
    (results fn tmps).run P w =
      ((asAddr (tmps.getD p undef)).run P w).andThen fun a w₁ => ((loadVar ty a).run P w₁).andThen fun v w₂ => .ok (.tuple #[v, tmps.getD u undef, tmps.getD q undef]) w₂ := by
  simp only [results, h]
  simp [Sem.run_bind, Result.andThen]
theorem ret_box3 {fn : Func} {p u q : Tmp} {tmps : Array Value} {w : World} {c : Nat} {x y : Value} (h : fn.results = #[.cell p 26, .tmp u, .tmp q]) (hp : tmps.getD p undef = .pointer (some ⟨c, 0, none⟩)) (hb : Box 26 w c x y) :
    (results fn tmps).run Try.prog w = .ok (.tuple #[.agg #[x, y], tmps.getD u undef, tmps.getD q undef]) w := by
  rw [results_cell_tmp2 h, hp]
  simp only [asAddr, Sem.run_pure, Result.andThen_ok]
  rw [run_loadVar_row w c 26 26 #[x, y] (0, 0) _ hb Try.underlying26 rfl cf.sizeCnf]
  rfl

set_option maxHeartbeats 1600000 in
theorem drawSwap (a : Option Addr) (n cap : Nat) (w : World) (hn : n ≤ 1048576) (hB : Bs w a n) :
    Calls Try.prog 12 #[.slice a n cap] w fun e w' => ∃ (k : Int) (v : Value) (x y : Int) (M : List (List Int)), e = .returned (.tuple #[.agg #[.int .i64 k, v], .int .i64 x, .int .i64 y]) ∧ (0 ≤ x ∧ x < 8) ∧ (0 ≤ y ∧ y < 8) ∧ df.Got w w' k v M := by
  have nc := newCur a n cap (w.alloc (.cells #[.int .i64 0, .slice none 0 0] 26)) hn (hB.below (below_of (World.grownBy_alloc w (.cells #[.int .i64 0, .slice none 0 0] 26) none)))
  simp only [World.size_alloc] at nc
  have NC := hide nc
  have R0 := hide (Box.new 26 w (.int .i64 0) (.slice none 0 0))
  clear hB nc
  go_enter Try.func12, Try.ntmps12
  go_wp2_with fail
  refine (unhide NC).mono ?_; rintro e w1 ⟨rfl, hc1, g1⟩
  have C1 := hide hc1
  have G1 := hide g1
  have R1 := hide ((unhide R0).kept g1)
  clear hc1 g1 NC R0
  go_wp2_with fail
  refine (dcn.any _ _ (unhide C1)).mono ?_; rintro e w2 ⟨k, v, M, rfl, bd, od, gd, cd⟩
  obtain ⟨va, vc, rfl⟩ := od.len
  have b5 := Box.new 26 w2 (.int .i64 k) (.slice va M.length vc)
  have gA := World.grownBy_alloc w2 (.cells #[.int .i64 k, .slice va M.length vc] 26)
  have cA := cd.kept (gA none) (fun r e => by cases e)
  have BL := hide (draw.below (w.heap.size + 1) 8 _ cA (by decide) (by decide))
  have hws : w.heap.size + 1 < w2.heap.size := cd.lt
  have r2 := ((unhide R1).by gd (fun e => by simp at e)).kept (gA none)
  have oA := (od.kept (gA none)).sub (lo' := w1.heap.size) (Nat.le_refl _) (Nat.le_refl _)
  have gdA := grown_trans' (r := some (w.heap.size + 1)) gd (gA _)
  have KP := hide (And.intro b5 (And.intro r2 (And.intro oA gdA)))
  have BD := hide bd
  clear b5 gA cA r2 oA gdA od gd cd bd
  go_wp2_with fail
  refine (unhide BL).mono ?_; rintro e w3 ⟨x, rfl, x0, x1, hc3, g3⟩
  have b5 := (unhide KP).1.by g3 (fun e => by simp at e; omega)
  have r2 := (unhide KP).2.1.by g3 (fun e => by simp at e)
  have oA := dcn.ownS_turn (unhide KP).2.2.1 (unhide C1).lt g3
  have GD := hide (grown_trans' (unhide KP).2.2.2 g3)
  have S3 := hide g3.size
  have CL := hide (draw.below (w.heap.size + 1) 8 w3.drew (hc3.kept (cf.grown_drew _ none) (fun r e => by cases e)) (by decide) (by decide))
  have R2 := hide r2
  have B5 := hide b5
  have rc0 := r2.c0
  have rc1 := r2.c1
  have rf0 := r2.f 0
  have rf1 := r2.f 1
  have y0 := b5.c0
  have y1 := b5.c1
  have TB := hide (fun (w4 : World) (g4 : w3.drew.grownBy w4 (some (w.heap.size + 1))) => And.intro (b5.by (grown_trans' (cf.grown_drew _ (some (w.heap.size + 1))) g4) (fun e => by simp at e; omega)) (And.intro (r2.by (grown_trans' (cf.grown_drew _ (some (w.heap.size + 1))) g4) (fun e => by simp at e)) (dcn.ownS_turn oA (unhide C1).lt (grown_trans' (cf.grown_drew _ (some (w.heap.size + 1))) g4))))
  have GA := hide (grown_trans (r := none) (World.grownBy_alloc w (.cells #[.int .i64 0, .slice none 0 0] 26) none) (unhide G1))
  clear r2 b5 oA g3 hc3 KP BL
  go_wp2_with fail
  go_region_with (go_at_call 40; refine (unhide CL).mono ?_; rintro e w4 ⟨y, rfl, yy0, yy1, hc4, g4⟩; obtain ⟨t5, t2, tq⟩ := unhide TB w4 g4; have z0 := t5.c0; have z1 := t5.c1; have q0 := t2.c0; have q1 := t2.c1; have q2 := t2.f 0; have q3 := t2.f 1; have T2 := hide t2; have TO := hide tq; have G4 := hide g4; clear t5 t2 tq g4 hc4)
  all_goals
    go_wp2_with fail
    (try simp only [Exit.inBlock, Exit.then])
    have gw := grown_new (unhide GA) (grown_trans' (unhide GD) (grown_trans' (cf.grown_drew _ (some (w.heap.size + 1))) (unhide G4))) (Nat.le_succ _)
    have os := gr.ownS_set (i := 1) (u := .slice va M.length vc) (gr.ownS_set (i := 0) (u := .int .i64 k) (unhide TO) (unhide T2)) ((unhide T2).set0 (.int .i64 k))
    have hz := (unhide G4).size
    have hz3 := unhide S3
    rw [World.size_alloc] at hz3
    rw [show w3.drew.heap.size = w3.heap.size from rfl] at hz
    refine bodyPost_ret (ret_box3 rfl rfl (((unhide T2).set0 (.int .i64 k)).set1 (.slice va M.length vc))) rfl ⟨k, _, x, y, M, rfl, ⟨x0, x1⟩, ⟨yy0, yy1⟩, unhide BD, ?_, ?_⟩
    · refine os.sub (unhide GA).size ?_
      rw [cf.size_set, cf.size_set]
      omega
    · exact cf.grown_set (cf.grown_set gw (Nat.le_refl _)) (Nat.le_refl _)
end Go.Proofs.Ytgmbahbdepllnaa.jb
