/- The program's tryText. -/
import Derived.Test.YtfokbkaommfnoaaGreatDoorFo
import Derived.Defers
namespace Go.Proofs.YtfokbkaommfnoaaGreatDoor.ln
open Go.ChangeShapes Go.WideShapes Go.ChangeAt Go.RowKit
open Go.Proofs.YtfokbkaommfnoaaGreatDoor.sl (hide unhide grown_refl grown_trans of_below below_of Own)
open Go.Proofs.YtfokbkaommfnoaaGreatDoor.rd (Env strLen)
open Go.Proofs.YtfokbkaommfnoaaGreatDoor.cf (Box)
open Go.Proofs.YtfokbkaommfnoaaGreatDoor.css (OwnS)
open Go.Proofs.YtfokbkaommfnoaaGreatDoor.tt (fail catch_panicking catch_idle)
set_option linter.unusedVariables false
theorem suffix10 (l : List UInt8) (h0 : ¬ l = []) : Lib.hasSuffix l [10] = decide (l.getLast? = some 10) := by
  rcases List.eq_nil_or_concat l with rfl | ⟨a, x, rfl⟩
  · exact absurd rfl h0
  · rw [Bool.eq_iff_iff, decide_eq_true_iff]
    simp [Lib.hasSuffix, List.isSuffixOf, List.isPrefixOf]
    exact eq_comm
/-- what tryText answers -/
def TryPost (w : World) (A : Ans) (e : Ending) (w' : World) : Prop :=
  w.grownBy w' none ∧ ((∃ u, A = ⟨A.n, A.cs, 0, 0⟩ ∧ e = .returned (.tuple #[.agg #[.int .i64 A.n, u], .nilIface]) ∧ OwnS w.heap.size w'.heap.size w' u A.cs) ∨ (∃ (c k : Int), A = ⟨0, [], c, k⟩ ∧ c ≠ 0 ∧ e = .returned (.tuple #[.agg #[.int .i64 0, .slice none 0 0], fail c k])))
theorem new_at (w : World) (o : Obj) : (w.alloc o).heap[w.heap.size]? = some o := by
  show (w.heap.push _)[w.heap.size]? = _
  simp
theorem start (s : ByteArray) (w W : World) (hW : ((w.alloc (.cells #[.int .i64 0, .slice none 0 0] 26)).alloc (.cells #[.nilIface] 44)).alloc (.cells #[.string s, .int .i64 0] 87) = W) :
    w.grownBy W none ∧ Box 26 W w.heap.size (.int .i64 0) (.slice none 0 0) ∧ Box 87 W (w.heap.size + 1 + 1) (.string s) (.int .i64 0) ∧ W.cell? ⟨w.heap.size + 1, 0, none⟩ = some .nilIface ∧ W.frozen? ⟨w.heap.size + 1, 0, none⟩ = false := by
  have g1 := World.grownBy_alloc w (.cells #[.int .i64 0, .slice none 0 0] 26) none
  have g2 := World.grownBy_alloc (w.alloc (.cells #[.int .i64 0, .slice none 0 0] 26)) (.cells #[.nilIface] 44) none
  have g3 := World.grownBy_alloc ((w.alloc (.cells #[.int .i64 0, .slice none 0 0] 26)).alloc (.cells #[.nilIface] 44)) (.cells #[.string s, .int .i64 0] 87) none
  have b3 := Box.new 87 ((w.alloc (.cells #[.int .i64 0, .slice none 0 0] 26)).alloc (.cells #[.nilIface] 44)) (.string s) (.int .i64 0)
  rw [World.size_alloc, World.size_alloc] at b3
  have h2 : (((w.alloc (.cells #[.int .i64 0, .slice none 0 0] 26)).alloc (.cells #[.nilIface] 44)).alloc (.cells #[.string s, .int .i64 0] 87)).heap[w.heap.size + 1]? = some (.cells #[.nilIface] 44) := by
    refine (g3.block _ (by rw [World.size_alloc, World.size_alloc]; omega) (fun e => by cases e)).trans ?_
    have h := new_at (w.alloc (.cells #[.int .i64 0, .slice none 0 0] 26)) (.cells #[.nilIface] 44)
    rw [World.size_alloc] at h
    exact h
  subst hW
  refine ⟨grown_trans (r := none) g1 (grown_trans (r := none) g2 g3), ((Box.new 26 w _ _).kept g2).kept g3, b3, ?_, ?_⟩
  · simp only [World.cell?, h2]
    rfl
  · simp only [World.frozen?, h2]
    rfl
theorem ret_two {tmps : Array Value} {w : World} {c q : Nat} {x y ev : Value} (hp : tmps.getD 2 undef = .pointer (some ⟨c, 0, none⟩)) (hq : tmps.getD 3 undef = .pointer (some ⟨q, 0, none⟩)) (hb : Box 26 w c x y) (hv : w.cell? ⟨q, 0, none⟩ = some ev) :
    (results Tryz.f28 tmps).run Tryz.prog w = .ok (.tuple #[.agg #[x, y], ev]) w := by
  have hr : Tryz.f28.results = #[.cell 2 26, .cell 3 44] := rfl
  have h1 := run_loadVar_row (P := Tryz.prog) w c 26 26 #[x, y] (0, 0) _ hb Tryz.underlying26 rfl cf.sizeCnf
  have h2 : (loadVar 44 ⟨q, 0, none⟩).run Tryz.prog w = .ok ev w := by simp [go_sem, hv]
  have h3 : (results Tryz.f28 tmps).run Tryz.prog w = ((asAddr (tmps.getD 2 undef)).run Tryz.prog w).andThen fun a w₁ => ((loadVar 26 a).run Tryz.prog w₁).andThen fun v w₂ => ((asAddr (tmps.getD 3 undef)).run Tryz.prog w₂).andThen fun b w₃ => ((loadVar 44 b).run Tryz.prog w₃).andThen fun u w₄ => .ok (.tuple #[v, u]) w₄ := by
    simp only [results, hr]
    simp [Sem.run_bind, Result.andThen]
  rw [h3, hp, hq]
  simp only [asAddr, Sem.run_pure, Result.andThen_ok, h1, h2]
set_option maxHeartbeats 3200000 in
theorem tryText_long (s : ByteArray) (w : World) (hl : 12000 < s.size) :
    Calls Tryz.prog 28 #[.string s] w fun e w' => TryPost w (readC (rd.bytes s)) e w' := by
  have E := hide (readC_long (s := rd.bytes s) (.inl (by rw [rd.bytes_len]; exact hl)))
  have hmf : ∀ (fn : Fn) (first cap : Array Value) (w : World), (Instr.makeFunc fn first cap).run Tryz.prog w = .ok (.func fn first cap) w := fun _ _ _ _ => rfl
  have hl' : (12000 : Int) < (s.size : Int) := by omega
  go_enter_defers Tryz.func28, Tryz.ntmps28
  go_wp2_with fail
  obtain ⟨W, hW⟩ : ∃ W, ((w.alloc (.cells #[.int .i64 0, .slice none 0 0] 26)).alloc (.cells #[.nilIface] 44)).alloc (.cells #[.string s, .int .i64 0] 87) = W := ⟨_, rfl⟩
  have S := hide (start s w W hW)
  rw [hW]
  refine (tt.refuse (w.heap.size + 1 + 1) 1 0 W (unhide S).2.2.1.c1).mono ?_
  rintro e w1 ⟨rfl, hw⟩
  have hw' := hw.symm; clear hw; subst hw'
  refine leaves_cons (f := 53) (args := #[.pointer (some ⟨w.heap.size + 1, 0, none⟩)]) (by simp) (by simp [go_sem]) ?_
  refine (catch_panicking ⟨w.heap.size + 1, 0, none⟩ 1 0 .nilIface [] _ (unhide S).2.2.2.1 (unhide S).2.2.2.2).mono ?_
  rintro e u' w'' ⟨rfl, rfl, rfl⟩
  simp [Leaves, settle]
  refine ⟨_, ret_two rfl rfl ((unhide S).2.1.setO (by omega)) (World.cell?_setCell_same _ _ _ (unhide S).2.2.2.1), ?_⟩
  refine ⟨cf.grown_set (unhide S).1 (by omega), .inr ⟨1, 0, unhide E, by decide, rfl⟩⟩
set_option maxHeartbeats 3200000 in
theorem tryText_open (s : ByteArray) (w : World) (hl : s.size ≤ 12000) (h0 : ¬ rd.bytes s = []) (hx : ¬ (rd.bytes s).getLast? = some 10) :
    Calls Tryz.prog 28 #[.string s] w fun e w' => TryPost w (readC (rd.bytes s)) e w' := by
  have E := hide (readC_long (s := rd.bytes s) (.inr ⟨h0, hx⟩))
  have hmf : ∀ (fn : Fn) (first cap : Array Value) (w : World), (Instr.makeFunc fn first cap).run Tryz.prog w = .ok (.func fn first cap) w := fun _ _ _ _ => rfl
  have hl' : ¬ (12000 : Int) < (s.size : Int) := by omega
  have hn : (s.toList == []) = false := by rw [rd.toList_bytes]; exact beq_eq_false_iff_ne.2 h0
  have CX := hide (fun w => Tryz.strings_HasSuffix s ⟨#[10]⟩ w (by omega))
  rw [show Lib.hasSuffix s.data.toList (⟨#[10]⟩ : ByteArray).data.toList = false from (suffix10 _ h0).trans (decide_eq_false hx)] at CX
  clear h0 hx
  go_enter_defers Tryz.func28, Tryz.ntmps28
  go_wp2_with fail
  obtain ⟨W, hW⟩ : ∃ W, ((w.alloc (.cells #[.int .i64 0, .slice none 0 0] 26)).alloc (.cells #[.nilIface] 44)).alloc (.cells #[.string s, .int .i64 0] 87) = W := ⟨_, rfl⟩
  have S := hide (start s w W hW)
  rw [hW]
  clear hW
  refine (unhide CX W).mono ?_; rintro e w1 ⟨rfl, hw⟩
  have hw' := hw.symm; clear hw; subst hw'
  go_wp2_with fail
  refine (tt.refuse (w.heap.size + 1 + 1) 1 0 W (unhide S).2.2.1.c1).mono ?_
  rintro e w1 ⟨rfl, hw⟩
  have hw' := hw.symm; clear hw; subst hw'
  refine leaves_cons (f := 53) (args := #[.pointer (some ⟨w.heap.size + 1, 0, none⟩)]) (by simp) (by simp [go_sem]) ?_
  refine (catch_panicking ⟨w.heap.size + 1, 0, none⟩ 1 0 .nilIface [] _ (unhide S).2.2.2.1 (unhide S).2.2.2.2).mono ?_
  rintro e u' w'' ⟨rfl, rfl, rfl⟩
  simp [Leaves, settle]
  refine ⟨_, ret_two rfl rfl ((unhide S).2.1.setO (by omega)) (World.cell?_setCell_same _ _ _ (unhide S).2.2.2.1), ?_⟩
  refine ⟨cf.grown_set (unhide S).1 (by omega), .inr ⟨1, 0, unhide E, by decide, rfl⟩⟩
/-- what formula leaves, seen from tryText -/
theorem grown_new {w W w1 : World} {r : Nat} (g : w.grownBy W none) (g1 : W.grownBy w1 (some r)) (hr : w.heap.size ≤ r) : w.grownBy w1 none :=
  ⟨g1.os.trans g.os, g1.tape.trans g.tape, g1.output.trans g.output, Nat.le_trans g.size g1.size, fun k hk _ => (g1.block k (Nat.lt_of_lt_of_le hk g.size) (fun e => by have := Option.some.inj e; omega)).trans (g.block k hk (fun e => by cases e))⟩
set_option maxHeartbeats 3200000 in
theorem tryText_fit (s : ByteArray) (w : World) (hE : Env w) (hf : ¬ (12000 < (rd.bytes s).length ∨ (rd.bytes s ≠ [] ∧ (rd.bytes s).getLast? ≠ some 10))) :
    Calls Tryz.prog 28 #[.string s] w fun e w' => TryPost w (readC (rd.bytes s)) e w' := by
  obtain ⟨hA, hends, hlen⟩ := readC_fit hf
  rw [rd.bytes_len] at hlen
  have hmf : ∀ (fn : Fn) (first cap : Array Value) (w : World), (Instr.makeFunc fn first cap).run Tryz.prog w = .ok (.func fn first cap) w := fun _ _ _ _ => rfl
  have hl' : ¬ (12000 : Int) < (s.size : Int) := by omega
  have CF := hide (fun (W : World) (g : w.grownBy W none) (hR : Rdr W (w.heap.size + 1 + 1) s 0) => formula w (w.heap.size + 1 + 1) s 0 W hE (below_of g) (by omega) hR hends (by omega) (by omega))
  rw [← hA] at CF
  have CX := hide (fun (h0 : ¬ rd.bytes s = []) w => Tryz.strings_HasSuffix s ⟨#[10]⟩ w (by omega))
  have hsf : Hid (∀ h0 : ¬ rd.bytes s = [], Lib.hasSuffix s.data.toList (⟨#[10]⟩ : ByteArray).data.toList = true) := hide (fun h0 => (suffix10 _ h0).trans (decide_eq_true (hends.resolve_left h0)))
  clear hA hends hE hf
  generalize readC (rd.bytes s) = A at *
  by_cases h0 : rd.bytes s = []
  · have hn : (s.toList == []) = true := by rw [rd.toList_bytes, h0]; rfl
    clear hsf CX h0
    go_enter_defers Tryz.func28, Tryz.ntmps28
    go_wp2_with fail
    obtain ⟨W, hW⟩ : ∃ W, ((w.alloc (.cells #[.int .i64 0, .slice none 0 0] 26)).alloc (.cells #[.nilIface] 44)).alloc (.cells #[.string s, .int .i64 0] 87) = W := ⟨_, rfl⟩
    have S := hide (start s w W hW)
    rw [hW]
    clear hW
    refine (unhide CF W (unhide S).1 (unhide S).2.2.1).mono ?_
    rintro e w1 ⟨g1, ⟨u, hA, rfl, ho⟩ | ⟨c, k, hA, hc, rfl⟩⟩
    · obtain ⟨a, cap, hu⟩ := ho.len
      subst hu
      have b1 := (unhide S).2.1.by g1 (fun e => by have := Option.some.inj e; omega)
      have hWs := (unhide S).2.2.1.lt
      have HWg := hide g1.size
      have y0 := b1.c0
      have y1 := b1.c1
      have f0 := b1.f 0
      have f1 := b1.f 1
      have z0 : w1.cell? ⟨w.heap.size + 1, 0, none⟩ = some .nilIface := (World.cell?_of_block (g1.block (w.heap.size + 1) (by omega) (fun e => by have := Option.some.inj e; omega))).trans (unhide S).2.2.2.1
      have zf : w1.frozen? ⟨w.heap.size + 1, 0, none⟩ = false := (World.frozen?_of_block (g1.block (w.heap.size + 1) (by omega) (fun e => by have := Option.some.inj e; omega))).trans (unhide S).2.2.2.2
      have GG := hide (grown_new (unhide S).1 g1 (by omega))
      have OO := hide ho
      have BB := hide b1
      have HA := hide hA
      clear ho g1 b1 hA CF
      go_wp2_with fail
      refine leaves_cons (f := 53) (args := #[.pointer (some ⟨w.heap.size + 1, 0, none⟩)]) (by simp) (by simp [go_sem]) ?_
      refine (catch_idle ⟨w.heap.size + 1, 0, none⟩ _).mono ?_
      rintro e u' w'' ⟨rfl, rfl, rfl⟩
      have hb1 := (unhide BB).lt
      have hsW := (unhide S).1.size
      have g2 := sl.grown_trans' (sl.grown_setCell w1 w.heap.size 0 (.int .i64 A.n)) (sl.grown_setCell (w1.setCell ⟨w.heap.size, 0, none⟩ (.int .i64 A.n)) w.heap.size 1 (.slice a A.cs.length cap))
      have z1 : ((w1.setCell ⟨w.heap.size, 0, none⟩ (.int .i64 A.n)).setCell ⟨w.heap.size, 1, none⟩ (.slice a A.cs.length cap)).cell? ⟨w.heap.size + 1, 0, none⟩ = some .nilIface := (World.cell?_of_block (g2.block (w.heap.size + 1) (by have := unhide HWg; omega) (fun e => by have := Option.some.inj e; omega))).trans z0
      refine ⟨_, ret_two rfl rfl ((((unhide BB).set0 (.int .i64 A.n)).set1 (.slice a A.cs.length cap)).setO (by omega)) (World.cell?_setCell_same _ _ _ z1), ?_⟩
      refine ⟨cf.grown_set (cf.grown_set (cf.grown_set (unhide GG) (by omega)) (by omega)) (by omega), .inl ⟨.slice a A.cs.length cap, unhide HA, rfl, ?_⟩⟩
      rw [cf.size_set, cf.size_set, cf.size_set]
      exact (cf.ownS_set (cf.ownS_set (cf.ownS_set (unhide OO) (.inl (by omega))) (.inl (by omega))) (.inl (by omega))).sub hsW (Nat.le_refl _)
    · have b1 := (unhide S).2.1.by g1 (fun e => by have := Option.some.inj e; omega)
      have hWs := (unhide S).2.2.1.lt
      have z0 : w1.cell? ⟨w.heap.size + 1, 0, none⟩ = some .nilIface := (World.cell?_of_block (g1.block (w.heap.size + 1) (by omega) (fun e => by have := Option.some.inj e; omega))).trans (unhide S).2.2.2.1
      have zf : w1.frozen? ⟨w.heap.size + 1, 0, none⟩ = false := (World.frozen?_of_block (g1.block (w.heap.size + 1) (by omega) (fun e => by have := Option.some.inj e; omega))).trans (unhide S).2.2.2.2
      refine leaves_cons (f := 53) (args := #[.pointer (some ⟨w.heap.size + 1, 0, none⟩)]) (by simp) (by simp [go_sem]) ?_
      refine (catch_panicking ⟨w.heap.size + 1, 0, none⟩ c (k : Int) .nilIface [] _ z0 zf).mono ?_
      rintro e u' w'' ⟨rfl, rfl, rfl⟩
      simp [Leaves, settle]
      refine ⟨_, ret_two rfl rfl (b1.setO (by omega)) (World.cell?_setCell_same _ _ _ z0), ?_⟩
      refine ⟨cf.grown_set (grown_new (unhide S).1 g1 (by omega)) (by omega), .inr ⟨c, k, hA, hc, rfl⟩⟩
  · have hn : (s.toList == []) = false := by rw [rd.toList_bytes]; exact beq_eq_false_iff_ne.2 h0
    have CY := hide (unhide CX h0)
    rw [unhide hsf h0] at CY
    clear hsf CX h0
    go_enter_defers Tryz.func28, Tryz.ntmps28
    go_wp2_with fail
    obtain ⟨W, hW⟩ : ∃ W, ((w.alloc (.cells #[.int .i64 0, .slice none 0 0] 26)).alloc (.cells #[.nilIface] 44)).alloc (.cells #[.string s, .int .i64 0] 87) = W := ⟨_, rfl⟩
    have S := hide (start s w W hW)
    rw [hW]
    clear hW
    refine (unhide CY W).mono ?_; rintro e w2 ⟨rfl, hw⟩
    have hw' := hw.symm; clear hw; subst hw'
    go_wp2_with fail
    refine (unhide CF W (unhide S).1 (unhide S).2.2.1).mono ?_
    rintro e w1 ⟨g1, ⟨u, hA, rfl, ho⟩ | ⟨c, k, hA, hc, rfl⟩⟩
    · obtain ⟨a, cap, hu⟩ := ho.len
      subst hu
      have b1 := (unhide S).2.1.by g1 (fun e => by have := Option.some.inj e; omega)
      have hWs := (unhide S).2.2.1.lt
      have HWg := hide g1.size
      have y0 := b1.c0
      have y1 := b1.c1
      have f0 := b1.f 0
      have f1 := b1.f 1
      have z0 : w1.cell? ⟨w.heap.size + 1, 0, none⟩ = some .nilIface := (World.cell?_of_block (g1.block (w.heap.size + 1) (by omega) (fun e => by have := Option.some.inj e; omega))).trans (unhide S).2.2.2.1
      have zf : w1.frozen? ⟨w.heap.size + 1, 0, none⟩ = false := (World.frozen?_of_block (g1.block (w.heap.size + 1) (by omega) (fun e => by have := Option.some.inj e; omega))).trans (unhide S).2.2.2.2
      have GG := hide (grown_new (unhide S).1 g1 (by omega))
      have OO := hide ho
      have BB := hide b1
      have HA := hide hA
      clear ho g1 b1 hA CF
      go_wp2_with fail
      refine leaves_cons (f := 53) (args := #[.pointer (some ⟨w.heap.size + 1, 0, none⟩)]) (by simp) (by simp [go_sem]) ?_
      refine (catch_idle ⟨w.heap.size + 1, 0, none⟩ _).mono ?_
      rintro e u' w'' ⟨rfl, rfl, rfl⟩
      have hb1 := (unhide BB).lt
      have hsW := (unhide S).1.size
      have g2 := sl.grown_trans' (sl.grown_setCell w1 w.heap.size 0 (.int .i64 A.n)) (sl.grown_setCell (w1.setCell ⟨w.heap.size, 0, none⟩ (.int .i64 A.n)) w.heap.size 1 (.slice a A.cs.length cap))
      have z1 : ((w1.setCell ⟨w.heap.size, 0, none⟩ (.int .i64 A.n)).setCell ⟨w.heap.size, 1, none⟩ (.slice a A.cs.length cap)).cell? ⟨w.heap.size + 1, 0, none⟩ = some .nilIface := (World.cell?_of_block (g2.block (w.heap.size + 1) (by have := unhide HWg; omega) (fun e => by have := Option.some.inj e; omega))).trans z0
      refine ⟨_, ret_two rfl rfl ((((unhide BB).set0 (.int .i64 A.n)).set1 (.slice a A.cs.length cap)).setO (by omega)) (World.cell?_setCell_same _ _ _ z1), ?_⟩
      refine ⟨cf.grown_set (cf.grown_set (cf.grown_set (unhide GG) (by omega)) (by omega)) (by omega), .inl ⟨.slice a A.cs.length cap, unhide HA, rfl, ?_⟩⟩
      rw [cf.size_set, cf.size_set, cf.size_set]
      exact (cf.ownS_set (cf.ownS_set (cf.ownS_set (unhide OO) (.inl (by omega))) (.inl (by omega))) (.inl (by omega))).sub hsW (Nat.le_refl _)
    · have b1 := (unhide S).2.1.by g1 (fun e => by have := Option.some.inj e; omega)
      have hWs := (unhide S).2.2.1.lt
      have z0 : w1.cell? ⟨w.heap.size + 1, 0, none⟩ = some .nilIface := (World.cell?_of_block (g1.block (w.heap.size + 1) (by omega) (fun e => by have := Option.some.inj e; omega))).trans (unhide S).2.2.2.1
      have zf : w1.frozen? ⟨w.heap.size + 1, 0, none⟩ = false := (World.frozen?_of_block (g1.block (w.heap.size + 1) (by omega) (fun e => by have := Option.some.inj e; omega))).trans (unhide S).2.2.2.2
      refine leaves_cons (f := 53) (args := #[.pointer (some ⟨w.heap.size + 1, 0, none⟩)]) (by simp) (by simp [go_sem]) ?_
      refine (catch_panicking ⟨w.heap.size + 1, 0, none⟩ c (k : Int) .nilIface [] _ z0 zf).mono ?_
      rintro e u' w'' ⟨rfl, rfl, rfl⟩
      simp [Leaves, settle]
      refine ⟨_, ret_two rfl rfl (b1.setO (by omega)) (World.cell?_setCell_same _ _ _ z0), ?_⟩
      refine ⟨cf.grown_set (grown_new (unhide S).1 g1 (by omega)) (by omega), .inr ⟨c, k, hA, hc, rfl⟩⟩
theorem tryText (s : ByteArray) (w : World) (hE : Env w) : Calls Tryz.prog 28 #[.string s] w fun e w' => TryPost w (readC (rd.bytes s)) e w' := by
  by_cases hf : 12000 < (rd.bytes s).length ∨ (rd.bytes s ≠ [] ∧ (rd.bytes s).getLast? ≠ some 10)
  · by_cases hl : 12000 < s.size
    · exact tryText_long s w hl
    · rcases hf with hf | hf
      · rw [rd.bytes_len] at hf
        exact absurd hf hl
      · exact tryText_open s w (by omega) hf.1 hf.2
  · exact tryText_fit s w hE hf
end Go.Proofs.YtfokbkaommfnoaaGreatDoor.ln
