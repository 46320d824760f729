/- The program's ReadCnf. -/
import Derived.Test.YtfokbkaommfnoaaGreatDoorTy
import Derived.Laws.CopyOwn
namespace Go.Proofs.YtfokbkaommfnoaaGreatDoor.ln
open Go.ChangeShapes Go.WideShapes Go.ChangeAt Go.RowKit
open Go.Proofs.YtfokbkaommfnoaaGreatDoor.sl (hide unhide grown_refl grown_trans of_below below_of Own)
open Go.Proofs.YtfokbkaommfnoaaGreatDoor.rd (Env strLen)
open Go.Proofs.YtfokbkaommfnoaaGreatDoor.cf (Box)
open Go.Proofs.YtfokbkaommfnoaaGreatDoor.css (OwnS)
open Go.Proofs.YtfokbkaommfnoaaGreatDoor.tt (fail)
set_option linter.unusedVariables false
/-- what ReadCnf answers -/
def ReadPost (w : World) (A : Ans) (e : Ending) (w' : World) : Prop :=
  ∃ u, e = .returned (.tuple #[.agg #[.int .i64 A.n, u], .int .i64 A.code, .int .i64 A.line]) ∧ OwnS w.heap.size w'.heap.size w' u A.cs ∧ w.grownBy w' none
theorem ret_three {tmps : Array Value} {w : World} {c : Nat} {x y : Value} (hp : tmps.getD 2 undef = .pointer (some ⟨c, 0, none⟩)) (hb : Box 26 w c x y) :
    (results Tryz.f9 tmps).run Tryz.prog w = .ok (.tuple #[.agg #[x, y], tmps.getD 3 undef, tmps.getD 4 undef]) w := by
  have hr : Tryz.f9.results = #[.cell 2 26, .tmp 3, .tmp 4] := rfl
  have h1 := run_loadVar_row (P := Tryz.prog) w c 26 26 #[x, y] (0, 0) _ hb Tryz.underlying26 rfl cf.sizeCnf
  have h3 : (results Tryz.f9 tmps).run Tryz.prog w = ((asAddr (tmps.getD 2 undef)).run Tryz.prog w).andThen fun a w₁ => ((loadVar 26 a).run Tryz.prog w₁).andThen fun v w₂ => .ok (.tuple #[v, tmps.getD 3 undef, tmps.getD 4 undef]) w₂ := by
    simp only [results, hr]
    simp [Sem.run_bind, Result.andThen]
  rw [h3, hp]
  simp only [asAddr, Sem.run_pure, Result.andThen_ok, h1]
set_option maxHeartbeats 3200000 in
/-- where the text is a formula's -/
theorem readCnf_ok (s : ByteArray) (w : World) (hE : Env w) (h0 : (readC (rd.bytes s)).code = 0) :
    Calls Tryz.prog 9 #[.string s] w fun e w' => ReadPost w (readC (rd.bytes s)) e w' := by
  have gA := World.grownBy_alloc w (.cells #[.int .i64 0, .slice none 0 0] 26) none
  have B0 := hide (Box.new 26 w (.int .i64 0) (.slice none 0 0))
  have C := hide (tryText s _ (hE.kept gA))
  have GA := hide gA
  clear hE gA
  generalize readC (rd.bytes s) = A at *
  go_enter Tryz.func9, Tryz.ntmps9
  go_wp2_with fail
  refine (unhide C).mono ?_
  rintro e w1 ⟨g1, ⟨u, hA, rfl, ho⟩ | ⟨c, k, hA, hc, rfl⟩⟩
  · obtain ⟨a, cap, hu⟩ := ho.len
    subst hu
    have b1 := (unhide B0).kept g1
    have G1 := hide (grown_trans (r := none) (unhide GA) g1)
    have O1 := hide ho
    have B1 := hide b1
    have HA := hide hA
    clear g1 ho b1 hA C
    go_wp2_with fail
    refine (ea.as_nil _ _).mono ?_
    rintro e w2 ⟨rfl, hw⟩
    have gB := grown_trans (r := none) (World.grownBy_alloc w1 (.cells #[.int .i64 A.n, .slice a A.cs.length cap] 26) none) (World.grownBy_alloc _ (.cells #[.int .i64 0, .int .i64 0] 57) none)
    rw [← hw] at gB
    have bf := ((Box.new 26 w1 (.int .i64 A.n) (.slice a A.cs.length cap)).kept (World.grownBy_alloc _ (.cells #[.int .i64 0, .int .i64 0] 57) none))
    rw [← hw] at bf
    have y0 := bf.c0
    have y1 := bf.c1
    have b2 := (unhide B1).kept gB
    have x0 := b2.c0
    have x1 := b2.c1
    have xf0 := b2.f 0
    have xf1 := b2.f 1
    have B2 := hide b2
    have G2 := hide (grown_trans (r := none) (unhide G1) gB)
    have O2 := hide (((unhide O1).kept gB).sub (unhide GA).size gB.size)
    clear hw bf b2 gB
    go_wp2_with fail
    (try simp only [Exit.inBlock, Exit.then])
    refine bodyPost_ret (ret_three rfl (((unhide B2).set0 (.int .i64 A.n)).set1 (.slice a A.cs.length cap))) rfl ?_
    have hA := unhide HA
    refine ⟨.slice a A.cs.length cap, ?_, ?_, cf.grown_set (cf.grown_set (unhide G2) (by omega)) (by omega)⟩
    · rw [hA]
      rfl
    · rw [cf.size_set, cf.size_set]
      exact gr.ownS_set (gr.ownS_set (unhide O2) (unhide B2)) ((unhide B2).set0 _)
  · rw [hA] at h0
    exact absurd h0 hc
set_option maxHeartbeats 3200000 in
/-- where the text is refused -/
theorem readCnf_no (s : ByteArray) (w : World) (hE : Env w) (hg : w.cell? ⟨0, 0, none⟩ = some (.iface 118 (.agg #[.pointer (some ⟨9, 44, none⟩)]))) (hgl : 0 < w.heap.size) (h0 : ¬ (readC (rd.bytes s)).code = 0) :
    Calls Tryz.prog 9 #[.string s] w fun e w' => ReadPost w (readC (rd.bytes s)) e w' := by
  have gA := World.grownBy_alloc w (.cells #[.int .i64 0, .slice none 0 0] 26) none
  have B0 := hide (Box.new 26 w (.int .i64 0) (.slice none 0 0))
  have C := hide (tryText s _ (hE.kept gA))
  have GA := hide gA
  have HG := hide hg
  clear hE gA hg
  generalize readC (rd.bytes s) = A at *
  go_enter Tryz.func9, Tryz.ntmps9
  go_wp2_with fail
  refine (unhide C).mono ?_
  rintro e w1 ⟨g1, ⟨u, hA, rfl, ho⟩ | ⟨c, k, hA, hc, rfl⟩⟩
  · rw [hA] at h0
    exact absurd rfl h0
  · have hlt := ((unhide B0).kept g1).lt
    have B1 := hide ((unhide B0).kept g1)
    have G1 := hide (grown_trans (r := none) (unhide GA) g1)
    have HA := hide hA
    clear g1 hA C
    unfold fail
    go_wp2_with fail
    obtain ⟨W, hW⟩ : ∃ W, ((w1.alloc (.cells #[.int .i64 0, .slice none 0 0] 26)).alloc (.cells #[.int .i64 0, .int .i64 0] 57)) = W := ⟨_, rfl⟩
    have gW : w1.grownBy W none := by rw [← hW]; exact grown_trans (World.grownBy_alloc _ _ none) (World.grownBy_alloc _ _ none)
    have bW : Box 57 W (w1.heap.size + 1) (.int .i64 0) (.int .i64 0) := by
      have h := Box.new 57 (w1.alloc (.cells #[.int .i64 0, .slice none 0 0] 26)) (.int .i64 0) (.int .i64 0)
      rw [World.size_alloc, hW] at h
      exact h
    rw [hW]
    clear hW
    have hgW : W.cell? ⟨0, 0, none⟩ = some (.iface 118 (.agg #[.pointer (some ⟨9, 44, none⟩)])) := (World.cell?_of_block ((grown_trans (r := none) (unhide G1) gW).block 0 hgl (fun e => by cases e))).trans (unhide HG)
    refine (ea.as_hit c k (w1.heap.size + 1) _ _ W hgW bW).mono ?_
    rintro e w2 ⟨rfl, hw⟩
    have hb2 : w1.grownBy w2 none ∧ Box 57 w2 (w1.heap.size + 1) (.int .i64 c) (.int .i64 k) := by
      have gV := grown_trans (r := none) (World.grownBy_alloc W (.cells #[.pointer (some ⟨w1.heap.size + 1, 0, none⟩)] 59) none) (grown_trans (r := none) (World.grownBy_alloc _ (.cells #[.pointer (some ⟨9, 59, none⟩), .pointer (some ⟨W.heap.size, 0, none⟩), .int .u64 150] 94) none) (grown_trans (r := none) (World.grownBy_alloc _ (.cells #[.pointer (some ⟨9, 59, none⟩), .pointer (some ⟨W.heap.size, 0, none⟩), .int .u64 150] 94) none) (World.grownBy_alloc _ (.cells #[.int .i64 c, .int .i64 k] 57) none)))
      rw [hw]
      exact ⟨of_below (below_setRow (below_of (grown_trans (r := none) gW gV)) (by omega) _), setRow_heap _ _ _ _ _ _ (bW.kept gV)⟩
    obtain ⟨g2, bt⟩ := hb2
    have t0 := bt.c0
    have t1 := bt.c1
    have b2 := (unhide B1).kept g2
    have x0 := b2.c0
    have x1 := b2.c1
    have xf0 := b2.f 0
    have xf1 := b2.f 1
    have B2 := hide b2
    have G2 := hide (grown_trans (r := none) (unhide G1) g2)
    have ne1 : ¬ w1.heap.size + 1 = w.heap.size := by omega
    have ne2 : ¬ w.heap.size = w1.heap.size + 1 := by omega
    clear hw bt b2 g2 bW gW hgW HG
    go_wp2_with fail
    go_region
    all_goals go_wp2_with fail
    all_goals
      have gd := cf.grown_drew w2 none
      refine bodyPost_ret (ret_three rfl ((((unhide B2).kept gd).set0 (.int .i64 0)).set1 (.slice none 0 0))) rfl ?_
      have hA := unhide HA
      subst hA
      refine ⟨.slice none 0 0, rfl, ⟨[], rfl, World.ownsRow_nil _ _ _ _, (fun k e => by cases e), (fun p hp => by cases hp), .nil⟩, cf.grown_set (cf.grown_set (grown_trans (r := none) (unhide G2) gd) (by omega)) (by omega)⟩
theorem implReadCnf (s : ByteArray) (w : World) (hE : Env w) (hg : w.cell? ⟨0, 0, none⟩ = some (.iface 118 (.agg #[.pointer (some ⟨9, 44, none⟩)]))) (hgl : 0 < w.heap.size) :
    Calls Tryz.prog 9 #[.string s] w fun e w' => ReadPost w (readC (rd.bytes s)) e w' := by
  by_cases h0 : (readC (rd.bytes s)).code = 0
  · exact readCnf_ok s w hE h0
  · exact readCnf_no s w hE hg hgl h0
end Go.Proofs.YtfokbkaommfnoaaGreatDoor.ln
