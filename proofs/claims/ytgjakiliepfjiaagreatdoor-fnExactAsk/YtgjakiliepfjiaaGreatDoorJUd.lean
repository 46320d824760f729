/- Structs in memory while others are written, and what lay in an elder world; no condition. -/
import Derived.Test.YtgjakiliepfjiaaGreatDoorJOn
import Derived.Test.YtgjakiliepfjiaaGreatDoorJXYb
import Derived.Test.YtgjakiliepfjiaaGreatDoorJUa
import Derived.Deep.RegionHeld3
import Derived.Deep.DeepCutAuto
import Derived.Laws.IdiomStrings
import Derived.Laws.NewBlocks
namespace Go.Proofs.YtgjakiliepfjiaaGreatDoor.ua
open Go.ChangeShapes Go.WideShapes Go.ChangeAt Go.RowKit
open css (Outs)
open yb (Box4)
open cf (Box)
set_option linter.unusedVariables false
theorem box_outs {t : TypeId} {w w' : World} {c lo hi : Nat} {x y : Value} (h : Box t w c x y) (o : Outs lo hi w w') (d : c < lo ∨ hi ≤ c) : Box t w' c x y := (o.block c h.lt d).trans h
theorem box4_outs {t : TypeId} {w w' : World} {c lo hi : Nat} {x y z q : Value} (h : Box4 t w c x y z q) (o : Outs lo hi w w') (d : c < lo ∨ hi ≤ c) : Box4 t w' c x y z q := (o.block c h.lt d).trans h
def Old (m : Nat) (a w : World) : Prop := a.heap.size = m ∧ Below m a w
theorem Old.start (w : World) : Old w.heap.size w w := ⟨rfl, Below.refl _ _⟩
theorem Old.none {m : Nat} {a w w' : World} (h : Old m a w) (g : w.grownBy w' none) : Old m a w' := by
 obtain ⟨rfl, b⟩ := h
 exact ⟨rfl, sl.below_none b g⟩
theorem Old.outs {m lo hi : Nat} {a w w' : World} (h : Old m a w) (hlo : m ≤ lo) (o : Outs lo hi w w') : Old m a w' := by
 obtain ⟨rfl, b⟩ := h
 exact ⟨rfl, css.below_outs b hlo o⟩
theorem Old.grown {m : Nat} {a w : World} (h : Old m a w) : a.grownBy w Option.none := by
 obtain ⟨rfl, b⟩ := h
 exact sl.of_below b
end Go.Proofs.YtgjakiliepfjiaaGreatDoor.ua
namespace Go.Proofs.YtgjakiliepfjiaaGreatDoor.ua
open Go.ChangeShapes Go.WideShapes Go.ChangeAt Go.RowKit
open sl (Sl Own ints marks hide unhide ret_int ret_bool grown_refl grown_trans grown_drewN below_of of_below)
open css (Outs outs_trans outs_none outs_by outs_refl own_mono own_sub own_outs own_kind)
open yb (Box4)
open cf (Box)
set_option linter.unusedVariables false
theorem eqKnown (u v : Value) (k : Kn) (w : World) (hL : k.vals.length ≤ 1048576) (hu : Sl w u k.vals) (hv : Sl w v k.vals) :
  Calls Tryz.prog 19 #[.agg #[.string k.dg, .bool k.sat, u, .int .i64 k.cost], .agg #[.string k.dg, .bool k.sat, v, .int .i64 k.cost]] w fun e w' => e = .returned (.bool true) ∧ w.grownBy w' none := by
 have g0 : w.grownBy ((w.alloc (.cells #[.string k.dg, .bool k.sat, u, .int .i64 k.cost] 36)).alloc (.cells #[.string k.dg, .bool k.sat, v, .int .i64 k.cost] 36)) none := grown_trans (World.grownBy_alloc _ _ _) (World.grownBy_alloc _ _ _)
 have C := hide (sl.eqIntS u v k.vals _ hL (hu.kept g0 (.inl rfl)) (hv.kept g0 (.inl rfl)))
 have G := hide g0
 clear hu hv g0
 go_enter Tryz.func19, Tryz.ntmps19
 go_wp2_with fail
 refine (unhide C).mono ?_; rintro e w1 ⟨rfl, g1⟩
 have R := hide (grown_trans (r := none) (unhide G) g1)
 have b0 := ((Box4.new 36 w (.string k.dg) (.bool k.sat) u (.int .i64 k.cost)).kept (World.grownBy_alloc _ (.cells #[.string k.dg, .bool k.sat, v, .int .i64 k.cost] 36) none)).kept g1
 have b1 := (Box4.new 36 (w.alloc (.cells #[.string k.dg, .bool k.sat, u, .int .i64 k.cost] 36)) (.string k.dg) (.bool k.sat) v (.int .i64 k.cost)).kept g1
 have x3 := b0.c3
 have y3 := b1.c3
 simp only [World.size_alloc] at y3
 clear g1 G C b0 b1
 go_wp2_with fail
 go_ret
 exact ⟨rfl, unhide R⟩
end Go.Proofs.YtgjakiliepfjiaaGreatDoor.ua
namespace Go.Proofs.YtgjakiliepfjiaaGreatDoor.ua
open Go.ChangeShapes Go.WideShapes Go.ChangeAt Go.RowKit
open sl (Sl Own ints marks hide unhide ret_int ret_bool grown_refl grown_trans grown_drewN below_of of_below)
open css (Outs outs_trans outs_none outs_by outs_refl own_mono own_sub own_outs own_kind)
open yb (Box4)
open cf (Box)
set_option linter.unusedVariables false
theorem markKnown (u : Value) (x : Kn) (k : Int) (lo hi : Nat) (w : World) (hL : x.vals.length ≤ 1048576) (k0 : 0 ≤ k) (k1 : k ≤ 1099511627776) (ho : Own lo hi w u x.vals) :
  Calls Tryz.prog 22 #[.agg #[.string x.dg, .bool x.sat, u, .int .i64 x.cost], .int .i64 k] w fun e w' => e = .returned (.int .i64 (k + (x.vals.length : Int))) ∧ Own lo hi w' u (marks k x.vals.length) ∧ Outs lo hi w w' := by
 have ga := World.grownBy_alloc w (.cells #[.string x.dg, .bool x.sat, u, .int .i64 x.cost] 36) none
 have C := hide (sl.markIntS u x.vals k lo _ hL k0 k1 (ho.kept ga).1)
 have G := hide (outs_none (lo := lo) (hi := hi) ga)
 have HB := hide (fun q (e : u.ownBlock = some q) => And.intro (ho.1.lt q e).1 (ho.2 q e))
 clear ho ga
 go_enter Tryz.func22, Tryz.ntmps22
 go_wp2_with fail
 refine (unhide C).mono ?_; rintro e w1 ⟨rfl, o1, g1⟩
 have R : Hid (Own lo hi w1 u (marks k x.vals.length) ∧ Outs lo hi w w1) := ⟨⟨by rw [sl.marks_length]; exact o1, fun q e => (unhide HB q e).2⟩, outs_trans (unhide G) (outs_by g1 (unhide HB))⟩
 clear o1 g1 G C HB
 go_wp2_with fail
 go_ret
 exact ⟨rfl, unhide R⟩
theorem heldKnown (u : Value) (d : ByteArray) (sat : Bool) (n : Nat) (cost : Int) (k : Int) (w : World) (hn : n ≤ 1048576) (k0 : 0 ≤ k) (k1 : k ≤ 1099511627776) (hv : Sl w u (marks k n)) :
  Calls Tryz.prog 23 #[.agg #[.string d, .bool sat, u, .int .i64 cost], .int .i64 k] w fun e w' => e = .returned (.int .i64 (k + (n : Int))) ∧ w.grownBy w' none := by
 have ga := World.grownBy_alloc w (.cells #[.string d, .bool sat, u, .int .i64 cost] 36) none
 have C := hide (sl.heldIntS u n k _ hn k0 k1 (hv.kept ga (.inl rfl)))
 have G := hide ga
 have hq : ¬ k + (n : Int) < 0 := by omega
 clear hv ga
 go_enter Tryz.func23, Tryz.ntmps23
 go_wp2_with fail
 refine (unhide C).mono ?_; rintro e w1 ⟨rfl, hw⟩; have hw' := hw.symm; clear hw; subst hw'
 go_wp2_with fail
 go_ret
 exact ⟨rfl, unhide G⟩
end Go.Proofs.YtgjakiliepfjiaaGreatDoor.ua
