/- A map of the call's own from numbers to words: made, looked up, written; no condition. -/
import Derived.Test.YtibpnocpafppaaaDoorFg
import Derived.Maps.Own
import Derived.Maps.OwnOps
import Derived.Maps.OwnSet
import Derived.Maps.Views
namespace Go.Proofs.YtibpnocpafppaaaDoor.fh
open Go.ChangeShapes Go.WideShapes Go.ChangeAt Go.RowKit Go.Maps
open Go.Proofs.YtibpnocpafppaaaDoor.sl (hide unhide grown_refl grown_trans)
set_option linter.unusedVariables false
theorem law : Keyed Tryd.prog 3 := int_keyed Tryd.underlying3
theorem zeroS (w : World) : (zeroValue 83).run Tryd.prog w = .ok (.int .u64 0) w := by kernel_rfl
theorem keyOf_v {v : Int} (h : -24 ≤ v ∧ v ≤ 24) : keyOf Tryd.prog 3 (.int .i64 v) = some (.int .i64 v) := keyOf_int_mk Tryd.underlying3 (WalkArith.wf_i64 (by omega))
theorem wf_u (x : Nat) (h : x < 2 ^ 48) : (Lit.int .u64 (x : Int)).wf = true := by
  have e : IntKind.u64.min = 0 := by decide
  have e2 : IntKind.u64.max = 18446744073709551615 := by decide
  simp [Lit.wf, e, e2]
  omega
/-- block b is a map of at most m entries that tells F -/
def MapI (w : World) (b m : Nat) (F : Int → Nat) : Prop :=
  ∃ D : DataW Unit, w.ownsMap Tryd.prog 3 (plainElem Tryd.prog 83) b m D ∧ ∀ v : Int, -24 ≤ v → v ≤ 24 → D.atKey (.int .i64 v) (.lit (.int .u64 0)) = .lit (.int .u64 (F v : Int))
theorem MapI.made (w : World) : MapI (w.alloc (.map #[] 0)) w.heap.size 0 (fun _ => 0) :=
  ⟨.map [], World.ownsMap_made w Tryd.prog 3 (plainElem (H := Unit) Tryd.prog 83), fun v _ _ => rfl⟩
theorem MapI.kept {w w1 : World} {b m : Nat} {F : Int → Nat} {r : Option Nat} (h : MapI w b m F) (g : w.grownBy w1 r) (hr : some b ≠ r) : MapI w1 b m F := by
  obtain ⟨D, h1, h2⟩ := h
  exact ⟨D, h1.kept g hr, h2⟩
theorem MapI.cong {w : World} {b m : Nat} {F G : Int → Nat} (h : MapI w b m F) (e : ∀ v : Int, -24 ≤ v → v ≤ 24 → F v = G v) : MapI w b m G := by
  obtain ⟨D, h1, h2⟩ := h
  exact ⟨D, h1, fun v a c => by rw [h2 v a c, e v a c]⟩
theorem MapI.mono {w : World} {b m m' : Nat} {F : Int → Nat} (h : MapI w b m F) (e : m ≤ m') : MapI w b m' F := by
  obtain ⟨D, h1, h2⟩ := h
  exact ⟨D, h1.mono e, h2⟩
theorem MapI.lt {w : World} {b m : Nat} {F : Int → Nat} (h : MapI w b m F) : b < w.heap.size := by
  obtain ⟨D, ⟨es, cl, hb, _⟩, _⟩ := h
  exact (Array.getElem?_eq_some_iff.1 hb).1
theorem look_law (w : World) {ops : Array Oper} {rest : List Oper} {o : Oper} {a : Act} {Q : Exit → Act → World → Prop}
    (hg : o.guard = none) (m x : Operand) (hop : o.op = Op.lookup 89 m x false) (b n : Nat) (F : Int → Nat) (v : Int) (hv : -24 ≤ v ∧ v ≤ 24)
    (hm : a.eval m = .map (some b)) (h : MapI w b n F) (hx : a.eval x = .int .i64 v)
    (hK : wpList Tryd.prog ops Q rest (a.put o.dst (.int .u64 (F v : Int))) w) : wpList Tryd.prog ops Q (o :: rest) a w := by
  obtain ⟨D, h1, h2⟩ := h
  refine wpList_lookup_own_int w hg m x _ hop 3 83 .u64 law Tryd.underlying89 Tryd.underlying83 (zeroS w) b n D hm h1 _ _ hx (keyOf_v hv) ?_
  intro c hc _
  rw [h2 v hv.1 hv.2] at hc
  injection hc with hc
  injection hc with _ hc
  rw [← hc]
  exact hK
theorem store_law (w : World) {ops : Array Oper} {rest : List Oper} {o : Oper} {a : Act} {Q : Exit → Act → World → Prop}
    (hg : o.guard = none) (m x y : Operand) (hop : o.op = Op.mapUpdate 89 m x y) (b n : Nat) (F : Int → Nat) (v : Int) (S : Nat) (hv : -24 ≤ v ∧ v ≤ 24) (hS : S < 2 ^ 48) (hn : n < maxLen)
    (hm : a.eval m = .map (some b)) (h : MapI w b n F) (hx : a.eval x = .int .i64 v) (hy : a.eval y = .int .u64 (S : Int))
    (hK : ∀ w', MapI w' b (n + 1) (fun u => if u = v then S else F u) → w.grownBy w' (some b) → wpList Tryd.prog ops Q rest (a.put o.dst undef) w') : wpList Tryd.prog ops Q (o :: rest) a w := by
  obtain ⟨D, h1, h2⟩ := h
  refine wpList_mapUpdate_own w hg m x y _ hop 3 83 law Tryd.underlying89 _ b n D hm h1 hn _ _ _ hx hy (keyOf_v hv) _ [] (plainElem_int Tryd.underlying83 (wf_u S hS)) ?_
  intro w' k1 k2
  refine hK w' ⟨_, k1, fun u a c => ?_⟩ k2
  dsimp only
  split
  · rename_i e
    rw [e]
    exact atKey_put_same h1.isMap (show WideAt.IsKeyLit (.int .i64 v) from trivial) _ _
  · rename_i e
    rw [atKey_put_other (fun q => e (by injection q)), h2 u a c]
end Go.Proofs.YtibpnocpafppaaaDoor.fh
