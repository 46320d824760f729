/- CnfJoin: both answer alike; what the law's drawn statements leave; no condition but on sizes. -/
import Derived.Test.YtogidhekdpgggaaJo
import Derived.Deep.RegionHeld3
namespace Go.Proofs.Ytogidhekdpgggaa.jn
open Go.ChangeShapes Go.WideShapes Go.ChangeAt Go.RowKit
open Go.Proofs.Ytogidhekdpgggaa.sl (Sl Own ints marks hide unhide grown_refl grown_trans below_of of_below)
open Go.Proofs.Ytogidhekdpgggaa.css (Sls OwnS Outs tot sumLen marksS)
open Go.Proofs.Ytogidhekdpgggaa.cf (Box)
set_option linter.unusedVariables false

theorem tot_app (A B : List (List Int)) : tot (A ++ B) = tot A + tot B := by
  unfold css.tot
  simp
  omega
theorem both (n m : Int) (LL MM : List (List Int)) (hn : tot LL + tot MM ≤ 1048576) : ∃ (N : Int) (b : Bool) (R : List (List Int)), tot R ≤ 1048576 ∧
    (∀ v u lo hi lo' hi' w, OwnS lo hi w v LL → OwnS lo' hi' w u MM → hi ≤ w.heap.size → hi' ≤ w.heap.size → Calls Try.prog 26 #[.agg #[.int .i64 n, v], .agg #[.int .i64 m, u]] w fun e w' => ∃ q, e = .returned (.tuple #[.agg #[.int .i64 N, q], .bool b]) ∧ OwnS w.heap.size w'.heap.size w' q R ∧ w.grownBy w' none) ∧
    (∀ v u lo hi lo' hi' w, OwnS lo hi w v LL → OwnS lo' hi' w u MM → hi ≤ w.heap.size → hi' ≤ w.heap.size → Calls Try.prog 27 #[.agg #[.int .i64 n, v], .agg #[.int .i64 m, u]] w fun e w' => ∃ q, e = .returned (.tuple #[.agg #[.int .i64 N, q], .bool b]) ∧ OwnS w.heap.size w'.heap.size w' q R ∧ w.grownBy w' none) := by
  refine ⟨joinN n LL m MM, joinB n LL m MM, joinR n LL m MM, ?_, fun v u lo hi lo' hi' w hv hu h1 h2 => specCnfJoin v u n m LL MM lo hi lo' hi' w (by omega) (by omega) hv hu h1 h2, fun v u lo hi lo' hi' w hv hu _ _ => implCnfJoin v u n m LL MM lo hi lo' hi' w (by omega) (by omega) hv hu⟩
  unfold joinR
  split
  · rw [tot_app]
    exact hn
  · exact Nat.zero_le _

/-- a struct variable that holds the answer (N, R), made since W -/
def Fin (W wx : World) (c lo hi : Nat) (N : Int) (x : Value) (R : List (List Int)) : Prop :=
  Box 27 wx c (.int .i64 N) x ∧ OwnS lo hi wx x R ∧ W.grownBy wx none ∧ W.heap.size ≤ lo ∧ W.heap.size ≤ c ∧ (c < lo ∨ hi ≤ c) ∧ hi ≤ wx.heap.size
theorem finA {W w3 : World} {c lo : Nat} {N : Int} {x z y : Value} {R : List (List Int)} (hb : Box 27 w3 c z y) (ho : OwnS lo w3.heap.size w3 x R) (g : W.grownBy w3 none) (hc : W.heap.size ≤ c) (hlo : W.heap.size ≤ lo) (hcl : c < lo) :
    Fin W ((w3.setCell ⟨c, 0, none⟩ (.int .i64 N)).setCell ⟨c, 1, none⟩ x) c lo w3.heap.size N x R :=
  ⟨(hb.set0 (.int .i64 N)).set1 x, gr.ownS_set (gr.ownS_set ho hb) (hb.set0 (.int .i64 N)), cf.grown_set (cf.grown_set g hc) hc, hlo, hc, .inl hcl, by rw [cf.size_set, cf.size_set]; exact Nat.le_refl _⟩
theorem finB {W w3 : World} {lo : Nat} {N : Int} {x : Value} {R : List (List Int)} (ho : OwnS lo w3.heap.size w3 x R) (g : W.grownBy w3 none) (hlo : W.heap.size ≤ lo) :
    Fin W (w3.alloc (.cells #[.int .i64 N, x] 27)) w3.heap.size lo w3.heap.size N x R :=
  ⟨Box.new _ _ _ _, ho.kept (World.grownBy_alloc _ _ _), grown_trans g (World.grownBy_alloc _ _ _), hlo, g.size, .inr (Nat.le_refl _), by rw [World.size_alloc]; omega⟩
end Go.Proofs.Ytogidhekdpgggaa.jn
