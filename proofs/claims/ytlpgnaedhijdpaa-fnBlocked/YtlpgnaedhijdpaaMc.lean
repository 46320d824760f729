/- Blocked of both sides at one formula and list, and what its answer is like. -/
import Derived.Test.YtlpgnaedhijdpaaMb
namespace Go.Proofs.Ytlpgnaedhijdpaa.mb
open Go.ChangeShapes Go.WideShapes Go.ChangeAt Go.RowKit
open Go.Proofs.Ytlpgnaedhijdpaa.sl (Sl)
open Go.Proofs.Ytlpgnaedhijdpaa.css (OwnS tot)
open Go.Proofs.Ytlpgnaedhijdpaa.ct (countI)
set_option linter.unusedVariables false
theorem wrap_in {x : Int} (h1 : -9223372036854775808 ≤ x) (h2 : x < 9223372036854775808) : IntKind.i64.wrap x = x := by
  rw [IntKind.wrap_i64]
  omega
theorem count_bd (m : Nat) (LL : List (List Int)) (hm : m ≤ 14) : -1 ≤ countI (m : Int) LL ∧ countI (m : Int) LL ≤ 16384 := by
  unfold ct.countI
  split
  · have h1 : ct.countN (m : Int).toNat LL ≤ 2 ^ m := by
      unfold ct.countN cnt.cntR
      have := List.length_filter_le (fun k => tr.cnfT (cnt.asg (m : Int).toNat k []) LL) (List.range (2 ^ (m : Int).toNat))
      rw [List.length_range] at this
      exact this
    have h2 : 2 ^ m ≤ 2 ^ 14 := Nat.pow_le_pow_right (by decide) hm
    omega
  · omega
theorem bothB (m : Nat) (LL : List (List Int)) (A : List Int) (hm : m ≤ 14) (ht : tot LL ≤ 1048576) (hA : A.length ≤ 1048576) : ∃ (N : Int) (R : List (List Int)) (b : Bool),
    (b = true → countI (m : Int) R = countI (m : Int) LL - (if tr.trueB (m : Int) LL A then 1 else 0) ∧ tr.trueB (m : Int) R A = false ∧ R.length = LL.length + 1 ∧ N = (m : Int) ∧ tot R ≤ 1048576) ∧
    (∀ v u lo hi w, OwnS lo hi w v LL → Sl w u A → Calls Try.prog 13 #[.agg #[.int .i64 (m : Int), v], u] w fun e w' => ∃ q, e = .returned (.tuple #[.agg #[.int .i64 N, q], .bool b]) ∧ OwnS w.heap.size w'.heap.size w' q R ∧ w.grownBy w' none) ∧
    (∀ v u lo hi w, OwnS lo hi w v LL → hi ≤ w.heap.size → Sl w u A → Calls Try.prog 14 #[.agg #[.int .i64 (m : Int), v], u] w fun e w' => ∃ q, e = .returned (.tuple #[.agg #[.int .i64 N, q], .bool b]) ∧ OwnS w.heap.size w'.heap.size w' q R ∧ w.grownBy w' none) :=
  ⟨bk.blkN (m : Int) LL A, bk.blkR (m : Int) LL A, bk.blkB (m : Int) LL A, fun h => blocked (by omega) h, fun v u lo hi w h1 h2 => bk.implBlocked v u (m : Int) LL A lo hi w ht hA h1 h2, fun v u lo hi w h1 h2 h3 => bk.specBlocked v u (m : Int) LL A lo hi w ht hA h1 h2 h3⟩
end Go.Proofs.Ytlpgnaedhijdpaa.mb
