/- How a certificate that came in is opened (three texts and a truth value); no condition. -/
import Derived.Test.YtjmjgjlldkpemaaLits
import Derived.OpenShut
import Derived.ShutString
import Derived.WalkKit
import Derived.ProofKit
import Derived.ChangeOld
import Derived.Below
namespace Go.Proofs.Ytjmjgjlldkpemaa.yr
open Go.ChangeShapes Go.WideShapes Go.ChangeAt Go.RowKit
set_option linter.unusedVariables false
theorem cellsQ : Try.prog.cellsOf 23 = 4 := by kernel_rfl
theorem cellsS : Try.prog.cellsOf 9 = 1 := by kernel_rfl
theorem cellsB : Try.prog.cellsOf 4 = 1 := by kernel_rfl
set_option maxRecDepth 100000 in
theorem open_cert {H : Type} {enc : TypeId × Value → H} {w : World} {fuel : Nat} {cs : List Value} {x : DataW H × List MemPlace} (h : DataW.trod enc Try.prog w 0 (fun _ => true) true fuel 23 cs = some x) :
    ∃ (d : ByteArray) (sat : Bool) (b m : ByteArray), cs = [.string d, .bool sat, .string b, .string m] ∧ d.size ≤ maxLen ∧ b.size ≤ maxLen ∧ m.size ≤ maxLen := by
  obtain ⟨xs, k, rfl, rfl, hl, hx, hf⟩ := DataW.trod_struct Try.underlying23 h
  rw [cellsQ] at hl
  match cs, hl with
  | [a, b, c, d], _ =>
    have h0 : DataW.trod enc Try.prog w 0 (fun _ => true) true k 9 ((([a, b, c, d] : List Value).drop 0).take (Try.prog.cellsOf 9)) = xs[0]? := hf 0 _ rfl
    have h1 : DataW.trod enc Try.prog w 0 (fun _ => true) true k 4 ((([a, b, c, d] : List Value).drop 1).take (Try.prog.cellsOf 4)) = xs[1]? := hf 1 _ rfl
    have h2 : DataW.trod enc Try.prog w 0 (fun _ => true) true k 9 ((([a, b, c, d] : List Value).drop 2).take (Try.prog.cellsOf 9)) = xs[2]? := hf 2 _ rfl
    have h3 : DataW.trod enc Try.prog w 0 (fun _ => true) true k 9 ((([a, b, c, d] : List Value).drop 3).take (Try.prog.cellsOf 9)) = xs[3]? := hf 3 _ rfl
    rw [cellsS] at h0 h2 h3
    rw [cellsB] at h1
    simp only [List.drop_zero, List.drop_succ_cons, List.take_succ_cons, List.take_zero] at h0 h1 h2 h3
    have hx' : xs.length = 4 := hx
    rw [List.getElem?_eq_getElem (by omega)] at h0 h1 h2 h3
    obtain ⟨s0, e0, _, b0⟩ := DataW.trod_string Try.underlying9 h0
    obtain ⟨s1, e1, _⟩ := DataW.trod_bool Try.underlying4 h1
    obtain ⟨s2, e2, _, b2⟩ := DataW.trod_string Try.underlying9 h2
    obtain ⟨s3, e3, _, b3⟩ := DataW.trod_string Try.underlying9 h3
    simp only [List.cons.injEq, and_true] at e0 e1 e2 e3
    subst e0 e1 e2 e3
    exact ⟨s0, s1, s2, s3, rfl, b0, b2, b3⟩
end Go.Proofs.Ytjmjgjlldkpemaa.yr
