/- Clauses as words of bits: what setsOf and meetsAll answer at every formula that holds at most 2^20 values; no other condition. -/
import Derived.Test.YtjmjgjlldkpemaaDoorCt
import Derived.Test.YtjmjgjlldkpemaaDoorSet
namespace Go.Proofs.YtjmjgjlldkpemaaDoor.su
open Go.ChangeShapes Go.WideShapes Go.ChangeAt Go.RowKit
open Go.Proofs.YtjmjgjlldkpemaaDoor.sl (Sl Own ints hide unhide ret_int ret_bool grown_refl grown_trans grown_drewN below_of of_below)
open Go.Proofs.YtjmjgjlldkpemaaDoor.css (Sls tot)
open Go.Proofs.YtjmjgjlldkpemaaDoor.bset (setOf)
set_option linter.unusedVariables false

theorem infoU : (Tryd.prog.info? 58).map (fun i => (i.zero, i.size, i.bytes)) = some (some (.int .u64 0), 1, 8) := by kernel_rfl
/-- the cells of a list of words -/
def words (S : List Nat) : List Value := S.map fun (s : Nat) => Value.int .u64 (s : Int)
/-- v is a slice of words of the call's own, made since w -/
def MadeU (w w1 : World) (v : Value) (S : List Nat) : Prop := w1.ownsRow w.heap.size 58 1 v S.length (words S) ∧ w.grownBy w1 none
theorem words_one (S : List Nat) : ∀ u ∈ words S, u.oneCell' = true := by
  intro u hu
  unfold words at hu
  rw [List.mem_map] at hu
  obtain ⟨s, _, rfl⟩ := hu
  rfl
theorem appendU {ops : Array Oper} {rest : List Oper} {o : Oper} {a : Act} {Q : Exit → Act → World → Prop} {w wr : World} {v : Value} {S : List Nat} {s : Nat}
    (hm : MadeU w wr v S) (hS : S.length ≤ 4194304) (hgd : o.guard = none) (p x : Operand)
    (ho : o.op = .call { callee := .builtin .append, args := #[p, x], argTypes := #[55, 55] }) (hs : a.eval p = v) (hx : a.eval x = .slice (some ⟨wr.heap.size, 0, none⟩) 1 1)
    (h : ∀ v' w1, MadeU w w1 v' (S ++ [s]) → wpList Tryd.prog ops Q rest (a.put o.dst v') w1) :
    wpList Tryd.prog ops Q (o :: rest) a (wr.alloc (.cells #[.int .u64 (s : Int)] 58)) := by
  obtain ⟨i0, hi, hz0, hz1, hz2⟩ := info_parts infoU
  obtain ⟨hown, hg⟩ := hm
  have hsz := hg.size
  refine wpList_append_own _ hgd p x 55 ho w.heap.size 58 i0 (.int .u64 0) 1 8 Tryd.underlying55 hi hz0 hz1 hz2 rfl (by decide) v S.length (words S) hs (hown.alloc _) ⟨wr.heap.size, 0, none⟩ 1 1 [.int .u64 (s : Int)] hx rfl ?_ ?_ ?_ ?_ ?_ ?_
  · intro j u hj
    match j, hj with
    | 0, hj => simp at hj; subst hj; simp [Addr.add]
  · intro u hu
    simp at hu
    subst hu
    rfl
  · unfold maxLen
    omega
  · omega
  · simp
    omega
  · intro v' w1 hown' hgrow _
    refine h v' w1 ⟨?_, app.grown_app hg hown hgrow⟩
    rw [List.length_append]
    have e : words (S ++ [s]) = words S ++ [.int .u64 (s : Int)] := by simp [words]
    rw [e]
    exact hown'

/-- whether each word has a bit of another -/
def meets (S : List Nat) (t : Nat) : Bool := S.all fun s => !(s &&& t == 0)
theorem and_zero (s t : Nat) (hs : s < 2 ^ 48) (ht : t < 2 ^ 48) : (bits .and .u64 (s : Int) (t : Int) == 0) = (s &&& t == 0) := by
  rw [u64_and_nat s t (by omega) (by omega)]
  rw [Bool.eq_iff_iff]
  simp
end Go.Proofs.YtjmjgjlldkpemaaDoor.su
