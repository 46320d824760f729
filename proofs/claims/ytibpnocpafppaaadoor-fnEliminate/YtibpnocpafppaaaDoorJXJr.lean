/- A region that draws its order inside a round of range-over-func, whose operations and callees leave the world alone but for draws: one walk of the text's order serves every order. -/
import Derived.Sort.BigQuietIn
import Derived.OwnWalkIn
import Derived.RangeFuncOwn
import Derived.Test.YtibpnocpafppaaaDoorProg
namespace Go.Proofs.YtibpnocpafppaaaDoor.jr
open Go
set_option linter.unusedVariables false
section
variable {F : Fence} {n : Nat} {P : Program} {ops : Array Oper} {md : Region.Mode} {C : World → Prop}
def calm (l : List Oper) : Bool := l.all fun o => match o.op with | .defer _ => false | _ => true
theorem calm_at {l : List Oper} (h : calm l = true) {o : Oper} (ho : o ∈ l) (c : Call) : o.op ≠ .defer c := fun e => by
 have := List.all_eq_true.1 h o ho
 rw [e] at this
 cases this
theorem one_op {o : Oper} {a : Act} {K : Act → Prop} {K' : Act → World → Prop} {Q' : Exit → Act → World → Prop} {w : World} (hd : ∀ c, o.op ≠ .defer c) (hw : C w) (ha : o.askedIn F P a C)
  (h : ∀ b u, C u → K b → K' b u) (hh : o.quietIn F n P a C K) : o.wpIn F n P a w K' Q' := by
 obtain ⟨v, h1, h2⟩ := hh
 have h3 := h1 w hw
 unfold Oper.quietAtIn at h3
 unfold Oper.wpIn
 rw [Oper.semAt_plain F _ _ hd]
 refine ⟨ha w hw, ?_⟩
 generalize (execOp a.eval o).run P w = r at *
 rcases r with ⟨x, u⟩ | ⟨x, u⟩
 ·rcases x with y | _ | ⟨f, args⟩
  all_goals first
   | (obtain ⟨rfl, rfl⟩ := h3; exact h _ _ hw h2)
   | (obtain ⟨rfl, hp, hc⟩ := h3; exact ⟨hp, hc.mono fun e z hz => by obtain ⟨rfl, hz'⟩ := hz; exact h _ _ hz' h2⟩)
   | exact h3.elim
 ·exact h3.elim
theorem any_order {Q : Act → Prop} {Q' : Exit → Act → World → Prop} (hd : ∀ (i : Nat) (o : Oper), ops[i]? = some o → ∀ c, o.op ≠ .defer c) (hQ : ∀ a w, C w → Q a → Q' .normal a w) (fuel : Nat) :
  ∀ (listed : Array Bool) (a : Act) (w : World), C w → wpAnyQIn F n P md ops C Q fuel listed a → wpAnyIn F n P md ops Q' fuel listed a w := by
 induction fuel with
 | zero => exact fun _ _ _ hw h => ⟨h.1, hQ _ _ hw h.2⟩
 | succ fuel ih =>
  intro listed a w hw h
  refine ⟨fun h0 => hQ _ _ hw (h.1 h0), fun i hi => ?_⟩
  have hq := h.2 i hi
  unfold qOpIn at hq
  unfold wpOpIn
  cases ho : ops[i]? with
  | none => rw [ho] at hq; exact ih _ _ _ hw hq
  | some o =>
   rw [ho] at hq
   obtain ⟨ha, hq⟩ := hq
   cases hn : Region.wanted o (yielded ops a.tmps)
   ·rw [hn, if_neg (by decide)] at hq
    show if Region.wanted o (yielded ops a.tmps) then _ else _
    rw [hn, if_neg (by decide)]
    exact ⟨ha w hw, ih _ _ _ hw hq⟩
   ·rw [hn, if_pos rfl] at hq
    show if Region.wanted o (yielded ops a.tmps) then _ else _
    rw [hn, if_pos rfl]
    exact one_op (hd i o ho) hw ha (fun b u hu hb => ih (listed.setIfInBounds i true) b u hu hb) hq
theorem region {id : Nat} {Q : Exit → Act → World → Prop} {a : Act} {w : World} {l : List Oper} (hm : P.follows .mixedOrders = true) (hB : Region.lexB .any l.toArray = true) (hc : calm l = true)
  (h : wpQuietIn F n P l.toArray (fun w' => ∃ k, w' = w.drewN k) (fun a' => ∀ w', (∃ k, w' = w.drewN k) → Q .normal a' w') l a) : (Code.region id l.toArray true).wpIn F n P Q a w := by
 have hB2 := hB
 unfold Region.lexB at hB2
 rw [Bool.and_eq_true] at hB2
 have hl := wpAnyQIn_lex (F := F) (n := n) (P := P) (ops := l.toArray) (md := .any) (C := fun w' => ∃ k, w' = w.drewN k) hB2.1 l 0 (Array.replicate l.length false) a (fun j => by simp) (by simpa using hB2.2) h
 refine wpIn_region_any hm (any_order (C := fun w' => ∃ k, w' = w.drewN k) (Q := fun a' => ∀ w', (∃ k, w' = w.drewN k) → Q .normal a' w') (fun i o ho c => calm_at hc (by
  have := Array.mem_of_getElem? ho
  simpa using this) c) (fun a' w' hw' h' => h' w' hw') _ _ _ _ ⟨1, rfl⟩ ?_)
 simpa using hl
end
end Go.Proofs.YtibpnocpafppaaaDoor.jr
