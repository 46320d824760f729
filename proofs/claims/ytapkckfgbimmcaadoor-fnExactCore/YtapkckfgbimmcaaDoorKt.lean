/- The iterator of the program's answers: no round, or one at the least answer, which leaves it. -/
import Derived.Test.YtapkckfgbimmcaaDoorKs
import Derived.Laws.EntriesVeiled
namespace Go.Proofs.YtapkckfgbimmcaaDoor.ks
open Go.RowKit Go.Shelf
open Go.Proofs.YtapkckfgbimmcaaDoor.srt (Tab swp oppN)
open Go.Proofs.YtapkckfgbimmcaaDoor.bset (placeN setOf)
open Go.Proofs.YtapkckfgbimmcaaDoor.kc (cset)
open Go.Proofs.YtapkckfgbimmcaaDoor.kd (SV Slv LostE lost)
open Go.Proofs.YtapkckfgbimmcaaDoor.km (wdB plc Sat Conf Path left_)
open Go.Proofs.YtapkckfgbimmcaaDoor.lq (holds)
open Go.Proofs.YtapkckfgbimmcaaDoor.sl (hide unhide grown_refl grown_trans)
set_option linter.unusedVariables false
attribute [local go_sem] Oper.semAt_some
theorem path_nil (n : Nat) (Ss : List Nat) (W : Nat) (E : Nat → Nat) : Path n Ss W E [] := ⟨Nat.zero_le _, fun x hx => (by cases hx), fun b hb => (by simp [km.wdB] at hb), fun u hu => absurd hu (Nat.not_lt_zero _)⟩
theorem word_nil : Word [] 0 := ⟨by decide, fun b => by simp [km.wdB]⟩
theorem closed_nil (Ss : List Nat) : Closed Ss [] 0 := ⟨by decide, fun i => by simp [km.wdB]⟩
set_option maxRecDepth 100000 in
set_option maxHeartbeats 4000000 in
theorem iter (n : Nat) (LL : List (List Int)) (a : List Int) (s : SV) (Bs Bw c lp m : Nat) (hR : Right n LL s) (ha : ∀ x ∈ a, ok.litIn (n : Int) x = true) (W : World) (Jx : List Int → World → Prop)
    (hJ : ∀ x A A', Jx x A → Below W.heap.size A A' → Jx x A')
    (hY : ∀ m x P W1, Word x P → holds LL a x = true → Below W.heap.size W W1 → YieldAt Fence.wide m Tryd.prog lp #[.int .u64 (P : Int)] W1 fun e W' =>
      e = .returned (.bool false) ∧ Jx x W' ∧ (∀ k, (W.heap.size ≤ k ∨ k = Bs ∨ k = c) → k < W1.heap.size → W'.heap[k]? = W1.heap[k]?))
    (hs : Boxed W Bs 61 (.pointer (some ⟨c, 0, none⟩))) (hw : Boxed W Bw 59 (.int .u64 (setOf a : Int))) (hS : Slv W c s) (hT : Tab W) :
    CallsIn Fence.wide m Tryd.prog 108 #[.func (.yield lp) #[] #[], .pointer (some ⟨Bs, 0, none⟩), .pointer (some ⟨Bw, 0, none⟩)] W fun e W' => (∃ v, e = .returned v) ∧
      ((left_ n LL a [] = none ∧ W.grownBy W' none) ∨ ∃ l, left_ n LL a [] = some l ∧ Jx l W') := by
  obtain ⟨B, hBd⟩ : ∃ B : Bxs, B = ⟨Bs, W.heap.size, W.heap.size + 1, Bw, W.heap.size + 1 + 1⟩ := ⟨_, rfl⟩
  have g3 : W.grownBy (((W.alloc (.cells #[.func (.yield lp) #[] #[]] 92)).alloc (.cells #[.bool false] 4)).alloc (.cells #[fnV B] 109)) none := grown_trans (grown_trans (r := none) (World.grownBy_alloc _ _ none) (World.grownBy_alloc _ _ none)) (World.grownBy_alloc _ _ none)
  have b1 := ((Boxed.new W 92 (.func (.yield lp) #[] #[])).alloc (.cells #[.bool false] 4)).alloc (.cells #[fnV B] 109)
  have b2 := (Boxed.new (W.alloc (.cells #[.func (.yield lp) #[] #[]] 92)) 4 (.bool false)).alloc (.cells #[fnV B] 109)
  rw [World.size_alloc] at b2
  have b3 := Boxed.new ((W.alloc (.cells #[.func (.yield lp) #[] #[]] 92)).alloc (.cells #[.bool false] 4)) 109 (fnV B)
  rw [World.size_alloc, World.size_alloc] at b3
  have hE : Env (((W.alloc (.cells #[.func (.yield lp) #[] #[]] 92)).alloc (.cells #[.bool false] 4)).alloc (.cells #[fnV B] 109)) B c lp s (setOf a) false := by
    subst hBd
    exact ⟨hs.kept g3 (fun e => by cases e), b1, b2, hw.kept g3 (fun e => by cases e), b3, hS.kept g3, hT.below (sl.below_of g3)⟩
  have hsl := hs.lt
  have hcl := hS.lt
  have C := search n LL a s B c lp hR ha W Jx hJ (by rw [hBd]; show W.heap.size ≤ W.heap.size + 1; omega) (by rw [hBd]; show W.heap.size ≤ W.heap.size + 1 + 1; omega) (by rw [hBd]; show W.heap.size + 1 + 1 ≠ W.heap.size + 1; omega) (by rw [hBd]; show Bs ≠ W.heap.size + 1; omega) (by rw [hBd]; show c ≠ W.heap.size + 1; omega)
    (by rw [hBd]; exact hY) (n + 1) (m - 1) [] 0 0 _ (by show n - 0 < n + 1; omega) (path_nil _ _ _ _) word_nil (closed_nil _) (sl.below_of g3) hE
  subst hBd
  have hmf : ∀ (fn : Fn) (first cap : Array Value) (w : World), (Instr.makeFunc fn first cap).run Tryd.prog w = .ok (.func fn first cap) w := fun _ _ _ _ => rfl
  have n0 := Boxed.new ((W.alloc (.cells #[.func (.yield lp) #[] #[]] 92)).alloc (.cells #[.bool false] 4)) 109 .nilFunc
  rw [World.size_alloc, World.size_alloc] at n0
  have n1 := n0.cell
  have n2 := n0.frozen
  clear n0
  have CC := hide C
  have G3 := hide g3
  clear C hE b1 b2 b3 hY g3 hs hw hS hT
  refine callsIn_of_wp Tryd.func108 rfl trivial ?_ rfl
  simp only [Tryd.ntmps108, List.size_toArray, List.length_cons, List.length_nil, Nat.reduceAdd, Nat.reduceSub, Array.replicate_succ, Array.replicate_zero, List.push_toArray, List.append_toArray, List.nil_append, List.cons_append]
  have FIN : ∀ (e : Ending) (w5 : World), SrchE (((W.alloc (.cells #[.func (.yield lp) #[] #[]] 92)).alloc (.cells #[.bool false] 4)).alloc (.cells #[fnV ⟨Bs, W.heap.size, W.heap.size + 1, Bw, W.heap.size + 1 + 1⟩] 109)) W.heap.size c n LL a [] ⟨Bs, W.heap.size, W.heap.size + 1, Bw, W.heap.size + 1 + 1⟩ Jx e w5 →
      ∃ v, e = .returned v ∧ Hid ((left_ n LL a [] = none ∧ W.grownBy w5 none) ∨ ∃ l, left_ n LL a [] = some l ∧ Jx l w5) := by
    rintro e w5 ⟨r, hr, rfl, hh⟩
    refine ⟨_, rfl, ?_⟩
    rcases hh with ⟨h1, -, h3⟩ | ⟨l, h1, h2, -⟩
    · exact .inl ⟨h1, grown_trans (unhide G3) h3⟩
    · exact .inr ⟨l, h1, by simpa using h2⟩
  have FI := hide FIN
  clear FIN
  gi_wp2_with fail
  refine ⟨trivial, (fun h => by cases h), ?_⟩
  refine (unhide CC).mono ?_
  intro e w5 hse
  obtain ⟨v, rfl, FF⟩ := unhide FI e w5 hse
  clear hse
  gi_wp2
  first
    | exact end0 rfl rfl ⟨⟨_, rfl⟩, unhide FF⟩
    | (go_end0; exact ⟨⟨_, rfl⟩, unhide FF⟩)
end Go.Proofs.YtapkckfgbimmcaaDoor.ks
