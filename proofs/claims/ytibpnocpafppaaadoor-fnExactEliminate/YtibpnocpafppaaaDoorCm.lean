/- Plain mathematics of CnfSort: an order that is whole, insertion without repeats, and the one list in order that has given members; no condition. -/
import Derived.Test.YtibpnocpafppaaaDoorRl
namespace Go.Proofs.YtibpnocpafppaaaDoor.cs
open Go.Proofs.YtibpnocpafppaaaDoor.lits (okB okB_iff placeI befB placeI_bd)
open Go.Proofs.YtibpnocpafppaaaDoor.le (lessL)
open Go.Proofs.YtibpnocpafppaaaDoor.bset (setOf)
open Go.Proofs.YtibpnocpafppaaaDoor.srt (srt litI okTo)
set_option linter.unusedVariables false

/-- a strict order that is whole on what P says -/
structure Ord {α : Type} (lt : α → α → Bool) (P : α → Prop) : Prop where
  irr : ∀ x, lt x x = false
  tr : ∀ x y z, P x → P y → P z → lt x y = true → lt y z = true → lt x z = true
  tot : ∀ x y, P x → P y → x ≠ y → lt x y = true ∨ lt y x = true
/-- in order, each once -/
def Up {α : Type} (lt : α → α → Bool) (M : List α) : Prop := M.Pairwise fun a b => lt a b = true
theorem same {α : Type} {lt : α → α → Bool} {P : α → Prop} (o : Ord lt P) : ∀ (A B : List α), Up lt A → Up lt B → (∀ x ∈ A, P x) → (∀ x ∈ B, P x) → (∀ x, x ∈ A ↔ x ∈ B) → A = B := by
  intro A
  induction A with
  | nil =>
    intro B _ _ _ _ h
    cases B with
    | nil => rfl
    | cons b B => exact absurd ((h b).2 (by simp)) (by simp)
  | cons a A ih =>
    intro B hA hB pA pB h
    cases B with
    | nil => exact absurd ((h a).1 (by simp)) (by simp)
    | cons b B =>
      obtain ⟨a1, a2⟩ := List.pairwise_cons.1 hA
      obtain ⟨b1, b2⟩ := List.pairwise_cons.1 hB
      have e : a = b := by
        apply Classical.byContradiction
        intro hne
        have h1 : a ∈ B := by
          rcases List.mem_cons.1 ((h a).1 (by simp)) with e | e
          · exact absurd e hne
          · exact e
        have h2 : b ∈ A := by
          rcases List.mem_cons.1 ((h b).2 (by simp)) with e | e
          · exact absurd e.symm hne
          · exact e
        have := o.tr a b a (pA a (by simp)) (pB b (by simp)) (pA a (by simp)) (a1 b h2) (b1 a h1)
        rw [o.irr] at this
        cases this
      subst e
      rw [ih B a2 b2 (fun x hx => pA x (by simp [hx])) (fun x hx => pB x (by simp [hx])) (fun x => ?_)]
      constructor
      · intro hx
        rcases List.mem_cons.1 ((h x).1 (by simp [hx])) with e | e
        · subst e
          have := a1 x hx
          rw [o.irr] at this
          cases this
        · exact e
      · intro hx
        rcases List.mem_cons.1 ((h x).2 (by simp [hx])) with e | e
        · subst e
          have := b1 x hx
          rw [o.irr] at this
          cases this
        · exact e

/-- the model's place for c: how many are ahead of it -/
def at_ {α : Type} (lt : α → α → Bool) (M : List α) (c : α) : Nat := (M.takeWhile (lt · c)).length
/-- the model's step -/
def ins {α : Type} [DecidableEq α] (lt : α → α → Bool) (M : List α) (c : α) : List α :=
  if M[at_ lt M c]? = some c then M else M.take (at_ lt M c) ++ c :: M.drop (at_ lt M c)
theorem tk {α : Type} (lt : α → α → Bool) (M : List α) (c : α) : M.take (at_ lt M c) = M.takeWhile (lt · c) := by
  unfold at_
  induction M with
  | nil => rfl
  | cons x M ih =>
    rw [List.takeWhile_cons]
    split
    · rw [List.length_cons, List.take_succ_cons, ih]
    · rfl
theorem at_le {α : Type} (lt : α → α → Bool) (M : List α) (c : α) : at_ lt M c ≤ M.length := by
  unfold at_
  exact (List.takeWhile_sublist _).length_le
theorem ahead {α : Type} {lt : α → α → Bool} {M : List α} {c : α} {x : α} (h : x ∈ M.take (at_ lt M c)) : lt x c = true := by
  rw [tk] at h
  have := List.all_takeWhile (p := (lt · c)) (l := M)
  rw [List.all_eq_true] at this
  exact this x h
theorem not_ahead {α : Type} {lt : α → α → Bool} {M : List α} {c : α} {x : α} (h : M[at_ lt M c]? = some x) : lt x c = false := by
  unfold at_ at h
  induction M with
  | nil => cases h
  | cons y M ih =>
    rw [List.takeWhile_cons] at h
    split at h
    · rw [List.length_cons, List.getElem?_cons_succ] at h
      exact ih h
    · rename_i hy
      simp at h
      subst h
      simpa using hy
/-- the model's walk to that place -/
theorem at_go {α : Type} {lt : α → α → Bool} {M : List α} {c : α} {k : Nat} (h : k ≤ at_ lt M c) (hk : k < M.length) : lt M[k] c = true ↔ k + 1 ≤ at_ lt M c := by
  constructor
  · intro e
    apply Classical.byContradiction
    intro hn
    have ek : k = at_ lt M c := by omega
    have : M[at_ lt M c]? = some M[k] := by rw [← ek]; simp [hk]
    rw [not_ahead this] at e
    cases e
  · intro e
    apply ahead (M := M)
    rw [List.mem_take_iff_getElem]
    exact ⟨k, by have := at_le lt M c; omega, rfl⟩
theorem ins_mem {α : Type} [DecidableEq α] {lt : α → α → Bool} {M : List α} {c x : α} : x ∈ ins lt M c ↔ x ∈ M ∨ x = c := by
  unfold ins
  split
  · rename_i h
    constructor
    · exact .inl
    · rintro (h' | rfl)
      · exact h'
      · exact List.mem_of_getElem? h
  · have e : x ∈ M ↔ x ∈ M.take (at_ lt M c) ∨ x ∈ M.drop (at_ lt M c) := by
      rw [← List.mem_append, List.take_append_drop]
    rw [List.mem_append, List.mem_cons, e]
    constructor
    · rintro (h | h | h)
      · exact .inl (.inl h)
      · exact .inr h
      · exact .inl (.inr h)
    · rintro ((h | h) | h)
      · exact .inl h
      · exact .inr (.inr h)
      · exact .inr (.inl h)
theorem ins_up {α : Type} [DecidableEq α] {lt : α → α → Bool} {P : α → Prop} (o : Ord lt P) {M : List α} {c : α} (hM : Up lt M) (pM : ∀ x ∈ M, P x) (pc : P c) : Up lt (ins lt M c) := by
  unfold ins
  split
  · exact hM
  · rename_i h
    have hs : Up lt (M.take (at_ lt M c) ++ M.drop (at_ lt M c)) := by rw [List.take_append_drop]; exact hM
    obtain ⟨h1, h2, h3⟩ := List.pairwise_append.1 hs
    have hD : ∀ x ∈ M.drop (at_ lt M c), lt c x = true := by
      cases hd : M.drop (at_ lt M c) with
      | nil => intro x hx; cases hx
      | cons d D =>
        have hg : M[at_ lt M c]? = some d := by
          have : (M.drop (at_ lt M c))[0]? = some d := by rw [hd]; rfl
          rwa [List.getElem?_drop, Nat.add_zero] at this
        have hdm : d ∈ M := List.mem_of_getElem? hg
        have hcd : lt c d = true := by
          rcases o.tot c d pc (pM d hdm) (fun e => h (by rw [hg, e])) with q | q
          · exact q
          · rw [not_ahead hg] at q
            cases q
        intro x hx
        rcases List.mem_cons.1 hx with rfl | hx
        · exact hcd
        · rw [hd] at h2
          have hxm : x ∈ M := List.mem_of_mem_drop (by rw [hd]; simp [hx])
          exact o.tr c d x pc (pM d hdm) (pM x hxm) hcd ((List.pairwise_cons.1 h2).1 x hx)
    refine List.pairwise_append.2 ⟨h1, List.pairwise_cons.2 ⟨hD, h2⟩, fun a ha b hb => ?_⟩
    rcases List.mem_cons.1 hb with rfl | hb
    · exact ahead ha
    · exact h3 a ha b hb
/-- all of the model's steps -/
def insAll {α : Type} [DecidableEq α] (lt : α → α → Bool) (M L : List α) : List α := L.foldl (ins lt) M
theorem insAll_mem {α : Type} [DecidableEq α] {lt : α → α → Bool} {x : α} (L : List α) : ∀ M, x ∈ insAll lt M L ↔ x ∈ M ∨ x ∈ L := by
  induction L with
  | nil => intro M; simp [insAll]
  | cons c L ih =>
    intro M
    have := ih (ins lt M c)
    unfold insAll at this ⊢
    rw [List.foldl_cons, this, ins_mem, List.mem_cons]
    constructor
    · rintro ((h | h) | h)
      · exact .inl h
      · exact .inr (.inl h)
      · exact .inr (.inr h)
    · rintro (h | h | h)
      · exact .inl (.inl h)
      · exact .inl (.inr h)
      · exact .inr h
theorem insAll_up {α : Type} [DecidableEq α] {lt : α → α → Bool} {P : α → Prop} (o : Ord lt P) (L : List α) : ∀ M, Up lt M → (∀ x ∈ M, P x) → (∀ x ∈ L, P x) → Up lt (insAll lt M L) := by
  induction L with
  | nil => intro M h _ _; exact h
  | cons c L ih =>
    intro M h pM pL
    unfold insAll
    rw [List.foldl_cons]
    refine ih _ (ins_up o h pM (pL c (by simp))) (fun x hx => ?_) (fun x hx => pL x (by simp [hx]))
    rcases ins_mem.1 hx with q | rfl
    · exact pM x q
    · exact pL _ (by simp)
theorem snoc_ind {α : Type} {p : List α → Prop} (h0 : p []) (h1 : ∀ L c, p L → p (L ++ [c])) (L : List α) : p L := by
  have h : ∀ R : List α, p R.reverse := by
    intro R
    induction R with
    | nil => exact h0
    | cons c R ih => rw [List.reverse_cons]; exact h1 _ _ ih
  have := h L.reverse
  rwa [List.reverse_reverse] at this
/-- each where it is first met -/
def one {α : Type} [DecidableEq α] (M : List α) (c : α) : List α := if c ∈ M then M else M ++ [c]
def oneAll {α : Type} [DecidableEq α] (L : List α) : List α := L.foldl one []
theorem one_mem {α : Type} [DecidableEq α] {M : List α} {c x : α} : x ∈ one M c ↔ x ∈ M ∨ x = c := by
  unfold one
  split
  · rename_i h
    constructor
    · exact .inl
    · rintro (h' | rfl)
      · exact h'
      · exact h
  · simp
theorem oneAll_snoc {α : Type} [DecidableEq α] (L : List α) (c : α) : oneAll (L ++ [c]) = one (oneAll L) c := by
  unfold oneAll
  rw [List.foldl_append]
  rfl
theorem oneAll_mem {α : Type} [DecidableEq α] {x : α} (L : List α) : x ∈ oneAll L ↔ x ∈ L := by
  refine snoc_ind (p := fun L => x ∈ oneAll L ↔ x ∈ L) (by simp [oneAll]) (fun L c ih => ?_) L
  rw [oneAll_snoc, one_mem, ih]
  simp
theorem one_nodup {α : Type} [DecidableEq α] {M : List α} {c : α} (h : M.Nodup) : (one M c).Nodup := by
  unfold one
  split
  · exact h
  · rename_i hc
    rw [List.nodup_append]
    refine ⟨h, by simp, fun a ha b hb e => ?_⟩
    rw [List.mem_singleton] at hb
    subst hb
    subst e
    exact hc ha
theorem oneAll_nodup {α : Type} [DecidableEq α] (L : List α) : (oneAll L).Nodup := by
  refine snoc_ind (p := fun L => (oneAll L).Nodup) List.nodup_nil (fun L c ih => ?_) L
  rw [oneAll_snoc]
  exact one_nodup ih
theorem oneAll_len {α : Type} [DecidableEq α] (L : List α) : (oneAll L).length ≤ L.length := by
  refine snoc_ind (p := fun L => (oneAll L).length ≤ L.length) (Nat.le_refl _) (fun L c ih => ?_) L
  rw [oneAll_snoc, List.length_append]
  unfold one
  split
  · simp; omega
  · rw [List.length_append]; simp; omega
/-- the program's sorting: c went ahead of B and stops behind A -/
theorem put_up {α : Type} {lt : α → α → Bool} {P : α → Prop} (o : Ord lt P) {A B : List α} {c : α} (h : Up lt (A ++ B)) (pA : ∀ x ∈ A, P x) (pB : ∀ x ∈ B, P x) (pc : P c) (hn : c ∉ A) (hB : ∀ b ∈ B, lt c b = true) (hA : A = [] ∨ ∃ A' a, A = A' ++ [a] ∧ lt c a = false) : Up lt (A ++ c :: B) := by
  obtain ⟨h1, h2, h3⟩ := List.pairwise_append.1 h
  refine List.pairwise_append.2 ⟨h1, List.pairwise_cons.2 ⟨hB, h2⟩, fun x hx y hy => ?_⟩
  rcases List.mem_cons.1 hy with rfl | hy
  · rcases hA with rfl | ⟨A', a, rfl, hca⟩
    · cases hx
    · have pa := pA a (by simp)
      have hac : lt a y = true := by
        rcases o.tot a y pa pc (fun e => hn (by rw [← e]; simp)) with q | q
        · exact q
        · rw [hca] at q
          cases q
      rcases List.mem_append.1 hx with hx' | hx'
      · exact o.tr x a y (pA x hx) pa pc ((List.pairwise_append.1 h1).2.2 x hx' a (by simp)) hac
      · rw [List.mem_singleton] at hx'
        rw [hx']
        exact hac
  · exact h3 x hx y hy
theorem place_inj {x y : Int} (hx : okB x = true) (hy : okB y = true) (h : placeI x = placeI y) : x = y := by
  have a := of_decide_eq_true hx
  have b := of_decide_eq_true hy
  unfold placeI at h
  split at h <;> split at h <;> omega
theorem less_ord : Ord lessL (fun L => ∀ x ∈ L, okB x = true) where
  irr := by
    intro x
    induction x with
    | nil => rfl
    | cons a x ih => rw [lessL, if_pos rfl, ih]
  tr := by
    intro A
    induction A with
    | nil =>
      intro B C _ _ _ h1 h2
      cases B with
      | nil => exact h2
      | cons y B =>
        cases C with
        | nil => cases h2
        | cons z C => rfl
    | cons x A ih =>
      intro B C pA pB pC h1 h2
      cases B with
      | nil => cases h1
      | cons y B =>
        cases C with
        | nil => cases h2
        | cons z C =>
          have ax := pA x (by simp)
          have ay := pB y (by simp)
          have az := pC z (by simp)
          rw [lessL] at h1 h2 ⊢
          by_cases exy : x = y
          · rw [if_pos exy] at h1
            subst exy
            by_cases exz : x = z
            · rw [if_pos exz] at h2 ⊢
              exact ih B C (fun q hq => pA q (by simp [hq])) (fun q hq => pB q (by simp [hq])) (fun q hq => pC q (by simp [hq])) h1 h2
            · rw [if_neg exz] at h2 ⊢
              exact h2
          · rw [if_neg exy] at h1
            have k1 : placeI x < placeI y := by simpa [befB, ax, ay] using h1
            by_cases eyz : y = z
            · subst eyz
              rw [if_neg exy]
              exact h1
            · rw [if_neg eyz] at h2
              have k2 : placeI y < placeI z := by simpa [befB, ay, az] using h2
              have exz : x ≠ z := by
                intro e
                subst e
                omega
              rw [if_neg exz]
              simp [befB, ax, az]
              omega
  tot := by
    intro A
    induction A with
    | nil =>
      intro B _ _ hne
      cases B with
      | nil => exact absurd rfl hne
      | cons y B => exact .inl rfl
    | cons x A ih =>
      intro B pA pB hne
      cases B with
      | nil => exact .inr rfl
      | cons y B =>
        have ax := pA x (by simp)
        have ay := pB y (by simp)
        by_cases e : x = y
        · subst e
          rw [lessL, if_pos rfl, lessL, if_pos rfl]
          exact ih B (fun q hq => pA q (by simp [hq])) (fun q hq => pB q (by simp [hq])) (fun h => hne (by rw [h]))
        · rw [lessL, if_neg e, lessL, if_neg (fun h => e h.symm)]
          have : placeI x ≠ placeI y := fun h => e (place_inj ax ay h)
          simp [befB, ax, ay]
          omega

/-- the clauses that may be false, each in order -/
def good (LL : List (List Int)) : List (List Int) := (LL.filter fun c => okTo (setOf c) 24).map fun c => srt (setOf c) 48
theorem good_yes {LL : List (List Int)} {k : Nat} (h : k < LL.length) (ho : okTo (setOf (LL.getD k [])) 24 = true) : good (LL.take (k + 1)) = good (LL.take k) ++ [srt (setOf (LL.getD k [])) 48] := by
  rw [List.take_succ_eq_append_getElem h]
  have e : LL.getD k [] = LL[k] := by simp [h]
  rw [e] at ho ⊢
  unfold good
  rw [List.filter_append, List.map_append, List.filter_cons, if_pos ho]
  rfl
theorem good_no {LL : List (List Int)} {k : Nat} (h : k < LL.length) (ho : okTo (setOf (LL.getD k [])) 24 = false) : good (LL.take (k + 1)) = good (LL.take k) := by
  rw [List.take_succ_eq_append_getElem h]
  have e : LL.getD k [] = LL[k] := by simp [h]
  rw [e] at ho
  unfold good
  rw [List.filter_append, List.map_append, List.filter_cons, if_neg (by rw [ho]; decide)]
  simp
theorem good_len (LL : List (List Int)) : (good LL).length ≤ LL.length := by
  unfold good
  rw [List.length_map]
  exact List.length_filter_le _ _
theorem srt_ok (S j : Nat) (h : j ≤ 48) : ∀ x ∈ srt S j, okB x = true := by
  intro x hx
  unfold srt.srt at hx
  obtain ⟨p, hp, rfl⟩ := List.mem_map.1 hx
  rw [List.mem_filter, List.mem_range] at hp
  rw [okB_iff]
  unfold srt.litI
  split <;> omega
theorem good_ok {LL : List (List Int)} {c : List Int} (h : c ∈ good LL) : ∀ x ∈ c, okB x = true := by
  unfold good at h
  obtain ⟨d, _, rfl⟩ := List.mem_map.1 h
  exact srt_ok _ 48 (Nat.le_refl _)
theorem good_24 {LL : List (List Int)} {c : List Int} (h : c ∈ good LL) : c.length ≤ 24 := by
  unfold good at h
  obtain ⟨d, hd, rfl⟩ := List.mem_map.1 h
  rw [List.mem_filter] at hd
  exact ro.srt_half _ 24 hd.2
/-- a formula in order -/
def cnfS (LL : List (List Int)) : List (List Int) := insAll lessL [] (good LL)
theorem cnfS_step (G : List (List Int)) (c : List Int) : insAll lessL [] (G ++ [c]) = ins lessL (insAll lessL [] G) c := by
  unfold insAll
  rw [List.foldl_append]
  rfl
theorem cnfS_up (LL : List (List Int)) : Up lessL (cnfS LL) := insAll_up less_ord _ _ List.Pairwise.nil (fun x hx => by cases hx) (fun x hx => good_ok hx)
theorem cnfS_mem {LL : List (List Int)} {x : List Int} : x ∈ cnfS LL ↔ x ∈ good LL := by
  unfold cnfS
  rw [insAll_mem]
  simp
theorem cnfS_of {LL X : List (List Int)} (h : Up lessL X) (hm : ∀ x, x ∈ X ↔ x ∈ oneAll (good LL)) : X = cnfS LL := by
  have e : ∀ x, x ∈ X ↔ x ∈ good LL := fun x => (hm x).trans (oneAll_mem _)
  exact same less_ord X (cnfS LL) h (cnfS_up LL) (fun x hx => good_ok ((e x).1 hx)) (fun x hx => good_ok (cnfS_mem.1 hx)) (fun x => (e x).trans cnfS_mem.symm)
theorem ins_len {M : List (List Int)} {c : List Int} : (ins lessL M c).length ≤ M.length + 1 := by
  unfold ins
  split
  · omega
  · rw [List.length_append, List.length_cons, List.length_take, List.length_drop]
    omega
theorem insAll_len (L : List (List Int)) : ∀ M : List (List Int), (insAll lessL M L).length ≤ M.length + L.length := by
  induction L with
  | nil => intro M; exact Nat.le_refl _
  | cons c L ih =>
    intro M
    have := ih (ins lessL M c)
    have h2 := ins_len (M := M) (c := c)
    unfold insAll at this ⊢
    rw [List.foldl_cons, List.length_cons]
    omega
theorem cnfS_len (LL : List (List Int)) : (cnfS LL).length ≤ LL.length := by
  have := insAll_len (good LL) []
  have := good_len LL
  unfold cnfS
  simp at *
  omega
end Go.Proofs.YtibpnocpafppaaaDoor.cs
