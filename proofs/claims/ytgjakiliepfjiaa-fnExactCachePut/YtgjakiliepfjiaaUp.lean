/- Caches in which one is found or put, as plain mathematics: which entries stand on the shelf then; no condition. -/
import Derived.Test.YtgjakiliepfjiaaUo
import Derived.Test.YtgjakiliepfjiaaUh
namespace Go.Proofs.Ytgjakiliepfjiaa.ua
open Go.ChangeShapes Go.WideShapes Go.ChangeAt Go.RowKit Go.Maps
open Go.Proofs.Ytgjakiliepfjiaa.sl (hide unhide)
set_option linter.unusedVariables false
/-- whether a digest is another one -/
def oth (d : ByteArray) (k : Kn) : Bool := !(k.dg.data.toList == d.data.toList)
theorem oth_iff {d : ByteArray} {k : Kn} : oth d k = true ↔ k.dg ≠ d := by
  unfold oth
  rw [Bool.not_eq_true', ← Bool.not_eq_true, dg_eq]
/-- those without the digest d -/
def rest (KK : List Kn) (d : ByteArray) : List Kn := KK.filter (oth d)
/-- one that is put -/
def putL (room : Int) (KK : List Kn) (k : Kn) : List Kn := if room < ((rest KK k.dg).length : Int) + 1 then (rest KK k.dg ++ [k]).drop 1 else rest KK k.dg ++ [k]
theorem getD_snoc (KK : List Kn) (k : Kn) (i : Nat) (h : i < KK.length) : (KK ++ [k]).getD i kz = KK.getD i kz := by simp [List.getElem?_append, h]
theorem getD_last (KK : List Kn) (k : Kn) : (KK ++ [k]).getD KK.length kz = k := by simp
theorem dm_same (E F : List Kn) : ∀ n, (∀ i, i < n → E.getD i kz = F.getD i kz) → dmAt E n = dmAt F n
  | 0, _ => rfl
  | n + 1, h => by
    unfold dmAt
    rw [dm_same E F n (fun i hi => h i (by omega)), h n (by omega)]
/-- what the places are told to be once k stands behind the others -/
theorem told_old {KK : List Kn} (hd : Dist KK KK.length) (k : Kn) (i : Nat) (hi : i < KK.length) (hne : (KK.getD i kz).dg ≠ k.dg) : Told ((dmAt KK KK.length).put (key k.dg) (num KK.length)) (KK.getD i kz).dg (i : Int) true := by
  refine ⟨?_, ?_⟩
  · rw [atKey_put_other (fun q => hne (key_inj q)), at_dm KK (num 0) KK.length hd i hi]
    rfl
  · rw [has_put_other (fun q => hne (key_inj q))]
    exact (has_dm KK _ _).2 ⟨i, hi, rfl⟩
theorem told_new (KK : List Kn) (k : Kn) : Told ((dmAt KK KK.length).put (key k.dg) (num KK.length)) k.dg (KK.length : Int) true :=
  ⟨atKey_put_same (dm_tidy KK _).isMap (key_ok _) _ _, has_put_same (dm_tidy KK _).isMap (key_ok _) _⟩
def S1 (KK : List Kn) (k : Kn) (i : Nat) : Bool := if i < KK.length then oth k.dg (KK.getD i kz) else true
theorem told1 {KK : List Kn} (hd : Dist KK KK.length) (k : Kn) (i : Nat) (hi : i < (KK ++ [k]).length) : ∃ c b, Told ((dmAt KK KK.length).put (key k.dg) (num KK.length)) ((KK ++ [k]).getD i kz).dg c b ∧ S1 KK k i = (b && (c == (i : Int))) := by
  rw [List.length_append, List.length_singleton] at hi
  unfold S1
  by_cases h : i < KK.length
  · rw [getD_snoc KK k i h, if_pos h]
    by_cases e : (KK.getD i kz).dg = k.dg
    · refine ⟨_, _, by rw [e]; exact told_new KK k, ?_⟩
      have e1 : oth k.dg (KK.getD i kz) = false := by
        cases q : oth k.dg (KK.getD i kz)
        · rfl
        · exact absurd e (oth_iff.1 q)
      have e2 : ((KK.length : Int) == (i : Int)) = false := beq_eq_false_iff_ne.2 (by omega)
      rw [e1, e2]
      rfl
    · refine ⟨_, _, told_old hd k i h e, ?_⟩
      rw [oth_iff.2 e]
      simp
  · obtain rfl : i = KK.length := by omega
    rw [getD_last, if_neg h]
    exact ⟨_, _, told_new KK k, by simp⟩
theorem filt_filter (S : Nat → Bool) (E : List Kn) (p : Kn → Bool) : ∀ n, n ≤ E.length → (∀ i, i < n → S i = p (E.getD i kz)) → filt S E n = (E.take n).filter p
  | 0, _, _ => rfl
  | n + 1, hn, h => by
    unfold filt
    rw [filt_filter S E p n (by omega) (fun i hi => h i (by omega)), h n (by omega), take_snoc E n (by omega), List.filter_append, List.filter_cons, List.filter_nil]
theorem filt1 (KK : List Kn) (k : Kn) : filt (S1 KK k) (KK ++ [k]) (KK ++ [k]).length = rest KK k.dg ++ [k] := by
  have hl : (KK ++ [k]).length = KK.length + 1 := by rw [List.length_append]; rfl
  rw [hl]
  unfold filt
  rw [filt_filter (S1 KK k) (KK ++ [k]) (oth k.dg) KK.length (by omega) (fun i hi => by rw [getD_snoc KK k i hi]; exact if_pos hi), getD_last]
  have : S1 KK k KK.length = true := if_neg (by omega)
  rw [this, List.take_append_of_le_length (Nat.le_refl _), List.take_length]
  rfl
/-- where k is new, nothing falls -/
theorem rest_new {KK : List Kn} {d : ByteArray} (h : ∀ i, i < KK.length → (KK.getD i kz).dg ≠ d) : rest KK d = KK := by
  unfold rest
  rw [List.filter_eq_self]
  intro x hx
  obtain ⟨i, hi, rfl⟩ := List.getElem_of_mem hx
  have := h i hi
  rw [show KK.getD i kz = KK[i] by simp [hi]] at this
  exact oth_iff.2 this
theorem erase_filter {KK : List Kn} {d : ByteArray} (hd : Dist KK KK.length) (j : Nat) (hj : j < KK.length) (e : (KK.getD j kz).dg = d) : rest KK d = KK.take j ++ KK.drop (j + 1) := by
  unfold rest
  have hg : ∀ i (h : i < KK.length), KK.getD i kz = KK[i] := fun i h => by simp [h]
  conv => lhs; rw [← List.take_append_drop j KK, List.drop_eq_getElem_cons hj]
  rw [List.filter_append, List.filter_cons]
  have e0 : oth d KK[j] = false := by
    cases q : oth d KK[j]
    · rfl
    · exact absurd (by rw [← hg j hj]; exact e) (oth_iff.1 q)
  rw [e0, if_neg (by simp)]
  congr 1
  · rw [List.filter_eq_self]
    intro x hx
    obtain ⟨i, hi, rfl⟩ := List.getElem_of_mem hx
    rw [List.length_take] at hi
    rw [List.getElem_take]
    refine oth_iff.2 (fun q => ?_)
    rw [← hg i (by omega)] at q
    exact hd i j (by omega) hj (q.trans e.symm)
  · rw [List.filter_eq_self]
    intro x hx
    obtain ⟨i, hi, rfl⟩ := List.getElem_of_mem hx
    rw [List.length_drop] at hi
    rw [List.getElem_drop]
    refine oth_iff.2 (fun q => ?_)
    rw [← hg (j + 1 + i) (by omega)] at q
    exact hd j (j + 1 + i) (by omega) (by omega) (e.trans q.symm)
theorem rest_len {KK : List Kn} {d : ByteArray} (hd : Dist KK KK.length) : (rest KK d).length + (if Maps.has (dmAt KK KK.length) (key d) then 1 else 0) = KK.length := by
  by_cases h : Maps.has (dmAt KK KK.length) (key d) = true
  · obtain ⟨j, hj, e⟩ := (has_dm KK d _).1 h
    rw [h, if_pos rfl, erase_filter hd j hj e, List.length_append, List.length_take, List.length_drop]
    omega
  · rw [if_neg h, rest_new]
    · rfl
    · intro i hi e
      exact h ((has_dm KK d _).2 ⟨i, hi, e⟩)
/-- as many places as entries stand -/
theorem size1 {KK : List Kn} (hd : Dist KK KK.length) (k : Kn) : Maps.size ((dmAt KK KK.length).put (key k.dg) (num KK.length)) = (rest KK k.dg).length + 1 := by
  rw [size_put (dm_tidy KK _), size_dm KK _ hd]
  have := rest_len (d := k.dg) hd
  split <;> simp_all
/-- where it is one too many -/
theorem full_new {KK : List Kn} (hd : Dist KK KK.length) {room : Int} (k : Kn) (hr : (KK.length : Int) ≤ room) (h : room < ((rest KK k.dg).length : Int) + 1) : (∀ i, i < KK.length → (KK.getD i kz).dg ≠ k.dg) ∧ rest KK k.dg = KK ∧ room = (KK.length : Int) := by
  have l := rest_len (d := k.dg) hd
  have hh : ¬ Maps.has (dmAt KK KK.length) (key k.dg) = true := by
    intro q
    rw [if_pos q] at l
    omega
  have hn : ∀ i, i < KK.length → (KK.getD i kz).dg ≠ k.dg := fun i hi e => hh ((has_dm KK _ _).2 ⟨i, hi, e⟩)
  have e := rest_new hn
  rw [e] at h
  exact ⟨hn, e, by omega⟩
/-- the first one -/
def d0 (KK : List Kn) (k : Kn) : ByteArray := ((KK ++ [k]).getD 0 kz).dg
theorem told0 {KK : List Kn} (hd : Dist KK KK.length) (k : Kn) (hn : ∀ i, i < KK.length → (KK.getD i kz).dg ≠ k.dg) : Told ((dmAt KK KK.length).put (key k.dg) (num KK.length)) (d0 KK k) 0 true := by
  unfold d0
  by_cases h : 0 < KK.length
  · rw [getD_snoc KK k 0 h]
    exact told_old hd k 0 h (hn 0 h)
  · obtain rfl : KK = [] := List.eq_nil_of_length_eq_zero (by omega)
    exact told_new [] k
theorem dist_snoc {KK : List Kn} (hd : Dist KK KK.length) (k : Kn) (hn : ∀ i, i < KK.length → (KK.getD i kz).dg ≠ k.dg) : Dist (KK ++ [k]) (KK ++ [k]).length := by
  intro i j hij hj
  rw [List.length_append, List.length_singleton] at hj
  rw [getD_snoc KK k i (by omega)]
  by_cases h : j < KK.length
  · rw [getD_snoc KK k j h]
    exact hd i j hij h
  · obtain rfl : j = KK.length := by omega
    rw [getD_last]
    exact hn i hij
theorem told2 {KK : List Kn} (hd : Dist KK KK.length) (k : Kn) (hn : ∀ i, i < KK.length → (KK.getD i kz).dg ≠ k.dg) (i : Nat) (hi : i < (KK ++ [k]).length) :
    ∃ c b, Told (((dmAt KK KK.length).put (key k.dg) (num KK.length)).del (key (d0 KK k))) ((KK ++ [k]).getD i kz).dg c b ∧ decide (0 < i) = (b && (c == (i : Int))) := by
  by_cases h0 : i = 0
  · subst h0
    refine ⟨0, false, ⟨?_, ?_⟩, rfl⟩
    · exact atKey_del_same _
    · exact has_del_same
  · obtain ⟨c, b, ht, hs⟩ := told1 hd k i hi
    have hne : key ((KK ++ [k]).getD i kz).dg ≠ key (d0 KK k) := fun q => dist_snoc hd k hn 0 i (by omega) hi (key_inj q).symm
    refine ⟨c, b, ⟨?_, ?_⟩, ?_⟩
    · rw [atKey_del_other hne]
      exact ht.1
    · rw [has_del_other hne]
      exact ht.2
    · rw [← hs, decide_eq_true (by omega)]
      unfold S1
      split
      · exact (oth_iff.2 (hn i (by assumption))).symm
      · rfl
theorem filt2 (E : List Kn) : ∀ n, n ≤ E.length → filt (fun i => decide (0 < i)) E n = (E.take n).drop 1
  | 0, _ => rfl
  | 1, h => by
    rw [take_snoc E 0 (by omega)]
    rfl
  | n + 2, h => by
    unfold filt
    rw [filt2 E (n + 1) (by omega), take_snoc E (n + 1) (by omega)]
    simp only [Nat.zero_lt_succ, decide_true, if_true]
    rw [List.drop_append_of_le_length (by rw [List.length_take]; omega)]
theorem size2 {KK : List Kn} (hd : Dist KK KK.length) (k : Kn) (hn : ∀ i, i < KK.length → (KK.getD i kz).dg ≠ k.dg) : Maps.size (((dmAt KK KK.length).put (key k.dg) (num KK.length)).del (key (d0 KK k))) = KK.length := by
  have q := size_del (k := key (d0 KK k)) ((dm_tidy KK KK.length).put (key_ok k.dg) (num KK.length))
  rw [(told0 hd k hn).2, if_pos rfl, size1 hd k, rest_new hn] at q
  omega
end Go.Proofs.Ytgjakiliepfjiaa.ua
