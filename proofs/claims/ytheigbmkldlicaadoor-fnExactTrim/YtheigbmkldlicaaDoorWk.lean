/- Plain mathematics of the watcher: what holds of it is kept by rewatch, and by taking up the next literal; no condition. -/
import Derived.Test.YtheigbmkldlicaaDoorWj
namespace Go.Proofs.YtheigbmkldlicaaDoor.wm
open Go.RowKit
open Go.Proofs.YtheigbmkldlicaaDoor.lits (okB okB_iff)
open Go.Proofs.YtheigbmkldlicaaDoor.bset (placeN placeN_le placeN_inj)
open Go.Proofs.YtheigbmkldlicaaDoor.srt (woN woN_lt woN_bit fstI oppN oppN_bit oppN_lt swp swp_lt andN andN_bit andN_lt or_lt hi_bit)
set_option linter.unusedVariables false

theorem Jn.build {Ss : List Nat} {P P' : PS} {R i : Nat} {l : Int} {F F' C : List Int} (h : Jn Ss P R l F ((i : Int) :: C)) (hi : i < Ss.length) (hS : Ss.getD i 0 ≠ 0) (htk : P'.tk = P.tk) (hho : P'.ho = P.ho) (hlen : P'.K.length = P.K.length)
    (hKo : ∀ j, j ≠ i → P'.K.getD j zk = P.K.getD j zk) (hKi : (P'.K.getD i zk).1 = (P.K.getD i zk).1) (hal : P'.A.length = 50)
    (hA : ∀ k x, x ≠ (i : Int) → x ∈ P.A.getD k [] → x ∈ P'.A.getD k []) (hidx : ∀ k x, x ∈ P'.A.getD k [] → x ∈ P.A.getD k [] ∨ x = (i : Int)) (h49 : P'.A.getD 49 [] = P.A.getD 49 []) (hbd : wgt P' R ≤ wgt P R + 1) (htt : tot P' ≤ tot P)
    (hfl : F'.length ≤ F.length + 1) (hhand : C ≠ [] → P'.A.getD (1 + placeN l) [] = F' ++ C) (hem : P.em = true → P'.em = true)
    (hwat : okB (P'.K.getD i zk).2.1 = true ∧ okB (P'.K.getD i zk).2.2 = true ∧ (Ss.getD i 0).testBit (placeN (P'.K.getD i zk).2.1) = true ∧ (Ss.getD i 0).testBit (placeN (P'.K.getD i zk).2.2) = true ∧
      (i : Int) ∈ P'.A.getD (1 + placeN (P'.K.getD i zk).2.1) [] ∧ (i : Int) ∈ P'.A.getD (1 + placeN (P'.K.getD i zk).2.2) [])
    (hsg : (P'.K.getD i zk).2.1 = (P'.K.getD i zk).2.2 → (i : Int) ∈ P.A.getD 49 [])
    (hwt : (i : Int) ∈ P'.A.getD 0 [] → clsd (Ss.getD i 0) P.tk = false → ∀ a b, (opn (Ss.getD i 0) P.tk).testBit a = true → (opn (Ss.getD i 0) P.tk).testBit b = true → a = b)
    (hes : P'.em = true → ∃ i, i < Ss.length ∧ clsd (Ss.getD i 0) P.tk = false ∧ opn (Ss.getD i 0) P.tk = 0)
    (hst : clsd (Ss.getD i 0) P.tk = false → Stn P' R l C i (Ss.getD i 0) (P'.K.getD i zk).2.1 (P'.K.getD i zk).2.2) : Jn Ss P' R l F' C where
  len := by rw [hlen]; exact h.len
  sets := fun j hj => by
    by_cases e : j = i
    · subst e
      rw [hKi]
      exact h.sets j hj
    · rw [hKo j e]
      exact h.sets j hj
  wd := h.wd
  tk := by rw [htk]; exact h.tk
  rk := h.rk
  al := hal
  rin := by rw [htk]; exact h.rin
  wat := fun j hj hSj => by
    by_cases e : j = i
    · subst e
      exact hwat
    · rw [hKo j e]
      have := h.wat j hj hSj
      exact ⟨this.1, this.2.1, this.2.2.1, this.2.2.2.1, hA _ _ (by omega) this.2.2.2.2.1, hA _ _ (by omega) this.2.2.2.2.2⟩
  idx := fun k x hx => by
    rcases hidx k x hx with q | q
    · exact h.idx k x q
    · exact ⟨i, q, hi, hS⟩
  cin := fun x hx => h.cin x (List.mem_cons_of_mem _ hx)
  lo := fun _ => by rw [htk]; exact h.lo (by simp)
  hand := hhand
  bd := by
    have := h.bd
    rw [List.length_cons] at this
    omega
  nl := h.nl
  tt := Nat.le_trans htt h.tt
  fl := by
    have := h.fl
    rw [List.length_cons] at this
    omega
  sg := fun j hj hSj => by
    rw [h49]
    by_cases e : j = i
    · subst e
      exact hsg
    · rw [hKo j e]
      exact h.sg j hj hSj
  so := by rw [h49]; exact h.so
  sn := by rw [h49]; exact h.sn
  hz := by rw [hho]; exact h.hz
  wt := fun k hk => by
    rw [htk]
    rcases hidx 0 _ hk with q | q
    · exact h.wt k q
    · have : k = i := by omega
      subst this
      exact hwt hk
  es := by rw [htk]; exact hes
  ez := fun j hj hz => hem (h.ez j hj hz)
  st := fun j hj hSj => by
    rw [htk]
    intro hc
    by_cases e : j = i
    · subst e
      exact hst hc
    · rw [hKo j e]
      have hji : (j : Int) ≠ (i : Int) := by omega
      have pe : ∀ p, pend P R l ((i : Int) :: C) j p → pend P' R l C j p := by
        intro p hp
        rcases hp with q | ⟨q1, q2⟩
        · exact .inl q
        · rcases List.mem_cons.1 q2 with q | q
          · omega
          · exact .inr ⟨q1, q⟩
      have lo : ∀ p, lost P' p ↔ lost P p := fun p => by unfold lost; rw [htk]
      rcases h.st j hj hSj hc with ⟨a1, y, a2, a3, a4⟩ | ⟨b1, b2⟩ | ⟨c1, c2, c3⟩ | ⟨d1, d2, d3⟩
      · exact .inl ⟨hA _ _ hji a1, y, a2, by rw [htk]; exact a3, by rw [htk]; exact a4⟩
      · exact .inr (.inl ⟨hem b1, by rw [htk]; exact b2⟩)
      · exact .inr (.inr (.inl ⟨c1, fun q => pe _ (c2 ((lo _).1 q)), fun q => pe _ (c3 ((lo _).1 q))⟩))
      · refine .inr (.inr (.inr ⟨hA _ _ hji d1, by rw [htk]; exact d2, ?_⟩))
        rcases d3 with ⟨q1, q2⟩ | ⟨q1, q2⟩
        · exact .inl ⟨(lo _).2 q1, pe _ q2⟩
        · exact .inr ⟨(lo _).2 q1, pe _ q2⟩
theorem wgt_K {P : PS} {K : List (Nat × Int × Int)} {b : Bool} {R : Nat} : wgt { P with K := K, em := b } R = wgt P R := rfl
theorem K_other {K : List (Nat × Int × Int)} {i j : Nat} {k : Nat × Int × Int} (h : j ≠ i) : (K.set i k).getD j zk = K.getD j zk := by
  rw [List.getD, List.getD, List.getElem?_set_ne (fun e => h e.symm)]
theorem swK_other {K : List (Nat × Int × Int)} {i j : Nat} {l : Int} (h : j ≠ i) : (swK K i l).getD j zk = K.getD j zk := K_other h
theorem sw_pair {Ss : List Nat} {P : PS} {k : Nat} {l : Int}
    (hw : okB (P.K.getD k zk).2.1 = true ∧ okB (P.K.getD k zk).2.2 = true ∧ (Ss.getD k 0).testBit (placeN (P.K.getD k zk).2.1) = true ∧ (Ss.getD k 0).testBit (placeN (P.K.getD k zk).2.2) = true ∧
      (k : Int) ∈ P.A.getD (1 + placeN (P.K.getD k zk).2.1) [] ∧ (k : Int) ∈ P.A.getD (1 + placeN (P.K.getD k zk).2.2) []) :
    okB (sw0 (P.K.getD k zk) l) = true ∧ okB (sw1 (P.K.getD k zk) l) = true ∧ (Ss.getD k 0).testBit (placeN (sw0 (P.K.getD k zk) l)) = true ∧ (Ss.getD k 0).testBit (placeN (sw1 (P.K.getD k zk) l)) = true ∧
      (k : Int) ∈ P.A.getD (1 + placeN (sw0 (P.K.getD k zk) l)) [] ∧ (k : Int) ∈ P.A.getD (1 + placeN (sw1 (P.K.getD k zk) l)) [] := by
  unfold sw0 sw1
  split
  · exact ⟨hw.2.1, hw.1, hw.2.2.2.1, hw.2.2.1, hw.2.2.2.2.2, hw.2.2.2.2.1⟩
  · exact hw
theorem sw_eq {k : Nat × Int × Int} {l : Int} (h : sw0 k l = sw1 k l) : k.2.1 = k.2.2 := by
  unfold sw0 sw1 at h
  split at h
  · exact h.symm
  · exact h
/-- a clause that is not watched by another literal stays in the list -/
theorem Jn.stay {Ss : List Nat} {P : PS} {R i : Nat} {l : Int} {F C : List Int} (h : Jn Ss P R l F ((i : Int) :: C)) (hm : P.mvd i l = false) : Jn Ss (P.rew i l) R l (F ++ [(i : Int)]) C := by
  obtain ⟨k, hk, hi, hS⟩ := h.cin (i : Int) (by simp)
  have hk' : k = i := by omega
  subst hk'
  clear hk
  have hiK : k < P.K.length := by rw [h.len]; exact hi
  have hw := h.wat k hi hS
  have hs := h.sets k hi
  have hwd := h.wd k hi
  have hfl : (F ++ [(k : Int)]).length ≤ F.length + 1 := by simp
  have hhand : P.A.getD (1 + placeN l) [] = (F ++ [(k : Int)]) ++ C := by
    rw [h.hand (by simp), List.append_assoc]
    rfl
  have hsg := h.sg k hi hS
  cases hc : clsd (Ss.getD k 0) P.tk
  · have hc' : clsd (P.K.getD k zk).1 P.tk = false := by rw [hs]; exact hc
    have hw' := sw_pair (l := l) hw
    have q0ok := hw'.1
    have hol : opn (Ss.getD k 0) P.tk < 2 ^ 48 := andN_lt _ _ hwd
    by_cases hO : opn (P.K.getD k zk).1 P.tk = 0
    · rw [rew_empty hc' hO]
      rw [hs] at hO
      have hsw : (({ P with K := swK P.K k l, em := true } : PS).K.getD k zk) = ((P.K.getD k zk).1, sw0 (P.K.getD k zk) l, sw1 (P.K.getD k zk) l) := swK_at hiK
      refine h.build hi hS rfl rfl (swK_len _ _ _) (fun j hj => swK_other hj) (by rw [hsw]) h.al (fun _ _ _ q => q) (fun _ _ q => .inl q) rfl (by rw [wgt_K]; omega) (Nat.le_refl _) hfl (fun _ => hhand) (fun _ => rfl) (by rw [hsw]; exact hw') (by rw [hsw]; exact fun e => hsg (sw_eq e)) (fun q => h.wt k q) (fun _ => ⟨k, hi, hc, hO⟩) (fun _ => .inr (.inl ⟨rfl, hO⟩))
    · by_cases hr : woN (opn (P.K.getD k zk).1 P.tk) (sw0 (P.K.getD k zk) l) = 0
      · rw [rew_wait hc' hO hr]
        rw [hs] at hO hr
        have hsw : ((PS.more { P with K := swK P.K k l } 0 (k : Int)).K.getD k zk) = ((P.K.getD k zk).1, sw0 (P.K.getD k zk) l, sw1 (P.K.getD k zk) l) := swK_at hiK
        have one : ∀ b, (opn (Ss.getD k 0) P.tk).testBit b = true → b = placeN (sw0 (P.K.getD k zk) l) := by
          intro b hb
          have := congrArg (fun q => q.testBit b) hr
          simp only [woN_bit _ _ _ hol q0ok, Nat.zero_testBit, hb, Bool.true_and] at this
          have t : decide (placeN (sw0 (P.K.getD k zk) l) = b) = true := by
            cases hd : decide (placeN (sw0 (P.K.getD k zk) l) = b)
            · rw [hd] at this
              cases this
            · rfl
          exact (of_decide_eq_true t).symm
        obtain ⟨b, hb⟩ := ne_bit hO
        have hb' := one b hb
        subst hb'
        have ne0 : ∀ j, j ≠ 0 → (PS.more { P with K := swK P.K k l } 0 (k : Int)).A.getD j [] = P.A.getD j [] := fun j hj => by rw [more_get, if_neg (fun e => hj e.1)]
        refine h.build hi hS rfl rfl (swK_len _ _ _) (fun j hj => swK_other hj) (by rw [hsw]) (by show (P.A.set 0 _).length = 50; rw [List.length_set]; exact h.al) (fun k x _ q => more_mem (P := { P with K := swK P.K _ l }) q) (fun k' x q => by
          rcases more_of (P := { P with K := swK P.K k l }) q with z | z
          · exact .inl z
          · exact .inr z.2) (ne0 49 (by decide)) (wgt_more (P := { P with K := swK P.K k l })) (tot_more0 (P := { P with K := swK P.K k l })) hfl (fun _ => by rw [ne0 _ (by omega)]; exact hhand) (fun q => q) (by
          rw [hsw]
          exact ⟨hw'.1, hw'.2.1, hw'.2.2.1, hw'.2.2.2.1, more_mem (P := { P with K := swK P.K k l }) hw'.2.2.2.2.1, more_mem (P := { P with K := swK P.K k l }) hw'.2.2.2.2.2⟩) (by rw [hsw]; exact fun e => hsg (sw_eq e)) (fun _ _ a b ha hb => (one a ha).trans (one b hb).symm) h.es (fun _ => .inl ⟨more_new (P := { P with K := swK P.K k l }) (by show 0 < P.A.length; rw [h.al]; decide), _, .inl (by rw [hsw]), hb, fun a ha => one a ha⟩)
      · rw [mvd_yes hc' hO hr] at hm
        cases hm
  · have hc' : clsd (P.K.getD k zk).1 P.tk = true := by rw [hs]; exact hc
    rw [rew_closed hc']
    exact h.build hi hS rfl rfl rfl (fun _ _ => rfl) rfl h.al (fun _ _ _ q => q) (fun _ _ q => .inl q) rfl (by omega) (Nat.le_refl _) hfl (fun _ => hhand) (fun q => q) hw hsg (fun q => h.wt k q) h.es (fun q => by rw [hc] at q; cases q)
/-- a clause that is watched by another literal leaves the list -/
theorem Jn.move {Ss : List Nat} {P : PS} {R i : Nat} {l : Int} {F C : List Int} (h : Jn Ss P R l F ((i : Int) :: C)) (hm : P.mvd i l = true) : Jn Ss ((P.rew i l).setL (1 + placeN l) (F ++ C)) R l F C := by
  obtain ⟨k, hk, hi, hS⟩ := h.cin (i : Int) (by simp)
  have hk' : k = i := by omega
  subst hk'
  clear hk
  have hiK : k < P.K.length := by rw [h.len]; exact hi
  have hlo := h.lo (by simp)
  have hw := h.wat k hi hS
  have hs := h.sets k hi
  have hwd := h.wd k hi
  have hhand := h.hand (by simp)
  have hpl := placeN_le hlo.1
  cases hc : clsd (Ss.getD k 0) P.tk
  · have hc' : clsd (P.K.getD k zk).1 P.tk = false := by rw [hs]; exact hc
    have hsi := h.st k hi hS hc
    have hw' := sw_pair (l := l) hw
    have q0ok := hw'.1
    have hol : opn (Ss.getD k 0) P.tk < 2 ^ 48 := andN_lt _ _ hwd
    by_cases hO : opn (P.K.getD k zk).1 P.tk = 0
    · rw [mvd_no (.inl hO)] at hm
      cases hm
    · by_cases hr : woN (opn (P.K.getD k zk).1 P.tk) (sw0 (P.K.getD k zk) l) = 0
      · rw [mvd_no (.inr hr)] at hm
        cases hm
      · clear hm
        rw [rew_move hc' hO hr]
        rw [hs] at hO hr ⊢
        have hrl : woN (opn (Ss.getD k 0) P.tk) (sw0 (P.K.getD k zk) l) < 2 ^ 48 := woN_lt hol
        have fs := fst_spec (Nat.pos_of_ne_zero hr) hrl
        generalize hf : fstI (woN (opn (Ss.getD k 0) P.tk) (sw0 (P.K.getD k zk) l)) = f at *
        have fb := fs.2
        rw [woN_bit _ _ _ hol q0ok, Bool.and_eq_true, Bool.not_eq_true', decide_eq_false_iff_not] at fb
        have fb1 := fb.1
        rw [opn_bit _ _ _ hwd, Bool.and_eq_true, Bool.not_eq_true', swp_place fs.1] at fb1
        have hfl := placeN_le fs.1
        have hnl : placeN f ≠ placeN l := fun e => by
          have := placeN_inj fs.1 hlo.1 e
          rw [this, hlo.2] at fb1
          cases fb1.2
        have hp2 : (P.K.getD k zk).2.1 ≠ (P.K.getD k zk).2.2 := fun e => by
          have one := h.so k (h.sg k hi hS e)
          exact fb.2 (one _ _ hw'.2.2.1 fb1.1)
        have h0l : sw0 (P.K.getD k zk) l ≠ l := by
          unfold sw0
          split
          · rename_i z
            exact fun e => hp2 (z.trans e.symm)
          · assumption
        have h0l' : placeN (sw0 (P.K.getD k zk) l) ≠ placeN l := fun e => h0l (placeN_inj q0ok hlo.1 e)
        obtain ⟨Q, hQ⟩ : ∃ Q, Q = PS.more { P with K := P.K.set k (Ss.getD k 0, sw0 (P.K.getD k zk) l, f) } (1 + placeN f) (k : Int) := ⟨_, rfl⟩
        have mm : ∀ {j x}, x ∈ P.A.getD j [] → x ∈ Q.A.getD j [] := fun q => by rw [hQ]; exact more_mem (P := { P with K := P.K.set k (Ss.getD k 0, sw0 (P.K.getD k zk) l, f) }) q
        have mo : ∀ {j x}, x ∈ Q.A.getD j [] → x ∈ P.A.getD j [] ∨ (j = 1 + placeN f ∧ x = (k : Int)) := fun q => by rw [hQ] at q; exact more_of (P := { P with K := P.K.set k (Ss.getD k 0, sw0 (P.K.getD k zk) l, f) }) q
        have mn : (k : Int) ∈ Q.A.getD (1 + placeN f) [] := by rw [hQ]; exact more_new (P := { P with K := P.K.set k (Ss.getD k 0, sw0 (P.K.getD k zk) l, f) }) (by show 1 + placeN f < P.A.length; rw [h.al]; omega)
        have ms : ∀ j, j ≠ 1 + placeN f → Q.A.getD j [] = P.A.getD j [] := fun j hj => by rw [hQ, more_get, if_neg (fun e => hj e.1)]
        have ql : Q.A.length = 50 := by rw [hQ]; show (P.A.set _ _).length = 50; rw [List.length_set]; exact h.al
        have qw : wgt Q R ≤ wgt P R + 1 := by rw [hQ]; exact wgt_more (P := { P with K := P.K.set k (Ss.getD k 0, sw0 (P.K.getD k zk) l, f) })
        have qt : tot Q ≤ tot P + 1 := by rw [hQ]; exact tot_more (P := { P with K := P.K.set k (Ss.getD k 0, sw0 (P.K.getD k zk) l, f) }) (by omega)
        have hsw : ((Q.setL (1 + placeN l) (F ++ C)).K.getD k zk) = (Ss.getD k 0, sw0 (P.K.getD k zk) l, f) := by rw [hQ]; exact set_getD hiK _
        have sl : ∀ j, (Q.setL (1 + placeN l) (F ++ C)).A.getD j [] = if j = 1 + placeN l then F ++ C else Q.A.getD j [] := fun j => by
          rw [setL_get]
          by_cases e : j = 1 + placeN l
          · rw [if_pos ⟨e, by rw [ql]; omega⟩, if_pos e]
          · rw [if_neg (fun z => e z.1), if_neg e]
        have hQl : Q.A.getD (1 + placeN l) [] = F ++ (k : Int) :: C := by rw [ms _ (by omega)]; exact hhand
        have et : Q.tk = P.tk := by rw [hQ]; rfl
        have eho : Q.ho = P.ho := by rw [hQ]; rfl
        have eem : Q.em = P.em := by rw [hQ]; rfl
        have eK : Q.K = P.K.set k (Ss.getD k 0, sw0 (P.K.getD k zk) l, f) := by rw [hQ]; rfl
        rw [← hQ]
        refine h.build hi hS et eho (by show Q.K.length = _; rw [eK, List.length_set]) (fun j hj => by show Q.K.getD j zk = _; rw [eK]; exact K_other hj) (by rw [hsw, hs]) (by show (Q.A.set _ _).length = 50; rw [List.length_set]; exact ql) (fun j x hx q => ?_) (fun j x q => ?_) ?_ (Nat.le_trans (wgt_cut (by rw [hQl]; simp)) qw) ?_ (Nat.le_succ _) (fun _ => by rw [sl, if_pos rfl]) (fun q => by show Q.em = true; rw [eem]; exact q) ?_ ?_ (fun q => ?_) (by show Q.em = true → _; rw [eem]; exact h.es) (fun _ => ?_)
        · rw [sl]
          split
          · rename_i e
            rw [e, hhand, List.mem_append, List.mem_cons] at q
            rw [List.mem_append]
            rcases q with z | z | z
            · exact .inl z
            · exact absurd z hx
            · exact .inr z
          · exact mm q
        · rw [sl] at q
          split at q
          · rename_i e
            rw [e, hhand, List.mem_append, List.mem_cons]
            rw [List.mem_append] at q
            rcases q with z | z
            · exact .inl (.inl z)
            · exact .inl (.inr (.inr z))
          · rcases mo q with z | z
            · exact .inl z
            · exact .inr z.2
        · rw [sl, if_neg (by omega), ms _ (by omega)]
        · have := tot_cut (P := Q) (q := placeN l) (M := F ++ C) (by omega) (by rw [ql]; omega) (by rw [hQl]; simp only [List.length_append, List.length_cons]; omega)
          omega
        · rw [hsw]
          refine ⟨hw'.1, fs.1, hw'.2.2.1, fb1.1, ?_, ?_⟩
          · show (k : Int) ∈ (Q.setL (1 + placeN l) (F ++ C)).A.getD (1 + placeN (sw0 (P.K.getD k zk) l)) []
            rw [sl, if_neg (by omega)]
            exact mm hw'.2.2.2.2.1
          · show (k : Int) ∈ (Q.setL (1 + placeN l) (F ++ C)).A.getD (1 + placeN f) []
            rw [sl, if_neg (by omega)]
            exact mn
        · rw [hsw]
          exact fun e => absurd (congrArg placeN e) fb.2
        · rw [sl, if_neg (by omega)] at q
          rcases mo q with z | z
          · exact h.wt k z
          · omega
        rw [hsw]
        have hne : sw0 (P.K.getD k zk) l ≠ f := fun e => fb.2 (by rw [e])
        have z0 : (Q.setL (1 + placeN l) (F ++ C)).A.getD 0 [] = P.A.getD 0 [] := by rw [sl, if_neg (by omega), ms _ (by omega)]
        have et' : (Q.setL (1 + placeN l) (F ++ C)).tk = P.tk := et
        unfold Stn
        rw [z0, et']
        rcases hsi with ⟨a1, y, a2, a3, a4⟩ | ⟨b1, b2⟩ | ⟨c1, c2, c3⟩ | ⟨d1, d2, d3⟩
        · have e := a4 _ fb.1
          refine .inl ⟨a1, f, .inr rfl, fb.1, fun b hb => ?_⟩
          rw [a4 b hb, e]
        · exact absurd b2 hO
        · have hl : (lost P (sw0 (P.K.getD k zk) l) → pend P R l ((k : Int) :: C) k (sw0 (P.K.getD k zk) l)) := by
            unfold sw0
            split
            · exact c3
            · exact c2
          refine .inr (.inr (.inl ⟨hne, fun q => ?_, fun q => ?_⟩))
          · have q' : lost P (sw0 (P.K.getD k zk) l) := by
              unfold lost at q ⊢
              rw [← et']
              exact q
            rcases hl q' with z | z
            · exact .inl z
            · exact absurd z.1 h0l
          · have q' : P.tk.testBit (placeN (-f)) = true := by
              unfold lost at q
              rw [← et']
              exact q
            rw [fb1.2] at q'
            cases q'
        · exact absurd d2 hO
  · have hc' : clsd (P.K.getD k zk).1 P.tk = true := by rw [hs]; exact hc
    rw [mvd_closed hc'] at hm
    cases hm

theorem opn_lost (S : Nat) {T : Nat} {l : Int} (hl : okB l = true) (h : T.testBit (placeN (-l)) = true) : (opn S T).testBit (placeN l) = false := by
  unfold opn srt.andN
  have hp := placeN_le hl
  have e : 18446744073709551615 - oppN T = 2 ^ 64 - (oppN T + 1) := by have := oppN_lt T; omega
  have ob : (oppN T).testBit (placeN l) = true := by
    rw [oppN_bit, decide_eq_true (by omega), Bool.true_and, swp_place hl]
    exact h
  rw [Nat.testBit_and, e, Nat.testBit_two_pow_sub_succ (by have := oppN_lt T; omega), ob]
  simp
/-- the bits of a word without its lowest -/
theorem low_bits {R : Nat} (h0 : 0 < R) (h : R < 2 ^ 48) (b : Nat) : (R &&& (R - 1)).testBit b = (R.testBit b && !decide (b = placeN (fstI R))) := by
  obtain ⟨t, m, et, ht, es⟩ := srt.low h0 h
  have ef : placeN (fstI R) = t := by
    unfold srt.fstI
    rw [← et]
    exact (litI_spec ht).2
  rw [srt.next_bit es, ef]
  by_cases h1 : t + 1 ≤ b
  · rw [decide_eq_true h1, decide_eq_false (show ¬ b = t by omega)]
    rfl
  · rw [decide_eq_false h1, Bool.and_false]
    by_cases h2 : b = t
    · rw [decide_eq_true h2]
      simp
    · rw [es, srt.low_bit, if_pos (by omega), decide_eq_false (by omega)]
      rfl
theorem neg_inj {x y : Int} (hx : okB x = true) (hy : okB y = true) (h : placeN (-x) = placeN y) : x = -y := by
  have := placeN_inj (opp_ok hx) hy h
  omega
theorem Jn.next {Ss : List Nat} {P : PS} {R : Nat} {l : Int} {F : List Int} (h : Jn Ss P R l F []) (h0 : 0 < R) : Jn Ss P (R &&& (R - 1)) (-fstI R) [] (P.A.getD (1 + placeN (-fstI R)) []) := by
  have fs := fst_spec h0 h.rk
  have lb := low_bits h0 h.rk
  generalize fstI R = y at *
  have oy := opp_ok fs.1
  have py := placeN_le oy
  have sq : swp (placeN (-y)) = placeN y := by rw [swp_place oy, Int.neg_neg]
  have pe : ∀ i p, (p = (P.K.getD i zk).2.1 ∨ p = (P.K.getD i zk).2.2) → okB p = true → (i : Int) ∈ P.A.getD (1 + placeN p) [] → pend P R l [] i p → pend P (R &&& (R - 1)) (-y) (P.A.getD (1 + placeN (-y)) []) i p := by
    intro i p _ hp hm hq
    rcases hq with q | q
    · by_cases e : placeN (-p) = placeN y
      · have := neg_inj hp fs.1 e
        subst this
        exact .inr ⟨rfl, hm⟩
      · left
        rw [lb, q, decide_eq_false e]
        rfl
    · cases q.2
  refine ⟨h.len, h.sets, h.wd, h.tk, Nat.lt_of_le_of_lt Nat.and_le_left h.rk, h.al, fun b hb => ?_, h.wat, h.idx, h.idx _, fun _ => ⟨oy, ?_⟩, fun _ => rfl, ?_, h.nl, h.tt, ?_, h.sg, h.so, h.sn, h.hz, h.wt, h.es, h.ez, fun i hi hS hc => ?_⟩
  · rw [lb, Bool.and_eq_true] at hb
    exact h.rin b hb.1
  · rw [Int.neg_neg]
    exact h.rin _ fs.2
  · have hb := h.bd
    have := sumR_cut (n := 48) (q := placeN (-y)) (d := (P.A.getD (1 + placeN (-y)) []).length) (f := wf P (R &&& (R - 1))) (g := wf P R) (by omega) (fun p hp hne => by
      by_cases e : swp p = placeN y
      · have : p = placeN (-y) := by rw [← srt.swp_swp p, e, swp_place fs.1]
        exact absurd this hne
      · unfold wf
        rw [lb, decide_eq_false e]
        simp) (by
      rw [wf_no (by rw [sq, h.rin _ fs.2, lb, fs.2]; simp), wf_yes (by rw [sq, fs.2]; simp)]
      omega)
    unfold wgt at hb ⊢
    simp only [List.length_nil] at hb
    omega
  · have := h.tt
    have := sumR_get (n := 48) (q := placeN (-y)) (f := fun p => (P.A.getD (1 + p) []).length) (by omega)
    unfold tot at *
    simp only [List.length_nil] at *
    omega
  · have hw := h.wat i hi hS
    rcases h.st i hi hS hc with a | b | ⟨c1, c2, c3⟩ | ⟨d1, d2, d3⟩
    · exact .inl a
    · exact .inr (.inl b)
    · exact .inr (.inr (.inl ⟨c1, fun q => pe i _ (.inl rfl) hw.1 hw.2.2.2.2.1 (c2 q), fun q => pe i _ (.inr rfl) hw.2.1 hw.2.2.2.2.2 (c3 q)⟩))
    · refine .inr (.inr (.inr ⟨d1, d2, ?_⟩))
      rcases d3 with ⟨q1, q2⟩ | ⟨q1, q2⟩
      · exact .inl ⟨q1, pe i _ (.inl rfl) hw.1 hw.2.2.2.2.1 q2⟩
      · exact .inr ⟨q1, pe i _ (.inr rfl) hw.2.1 hw.2.2.2.2.2 q2⟩
theorem fit (Ss : List Nat) : Fit (Jn Ss) Ss.length where
  size := fun P R l F C h => h.len
  word := fun P R l F C h => h.tk
  all := fun P R l F C h i hi => by rw [h.sets i hi]; exact h.wd i hi
  lit0 := fun P R l F C h i hi => by
    obtain ⟨k, hk, hkN, hS⟩ := h.cin i hi
    have hw := h.wat k hkN hS
    have hb := h.bd
    refine ⟨k, hk, hkN, hw.1, hw.2.1, ?_, fun q hq hbq => ?_⟩
    · unfold wgt at hb
      omega
    · have hp := placeN_le hq
      rw [h.sets k hkN, opn_bit _ _ _ (h.wd k hkN), Bool.and_eq_true, Bool.not_eq_true'] at hbq
      have := wgt_at (P := P) (R := R) (q := placeN q) (by omega) (by rw [hbq.2]; rfl)
      omega
  lost := fun P R l F C h hC => ⟨(h.lo hC).1, fun S => opn_lost S (h.lo hC).1 (h.lo hC).2⟩
  lens := fun P R l F C h => by
    have := h.fl
    have := h.nl
    rw [List.length_append]
    omega
  next := fun P R l F h h0 _ => h.next h0
  stay := fun P R l F i C h hm => h.stay hm
  move := fun P R l F i C h hm => h.move hm
/-- literals are taken up -/
theorem Jn.start {Ss : List Nat} {P : PS} {l l' : Int} {L : Nat} {F : List Int} (h : Jn Ss P 0 l F []) (hL : L < 2 ^ 48) (hd : ∀ b, L.testBit b = true → P.tk.testBit b = false) (he : P.em = true → ∃ i, i < Ss.length ∧ Ss.getD i 0 = 0) : Jn Ss { P with tk := P.tk ||| L } L l' [] [] := by
  have tb : ∀ b, (P.tk ||| L).testBit b = (P.tk.testBit b || L.testBit b) := fun b => Nat.testBit_or ..
  have cl : ∀ S, clsd S (P.tk ||| L) = false → clsd S P.tk = false := by
    intro S hc
    rw [clsd_no] at hc ⊢
    intro b hb
    exact hc b ⟨hb.1, by rw [tb, hb.2]; rfl⟩
  have op : ∀ S, S < 2 ^ 48 → ∀ b, (opn S (P.tk ||| L)).testBit b = true → (opn S P.tk).testBit b = true := by
    intro S hS b hb
    rw [opn_bit _ _ _ hS, tb, Bool.and_eq_true, Bool.not_eq_true', Bool.or_eq_false_iff] at hb
    rw [opn_bit _ _ _ hS, hb.1, hb.2.1]
    rfl
  refine ⟨h.len, h.sets, h.wd, or_lt h.tk hL, hL, h.al, fun b hb => (by show (P.tk ||| L).testBit b = true; rw [tb, hb, Bool.or_true]), h.wat, h.idx, fun x hx => (by cases hx), fun q => absurd rfl q, fun q => absurd rfl q, ?_, h.nl, h.tt, Nat.zero_le _, h.sg, h.so, h.sn, h.hz, fun k hk hc a b ha hb => ?_, fun q => ?_, h.ez, fun i hi hS hc => ?_⟩
  · have hb := h.bd
    have := sumR_le (n := 48) (f := wf { P with tk := P.tk ||| L } L) (g := wf P 0) (fun p hp => by
      unfold wf
      show (if (P.tk ||| L).testBit (swp p) && !L.testBit (swp p) then 0 else (P.A.getD (1 + p) []).length) ≤ if P.tk.testBit (swp p) && !(0 : Nat).testBit (swp p) then 0 else (P.A.getD (1 + p) []).length
      rw [tb, Nat.zero_testBit]
      cases h1 : L.testBit (swp p)
      · simp
      · rw [hd _ h1]
        simp)
    unfold wgt at hb ⊢
    show sumR 48 (wf { P with tk := P.tk ||| L } L) + (P.A.getD 0 []).length + 0 ≤ _
    simp only [List.length_nil] at hb
    omega
  · obtain ⟨k', e, hkN, _⟩ := h.idx 0 _ hk
    have : k' = k := by omega
    subst this
    exact h.wt k' hk (cl _ hc) a b (op _ (h.wd k' hkN) a ha) (op _ (h.wd k' hkN) b hb)
  · obtain ⟨i, hi, hz⟩ := he q
    refine ⟨i, hi, ?_, ?_⟩
    · rw [hz]
      exact clsd_no.2 (fun b hb => by rw [Nat.zero_testBit] at hb; cases hb.1)
    · rw [hz]
      exact Nat.zero_and _
  · have hw := h.wat i hi hS
    have hwd := h.wd i hi
    have ls : ∀ p, okB p = true → lost { P with tk := P.tk ||| L } p → ¬ lost P p → pend { P with tk := P.tk ||| L } L l' [] i p := by
      intro p hp h1 h2
      left
      have h1' : (P.tk ||| L).testBit (placeN (-p)) = true := h1
      rw [tb] at h1'
      cases hq : P.tk.testBit (placeN (-p))
      · rw [hq] at h1'
        exact h1'
      · exact absurd hq h2
    rcases h.st i hi hS (cl _ hc) with ⟨a1, y, a2, a3, a4⟩ | ⟨b1, b2⟩ | ⟨c1, c2, c3⟩ | ⟨d1, d2, d3⟩
    · have oy : okB y = true := by rcases a2 with e | e <;> rw [e]; exact hw.1; exact hw.2.1
      have a3' := a3
      rw [opn_bit _ _ _ hwd, Bool.and_eq_true, Bool.not_eq_true', swp_place oy] at a3'
      cases hq : L.testBit (placeN (-y))
      · refine .inl ⟨a1, y, a2, ?_, fun b hb => a4 b (op _ hwd b hb)⟩
        show (opn _ (P.tk ||| L)).testBit _ = true
        rw [opn_bit _ _ _ hwd, tb, swp_place oy, hq, a3'.1, a3'.2]
        rfl
      · refine .inr (.inr (.inr ⟨a1, zero_of fun b => ?_, ?_⟩))
        · cases hb : (opn (Ss.getD i 0) (P.tk ||| L)).testBit b
          · rfl
          · have e := a4 b (op _ hwd b hb)
            rw [e, opn_bit _ _ _ hwd, tb, swp_place oy, hq, Bool.or_true] at hb
            simp at hb
        · have lo : lost { P with tk := P.tk ||| L } y := by
            show (P.tk ||| L).testBit _ = true
            rw [tb, hq, Bool.or_true]
          rcases a2 with e | e
          · rw [← e]
            exact .inl ⟨lo, .inl hq⟩
          · rw [← e]
            exact .inr ⟨lo, .inl hq⟩
    · refine .inr (.inl ⟨b1, zero_of fun b => ?_⟩)
      cases hb : (opn (Ss.getD i 0) (P.tk ||| L)).testBit b
      · rfl
      · have := op _ hwd b hb
        rw [b2, Nat.zero_testBit] at this
        cases this
    · have no : ∀ p, ¬ pend P 0 l [] i p := by
        intro p hp
        rcases hp with q | q
        · rw [Nat.zero_testBit] at q
          cases q
        · cases q.2
      exact .inr (.inr (.inl ⟨c1, fun q => ls _ hw.1 q (fun z => no _ (c2 z)), fun q => ls _ hw.2.1 q (fun z => no _ (c3 z))⟩))
    · have no : ∀ p, ¬ pend P 0 l [] i p := by
        intro p hp
        rcases hp with q | q
        · rw [Nat.zero_testBit] at q
          cases q
        · cases q.2
      rcases d3 with z | z
      · exact absurd z.2 (no _)
      · exact absurd z.2 (no _)
end Go.Proofs.YtheigbmkldlicaaDoor.wm
