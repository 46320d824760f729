/- What the program's Core answers at every formula that holds at most 2^20 values and every list of at most 2^20 numbers, where the library's table of places lies as its text lays it. -/
import Derived.Test.YtapkckfgbimmcaaDoorKz
namespace Go.Proofs.YtapkckfgbimmcaaDoor.ks
open Go.ChangeShapes Go.WideShapes Go.ChangeAt Go.RowKit
open Go.Proofs.YtapkckfgbimmcaaDoor.kd (SV Slv)
open Go.Proofs.YtapkckfgbimmcaaDoor.km (left_)
open Go.Proofs.YtapkckfgbimmcaaDoor.lq (solveL FromE lits_in solve_no made_sub holds)
open Go.Proofs.YtapkckfgbimmcaaDoor.srt (Tab)
open Go.Proofs.YtapkckfgbimmcaaDoor.lits (okB)
open Go.Proofs.YtapkckfgbimmcaaDoor.bset (setOf setOf_lt placeN withN)
open Go.Proofs.YtapkckfgbimmcaaDoor.css (Sls tot)
open Go.Proofs.YtapkckfgbimmcaaDoor.cf (Box)
open Go.Proofs.YtapkckfgbimmcaaDoor.ok (cnfB litIn)
open Go.Proofs.YtapkckfgbimmcaaDoor.wo (Made)
open Go.Proofs.YtapkckfgbimmcaaDoor.su (MadeU words)
open Go.Proofs.YtapkckfgbimmcaaDoor.sl (Sl ints hide unhide grown_refl grown_trans)
set_option linter.unusedVariables false
/-- whether the formula can be true with a list of literals -/
def cano (n : Int) (LL : List (List Int)) (a : List Int) : Bool := (solveL n LL a).isSome
def coreG (n : Int) (LL : List (List Int)) : List Int → List Int → List Int
  | K, [] => K
  | K, x :: R => if cano n LL (K ++ R) then coreG n LL (K ++ [x]) R else coreG n LL K R
/-- what Core answers -/
def coreO (n : Int) (LL : List (List Int)) (a : List Int) : Option (List Int) := if cnfB n LL && a.all (litIn n) then (if cano n LL a then none else some (coreG n LL [] a)) else none
theorem coreG_len (n : Int) (LL : List (List Int)) (R : List Int) : ∀ K, (coreG n LL K R).length ≤ K.length + R.length := by
  induction R with
  | nil => intro K; exact Nat.le_refl _
  | cons x R ih =>
    intro K
    rw [coreG]
    split
    · have := ih (K ++ [x])
      rw [List.length_append] at this
      simp at this ⊢
      omega
    · have := ih K
      simp
      omega
theorem core_len (n : Int) (LL : List (List Int)) (a : List Int) : ((coreO n LL a).getD []).length ≤ a.length := by
  unfold coreO
  split
  · split
    · exact Nat.zero_le _
    · have := coreG_len n LL a []
      show (coreG n LL [] a).length ≤ _
      simpa using this
  · exact Nat.zero_le _
theorem core_yes {n : Int} {LL : List (List Int)} {K R : List Int} {x : Int} (h : cano n LL (K ++ R) = true) : coreG n LL K (x :: R) = coreG n LL (K ++ [x]) R := by rw [coreG, h]; rfl
theorem core_no {n : Int} {LL : List (List Int)} {K R : List Int} {x : Int} (h : cano n LL (K ++ R) = false) : coreG n LL K (x :: R) = coreG n LL K R := by rw [coreG, h]; rfl
theorem setOf_app (K R : List Int) : setOf (K ++ R) = setOf K ||| setOf R := by
  apply Nat.eq_of_testBit_eq
  intro b
  rw [Nat.testBit_or, bset.setOf_bit, bset.setOf_bit, bset.setOf_bit, List.any_append]
theorem setOf_cons {x : Int} {R : List Int} (h : okB x = true) : withN (setOf R) x = setOf (x :: R) := by
  apply Nat.eq_of_testBit_eq
  intro b
  rw [bset.withN_bit, bset.setOf_bit, bset.setOf_bit, List.any_cons, h, Bool.true_and, Bool.or_comm]
theorem lit_ok {n : Int} {x : Int} (h : litIn n x = true) : okB x = true := by
  unfold ok.litIn at h
  rw [Bool.and_eq_true] at h
  exact h.1
/-- a literal that is there already asks nothing more -/
theorem cano_dup {n : Int} {LL : List (List Int)} {K R : List Int} {x : Int} (hx : x ∈ K ++ R) (hl : litIn n x = true) (h : cano n LL (K ++ x :: R) = false) : cano n LL (K ++ R) = false := by
  have e : solveL n LL (K ++ x :: R) = solveL n LL (K ++ R) := by
    unfold lq.solveL
    have e1 : (K ++ x :: R).all (litIn n) = (K ++ R).all (litIn n) := by
      rw [List.all_append, List.all_append, List.all_cons, hl, Bool.true_and]
    have e2 : lq.holds LL (K ++ x :: R) = lq.holds LL (K ++ R) := by
      funext A
      unfold lq.holds
      congr 1
      rw [List.all_append, List.all_append, List.all_cons]
      cases z : tr.litT A x with
      | true => rw [Bool.true_and]
      | false =>
        rw [Bool.false_and, Bool.and_false]
        symm
        rw [← List.all_append, List.all_eq_false]
        exact ⟨x, hx, by rw [z]; decide⟩
    rw [e1, e2]
  unfold cano at *
  rw [← e]
  exact h
theorem has_mem {L : List Int} {x : Int} (ho : okB x = true) (hL : ∀ y ∈ L, okB y = true) : (setOf L).testBit (placeN x) = true ↔ x ∈ L := by
  constructor
  · intro h
    obtain ⟨y, hy, h1, h2⟩ := km.set_lit h
    rwa [bset.placeN_inj h1 ho h2] at hy
  · intro h
    exact km.lit_set h ho
/-- the words of what stands behind, laid from place i on -/
def bh (a : List Int) (i : Nat) : List Nat := (List.range a.length).map fun p => if i ≤ p then setOf (a.drop (p + 1)) else 0
theorem bh_len (a : List Int) (i : Nat) : (bh a i).length = a.length := by simp [bh]
theorem bh_at {a : List Int} {i p : Nat} (hp : p < a.length) : (bh a i)[p]? = some (if i ≤ p then setOf (a.drop (p + 1)) else 0) := by simp [bh, hp]
theorem words_at {S : List Nat} {p s : Nat} (h : S[p]? = some s) : (words S)[p]? = some (.int .u64 (s : Int)) := by simp [su.words, h]
theorem bh_last (a : List Int) (i : Nat) (h : a.length ≤ i + 1) : words (bh a i) = List.replicate a.length (.int .u64 0) := by
  apply List.ext_getElem?
  intro p
  by_cases hp : p < a.length
  · rw [words_at (bh_at hp), List.getElem?_replicate, if_pos hp]
    have : (if i ≤ p then setOf (a.drop (p + 1)) else 0) = 0 := by
      split
      · rw [List.drop_eq_nil_of_le (by omega)]
        rfl
      · rfl
    rw [this]
    rfl
  · rw [List.getElem?_eq_none (by simp [su.words, bh_len]; omega), List.getElem?_eq_none (by simp; omega)]
theorem bh_step {a : List Int} {i : Nat} (h : i + 1 < a.length) (ho : okB (a.getD (i + 1) 0) = true) : (words (bh a (i + 1))).set i (.int .u64 (withN (setOf (a.drop (i + 1 + 1))) (a.getD (i + 1) 0) : Int)) = words (bh a i) := by
  apply List.ext_getElem?
  intro p
  have hl : (words (bh a (i + 1))).length = a.length := by simp [su.words, bh_len]
  rw [List.getElem?_set, hl]
  by_cases hp : p < a.length
  · rw [words_at (bh_at (i := i) hp)]
    by_cases e : i = p
    · subst e
      rw [if_pos rfl, if_pos (by omega), if_pos (Nat.le_refl _), setOf_cons ho]
      have : a.drop (i + 1) = a.getD (i + 1) 0 :: a.drop (i + 1 + 1) := by
        rw [List.getD_eq_getElem?_getD, List.getElem?_eq_getElem h]
        exact List.drop_eq_getElem_cons h
      rw [this]
    · rw [if_neg e, words_at (bh_at hp)]
      by_cases q : i ≤ p
      · rw [if_pos q, if_pos (by omega)]
      · rw [if_neg q, if_neg (by omega)]
  · have z : (words (bh a i))[p]? = none := List.getElem?_eq_none (by simp [su.words, bh_len]; omega)
    rw [z]
    split
    · omega
    · exact List.getElem?_eq_none (by omega)
theorem wrap8 {y : Int} (h1 : -24 ≤ y) (h2 : y ≤ 24) : IntKind.i8.wrap y = y := by
  have key : ∀ j : Fin 49, IntKind.i8.wrap ((j.val : Int) - 24) = (j.val : Int) - 24 := by decide
  have := key ⟨(y + 24).toNat, by omega⟩
  rw [show (((y + 24).toNat : Nat) : Int) - 24 = y by omega] at this
  exact this
theorem infoU' : (Tryd.prog.info? 59).map (fun i => (i.zero, i.size, i.bytes)) = some (some (.int .u64 0), 1, 8) := su.infoU
set_option maxRecDepth 100000 in
set_option maxHeartbeats 4000000 in
theorem setsBehind (u : Value) (a : List Int) (w : World) (ha : a.length ≤ 1048576) (ho : ∀ x ∈ a, okB x = true) (hu : Sl w u a) :
    Calls Tryd.prog 64 #[u] w fun e w' => ∃ r, e = .returned r ∧ MadeU w w' r (bh a 0) := by
  obtain ⟨ua, uc, rfl, hcell⟩ := hu
  have HCE := hide hcell
  obtain ⟨i0, hi, hz0, hz1, hz2⟩ := info_parts su.infoU
  have HO := hide ho
  clear hcell ho
  go_enter Tryd.func64, Tryd.ntmps64
  go_wp2_with (first | (at_make; refine wpList_make_full _ rfl _ _ 53 rfl w.heap.size 59 i0 (.int .u64 0) 1 Tryd.underlying53 hi hz0 hz1 _ _ _ _ a.length rfl rfl (by rfl) (by rfl) ?b1 ?b2 ?b3 ?_))
  case b1 => rw [hz2]; omega
  case b2 => unfold maxLen; omega
  case b3 => exact Nat.le_refl _
  intro w1 hown hgrow
  have O : Hid (w1.ownsRow w.heap.size 59 1 (.slice (some ⟨w.heap.size, 0, none⟩) a.length a.length) a.length (words (bh a (a.length - 1)))) := by
    have e : (madeCells #[Value.int .u64 0] a.length).toList = words (bh a (a.length - 1)) := by
      rw [toList_madeCells_one, bh_last a _ (by omega)]
    show _
    rw [← e]
    exact hown
  have G := hide hgrow
  clear hown hgrow
  go_wp2_with fail
  go_loopw [4] (fun i wr => ∃ (j : Int) (k : Nat), k ≤ a.length - 1 ∧ i = .int .i64 j ∧ (j = (k : Int) ∨ a.length = 0 ∧ j = -1) ∧ wr.ownsRow w.heap.size 59 1 (.slice (some ⟨w.heap.size, 0, none⟩) a.length a.length) a.length (words (bh a k)) ∧ w.grownBy wr none) (fun i _ => (intOf i).toNat)
  case atStart => exact ⟨_, a.length - 1, by omega, rfl, by go_num, unhide O, unhide G⟩
  case round =>
    obtain ⟨j, k, hk, rfl, hj, hown, hg⟩ := hrel
    clear O G
    by_cases hpos : 0 < j
    · obtain ⟨i, hki⟩ : ∃ i, k = i + 1 := ⟨k - 1, by omega⟩
      obtain rfl : j = (k : Int) := by omega
      have hlt : k < a.length := by omega
      rcases unhide HCE with h | ⟨b, off, rfl, hbl, hcb⟩
      · rw [h] at hlt
        simp at hlt
      · have c1 := hg.cell (hcb k hlt) (fun e => by cases e)
        have hm : a.getD k 0 ∈ a := by
          rw [List.getD_eq_getElem?_getD, List.getElem?_eq_getElem hlt]
          exact List.getElem_mem hlt
        have hok := unhide HO _ hm
        have hb := lits.okB_iff.1 hok
        have hb1 := hb.2.1
        have hb2 := hb.2.2
        have c2 : wr.cell? ⟨w.heap.size, k, none⟩ = some (.int .u64 (setOf (a.drop (k + 1)) : Int)) := by
          rw [hown.cellAt k (by omega), words_at (bh_at hlt), if_pos (Nat.le_refl _)]
        have c3 : wr.cell? ⟨w.heap.size, i, none⟩ = some (.int .u64 0) := by
          rw [hown.cellAt i (by omega), words_at (bh_at (by omega)), if_neg (by omega)]
          rfl
        have f3 : wr.frozen? ⟨w.heap.size, i, none⟩ = false := hown.frozenAt i
        have O' := (hown.stored i (.int .u64 (withN (setOf (a.drop (k + 1))) (a.getD k 0) : Int))).1
        have bs := bh_step (a := a) (i := i) (by omega) (by rw [← hki]; exact hok)
        rw [← hki] at bs
        rw [bs] at O'
        have O2 := hide O'
        have G2 := hide (cu.grow1 hg (sl.grown_setCell wr w.heap.size i (.int .u64 (withN (setOf (a.drop (k + 1))) (a.getD k 0) : Int))) (Nat.le_refl _))
        have CW0 := (fun w' => bset.withC (setOf (a.drop (k + 1))) (a.getD k 0) w' (setOf_lt _) hok)
        have hy8 := wrap8 hb1 hb2
        have CW : Hid (∀ w', Calls Tryd.prog 58 #[.int .u64 (setOf (a.drop (k + 1)) : Int), .int .i8 (IntKind.i8.wrap (a.getD k 0))] w' fun e w'' => e = .returned (.int .u64 (withN (setOf (a.drop (k + 1))) (a.getD k 0) : Int)) ∧ w'' = w') := by
          intro w'
          rw [hy8]
          exact CW0 w'
        have hi1 : (k : Int) < (a.length : Int) := by omega
        have hi3 : (0 : Int) ≤ (k : Int) - 1 := by omega
        have hi6 : (k : Int) - 1 < (a.length : Int) := by omega
        have hi7 : ((k : Int) - 1).toNat = i := by omega
        have hw1 : IntKind.i64.wrap ((k : Int) - 1) = (k : Int) - 1 := by rw [IntKind.wrap_i64]; omega
        have hi8 : (1 : Int) ≤ (k : Int) := by omega
        have hi9 : (k : Int) ≤ (a.length : Int) := by omega
        have hi10 : 1 ≤ k := by omega
        have hi11 : k ≤ a.length := by omega
        have hi12 : k - 1 = i := by omega
        have hi4 : ¬ k = i := by omega
        have hi5 : 0 < (k : Int) := by omega
        have hi2 : (i : Int) < (a.length : Int) := by omega
        have hkk : i ≤ a.length - 1 := by omega
        have hne1 : ¬ b = w.heap.size := by omega
        have hne2 : ¬ w.heap.size = b := by omega
        clear hcb hown hg hok hb hm O' hj hpos hk CW0 hy8 hb1 hb2 bs hki hlt
        generalize withN (setOf (a.drop (k + 1))) (a.getD k 0) = Z at *
        generalize setOf (a.drop (k + 1)) = Y at *
        generalize a.getD k 0 = y at *
        go_wp2_with fail
        have hst : Hid ((wr.setCell ⟨w.heap.size, i, none⟩ (.int .u64 (Z : Int))).drew.cell? ⟨w.heap.size, k, none⟩ = some (.int .u64 (Y : Int)) ∧ (wr.setCell ⟨w.heap.size, i, none⟩ (.int .u64 (Z : Int))).drew.cell? ⟨b, off + k, none⟩ = some (.int .i64 y)) := by
          refine ⟨?_, ?_⟩
          · show (wr.setCell ⟨w.heap.size, i, none⟩ (.int .u64 (Z : Int))).cell? _ = _
            exact (World.cell?_setCell_other wr _ _ _ (fun e => hi4 (congrArg Addr.off e).symm)).trans c2
          · show (wr.setCell ⟨w.heap.size, i, none⟩ (.int .u64 (Z : Int))).cell? _ = _
            exact (World.cell?_setCell_other wr _ _ _ (fun e => hne2 (congrArg Addr.block e))).trans c1
        go_region_held3 (fun w' => w'.cell? ⟨w.heap.size, k, none⟩ = some (.int .u64 (Y : Int)) ∧ w'.cell? ⟨b, off + k, none⟩ = some (.int .i64 y)) (first | exact unhide hst | go_keep) (first
          | (go_at_call 58; refine (unhide CW _).mono ?_; rintro e w8 ⟨rfl, hw⟩; have hw' := hw.symm; clear hw; subst hw'))
        all_goals
          go_wp2_with fail
          go_roundw
          case rel => exact ⟨(i : Int), i, hkk, by go_num, .inl rfl, unhide O2, grown_trans (unhide G2) (cf.grown_drew _ none)⟩
          case measure => simp [intOf]; omega
    · have e : bh a k = bh a 0 := by
        rcases hj with h | ⟨h, _⟩
        · have : k = 0 := by omega
          rw [this]
        · simp [bh, h]
      rw [e] at hown
      have O2 := hide hown
      have G2 := hide hg
      have hl := bh_len a 0
      clear hown hg hj e
      go_wp2_with fail
      go_ret
      refine ⟨_, rfl, ?_, unhide G2⟩
      rw [bh_len]
      exact unhide O2
theorem row_ne {w : World} {b n z b' n' z' : Nat} {e e' : TypeId} {v v' : Value} {xs xs' : List Value} (h : w.ownsRow b e z v n xs) (h' : w.ownsRow b' e' z' v' n' xs') (he : (e : Nat) ≠ e') : v.ownBlock = none ∨ v.ownBlock ≠ v'.ownBlock := by
  cases q : v.ownBlock with
  | none => exact .inl rfl
  | some g =>
    right
    intro q'
    obtain ⟨c, fz, hc⟩ := css.own_kind h g q
    obtain ⟨c', fz', hc'⟩ := css.own_kind h' g q'.symm
    rw [hc] at hc'
    simp only [Option.some.injEq, Obj.cells.injEq] at hc'
    exact he hc'.2.1
theorem mup {w w1 w2 : World} {v : Value} {L : List Int} (h : Made w w1 v L) (g : w1.grownBy w2 none) : Made w w2 v L :=
  ⟨h.1.kept g (by cases v.ownBlock with | none => exact .inl rfl | some k => exact .inr (by simp)), grown_trans h.2 g⟩
theorem core_none {n : Int} {LL : List (List Int)} {a : List Int} (h : (cnfB n LL && a.all (litIn n)) = false) : coreO n LL a = none := by
  unfold coreO
  rw [h]
  rfl
/-- the program on its way through the assumptions -/
structure Cor (n : Nat) (LL : List (List Int)) (a K : List Int) (k : Nat) : Prop where
  eq : coreG (n : Int) LL [] a = coreG (n : Int) LL K (a.drop k)
  no : cano (n : Int) LL (K ++ a.drop k) = false
  li : ∀ x ∈ K, litIn (n : Int) x = true
  le : K.length ≤ k
theorem drop_at {a : List Int} {k : Nat} (h : k < a.length) : a.drop k = a.getD k 0 :: a.drop (k + 1) := by
  rw [List.getD_eq_getElem?_getD, List.getElem?_eq_getElem h]
  exact List.drop_eq_getElem_cons h
theorem Cor.off {n : Nat} {LL : List (List Int)} {a K : List Int} {k : Nat} (h : Cor n LL a K k) (hk : k < a.length) (hc : cano (n : Int) LL (K ++ a.drop (k + 1)) = false) : Cor n LL a K (k + 1) := by
  refine ⟨?_, hc, h.li, Nat.le_succ_of_le h.le⟩
  rw [h.eq, drop_at hk, core_no hc]
theorem Cor.on {n : Nat} {LL : List (List Int)} {a K : List Int} {k : Nat} (h : Cor n LL a K k) (hk : k < a.length) (hl : litIn (n : Int) (a.getD k 0) = true) (hc : cano (n : Int) LL (K ++ a.drop (k + 1)) = true) : Cor n LL a (K ++ [a.getD k 0]) (k + 1) := by
  refine ⟨?_, ?_, ?_, ?_⟩
  · rw [h.eq, drop_at hk, core_yes hc]
  · rw [List.append_assoc, List.singleton_append, ← drop_at hk]
    exact h.no
  · intro x hx
    rw [List.mem_append] at hx
    rcases hx with hx | hx
    · exact h.li x hx
    · simp at hx
      rw [hx]
      exact hl
  · rw [List.length_append]
    have := h.le
    simp
    omega
theorem Cor.dup {n : Nat} {LL : List (List Int)} {a K : List Int} {k : Nat} (h : Cor n LL a K k) (hk : k < a.length) (hl : litIn (n : Int) (a.getD k 0) = true) (hx : a.getD k 0 ∈ K ++ a.drop (k + 1)) : Cor n LL a K (k + 1) := by
  refine h.off hk (cano_dup hx hl ?_)
  rw [← drop_at hk]
  exact h.no
set_option maxRecDepth 100000 in
set_option maxHeartbeats 8000000 in
theorem implCore (v u : Value) (n : Int) (LL : List (List Int)) (a : List Int) (w : World) (hT : Tab w) (hn : tot LL ≤ 1048576) (ha : a.length ≤ 1048576) (hv : Sls w v LL) (hu : Sl w u a) :
    Calls Tryd.prog 26 #[.agg #[.int .i64 n, v], u] w fun e w' => FromE w (coreO n LL a) e w' := by
  obtain ⟨O, hO⟩ : ∃ O, coreO n LL a = O := ⟨_, rfl⟩
  rw [hO]
  have HO := hide hO
  clear hO
  have g0 := World.grownBy_alloc w (.cells #[.int .i64 n, v] 26) none
  have C1 := ok.implCnfOk v n LL _ hn (hv.kept g0)
  have F0 := hide (Box.new 26 w (.int .i64 n) v)
  have HU := hide (hu.kept g0 (.inl rfl))
  have HV := hide (hv.kept g0)
  have HT := hide (hT.kept g0)
  have G0 := hide g0
  have x0 := (unhide F0).c0
  have x1 := (unhide F0).c1
  clear g0 hv hu hT
  cases hc : cnfB n LL
  · rw [hc] at C1
    have CC := hide C1
    have E := hide ((unhide HO).symm.trans (core_none (n := n) (LL := LL) (a := a) (by rw [hc]; rfl)))
    clear C1 hc HV HU
    go_enter Tryd.func26, Tryd.ntmps26
    go_wp2_with fail
    refine (unhide CC).mono ?_; rintro e w1 ⟨rfl, g1⟩
    have G1 := hide (grown_trans (r := none) (unhide G0) g1)
    clear g1 CC x0 x1
    go_wp2_with fail
    go_ret2
    rw [unhide E]
    exact ⟨_, rfl, made_sub (unhide G1) (app.made_nil _)⟩
  rw [hc] at C1
  have CC := hide C1
  have HC := hide hc
  clear C1 hc
  go_enter Tryd.func26, Tryd.ntmps26
  go_wp2_with fail
  refine (unhide CC).mono ?_; rintro e w1 ⟨rfl, g1⟩
  have G1 := hide (grown_trans (r := none) (unhide G0) g1)
  have F1 := hide ((unhide F0).kept g1)
  have U1 := hide ((unhide HU).kept g1 (.inl rfl))
  have V1 := hide ((unhide HV).kept g1)
  have T1 := hide ((unhide HT).kept g1)
  have y0 := (unhide F1).c0
  have y1 := (unhide F1).c1
  have CL := ok.literalsOf u a n w1 ha (unhide U1)
  clear g1 CC x0 x1 G0 F0 HU HV HT
  cases hl : a.all (litIn n)
  · rw [hl] at CL
    have C2 := hide CL
    have E := hide ((unhide HO).symm.trans (core_none (n := n) (LL := LL) (a := a) (by rw [hl, Bool.and_false])))
    clear CL hl V1 U1 HC
    go_wp2_with fail
    refine (unhide C2).mono ?_; rintro e w2 ⟨rfl, hw⟩; have hw' := hw.symm; clear hw; subst hw'
    go_wp2_with fail
    go_ret2
    rw [unhide E]
    exact ⟨_, rfl, made_sub (unhide G1) (app.made_nil _)⟩
  rw [hl] at CL
  have C2 := hide CL
  obtain ⟨m, rfl, h24, h120⟩ := cnf_parts (unhide HC)
  have EO : Hid (O = if cano (m : Int) LL a then none else some (coreG (m : Int) LL [] a)) := by
    have := unhide HO
    unfold coreO at this
    rw [unhide HC, hl] at this
    exact this.symm
  have HA : Hid (∀ x ∈ a, litIn (m : Int) x = true) := List.all_eq_true.1 hl
  have CS := hide (solverOf v m LL w1 (unhide T1) h24 h120 hn (lits_in (unhide HC)) (unhide V1))
  have ES : Hid (solveL (m : Int) LL a = left_ m LL a []) := solve_yes (unhide HC) hl
  clear CL hl HO V1 F1
  go_wp2_with fail
  refine (unhide C2).mono ?_; rintro e w2 ⟨rfl, hw⟩; have hw' := hw.symm; clear hw; subst hw'
  go_wp2_with fail
  refine (unhide CS).mono ?_; rintro e w2 ⟨c, s, rfl, h1, h2, g2⟩
  have H1 := hide h1
  have H2 := hide h2
  have G2 := hide (grown_trans (r := none) (unhide G1) g2)
  have U2 := hide ((unhide U1).kept g2 (.inl rfl))
  have T2 := hide ((unhide T1).kept g2)
  have CO := hide (bset.litsOf u a w2 ha (unhide U2))
  have CB := hide (callsIn_wide.1 (least m LL a s c 0 h2 (unhide HA) w2 h1 (unhide T2)))
  clear h1 h2 g2 y0 y1 CS C2 U1 T1 G1
  go_wp2_with fail
  refine (unhide CO).mono ?_; rintro e w3 ⟨rfl, hw⟩; have hw' := hw.symm; clear hw; subst hw'
  go_wp2_with fail
  refine (unhide CB).mono ?_
  rintro e w3 ⟨g3, ⟨hN, rfl⟩ | ⟨l, P, hN, hW, hh, rfl⟩⟩
  · have hca : cano (m : Int) LL a = false := by unfold cano; rw [unhide ES, hN]; rfl
    have E : Hid (O = some (coreG (m : Int) LL [] a)) := by
      have := unhide EO
      rw [hca] at this
      exact this
    have ST : Hid (Cor m LL a [] 0) := ⟨rfl, hca, fun x hx => (by cases hx), Nat.le_refl _⟩
    have G3 := hide (grown_trans (r := none) (unhide G2) g3)
    have S3 := hide ((unhide H1).kept g3)
    have T3 := hide ((unhide T2).kept g3)
    have U3 := hide ((unhide U2).kept g3 (.inl rfl))
    have gA := World.grownBy_alloc w3 (.cells #[] 3) none
    have M3 := hide (app.made_nil w3)
    have CX := hide (setsBehind u a _ ha (fun x hx => lit_ok (unhide HA x hx)) ((unhide U3).kept gA (.inl rfl)))
    have hOk := hide (fun x hx => lit_ok (unhide HA x hx))
    obtain ⟨ua, uc, rfl, hcell⟩ := unhide U3
    have HCE := hide hcell
    clear g3 hN hca EO ES CB CO G2 H1 T2 U2 gA hcell
    go_wp2_with fail
    refine (unhide CX).mono ?_
    rintro e w4 ⟨r4, rfl, m4⟩
    obtain ⟨ra, rc, rfl⟩ := row_form m4.1
    have M4 : Hid (Made w3 w4 (.slice (some ⟨w3.heap.size, 0, none⟩) 0 0) []) := hide ⟨(unhide M3).1.kept m4.2 (.inr (fun e => by cases e)), grown_trans (unhide M3).2 m4.2⟩
    have B4 : Hid (w4.ownsRow 0 59 1 (.slice ra (bh a 0).length rc) (bh a 0).length (words (bh a 0))) := css.own_mono m4.1 (Nat.zero_le _)
    rw [bh_len] at *
    clear m4 CX M3
    go_wp2_with fail
    go_loopw [9, 10, 45] (fun uv kv iv wr => ∃ (K : List Int) (k : Nat), k ≤ a.length ∧ kv = .int .u64 (setOf K : Int) ∧ iv = .int .i64 (k : Int) ∧ Hid (Cor m LL a K k) ∧ Hid (Made w3 wr uv K) ∧ Hid (wr.ownsRow 0 59 1 (.slice ra a.length rc) a.length (words (bh a 0)))) (fun _ _ iv _ => a.length - (intOf iv).toNat)
    case atStart => exact ⟨[], 0, Nat.zero_le _, rfl, rfl, ST, M4, B4⟩
    case round =>
      obtain ⟨K, k, hk, rfl, rfl, hcor, hmd, hbe⟩ := hrel
      clear ST M4 B4
      by_cases hlt : k < a.length
      · have hco := unhide hcor
        have hmd' := unhide hmd
        have hi' : (k : Int) < (a.length : Int) := by omega
        rcases unhide HCE with h | ⟨b, off, rfl, hbl, hcb⟩
        · rw [h] at hlt
          simp at hlt
        obtain ⟨g, cap, e, _⟩ := (unhide hbe).form (by omega)
        rw [Value.slice.injEq] at e
        obtain ⟨rfl, hz, rfl⟩ := e
        clear hz
        have c1 := hmd'.2.cell (hcb k hlt) (fun e => by cases e)
        have c2 : wr.cell? ⟨g, k, none⟩ = some (.int .u64 (setOf (a.drop (k + 1)) : Int)) := by
          rw [(unhide hbe).cellAt k (by omega), words_at (bh_at hlt), if_pos (Nat.zero_le _)]
        have hmem : a.getD k 0 ∈ a := by
          rw [List.getD_eq_getElem?_getD, List.getElem?_eq_getElem hlt]
          exact List.getElem_mem hlt
        have hli := unhide HA _ hmem
        have hok := lit_ok hli
        have hb := lits.okB_iff.1 hok
        have hb1 := hb.2.1
        have hb2 := hb.2.2
        have hin : ∀ x ∈ K ++ a.drop (k + 1), litIn (m : Int) x = true := by
          intro x hx
          rw [List.mem_append] at hx
          rcases hx with hx | hx
          · exact hco.li x hx
          · exact unhide HA x (List.mem_of_mem_drop hx)
        have es := setOf_app K (a.drop (k + 1))
        have EOR := hide (srt.orN_eq (setOf K) (setOf (a.drop (k + 1))) (setOf_lt _) (setOf_lt _))
        have CH := fun w' => bset.hasC (setOf K ||| setOf (a.drop (k + 1))) (a.getD k 0) w' (by rw [← es]; exact setOf_lt _) hok
        have hmm := has_mem (L := K ++ a.drop (k + 1)) hok (fun y hy => lit_ok (hin y hy))
        rw [es] at hmm
        cases hbit : (setOf K ||| setOf (a.drop (k + 1))).testBit (placeN (a.getD k 0))
        · rw [hbit] at CH
          have CH' := hide CH
          have CM := callsIn_wide.1 (least m LL (K ++ a.drop (k + 1)) s c 0 (unhide H2) hin wr ((unhide S3).kept hmd'.2) ((unhide T3).kept hmd'.2))
          rw [es] at CM
          unfold LeastE at CM
          have CM' := hide CM
          have KN : Hid (left_ m LL (K ++ a.drop (k + 1)) [] = none → Cor m LL a K (k + 1)) := fun hN => hco.off hlt (by unfold cano; rw [solve_yes (unhide HC) (List.all_eq_true.2 hin), hN]; rfl)
          have KY : Hid (∀ l, left_ m LL (K ++ a.drop (k + 1)) [] = some l → Cor m LL a (K ++ [a.getD k 0]) (k + 1)) := fun l hN => hco.on hlt hli (by unfold cano; rw [solve_yes (unhide HC) (List.all_eq_true.2 hin), hN]; rfl)
          have CW0 := fun w' => bset.withC (setOf K) (a.getD k 0) w' (setOf_lt _) hok
          have ew : withN (setOf K) (a.getD k 0) = setOf (K ++ [a.getD k 0]) := by rw [bset.setOf_snoc, hok]; rfl
          rw [ew] at CW0
          have CW := hide CW0
          have hKl : K.length ≤ 1048576 := by have := hco.le; omega
          have hbe' := unhide hbe
          clear hbit hmm CH CM CW0 ew es hco hin hb hok hli hmem hcb
          generalize left_ m LL (K ++ a.drop (k + 1)) [] = OO at *
          generalize setOf (a.drop (k + 1)) = Y at *
          generalize a.getD k 0 = y at *
          generalize hX2 : setOf (K ++ [y]) = X2 at *
          have HX2 := hide hX2
          clear hX2
          generalize hKK : setOf K = X at *
          have HKK := hide hKK
          clear hKK hbe' hmd'
          go_wp2_with fail
          rw [unhide EOR]
          refine (unhide CH' _).mono ?_; rintro e w5 ⟨rfl, hw⟩; have hw' := hw.symm; clear hw; subst hw'
          go_wp2_with fail
          refine (unhide CM').mono ?_
          rintro e w5 ⟨g5, ⟨hN, rfl⟩ | ⟨l, P, hN, hW, hh, rfl⟩⟩
          · have KK := hide (unhide KN hN)
            have M5 := hide (mup (unhide hmd) g5)
            have B5 := hide ((unhide hbe).kept g5 (.inr (fun e => by cases e)))
            clear g5 hN
            go_wp2_with fail
            go_roundw
            case rel => exact ⟨K, k + 1, by omega, by rw [unhide HKK], by go_num, unhide KK, unhide M5, unhide B5⟩
            case measure => simp [intOf]; omega
          · have KK := hide (unhide KY l hN)
            have gA := World.grownBy_alloc w5 (.cells #[.int .i64 y] 3) none
            have M5 := hide (mup (unhide hmd) (grown_trans g5 gA))
            have B5 := hide ((unhide hbe).kept (grown_trans (r := none) g5 gA) (.inr (fun e => by cases e)))
            have OB := hide (lq.one_own w5 y)
            have hKl2 : K.length + [y].length ≤ 4194304 := by simp; omega
            clear g5 hN hW hh gA KY KN CM' CH'
            go_wp2_with (at_builtin; refine app.appendI (unhide M5).2 (unhide M5).1 (unhide OB) hKl2 rfl _ _ rfl rfl rfl ?_)
            intro v6 w6 m6 g6
            have M6 := hide m6
            have B6 := hide ((unhide B5).kept g6 (row_ne (unhide B5) (unhide M5).1 (by decide)))
            clear m6 g6 B5 M5 OB
            go_wp2_with fail
            refine (unhide CW _).mono ?_; rintro e w7 ⟨rfl, hw⟩; have hw' := hw.symm; clear hw; subst hw'
            go_wp2_with fail
            go_roundw
            case rel => exact ⟨K ++ [y], k + 1, by omega, by rw [unhide HX2], by go_num, unhide KK, unhide M6, unhide B6⟩
            case measure => simp [intOf]; omega
        · rw [hbit] at CH
          have CH' := hide CH
          have KD := hide (hco.dup hlt hli (hmm.1 hbit))
          clear hbit hmm CH es hco hin hb hok hli hmem hcb hmd'
          generalize setOf (a.drop (k + 1)) = Y at *
          generalize a.getD k 0 = y at *
          generalize hKK : setOf K = X at *
          have HKK := hide hKK
          clear hKK
          go_wp2_with fail
          rw [unhide EOR]
          refine (unhide CH' _).mono ?_; rintro e w5 ⟨rfl, hw⟩; have hw' := hw.symm; clear hw; subst hw'
          go_wp2_with fail
          go_roundw
          case rel => exact ⟨K, k + 1, by omega, by rw [unhide HKK], by go_num, unhide KD, unhide hmd, unhide hbe⟩
          case measure => simp [intOf]; omega
      · have hi' : ¬ (k : Int) < (a.length : Int) := by omega
        have hk' : k = a.length := by omega
        have ER : Hid (O = some K) := by
          have := (unhide hcor).eq
          rw [hk', List.drop_length, coreG] at this
          rw [unhide E, this]
          rfl
        clear hk'
        go_wp2_with fail
        go_ret2
        rw [unhide ER]
        exact ⟨_, rfl, made_sub (unhide G3) (unhide hmd)⟩
  · have hca : cano (m : Int) LL a = true := by unfold cano; rw [unhide ES, hN]; rfl
    have E : Hid (O = none) := by
      have := unhide EO
      rw [hca] at this
      exact this
    have G3 := hide (grown_trans (r := none) (unhide G2) g3)
    clear g3 hN hW hh hca EO ES CB CO
    go_wp2_with fail
    go_ret2
    rw [unhide E]
    exact ⟨_, rfl, made_sub (unhide G3) (app.made_nil _)⟩
end Go.Proofs.YtapkckfgbimmcaaDoor.ks
