/- What the small helpers on lists of what is known, and on caches, do: a copy, a size, an equality; no condition but on sizes. -/
import Derived.Test.YtgjakiliepfjiaaUa
import Derived.Test.YtgjakiliepfjiaaCf
import Derived.Deep.RegionHeld3
import Derived.Deep.DeepCutAuto
import Derived.Laws.IdiomStrings
import Derived.Laws.NewBlocks
namespace Go.Proofs.Ytgjakiliepfjiaa.ua
open Go.ChangeShapes Go.WideShapes Go.ChangeAt Go.RowKit
open Go.Proofs.Ytgjakiliepfjiaa.sl (Sl Own ints marks hide unhide ret_int ret_bool grown_refl grown_trans grown_drewN below_of of_below)
open Go.Proofs.Ytgjakiliepfjiaa.css (Outs outs_trans outs_none outs_by outs_refl own_mono own_sub own_outs own_kind)
open Go.Proofs.Ytgjakiliepfjiaa.yb (Box4)
set_option linter.unusedVariables false
theorem grown4 {w w1 : World} {g o : Nat} {a b c d : Value} (h : w.grownBy w1 none) (hg : w.heap.size ≤ g) : w.grownBy ((((w1.setCell ⟨g, o, none⟩ a).setCell ⟨g, o + 1, none⟩ b).setCell ⟨g, o + 2, none⟩ c).setCell ⟨g, o + 3, none⟩ d) none :=
  yb.grown_set (yb.grown_set (yb.grown_set (yb.grown_set h hg) hg) hg) hg
theorem row_set {w : World} {lo n z c i : Nat} {t : TypeId} {v : Value} {xs : List Value} {u : Value} (h : w.ownsRow lo t z v n xs) (hc : c < lo) : (w.setCell ⟨c, i, none⟩ u).ownsRow lo t z v n xs := h.kept (sl.grown_setCell w c i u) (by
  cases e : v.ownBlock with
  | none => exact .inl rfl
  | some k => exact .inr (fun e' => by cases e'; have := (h.lt _ e).1; omega))
set_option maxHeartbeats 800000 in
/-- a copy of one -/
theorem toKnown (u : Value) (k : Kn) (w : World) (hL : k.vals.length ≤ 1048576) (hu : Sl w u k.vals) :
    Calls Try.prog 23 #[.agg #[.string k.dg, .bool k.sat, u, .int .i64 k.cost]] w fun e w' => ∃ v, e = .returned (.agg #[.string k.dg, .bool k.sat, v, .int .i64 k.cost]) ∧ w'.ownsRow w.heap.size 3 1 v k.vals.length (ints k.vals) ∧ w.grownBy w' none := by
  have C := hide (fun w1 (g : w.grownBy w1 none) => sl.toIntS u k.vals w1 hL (hu.kept g (.inl rfl)))
  clear hu
  obtain ⟨W1, hW1⟩ : ∃ W1, W1 = ((w.alloc (.cells #[.string k.dg, .bool k.sat, u, .int .i64 k.cost] 46)).alloc (.cells #[.string ⟨#[]⟩, .bool false, .slice none 0 0, .int .i64 0] 29)).alloc (.cells #[.string k.dg, .bool k.sat, .slice none 0 0, .int .i64 0] 29) := ⟨_, rfl⟩
  have g0 : w.grownBy W1 none := by rw [hW1]; exact grown_trans (grown_trans (World.grownBy_alloc _ _ _) (World.grownBy_alloc _ _ _)) (World.grownBy_alloc _ _ _)
  have b0 : Box4 46 W1 w.heap.size (.string k.dg) (.bool k.sat) u (.int .i64 k.cost) := by rw [hW1]; exact ((Box4.new _ w _ _ _ _).kept (World.grownBy_alloc _ _ none)).kept (World.grownBy_alloc _ _ none)
  have b1 : Box4 29 W1 (w.heap.size + 1) (.string ⟨#[]⟩) (.bool false) (.slice none 0 0) (.int .i64 0) := by
    rw [hW1]
    have := (Box4.new 29 (w.alloc (.cells #[.string k.dg, .bool k.sat, u, .int .i64 k.cost] 46)) (.string ⟨#[]⟩) (.bool false) (.slice none 0 0) (.int .i64 0)).kept (World.grownBy_alloc _ (.cells #[.string k.dg, .bool k.sat, .slice none 0 0, .int .i64 0] 29) none)
    rw [World.size_alloc] at this
    exact this
  have b2 : Box4 29 W1 (w.heap.size + 1 + 1) (.string k.dg) (.bool k.sat) (.slice none 0 0) (.int .i64 0) := by
    rw [hW1]
    have := Box4.new 29 ((w.alloc (.cells #[.string k.dg, .bool k.sat, u, .int .i64 k.cost] 46)).alloc (.cells #[.string ⟨#[]⟩, .bool false, .slice none 0 0, .int .i64 0] 29)) (.string k.dg) (.bool k.sat) (.slice none 0 0) (.int .i64 0)
    rw [World.size_alloc, World.size_alloc] at this
    exact this
  have sz1 : w.heap.size + 3 ≤ W1.heap.size := by rw [hW1]; simp only [World.size_alloc]; omega
  have G0 := hide g0
  have B0 := hide b0
  have B1 := hide b1
  have B2 := hide b2
  have CC := hide (unhide C W1 g0)
  clear g0 b0 b1 b2 C
  go_enter Try.func23, Try.ntmps23
  go_wp2_with fail
  rw [← hW1]
  clear hW1
  refine (unhide CC).mono ?_; rintro e w2 ⟨rfl, o2, g2⟩
  have B0' := hide ((unhide B0).kept g2)
  have B1' := hide ((unhide B1).kept g2)
  have B2' := hide ((unhide B2).kept g2)
  have G2 := hide (grown_trans (r := none) (unhide G0) g2)
  have O2 := hide o2
  clear g2 o2 B0 B1 B2 G0 CC
  have x3 := (unhide B0').c3
  have p0 := (unhide B1').c0
  have p1 := (unhide B1').c1
  have p2 := (unhide B1').c2
  have p3 := (unhide B1').c3
  have pf0 := (unhide B1').f 0
  have pf1 := (unhide B1').f 1
  have pf2 := (unhide B1').f 2
  have pf3 := (unhide B1').f 3
  have q0 := (unhide B2').c0
  have q1 := (unhide B2').c1
  have q2 := (unhide B2').c2
  have q3 := (unhide B2').c3
  have qf2 := (unhide B2').f 2
  have qf3 := (unhide B2').f 3
  go_wp2_with fail
  (try simp only [Exit.inBlock, Exit.then])
  refine bodyPost_ret (ret_known rfl rfl ((((unhide B1').setO (d := w.heap.size + 1 + 1) (by omega)).setO (d := w.heap.size + 1 + 1) (by omega)).setA _ _ _ _)) rfl ⟨_, rfl, ?_, ?_⟩
  · exact own_mono (row_set (row_set (row_set (row_set (row_set (row_set (unhide O2) (by omega)) (by omega)) (by omega)) (by omega)) (by omega)) (by omega)) (by omega)
  · exact yb.grown_setA (yb.grown_set (yb.grown_set (unhide G2) (by omega)) (by omega)) (by omega)
/-- a copy of a list in the making -/
def MidK (w wr : World) (n : Nat) (KK : List Kn) : Prop :=
  ∃ D : List (Value × Kn), D.map (·.2) = KK ∧ D.length ≤ n ∧ wr.ownsRow w.heap.size 29 4 (.slice (some ⟨w.heap.size, 0, none⟩) n n) n (cells4 (D ++ zs (n - D.length))) ∧ (∀ p ∈ D, Own w.heap.size wr.heap.size wr p.1 p.2.vals) ∧ D.Pairwise Apart ∧ w.grownBy wr none
theorem MidK.start {w w1 : World} {n : Nat} (ho : w1.ownsRow w.heap.size 29 4 (.slice (some ⟨w.heap.size, 0, none⟩) n n) n (madeCells #[.string ⟨#[]⟩, .bool false, .slice none 0 0, .int .i64 0] (n * 4)).toList) (g : w.grownBy w1 none) : MidK w w1 n [] := by
  rw [made4] at ho
  exact ⟨[], rfl, Nat.zero_le _, ho, (fun p hp => by cases hp), .nil, g⟩
theorem MidK.grown {w wr : World} {n : Nat} {KK : List Kn} (h : MidK w wr n KK) : w.grownBy wr none := by
  obtain ⟨D, _, _, _, _, _, g⟩ := h
  exact g
theorem MidK.cell {w wr w1 : World} {n : Nat} {KK : List Kn} (h : MidK w wr n KK) (hk : KK.length < n) (g : wr.grownBy w1 none) (j : Nat) (hj : j < 4) :
    (∃ x, w1.cell? ⟨w.heap.size, KK.length * 4 + j, none⟩ = some x) ∧ w1.frozen? ⟨w.heap.size, KK.length * 4 + j, none⟩ = false := by
  obtain ⟨D, rfl, hD, ho, hi, hp, hg⟩ := h
  have ho1 := row_kept ho g
  refine ⟨?_, ho1.frozenAt _⟩
  rw [List.length_map] at *
  rw [ho1.cellAt _ (by omega)]
  refine ⟨_, List.getElem?_eq_getElem ?_⟩
  rw [cells4_len, List.length_append]
  simp only [zs, List.length_replicate]
  omega
theorem MidK.step {w wr w1 : World} {n : Nat} {KK : List Kn} {u : Value} {k : Kn} (h : MidK w wr n KK) (hk : KK.length < n) (g : wr.grownBy w1 none) (hu : w1.ownsRow wr.heap.size 3 1 u k.vals.length (ints k.vals)) :
    MidK w ((((w1.setCell ⟨w.heap.size, KK.length * 4, none⟩ (.string k.dg)).setCell ⟨w.heap.size, KK.length * 4 + 1, none⟩ (.bool k.sat)).setCell ⟨w.heap.size, KK.length * 4 + 2, none⟩ u).setCell ⟨w.heap.size, KK.length * 4 + 3, none⟩ (.int .i64 k.cost)) n (KK ++ [k]) := by
  obtain ⟨D, rfl, hD, ho, hi, hp, hg⟩ := h
  rw [List.length_map] at *
  have ho1 := row_kept ho g
  have hsz := g.size
  have hlt := (ho.lt w.heap.size rfl).2
  generalize hW : (((w1.setCell ⟨w.heap.size, D.length * 4, none⟩ (.string k.dg)).setCell ⟨w.heap.size, D.length * 4 + 1, none⟩ (.bool k.sat)).setCell ⟨w.heap.size, D.length * 4 + 2, none⟩ u).setCell ⟨w.heap.size, D.length * 4 + 3, none⟩ (.int .i64 k.cost) = W
  have st : w1.grownBy W (some w.heap.size) := by
    rw [← hW]
    exact sl.grown_trans' (sl.grown_trans' (sl.grown_trans' (sl.grown_setCell _ _ _ _) (sl.grown_setCell _ _ _ _)) (sl.grown_setCell _ _ _ _)) (sl.grown_setCell _ _ _ _)
  have sz : W.heap.size = w1.heap.size := by rw [← hW]; simp [World.setCell]
  refine ⟨D ++ [(u, k)], by simp, by simp; omega, ?_, ?_, ?_, ?_⟩
  · have e1 : n - D.length = (n - (D ++ [(u, k)]).length) + 1 := by simp; omega
    have e2 : zs (n - D.length) = (.slice none 0 0, kz) :: zs (n - (D ++ [(u, k)]).length) := by rw [e1]; rfl
    rw [e2] at ho1
    have e3 := cells4_set D (zs (n - (D ++ [(u, k)]).length)) (.slice none 0 0, kz) (u, k) D.length rfl
    rw [List.append_assoc, List.singleton_append, ← e3, ← hW]
    exact ((((ho1.stored _ _).1.stored _ _).1.stored _ _).1.stored _ _).1
  · intro p hp'
    rw [List.mem_append, List.mem_singleton] at hp'
    rw [sz]
    rcases hp' with hp' | rfl
    · have q := (hi p hp').kept g
      exact ⟨q.1.kept st (own_ne' ho1 q.1), fun k' e => Nat.lt_of_lt_of_le ((hi p hp').2 k' e) hsz⟩
    · refine ⟨(own_mono hu (by omega)).kept st ?_, fun k e => (hu.lt k e).2⟩
      cases e : u.ownBlock with
      | none => exact .inl rfl
      | some k => exact .inr (fun e' => by cases e'; have := (hu.lt _ e).1; omega)
  · rw [List.pairwise_append]
    refine ⟨hp, List.pairwise_singleton _ _, fun a ha b hb => ?_⟩
    rw [List.mem_singleton] at hb
    subst hb
    intro k e e'
    have h1 := (hi a ha).2 k e
    have h2 := (hu.lt k e').1
    omega
  · exact ⟨st.os.trans (g.os.trans hg.os), st.tape.trans (g.tape.trans hg.tape), st.output.trans (g.output.trans hg.output), Nat.le_trans hg.size (Nat.le_trans hsz st.size), fun k hk _ => by
      rw [st.block k (by have := hg.size; omega) (by intro e; cases e; omega), g.block k (by have := hg.size; omega) (fun e => by cases e), hg.block k hk (fun e => by cases e)]⟩
theorem MidK.done {w wr : World} {n : Nat} {KK : List Kn} (h : MidK w wr n KK) (hn : KK.length = n) : OwnK w.heap.size wr.heap.size wr (.slice (some ⟨w.heap.size, 0, none⟩) n n) KK ∧ w.grownBy wr none := by
  obtain ⟨D, rfl, hD, ho, hi, hp, hg⟩ := h
  rw [List.length_map] at hn
  subst hn
  refine ⟨⟨D, rfl, ?_, fun k e => (ho.lt k e).2, hi, hp⟩, hg⟩
  simpa [zs] using ho
theorem take_snoc (KK : List Kn) (k : Nat) (h : k < KK.length) : KK.take (k + 1) = KK.take k ++ [KK.getD k kz] := by
  rw [List.take_succ_eq_append_getElem h]
  simp [h]
set_option maxHeartbeats 800000 in
/-- a copy of a list, in blocks of its own -/
theorem toKnownS (v : Value) (KK : List Kn) (w : World) (hn : KK.length ≤ 1048576) (hin : ∀ i, (KK.getD i kz).vals.length ≤ 1048576) (hv : Kns w v KK) :
    Calls Try.prog 39 #[v] w fun e w' => ∃ u, e = .returned u ∧ OwnK w.heap.size w'.heap.size w' u KK ∧ w.grownBy w' none := by
  obtain ⟨a, cap, rfl, ha⟩ := hv
  obtain ⟨i0, hi, hz0, hz1, hz2⟩ := info_parts infoK
  have HA := hide ha
  clear ha
  go_enter Try.func39, Try.ntmps39
  go_wp2_with (first | (at_make; refine wpList_make_full _ rfl _ _ 24 rfl w.heap.size 29 i0 (.agg #[.string ⟨#[]⟩, .bool false, .slice none 0 0, .int .i64 0]) 4 Try.underlying24 hi hz0 hz1 _ _ _ _ KK.length rfl rfl (by rfl) (by rfl) ?b1 ?b2 ?b3 ?_) | go_in)
  case b1 => rw [hz2]; omega
  case b2 => unfold maxLen; omega
  case b3 => exact Nat.le_refl _
  intro w1 hown hgrow
  have O := hide (MidK.start hown hgrow)
  clear hown hgrow
  go_wp2
  go_loopw [4] (fun i wr => ∃ k : Nat, k ≤ KK.length ∧ i = .int .i64 k ∧ Hid (MidK w wr KK.length (KK.take k))) (fun i _ => KK.length - (intOf i).toNat)
  case atStart => exact ⟨0, Nat.zero_le _, rfl, O⟩
  case round =>
    obtain ⟨k, hk, rfl, hmid⟩ := hrel
    by_cases hlt : k < KK.length
    · rcases unhide HA with h | ⟨b, off, rfl, hb, hcb⟩
      · rw [h] at hlt
        simp at hlt
      · obtain ⟨u, hu⟩ := hcb k hlt
        have hg := (unhide hmid).grown
        obtain ⟨c0, c1, c2, c3, hs'⟩ := hu.kept hg
        have hL := hin k
        have hts := take_snoc KK k hlt
        have htl : (KK.take k).length = k := by rw [List.length_take]; omega
        generalize KK.getD k kz = x at *
        have CT := hide (toKnown u x wr hL hs')
        have HT := hide hts
        have HL := hide htl
        have hi' : (k : Int) < (KK.length : Int) := by omega
        obtain ⟨dg, sat, vals, cost⟩ := x
        dsimp only at c0 c1 c2 c3 CT
        clear hs' hcb hu hg O hts htl HA hL
        go_wp2_with fail
        refine (unhide CT).mono ?_; rintro e w2 ⟨v2, rfl, o2, g2⟩
        have cc := fun j hj => (unhide hmid).cell (by rw [unhide HL]; exact hlt) g2 j hj
        rw [unhide HL] at cc
        obtain ⟨⟨x0, hx0⟩, hf0⟩ := cc 0 (by decide)
        obtain ⟨⟨x1, hx1⟩, hf1⟩ := cc 1 (by decide)
        obtain ⟨⟨x2, hx2⟩, hf2⟩ := cc 2 (by decide)
        obtain ⟨⟨x3, hx3⟩, hf3⟩ := cc 3 (by decide)
        rw [Nat.add_zero] at hx0 hf0
        obtain ⟨va, vc, rfl, _⟩ := Sl.of_own o2
        have M2 := hide ((unhide hmid).step (k := ⟨dg, sat, vals, cost⟩) (by rw [unhide HL]; exact hlt) g2 o2)
        rw [unhide HL, ← unhide HT] at M2
        clear o2 g2 hmid CT cc
        go_wp2
        go_roundw
        case rel => exact ⟨k + 1, by omega, by go_num, M2⟩
        case measure => simp [intOf]; omega
    · have hi' : ¬ (k : Int) < (KK.length : Int) := by omega
      have e : KK.take k = KK := List.take_of_length_le (by omega)
      rw [e] at hmid
      have R := hide ((unhide hmid).done rfl)
      clear HA hmid O e
      go_wp2
      go_ret
      exact ⟨_, rfl, unhide R⟩
end Go.Proofs.Ytgjakiliepfjiaa.ua
