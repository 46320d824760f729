/- The model's side of caches: the place of a digest, a list without one of its entries; no condition but on sizes. -/
import Derived.Test.YtgjakiliepfjiaaUs
import Derived.Maps.AppendAt
namespace Go.Proofs.Ytgjakiliepfjiaa.ua
open Go.ChangeShapes Go.WideShapes Go.ChangeAt Go.RowKit
open Go.Proofs.Ytgjakiliepfjiaa.sl (Sl Own ints marks hide unhide ret_int ret_bool grown_refl grown_trans grown_drewN below_of of_below)
open Go.Proofs.Ytgjakiliepfjiaa.css (Outs outs_trans outs_none outs_by outs_refl own_mono own_sub own_outs own_kind)
open Go.Proofs.Ytgjakiliepfjiaa.yb (Box4)
open Go.Proofs.Ytgjakiliepfjiaa.cf (Box)
set_option linter.unusedVariables false
theorem cells4_take (D : List (Value × Kn)) (j : Nat) : cells4 (D.take j) = (cells4 D).take (j * 4) := by
  by_cases h : j ≤ D.length
  · have l : (cells4 (D.take j)).length = j * 4 := by rw [cells4_len, List.length_take]; omega
    have e : cells4 D = cells4 (D.take j) ++ cells4 (D.drop j) := by rw [← cells4_append, List.take_append_drop]
    rw [e, List.take_left' l]
  · rw [List.take_of_length_le (by omega), List.take_of_length_le (by rw [cells4_len]; omega)]
theorem cells4_drop (D : List (Value × Kn)) (j : Nat) : cells4 (D.drop j) = (cells4 D).drop (j * 4) := by
  by_cases h : j ≤ D.length
  · have l : (cells4 (D.take j)).length = j * 4 := by rw [cells4_len, List.length_take]; omega
    have e : cells4 D = cells4 (D.take j) ++ cells4 (D.drop j) := by rw [← cells4_append, List.take_append_drop]
    rw [e, List.drop_left' l]
  · rw [List.drop_eq_nil_of_le (by omega), List.drop_eq_nil_of_le (by rw [cells4_len]; omega)]
    rfl
/-- a list of one's own over values of somebody's own -/
def RwK (lo : Nat) (w : World) (v : Value) (E : List Kn) : Prop := ∃ D : List (Value × Kn), D.map (·.2) = E ∧ w.ownsRow lo 29 4 v D.length (cells4 D) ∧ ∀ p ∈ D, Vl w p.1 p.2.vals
theorem OwnK.rwk {lo hi : Nat} {w : World} {v : Value} {KK : List Kn} (h : OwnK lo hi w v KK) : RwK lo w v KK := by
  obtain ⟨D, e, ho, _, hi, _⟩ := h
  exact ⟨D, e, ho, fun p hp => ⟨_, _, hi p hp⟩⟩
theorem RwK.kept {lo : Nat} {w w' : World} {v : Value} {KK : List Kn} (h : RwK lo w v KK) (g : w.grownBy w' none) : RwK lo w' v KK := by
  obtain ⟨D, e, ho, hv⟩ := h
  exact ⟨D, e, row_kept ho g, fun p hp => (hv p hp).kept g⟩
theorem RwK.sub {lo lo' : Nat} {w : World} {v : Value} {KK : List Kn} (h : RwK lo w v KK) (a : lo' ≤ lo) : RwK lo' w v KK := by
  obtain ⟨D, e, ho, hv⟩ := h
  exact ⟨D, e, own_mono ho a, hv⟩
/-- .. where a struct that is no such list is written -/
theorem RwK.by {lo c : Nat} {w w' : World} {v : Value} {KK : List Kn} {cs : Array Value} {t : TypeId} {fz : Nat × Nat} (h : RwK lo w v KK) (g : w.grownBy w' (some c)) (hc : w.heap[c]? = some (.cells cs t fz)) (h1 : (29 : Nat) ≠ t) (h2 : (3 : Nat) ≠ t) : RwK lo w' v KK := by
  obtain ⟨D, e, ho, hv⟩ := h
  have ne : ∀ {lo n z : Nat} {t' : TypeId} {u : Value} {xs : List Value}, w.ownsRow lo t' z u n xs → (t' : Nat) ≠ t → u.ownBlock = none ∨ u.ownBlock ≠ some c := by
    intro lo n z t' u xs hu ht
    cases q : u.ownBlock with
    | none => exact .inl rfl
    | some k =>
      refine .inr (fun e => ?_)
      cases e
      obtain ⟨c', fz', hc'⟩ := own_kind hu c q
      rw [hc] at hc'
      simp only [Option.some.injEq, Obj.cells.injEq] at hc'
      exact ht hc'.2.1.symm
  refine ⟨D, e, ho.kept g (ne ho h1), fun p hp => ?_⟩
  obtain ⟨l, hi, q⟩ := hv p hp
  exact ⟨l, hi, q.1.kept g (ne q.1 h2), q.2⟩
theorem RwK.vkns {lo : Nat} {w : World} {v : Value} {KK : List Kn} (h : RwK lo w v KK) : VKns w v KK := by
  obtain ⟨D, rfl, ho, hv⟩ := h
  have ho' := ho
  obtain ⟨_, h2⟩ := ho
  rcases h2 with ⟨rfl, h0⟩ | ⟨g, cap, cur, rfl, hg, hh, _⟩
  · have : D = [] := List.eq_nil_of_length_eq_zero h0
    subst this
    exact ⟨Option.none, 0, rfl, .inl rfl⟩
  · refine ⟨some ⟨g, 0, Option.none⟩, cap, by rw [List.length_map], .inr ⟨g, 0, rfl, (Array.getElem?_eq_some_iff.1 hh).1, fun i hi' => ?_⟩⟩
    rw [List.length_map] at hi'
    have q := own_at ho' rfl hi'
    rw [map_at hi', Nat.zero_add]
    exact ⟨D[i].1, ⟨q.1, q.2.1, q.2.2.1, q.2.2.2, (hv _ (List.getElem_mem hi')).sl⟩, hv _ (List.getElem_mem hi')⟩
theorem RwK.len {lo : Nat} {w : World} {v : Value} {KK : List Kn} (h : RwK lo w v KK) : ∃ a cap, v = .slice a KK.length cap := h.vkns.len
theorem RwK.lo {lo : Nat} {w : World} {v : Value} {KK : List Kn} (h : RwK lo w v KK) : ∀ k, v.ownBlock = some k → lo ≤ k ∧ k < w.heap.size := by
  obtain ⟨D, e, ho, hv⟩ := h
  exact fun k q => ho.lt k q
/-- the cells of some entries lie at an address -/
def Lies (w : World) (ad : Addr) (B : List Kn) : Prop := ∃ D : List (Value × Kn), D.map (·.2) = B ∧ (∀ j y, (cells4 D)[j]? = some y → w.cell? (ad.add j) = some y) ∧ ∀ p ∈ D, Vl w p.1 p.2.vals
theorem Lies.kept {w w' : World} {ad : Addr} {B : List Kn} (h : Lies w ad B) (g : w.grownBy w' none) : Lies w' ad B := by
  obtain ⟨D, e, hc, hv⟩ := h
  exact ⟨D, e, fun j y hj => g.cell (hc j y hj) (fun e => by cases e), fun p hp => (hv p hp).kept g⟩
theorem Lies.nil (w : World) (ad : Addr) : Lies w ad [] := ⟨[], rfl, fun j y hj => by simp [cells4] at hj, fun p hp => by cases hp⟩
theorem cells_one {w : World} {D : List (Value × Kn)} (hv : ∀ p ∈ D, Vl w p.1 p.2.vals) : ∀ y ∈ cells4 D, y.oneCell' = true := by
  intro y hy
  unfold cells4 at hy
  rw [List.mem_flatMap] at hy
  obtain ⟨p, hp, hy⟩ := hy
  obtain ⟨l, hi, q⟩ := hv p hp
  exact four_one p.2 (own_one q) y hy
/-- entries behind entries -/
theorem wp_app {o : Oper} {a : Act} {K : Act → World → Prop} {Q : Exit → Act → World → Prop} {lo c : Nat} {wr : World} {v : Value} {A B : List Kn} {ad : Addr} (h : RwK lo wr v A) (hB : Lies wr ad B) (hlo : lo ≤ wr.heap.size) (hl : A.length + B.length ≤ 4194304) (s x : Operand)
    (ho : o.op = .call { callee := .builtin .append, args := #[s, x], argTypes := #[24, 24] }) (hs : a.eval s = v) (m : Nat) (hm : B.length = m) (hx : a.eval x = .slice (some ad) m c)
    (hK : ∀ va n cap w1, RwK lo w1 (.slice va n cap) (A ++ B) → wr.grownBy w1 v.ownBlock → K (a.put o.dst (.slice va n cap)) w1) : o.wp Try.prog a wr K Q := by
  subst hm
  obtain ⟨i0, hi, hz0, hz1, hz2⟩ := info_parts infoK
  obtain ⟨D, rfl, hw, hin⟩ := h
  obtain ⟨E, rfl, hc, hv⟩ := hB
  rw [List.length_map, List.length_map] at *
  obtain ⟨v', w', hr, h2, h3, _, _⟩ := run_append_own_at (P := Try.prog) wr lo 24 o.type 29 i0 (.agg #[.string ⟨#[]⟩, .bool false, .slice none 0 0, .int .i64 0]) 4 56 Try.underlying24 hi hz0 hz1 hz2 rfl (by decide) v D.length (cells4 D) hw ad E.length c (cells4 E) (cells4_len E) hc (cells_one hv) (by unfold maxLen; omega) (by omega) hlo
  have kp : ∀ p : Value × Kn, Vl wr p.1 p.2.vals → Vl w' p.1 p.2.vals := by
    rintro p ⟨l, hi, q⟩
    exact ⟨l, hi, q.1.kept h3 (own_ne' hw q.1), q.2⟩
  have R : RwK lo w' v' (D.map (·.2) ++ E.map (·.2)) := by
    refine ⟨D ++ E, by rw [List.map_append], ?_, ?_⟩
    · rw [List.length_append, cells4_append]
      exact h2
    · intro p hp
      rw [List.mem_append] at hp
      rcases hp with hp | hp
      · exact kp p (hin p hp)
      · exact kp p (hv p hp)
  obtain ⟨va, cap, rfl⟩ := R.len
  rw [List.length_append, List.length_map, List.length_map] at *
  unfold Oper.wp execOp
  simp only [ho, resolve, invoke, builtin, Sem.run_bind, Sem.run_pure, Result.andThen_ok, List.map_toArray, List.map_cons, List.map_nil, hs, hx, hr]
  exact hK va _ cap w' R h3
/-- .. a step of a region that draws its order -/
theorem stepA {ops : Array Oper} {o : Oper} {a : Act} {K : Act → World → Prop} {Q : Exit → Act → World → Prop} {X : Prop} {lo c : Nat} {wr : World} {v : Value} {A B : List Kn} {ad : Addr} (h : RwK lo wr v A) (hB : Lies wr ad B) (hlo : lo ≤ wr.heap.size) (hl : A.length + B.length ≤ 4194304) (hgd : o.guard = none) (s x : Operand)
    (ho : o.op = .call { callee := .builtin .append, args := #[s, x], argTypes := #[24, 24] }) (hs : a.eval s = v) (m : Nat) (hm : B.length = m) (hx : a.eval x = .slice (some ad) m c)
    (hK : ∀ va n cap w1, RwK lo w1 (.slice va n cap) (A ++ B) → wr.grownBy w1 v.ownBlock → K (a.put o.dst (.slice va n cap)) w1) :
    if Region.wanted o (yielded ops a.tmps) = true then Oper.wp Try.prog o a wr K Q else X := by
  have hw : Region.wanted o (yielded ops a.tmps) = true := by simp [Region.wanted, hgd]
  rw [if_pos hw]
  exact wp_app h hB hlo hl s x ho hs m hm hx hK
/-- .. in a plain region -/
theorem listA {ops : Array Oper} {rest : List Oper} {o : Oper} {a : Act} {Q : Exit → Act → World → Prop} {lo c : Nat} {wr : World} {v : Value} {A B : List Kn} {ad : Addr} (h : RwK lo wr v A) (hB : Lies wr ad B) (hlo : lo ≤ wr.heap.size) (hl : A.length + B.length ≤ 4194304) (hgd : o.guard = none) (s x : Operand)
    (ho : o.op = .call { callee := .builtin .append, args := #[s, x], argTypes := #[24, 24] }) (hs : a.eval s = v) (m : Nat) (hm : B.length = m) (hx : a.eval x = .slice (some ad) m c)
    (hK : ∀ va n cap w1, RwK lo w1 (.slice va n cap) (A ++ B) → wr.grownBy w1 v.ownBlock → wpList Try.prog ops Q rest (a.put o.dst (.slice va n cap)) w1) : wpList Try.prog ops Q (o :: rest) a wr :=
  wpList_plain hgd fun _ hK' => wp_app h hB hlo hl s x ho hs m hm hx fun va n cap w1 h1 h2 => hK' _ _ (hK va n cap w1 h1 h2)
theorem made_nilK (W : World) : RwK W.heap.size (W.alloc (.cells #[] 29)) (.slice (some ⟨W.heap.size, 0, none⟩) 0 0) [] := by
  refine ⟨[], rfl, ⟨rfl, .inr ⟨W.heap.size, 0, #[], rfl, Nat.le_refl _, Go.heap_alloc_new W _, ?_⟩⟩, fun p hp => by cases hp⟩
  simp [cells4]
/-- what a list of one's own is written into is new -/
theorem grown_row {w w1 w2 : World} {v : Value} {M : List Kn} (g : w.grownBy w1 none) (h : RwK w.heap.size w1 v M) (k : w1.grownBy w2 v.ownBlock) : w.grownBy w2 none :=
  ⟨k.os.trans g.os, k.tape.trans g.tape, k.output.trans g.output, Nat.le_trans g.size k.size, fun i hi _ => by
    rw [k.block i (Nat.lt_of_lt_of_le hi g.size) (fun e => by have := (h.lo i e.symm).1; omega)]
    exact g.block i hi (fun e => by cases e)⟩
/-- the parts of a list -/
theorem RwK.parts {lo : Nat} {w : World} {v : Value} {KK : List Kn} {g cap : Nat} (h : RwK lo w v KK) (e : v = .slice (some ⟨g, 0, none⟩) KK.length cap) (j : Nat) (hj : j ≤ KK.length) : Lies w ⟨g, 0, none⟩ (KK.take j) ∧ Lies w ⟨g, j * 4, none⟩ (KK.drop j) := by
  obtain ⟨D, rfl, ho, hv⟩ := h
  subst e
  rw [List.length_map] at *
  refine ⟨⟨D.take j, by rw [List.map_take], fun q y hq => ?_, fun p hp => hv p (List.mem_of_mem_take hp)⟩, ⟨D.drop j, by rw [List.map_drop], fun q y hq => ?_, fun p hp => hv p (List.mem_of_mem_drop hp)⟩⟩
  · rw [cells4_take, List.getElem?_take] at hq
    split at hq
    · rename_i hlt
      rw [Addr.add_lit, Nat.zero_add, ho.cellAt _ (by omega)]
      exact hq
    · cases hq
  · rw [cells4_drop, List.getElem?_drop] at hq
    have hlt := (List.getElem?_eq_some_iff.1 hq).1
    rw [cells4_len] at hlt
    rw [Addr.add_lit, ho.cellAt _ (by omega)]
    exact hq
set_option maxHeartbeats 800000 in
/-- the place of a digest -/
theorem l10At (v : Value) (room : Int) (KK : List Kn) (d : ByteArray) (w : World) (hn : KK.length ≤ 1048576) (hv : Kns w v KK) :
    Calls Try.prog 34 #[.agg #[.int .i64 room, v], .string d] w fun e w' => ∃ r : Int, e = .returned (.int .i64 r) ∧ w.grownBy w' none ∧ ((r = -1 ∧ newTo KK d KK.length = true) ∨ ∃ j : Nat, r = (j : Int) ∧ j < KK.length ∧ (KK.getD j kz).dg = d) := by
  obtain ⟨a, cap, rfl⟩ := hv.len
  have g1 := World.grownBy_alloc w (.cells #[.int .i64 room, .slice a KK.length cap] 26) none
  have B1 := Box.new 26 w (.int .i64 room) (.slice a KK.length cap)
  obtain ⟨a', cap', e, ha⟩ := hv.kept g1
  simp only [Value.slice.injEq] at e
  obtain ⟨rfl, _, rfl⟩ := e
  have HA := hide ha
  have HG := hide g1
  have b1 := B1.c1
  clear ha g1 B1 hv
  generalize hW : w.alloc (.cells #[.int .i64 room, .slice a KK.length cap] 26) = W1 at *
  go_enter Try.func34, Try.ntmps34
  go_upto_region 1 with fail
  clear hW
  generalize w.heap.size = cb at *
  go_wp2_with fail
  go_loopw [5] (fun i wr => ∃ j : Nat, j ≤ KK.length ∧ i = .int .i64 j ∧ wr = W1 ∧ Hid (newTo KK d j = true)) (fun i _ => KK.length - (intOf i).toNat)
  case atStart => exact ⟨0, Nat.zero_le _, rfl, rfl, rfl⟩
  case round =>
    obtain ⟨j, hj, rfl, rfl, hk⟩ := hrel
    by_cases hlt : j < KK.length
    · rcases unhide HA with h | ⟨b, off, rfl, hb, hcb⟩
      · rw [h] at hlt
        simp at hlt
      · obtain ⟨u, hu⟩ := hcb j hlt
        have c0 := hu.1
        have hi' : (j : Int) < (KK.length : Int) := by omega
        have hnn : newTo KK d (j + 1) = (newTo KK d j && !((KK.getD j kz).dg.data.toList == d.data.toList)) := rfl
        generalize hq : (KK.getD j kz).dg = dk at *
        by_cases heq : dk = d
        · subst heq
          have hqq : (dk.toList == dk.toList) = true := beq_self_eq_true _
          have R : Hid ((KK.getD j kz).dg = dk) := hq
          clear hcb hu hnn hk HA hq
          go_wp2_with fail
          go_ret
          exact ⟨_, rfl, unhide HG, .inr ⟨j, rfl, hlt, unhide R⟩⟩
        · have hqq : (dk.toList == d.toList) = false := toList_ne heq
          have HN : Hid (newTo KK d (j + 1) = true) := by
            show _ = _
            rw [hnn, unhide hk]
            have : (dk.data.toList == d.data.toList) = false := by
              cases hx : (dk.data.toList == d.data.toList)
              · rfl
              · exact absurd (dg_eq.1 hx) heq
            rw [this]
            rfl
          clear hcb hu hnn hk HA hq
          go_wp2_with fail
          go_roundw
          case rel => exact ⟨j + 1, by omega, by go_num, trivial, HN⟩
          case measure => simp [intOf]; omega
    · have hi' : ¬ (j : Int) < (KK.length : Int) := by omega
      have hjj : j = KK.length := by omega
      have R : Hid (newTo KK d KK.length = true) := by show _ = _; rw [← hjj]; exact unhide hk
      clear hk hjj HA
      go_wp2_with fail
      go_ret
      exact ⟨_, rfl, unhide HG, .inl ⟨rfl, unhide R⟩⟩
theorem RwK.form {lo : Nat} {w : World} {v : Value} {KK : List Kn} (h : RwK lo w v KK) (hn : 0 < KK.length) : ∃ g cap, v = .slice (some ⟨g, 0, none⟩) KK.length cap ∧ KK.length ≤ cap ∧ g < w.heap.size := by
  obtain ⟨D, rfl, ho, hv⟩ := h
  rw [List.length_map] at *
  have ho' := ho
  obtain ⟨_, h2⟩ := ho
  rcases h2 with ⟨rfl, h0⟩ | ⟨g, cap, cur, rfl, hg, hh, hc, _⟩
  · omega
  · exact ⟨g, cap, rfl, by omega, (Array.getElem?_eq_some_iff.1 hh).1⟩
set_option maxHeartbeats 1600000 in
/-- a list without one of its entries -/
theorem l10Out (v : Value) (KK : List Kn) (j : Nat) (w : World) (lo0 : Nat) (hn : KK.length ≤ 1048576) (hj : j < KK.length) (hv : RwK lo0 w v KK) :
    Calls Try.prog 35 #[v, .int .i64 (j : Int)] w fun e w' => ∃ u, e = .returned u ∧ RwK w.heap.size w' u (KK.take j ++ KK.drop (j + 1)) ∧ w.grownBy w' none := by
  obtain ⟨g, cap, rfl, hc, hg⟩ := hv.form (by omega)
  have P1 := (hv.parts rfl j (by omega)).1
  have P2 := (hv.parts rfl (j + 1) (by omega)).2
  have gw : w.grownBy (w.alloc (.cells #[] 29)).drew none := grown_trans (World.grownBy_alloc _ _ _) (cf.grown_drew _ none)
  have N1 := hide ((made_nilK w).kept (cf.grown_drew _ none))
  have G1 := hide gw
  have L1 := hide (P1.kept gw)
  have L2 := hide P2
  have m1 : (KK.take j).length = j := by rw [List.length_take]; omega
  have hlo : w.heap.size ≤ (w.alloc (.cells #[] 29)).drew.heap.size := gw.size
  obtain ⟨i1, hi1⟩ : ∃ i1, i1 = j + 1 := ⟨_, rfl⟩
  have m2 : (KK.drop i1).length = KK.length - i1 := List.length_drop
  rw [← hi1] at L2 ⊢
  obtain ⟨ad, hif, L3⟩ : ∃ ad : Addr, (if cap = i1 then (some ⟨g, 0, none⟩ : Option Addr) else some ⟨g, i1 * 4, none⟩) = some ad ∧ Lies w ad (KK.drop i1) := by
    by_cases h : cap = i1
    · refine ⟨⟨g, 0, none⟩, if_pos h, ?_⟩
      rw [List.drop_eq_nil_of_le (by omega)]
      exact Lies.nil _ _
    · exact ⟨⟨g, i1 * 4, none⟩, if_neg h, unhide L2⟩
  have L4 := hide L3
  have hml : (KK.take j).length + (KK.drop i1).length ≤ 4194304 := by rw [m1, m2]; omega
  have ML := hide hml
  have M1 := hide m1
  have M2 := hide m2
  have hw1 : IntKind.i64.wrap ((j : Int) + 1) = (i1 : Int) := by rw [IntKind.wrap_i64]; omega
  have hj1 : (0 : Int) ≤ (j : Int) := by omega
  have hj2 : (j : Int) ≤ (cap : Int) := by omega
  have hj3 : (i1 : Int) ≤ (KK.length : Int) := by omega
  have hj4 : (KK.length : Int) ≤ (cap : Int) := by omega
  clear m1 m2 P1 P2 gw hv hi1 L2 L3 hml
  go_enter Try.func35, Try.ntmps35
  go_wp2_with fail
  go_region_law (first
    | (refine stepA (A := []) (unhide N1) (unhide L1) hlo (by rw [unhide M1]; show 0 + j ≤ _; omega) (by rfl) (.tmp 5) (.tmp 8) (by rfl) (by rfl) j (unhide M1) (by rfl) ?_; intro va n2 cap2 w2 h2 g2; have R2 := hide h2; have G2 := hide (grown_row (unhide G1) (unhide N1) g2); clear h2 g2)
    | (refine stepA (unhide R2) ((unhide L4).kept (unhide G2)) (unhide G2).size (unhide ML) (by rfl) (.tmp 9) (.tmp 13) (by rfl) (by rfl) (KK.length - i1) (unhide M2) (by rfl) ?_; intro va3 n3 cap3 w3 h3 g3; have R3 := hide (And.intro h3 (grown_row (unhide G2) (unhide R2) g3)); clear h3 g3))
  all_goals
    go_wp2_with fail
    go_ret
    exact ⟨_, rfl, unhide R3⟩
end Go.Proofs.Ytgjakiliepfjiaa.ua
