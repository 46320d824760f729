/- Rows of bytes of the call's own: what is appended in any kind of region, rows out of a literal or a make; hexadecimal texts of the program and of its model; no condition but on sizes. -/
import Derived.Test.YtjmjgjlldkpemaaDoorZb
import Derived.Test.YtjmjgjlldkpemaaDoorBy
import Derived.Deep.RegionHeld3
import Derived.Deep.RegionLaw
import Derived.Deep.DeepCutAuto
namespace Go.Proofs.YtjmjgjlldkpemaaDoor.ze
open Go.ChangeShapes Go.WideShapes Go.ChangeAt Go.RowKit
open Go.Proofs.YtjmjgjlldkpemaaDoor.sl (hide unhide ret_int ret_bool grown_refl grown_trans grown_drewN)
open Go.Proofs.YtjmjgjlldkpemaaDoor.zb (at_ at_bd at_eq wrap64)
open Go.Proofs.YtjmjgjlldkpemaaDoor.byt (Byt MadeB run_app run_back run_of)
open Go.Proofs.YtjmjgjlldkpemaaDoor.dec (str)
set_option linter.unusedVariables false

theorem of_own {lo : Nat} {w : World} {a : Addr} {cap : Nat} {l : List UInt8} (h : w.ownsRow lo 5 1 (.slice (some a) l.length cap) l.length (Lib.byteCells l)) : Byt lo w (.slice (some a) l.length cap) l := by
  obtain ⟨_, h⟩ := h
  rcases h with ⟨e, _⟩ | ⟨g, c, cur, e, hg, hh, hn, hm, hs, ht⟩
  · cases e
  · cases e
    exact ⟨g, cap, cur, _, rfl, hg, hh, .inl rfl, by simpa using hn, hm, by simpa using hs, by simpa using ht⟩
theorem made_nil (w : World) : MadeB w (w.alloc (.cells #[] 5)) (.slice (some ⟨w.heap.size, 0, none⟩) 0 0) [] :=
  ⟨of_own (l := []) (World.ownsRow_lit w #[] 0 (Nat.le_refl _) (Nat.zero_le _) rfl), World.grownBy_alloc _ _ _⟩
theorem MadeB.kept {w w1 w2 : World} {v : Value} {l : List UInt8} (h : MadeB w w1 v l) (g : w1.grownBy w2 none) : MadeB w w2 v l := ⟨h.1.kept g, grown_trans h.2 g⟩
theorem wpB {o : Oper} {a : Act} {K : Act → World → Prop} {Q : Exit → Act → World → Prop} {w wr : World} {v : Value} {l t : List UInt8} {ad : Addr} {n cap : Nat}
    (hm : MadeB w wr v l) (hc : ∀ j u, (Lib.byteCells t)[j]? = some u → wr.cell? (ad.add j) = some u) (hl : l.length + t.length ≤ 4194304) (hn : n = t.length) (s x : Operand)
    (ho : o.op = .call { callee := .builtin .append, args := #[s, x], argTypes := #[22, 22] }) (hs : a.eval s = v) (hx : a.eval x = .slice (some ad) n cap)
    (h : ∀ v' w1, MadeB w w1 v' (l ++ t) → K (a.put o.dst v') w1) : o.wp Tryd.prog a wr K Q := by
  subst hn
  obtain ⟨v', w1, hr, h2⟩ := run_app w wr v l t o.type ad cap hm hc hl
  unfold Oper.wp execOp
  simp only [ho, resolve, invoke, builtin, Sem.run_bind, Sem.run_pure, Result.andThen_ok, List.map_toArray, List.map_cons, List.map_nil, hs, hx, hr]
  exact h v' w1 h2
theorem appB {ops : Array Oper} {rest : List Oper} {o : Oper} {a : Act} {Q : Exit → Act → World → Prop} {w wr : World} {v : Value} {l t : List UInt8} {ad : Addr} {n cap : Nat}
    (hm : MadeB w wr v l) (hc : ∀ j u, (Lib.byteCells t)[j]? = some u → wr.cell? (ad.add j) = some u) (hl : l.length + t.length ≤ 4194304) (hn : n = t.length) (hgd : o.guard = none) (s x : Operand)
    (ho : o.op = .call { callee := .builtin .append, args := #[s, x], argTypes := #[22, 22] }) (hs : a.eval s = v) (hx : a.eval x = .slice (some ad) n cap)
    (h : ∀ v' w1, MadeB w w1 v' (l ++ t) → wpList Tryd.prog ops Q rest (a.put o.dst v') w1) : wpList Tryd.prog ops Q (o :: rest) a wr :=
  wpList_plain hgd fun K hK => wpB hm hc hl hn s x ho hs hx fun v' w1 m => hK _ _ (h v' w1 m)
/-- bytes laid down for an append -/
theorem cell_new (w : World) (c : Array Value) (t : TypeId) (j : Nat) : (w.alloc (.cells c t)).cell? ((⟨w.heap.size, 0, none⟩ : Addr).add j) = c[j]? := by
  rw [Addr.add_lit, Nat.zero_add]
  have := Go.heap_alloc_new w (.cells c t)
  simp only [World.cell?, this]
  rfl
theorem two_at (wr : World) (x y : UInt8) : ∀ j u, (Lib.byteCells [x, y])[j]? = some u → (wr.alloc (.cells #[.int .u8 x.toNat, .int .u8 y.toNat] 5)).drew.cell? ((⟨wr.heap.size, 0, none⟩ : Addr).add j) = some u := by
  intro j u hj
  show (wr.alloc (.cells #[.int .u8 x.toNat, .int .u8 y.toNat] 5)).cell? ((⟨wr.heap.size, 0, none⟩ : Addr).add j) = some u
  rw [cell_new, ← hj, ← List.getElem?_toArray]
  rfl
theorem one_at (wr : World) (x : UInt8) : ∀ j u, (Lib.byteCells [x])[j]? = some u → (wr.alloc (.cells #[.int .u8 x.toNat] 5)).cell? ((⟨wr.heap.size, 0, none⟩ : Addr).add j) = some u := by
  intro j u hj
  rw [cell_new, ← hj, ← List.getElem?_toArray]
  rfl

/-- the sixteen digits -/
def tab : ByteArray := ⟨#[48, 49, 50, 51, 52, 53, 54, 55, 56, 57, 97, 98, 99, 100, 101, 102]⟩
def dg (d : Nat) : UInt8 := tab.data.toList.getD d 0
theorem tab_all : ∀ d : Fin 16, (((⟨#[48, 49, 50, 51, 52, 53, 54, 55, 56, 57, 97, 98, 99, 100, 101, 102]⟩ : ByteArray)[d.val]'d.2).toNat : Int) = ((dg d.val).toNat : Int) := by decide +kernel
theorem tab_at (d : Nat) (h : d < 16) : (((⟨#[48, 49, 50, 51, 52, 53, 54, 55, 56, 57, 97, 98, 99, 100, 101, 102]⟩ : ByteArray)[d]'h).toNat : Int) = ((dg d).toNat : Int) := tab_all ⟨d, h⟩
/-- a text's bytes -/
def bts (s : ByteArray) : List UInt8 := s.data.toList
theorem bts_length (s : ByteArray) : (bts s).length = s.size := rfl
def hexL : List UInt8 → List UInt8
  | [] => []
  | b :: t => dg (b.toNat / 16) :: dg (b.toNat % 16) :: hexL t
theorem hexL_length : ∀ l, (hexL l).length = 2 * l.length
  | [] => rfl
  | b :: t => by rw [hexL, List.length_cons, List.length_cons, List.length_cons, hexL_length t]; omega
theorem hexL_append : ∀ l m, hexL (l ++ m) = hexL l ++ hexL m
  | [], m => rfl
  | b :: t, m => by rw [List.cons_append, hexL, hexL, hexL_append t m]; rfl
theorem hexL_take (s : ByteArray) (k : Nat) (h : k < s.size) : hexL ((bts s).take (k + 1)) = hexL ((bts s).take k) ++ [dg ((at_ s k).toNat / 16), dg ((at_ s k).toNat % 16)] := by
  have hk : k < (bts s).length := by rw [bts_length]; exact h
  rw [List.take_succ_eq_append_getElem hk, hexL_append]
  have e : (at_ s k).toNat = ((bts s)[k]).toNat := by
    unfold zb.at_
    rw [List.getD, List.getElem?_eq_getElem (show k < s.data.toList.length from hk)]
    simp [bts]
  rw [e]
  rfl
/-- what HexText answers -/
def hexT (s : ByteArray) : List UInt8 := if s.size ≤ 60000 then hexL (bts s) else []

set_option maxRecDepth 100000 in
set_option maxHeartbeats 2000000 in
theorem specHexText (s : ByteArray) (w : World) (hs : s.size ≤ 1048576) :
    Calls Tryd.prog 73 #[.string s] w fun e w' => e = .returned (str (hexT s)) ∧ w.grownBy w' none := by
  have start := hide (made_nil w)
  by_cases h6 : s.size ≤ 60000
  · have hb : ¬ (60000 : Int) < (s.size : Int) := by omega
    rw [show hexT s = hexL (bts s) by unfold hexT; rw [if_pos h6]]
    go_enter Tryd.func73, Tryd.ntmps73
    go_wp2
    go_loopw [3, 4] (fun u i wr => ∃ k : Nat, k ≤ s.size ∧ i = .int .i64 k ∧ MadeB w wr u (hexL ((bts s).take k))) (fun _ i _ => s.size - (intOf i).toNat)
    case atStart => exact ⟨0, by omega, rfl, unhide start⟩
    case round =>
      obtain ⟨k, hk, rfl, hm⟩ := hrel
      clear start
      by_cases hlt : k < s.size
      · have i0 : (k : Int) < (s.size : Int) := by omega
        have e0 := at_eq s k hlt
        have d0 := at_bd s k
        have H := hide (hexL_take s k hlt)
        have HL : Hid ((hexL ((bts s).take k)).length + 2 ≤ 4194304) := by
          show _ ≤ _
          rw [hexL_length, List.length_take]
          omega
        generalize at_ s k = x at *
        generalize hexL ((bts s).take k) = A at *
        have M := hide hm
        clear hm
        obtain ⟨dh, hdh⟩ : ∃ d, d = x.toNat / 16 := ⟨_, rfl⟩
        obtain ⟨dl, hdl⟩ : ∃ d, d = x.toNat % 16 := ⟨_, rfl⟩
        rw [← hdh, ← hdl] at H
        have q1 : IntKind.u8.wrap (x.tdiv 16) = (dh : Int) := by
          rw [Int.tdiv_eq_ediv_of_nonneg d0.1, IntKind.wrap_u8]
          omega
        have q2 : x.tmod 16 = (dl : Int) := by
          rw [Int.tmod_eq_emod_of_nonneg d0.1]
          omega
        have q3 : (dh : Int) < 16 := by omega
        have q4 : (dl : Int) < 16 := by omega
        have q5 : dh < 16 := by omega
        have q6 : dl < 16 := by omega
        have t1 := tab_at dh q5
        have t2 := tab_at dl q6
        clear hdh hdl
        have M1 : Hid (MadeB w (wr.alloc (.cells #[.int .u8 (dg dh).toNat, .int .u8 (dg dl).toNat] 5)).drew _ A) := MadeB.kept (unhide M) (grown_trans (World.grownBy_alloc _ _ none) (grown_drewN _ 1))
        have HB := hide (two_at wr (dg dh) (dg dl))
        go_wp2_with fail
        go_region_law (rw [if_pos (by simp [Region.wanted])]; refine wpB (unhide M1) (unhide HB) (unhide HL) rfl (.tmp 15) (.tmp 26) rfl rfl rfl ?_; intro v2 w2 m2; have M2 := hide m2; clear m2)
        all_goals
          clear M1 HB M
          go_wp2
          go_roundw
          case rel => exact ⟨k + 1, by omega, by go_num, by rw [unhide H]; exact unhide M2⟩
          case measure => simp [intOf]; omega
      · have i0 : ¬ (k : Int) < (s.size : Int) := by omega
        rw [List.take_of_length_le (by rw [bts_length]; omega)] at hm
        obtain ⟨g, cap, e⟩ := hm.1.form
        have CV := run_back wr _ _ _ hm.1
        rw [e] at CV
        have G := hide hm.2
        clear hm
        go_wp2
        go_ret
        exact ⟨rfl, unhide G⟩
  · have hb : (60000 : Int) < (s.size : Int) := by omega
    rw [show hexT s = [] by unfold hexT; rw [if_neg h6]]
    go_enter Tryd.func73, Tryd.ntmps73
    go_wp2
    go_ret
    exact ⟨rfl, (unhide start).2⟩
end Go.Proofs.YtjmjgjlldkpemaaDoor.ze
