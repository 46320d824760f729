/- Rows of bytes of the call's own: what is appended in any kind of region, rows out of a literal or a make; hexadecimal texts of the program and of its model; no condition but on sizes. -/
import Derived.Test.YtfmmdnikeoloeaaDoorZb
import Derived.Test.YtfmmdnikeoloeaaDoorBy
import Derived.Deep.RegionHeld3
import Derived.Deep.RegionLaw
import Derived.Deep.DeepCutAuto
namespace Go.Proofs.YtfmmdnikeoloeaaDoor.ze
open Go.ChangeShapes Go.WideShapes Go.ChangeAt Go.RowKit
open Go.Proofs.YtfmmdnikeoloeaaDoor.sl (hide unhide ret_int ret_bool grown_refl grown_trans grown_drewN)
open Go.Proofs.YtfmmdnikeoloeaaDoor.zb (at_ at_bd at_eq wrap64)
open Go.Proofs.YtfmmdnikeoloeaaDoor.byt (Byt MadeB run_app run_back run_of)
open Go.Proofs.YtfmmdnikeoloeaaDoor.dec (str)
set_option linter.unusedVariables false

theorem of_own {lo : Nat} {w : World} {a : Addr} {cap : Nat} {l : List UInt8} (h : w.ownsRow lo 5 1 (.slice (some a) l.length cap) l.length (Lib.byteCells l)) : Byt lo w (.slice (some a) l.length cap) l := by
  obtain ⟨_, h⟩ := h
  rcases h with ⟨e, _⟩ | ⟨g, c, cur, e, hg, hh, hn, hm, hs, ht⟩
  · cases e
  · cases e
    exact ⟨g, cap, cur, _, rfl, hg, hh, .inl rfl, by simpa using hn, hm, by simpa using hs, by simpa using ht⟩
theorem made_nil (w : World) : MadeB w (w.alloc (.cells #[] 5)) (.slice (some ⟨w.heap.size, 0, none⟩) 0 0) [] :=
  ⟨of_own (l := []) (World.ownsRow_lit w #[] 0 (Nat.le_refl _) (Nat.zero_le _) rfl), World.grownBy_alloc _ _ _⟩
theorem MadeB.kept {w w1 w2 : World} {v : Value} {l : List UInt8} (h : MadeB w w1 v l) (g : w1.grownBy w2 none) : MadeB w w2 v l := ⟨h.1.kept g, grown_trans h.2 g⟩
theorem wpB {o : Oper} {a : Act} {K : Act → World → Prop} {Q : Exit → Act → World → Prop} {w wr : World} {v : Value} {l t : List UInt8} {ad : Addr} {n cap : Nat}
    (hm : MadeB w wr v l) (hc : ∀ j u, (Lib.byteCells t)[j]? = some u → wr.cell? (ad.add j) = some u) (hl : l.length + t.length ≤ 4194304) (hn : n = t.length) (s x : Operand)
    (ho : o.op = .call { callee := .builtin .append, args := #[s, x], argTypes := #[22, 22] }) (hs : a.eval s = v) (hx : a.eval x = .slice (some ad) n cap)
    (h : ∀ v' w1, MadeB w w1 v' (l ++ t) → K (a.put o.dst v') w1) : o.wp Tryd.prog a wr K Q := by
  subst hn
  obtain ⟨v', w1, hr, h2⟩ := run_app w wr v l t o.type ad cap hm hc hl
  unfold Oper.wp execOp
  simp only [ho, resolve, invoke, builtin, Sem.run_bind, Sem.run_pure, Result.andThen_ok, List.map_toArray, List.map_cons, List.map_nil, hs, hx, hr]
  exact h v' w1 h2
theorem appB {ops : Array Oper} {rest : List Oper} {o : Oper} {a : Act} {Q : Exit → Act → World → Prop} {w wr : World} {v : Value} {l t : List UInt8} {ad : Addr} {n cap : Nat}
    (hm : MadeB w wr v l) (hc : ∀ j u, (Lib.byteCells t)[j]? = some u → wr.cell? (ad.add j) = some u) (hl : l.length + t.length ≤ 4194304) (hn : n = t.length) (hgd : o.guard = none) (s x : Operand)
    (ho : o.op = .call { callee := .builtin .append, args := #[s, x], argTypes := #[22, 22] }) (hs : a.eval s = v) (hx : a.eval x = .slice (some ad) n cap)
    (h : ∀ v' w1, MadeB w w1 v' (l ++ t) → wpList Tryd.prog ops Q rest (a.put o.dst v') w1) : wpList Tryd.prog ops Q (o :: rest) a wr :=
  wpList_plain hgd fun K hK => wpB hm hc hl hn s x ho hs hx fun v' w1 m => hK _ _ (h v' w1 m)
/-- bytes laid down for an append -/
theorem cell_new (w : World) (c : Array Value) (t : TypeId) (j : Nat) : (w.alloc (.cells c t)).cell? ((⟨w.heap.size, 0, none⟩ : Addr).add j) = c[j]? := by
  rw [Addr.add_lit, Nat.zero_add]
  have := Go.heap_alloc_new w (.cells c t)
  simp only [World.cell?, this]
  rfl
theorem two_at (wr : World) (x y : UInt8) : ∀ j u, (Lib.byteCells [x, y])[j]? = some u → (wr.alloc (.cells #[.int .u8 x.toNat, .int .u8 y.toNat] 5)).drew.cell? ((⟨wr.heap.size, 0, none⟩ : Addr).add j) = some u := by
  intro j u hj
  show (wr.alloc (.cells #[.int .u8 x.toNat, .int .u8 y.toNat] 5)).cell? ((⟨wr.heap.size, 0, none⟩ : Addr).add j) = some u
  rw [cell_new, ← hj, ← List.getElem?_toArray]
  rfl
theorem one_at (wr : World) (x : UInt8) : ∀ j u, (Lib.byteCells [x])[j]? = some u → (wr.alloc (.cells #[.int .u8 x.toNat] 5)).cell? ((⟨wr.heap.size, 0, none⟩ : Addr).add j) = some u := by
  intro j u hj
  rw [cell_new, ← hj, ← List.getElem?_toArray]
  rfl

/-- the sixteen digits -/
def tab : ByteArray := ⟨#[48, 49, 50, 51, 52, 53, 54, 55, 56, 57, 97, 98, 99, 100, 101, 102]⟩
def dg (d : Nat) : UInt8 := tab.data.toList.getD d 0
theorem tab_all : ∀ d : Fin 16, (((⟨#[48, 49, 50, 51, 52, 53, 54, 55, 56, 57, 97, 98, 99, 100, 101, 102]⟩ : ByteArray)[d.val]'d.2).toNat : Int) = ((dg d.val).toNat : Int) := by decide +kernel
theorem tab_at (d : Nat) (h : d < 16) : (((⟨#[48, 49, 50, 51, 52, 53, 54, 55, 56, 57, 97, 98, 99, 100, 101, 102]⟩ : ByteArray)[d]'h).toNat : Int) = ((dg d).toNat : Int) := tab_all ⟨d, h⟩
/-- a text's bytes -/
def bts (s : ByteArray) : List UInt8 := s.data.toList
theorem bts_length (s : ByteArray) : (bts s).length = s.size := rfl
def hexL : List UInt8 → List UInt8
  | [] => []
  | b :: t => dg (b.toNat / 16) :: dg (b.toNat % 16) :: hexL t
theorem hexL_length : ∀ l, (hexL l).length = 2 * l.length
  | [] => rfl
  | b :: t => by rw [hexL, List.length_cons, List.length_cons, List.length_cons, hexL_length t]; omega
theorem hexL_append : ∀ l m, hexL (l ++ m) = hexL l ++ hexL m
  | [], m => rfl
  | b :: t, m => by rw [List.cons_append, hexL, hexL, hexL_append t m]; rfl
theorem hexL_take (s : ByteArray) (k : Nat) (h : k < s.size) : hexL ((bts s).take (k + 1)) = hexL ((bts s).take k) ++ [dg ((at_ s k).toNat / 16), dg ((at_ s k).toNat % 16)] := by
  have hk : k < (bts s).length := by rw [bts_length]; exact h
  rw [List.take_succ_eq_append_getElem hk, hexL_append]
  have e : (at_ s k).toNat = ((bts s)[k]).toNat := by
    unfold zb.at_
    rw [List.getD, List.getElem?_eq_getElem (show k < s.data.toList.length from hk)]
    simp [bts]
  rw [e]
  rfl
/-- what HexText answers -/
def hexT (s : ByteArray) : List UInt8 := if s.size ≤ 60000 then hexL (bts s) else []

end Go.Proofs.YtfmmdnikeoloeaaDoor.ze
