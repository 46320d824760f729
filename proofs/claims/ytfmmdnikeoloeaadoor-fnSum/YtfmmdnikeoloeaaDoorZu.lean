/- What the laws of sums draw: texts of so many bytes, keys and marks; what is drawn is left open. -/
import Derived.Test.YtfmmdnikeoloeaaDoorDraw
import Derived.Test.YtfmmdnikeoloeaaDoorZe
import Derived.Test.YtfmmdnikeoloeaaDoorZr
namespace Go.Proofs.YtfmmdnikeoloeaaDoor.zu
open Go.ChangeShapes Go.WideShapes Go.ChangeAt Go.RowKit
open Go.Proofs.YtfmmdnikeoloeaaDoor.sl (hide unhide ret_int ret_bool grown_refl grown_trans grown_trans' grown_drewN Sl)
open Go.Proofs.YtfmmdnikeoloeaaDoor.draw (Cur Bs newCur below once pickInt grown_new)
open Go.Proofs.YtfmmdnikeoloeaaDoor.ze (of_own cell_new one_at bts bts_length)
open Go.Proofs.YtfmmdnikeoloeaaDoor.byt (run_back)
open Go.Proofs.YtfmmdnikeoloeaaDoor.dec (str)
set_option linter.unusedVariables false

/-- 'append(a, b...)' on bytes of the call's own, block by block -/
theorem appO {ops : Array Oper} {rest : List Oper} {o : Oper} {a : Act} {Q : Exit → Act → World → Prop} {lo : Nat} {wr : World} {va : Value} {l t : List UInt8} {ad : Addr} {n cap : Nat}
    (hlo : lo ≤ wr.heap.size) (hA : wr.ownsRow lo 5 1 va l.length (Lib.byteCells l)) (hc : ∀ j u, (Lib.byteCells t)[j]? = some u → wr.cell? (ad.add j) = some u) (hl : l.length + t.length ≤ 4194304) (hn : n = t.length) (hgd : o.guard = none) (s x : Operand)
    (ho : o.op = .call { callee := .builtin .append, args := #[s, x], argTypes := #[22, 22] }) (hs : a.eval s = va) (hx : a.eval x = .slice (some ad) n cap)
    (h : ∀ v' w1, w1.ownsRow lo 5 1 v' (l ++ t).length (Lib.byteCells (l ++ t)) → wr.grownBy w1 va.ownBlock → wpList Tryd.prog ops Q rest (a.put o.dst v') w1) : wpList Tryd.prog ops Q (o :: rest) a wr := by
  subst hn
  obtain ⟨i0, hi, hz0, hz1, hz2⟩ := info_parts byt.infoU
  refine wpList_append_own _ hgd s x 22 ho lo 5 i0 (.int .u8 0) 1 1 Tryd.underlying22 hi hz0 hz1 hz2 rfl (by decide) va l.length (Lib.byteCells l) hs hA ad t.length cap (Lib.byteCells t) hx (by rw [Lib.byteCells_length]; omega) hc (Lib.byteCells_one t) ?_ ?_ ?_ ?_
  · unfold maxLen
    omega
  · omega
  · exact hlo
  · intro v' w1 hown' hgrow _
    refine h v' w1 ?_ hgrow
    rw [List.length_append, Lib.byteCells_append]
    exact hown'
theorem convert_own {lo : Nat} {w : World} {v : Value} {l : List UInt8} (h : w.ownsRow lo 5 1 v l.length (Lib.byteCells l)) (hv : ∃ a c, v = .slice (some a) l.length c) : (convert 22 9 v).run Tryd.prog w = .ok (str l) w := by
  obtain ⟨a, c, rfl⟩ := hv
  exact run_back w _ l lo (of_own h)

set_option maxRecDepth 100000 in
set_option maxHeartbeats 2000000 in
theorem any (c n : Nat) (w : World) (hc : Cur w c) (hn : n ≤ 100000) :
    Calls Tryd.prog 33 #[.pointer (some ⟨c, 0, none⟩), .int .i64 n] w fun e w' => ∃ s : ByteArray, e = .returned (.string s) ∧ s.size = n ∧ Cur w' c ∧ w.grownBy w' (some c) := by
  have hcl := hc.lt
  have start : Hid ((w.alloc (.cells #[] 5)).ownsRow w.heap.size 5 1 (.slice (some ⟨w.heap.size, 0, none⟩) 0 0) ([] : List UInt8).length (Lib.byteCells []) ∧ Cur (w.alloc (.cells #[] 5)) c ∧ w.grownBy (w.alloc (.cells #[] 5)) (some c)) :=
    ⟨World.ownsRow_lit w #[] 0 (Nat.le_refl _) (Nat.zero_le _) rfl, hc.kept (World.grownBy_alloc w _ none) (fun r e => by cases e), World.grownBy_alloc w _ _⟩
  clear hc
  go_enter Tryd.func33, Tryd.ntmps33
  go_wp2
  go_loopw [5, 6] (fun u i wr => ∃ (k g cap : Nat) (l : List UInt8), k ≤ n ∧ i = .int .i64 k ∧ u = .slice (some ⟨g, 0, none⟩) k cap ∧ l.length = k ∧ wr.ownsRow w.heap.size 5 1 (.slice (some ⟨g, 0, none⟩) k cap) l.length (Lib.byteCells l) ∧ Cur wr c ∧ w.grownBy wr (some c)) (fun _ i _ => n - (intOf i).toNat)
  case atStart => exact ⟨0, w.heap.size, 0, [], Nat.zero_le _, rfl, rfl, rfl, (unhide start).1, (unhide start).2.1, (unhide start).2.2⟩
  case round =>
    obtain ⟨k, g, cap, l, hk, rfl, rfl, hl, hown, hC, hg⟩ := hrel
    clear start
    by_cases hlt : k < n
    · have i0 : (k : Int) < (n : Int) := by omega
      have HO := hide hown
      have HC := hide hC
      have HG := hide hg
      have HLl := hide hl
      have HL : Hid (l.length + 1 ≤ 4194304) := by show _ ≤ _; omega
      have hgl : w.heap.size ≤ g := (hown.lt g rfl).1
      clear hown hC hg hl
      go_wp2_with fail
      refine (below c 256 _ (unhide HC) (by decide) (by decide)).mono ?_; rintro e w1 ⟨x, rfl, x0, x1, hc1, g1⟩
      obtain ⟨xn, rfl⟩ := Int.eq_ofNat_of_zero_le x0
      obtain ⟨y, hy⟩ : ∃ y : UInt8, (xn : Int) = (y.toNat : Int) := ⟨UInt8.ofNat xn, by rw [UInt8.toNat_ofNat']; omega⟩
      have O1 : Hid ((w1.alloc (.cells #[.int .u8 y.toNat] 5)).ownsRow w.heap.size 5 1 (.slice (some ⟨g, 0, none⟩) k cap) l.length (Lib.byteCells l)) := ((unhide HO).kept g1 (.inr (fun e => by have e' : g = c := Option.some.inj e; omega))).alloc _
      have G1 : Hid (w.grownBy (w1.alloc (.cells #[.int .u8 y.toNat] 5)) (some c)) := grown_trans' (grown_trans' (unhide HG) g1) (World.grownBy_alloc _ _ _)
      have C1 : Hid (Cur (w1.alloc (.cells #[.int .u8 y.toNat] 5)) c) := hc1.kept (World.grownBy_alloc _ _ none) (fun r e => by cases e)
      have HB := hide (one_at w1 y)
      have hsz : Hid (w.heap.size ≤ (w1.alloc (.cells #[.int .u8 y.toNat] 5)).heap.size) := (unhide G1).size
      clear hc1 g1 HO HC HG x0
      go_wp2_with (at_builtin; refine appO (unhide hsz) (unhide O1) (unhide HB) (unhide HL) rfl rfl (.tmp 13) (.tmp 17) rfl rfl rfl ?_; intro v2 w2 o2 g2; have O2 := hide o2; have G2 := hide g2; clear o2 g2)
      have hv : ∃ g2 c2, v2 = .slice (some ⟨g2, 0, none⟩) (k + 1) c2 := by
        have ll : (l ++ [y]).length = k + 1 := by rw [List.length_append, unhide HLl]; rfl
        have oo := unhide O2
        rw [ll] at oo
        obtain ⟨_, h⟩ := oo
        rcases h with ⟨_, h0⟩ | ⟨g2, c2, cur, e, _⟩
        · omega
        · exact ⟨g2, c2, e⟩
      obtain ⟨gg, cc, rfl⟩ := hv
      have ll : Hid ((l ++ [y]).length = k + 1) := by show _ = _; rw [List.length_append, unhide HLl]; rfl
      have R : Hid (Cur w2 c ∧ w.grownBy w2 (some c)) := by
        have g2 : (w1.alloc (.cells #[.int .u8 y.toNat] 5)).grownBy w2 (some g) := unhide G2
        refine ⟨(unhide C1).kept g2 (fun r e => by injection e with e; omega), ?_⟩
        have hG := unhide G1
        exact ⟨g2.os.trans hG.os, g2.tape.trans hG.tape, g2.output.trans hG.output, Nat.le_trans hG.size g2.size, fun j hj hr => (g2.block j (Nat.lt_of_lt_of_le hj hG.size) (fun e => by injection e with e; omega)).trans (hG.block j hj hr)⟩
      clear O1 G1 C1 HB hsz G2
      go_roundw
      case rel => exact ⟨k + 1, gg, cc, l ++ [y], by omega, by go_num, rfl, unhide ll, unhide O2, (unhide R).1, (unhide R).2⟩
      case measure => simp [intOf]; omega
    · have i0 : ¬ (k : Int) < (n : Int) := by omega
      have hk' : k = n := by omega
      have CV := convert_own hown ⟨_, cap, by rw [hl]⟩
      unfold dec.str at CV
      have HC := hide hC
      have HG := hide hg
      have HS : Hid ((ByteArray.mk l.toArray).size = n) := by show _ = _; rw [zr.mk_size, hl, hk']
      clear hown hC hg hl hk'
      go_wp2_with fail
      go_ret
      exact ⟨_, rfl, unhide HS, unhide HC, unhide HG⟩

/-- a list of numbers laid down -/
theorem lit_sl (w : World) (L : List Int) : Sl (w.alloc (.cells (sl.ints L).toArray 3)) (.slice (some ⟨w.heap.size, 0, none⟩) L.length L.length) L := by
  refine ⟨_, L.length, rfl, .inr ⟨w.heap.size, 0, rfl, by rw [World.size_alloc]; omega, fun i hi => ?_⟩⟩
  have h := cell_new w (sl.ints L).toArray 3 i
  rw [Addr.add_lit] at h
  rw [h, List.getElem?_toArray]
  simp [sl.ints, hi]
theorem drawSum (a : Option Addr) (n cap : Nat) (w : World) (hn : n ≤ 1048576) (hB : Bs w a n) :
    Calls Tryd.prog 12 #[.slice a n cap] w fun e w' => ∃ s : ByteArray, e = .returned (.string s) ∧ s.size ≤ 200 ∧ w.grownBy w' none := by
  have HB := hide hB
  clear hB
  go_enter Tryd.func12, Tryd.ntmps12
  go_wp2_with fail
  refine (newCur a n cap w hn (unhide HB)).mono ?_; rintro e w1 ⟨rfl, hc, g1⟩
  have ga := World.grownBy_alloc w1 (.cells (sl.ints [0, 1, 3, 55, 56, 57, 63, 64, 119, 120, 20]).toArray 3) none
  have C := hide (pickInt w.heap.size (.slice (some ⟨w1.heap.size, 0, none⟩) 11 11) [0, 1, 3, 55, 56, 57, 63, 64, 119, 120, 20] _ (hc.kept ga (fun r e => by cases e)) (by decide) (by decide) (lit_sl w1 _) (fun k e => by have e' : w1.heap.size = k := Option.some.inj e; have := hc.lt; omega))
  have G1 := hide (grown_trans (r := none) g1 ga)
  clear hc g1 ga HB
  go_wp2_with fail
  refine (unhide C).mono ?_; rintro e w2 ⟨x, rfl, hx, hc2, g2⟩
  have G2 := hide (grown_new (unhide G1) g2 (Nat.le_refl _))
  have hx2 : 0 ≤ x ∧ x ≤ 120 := by
    simp only [List.mem_cons, List.not_mem_nil, or_false] at hx
    omega
  obtain ⟨k, rfl⟩ := Int.eq_ofNat_of_zero_le hx2.1
  have C2 := hide (any w.heap.size k w2 hc2 (by omega))
  have hk : k ≤ 120 := by omega
  clear hx hx2 hc2 g2 C G1
  go_wp2_with fail
  refine (unhide C2).mono ?_; rintro e w3 ⟨s, rfl, hs, hc3, g3⟩
  have G3 := hide (grown_new (unhide G2) g3 (Nat.le_refl _))
  have HS : Hid (s.size ≤ 200) := by show _ ≤ _; omega
  clear hs hc3 g3 C2 G2
  go_wp2_with fail
  go_ret
  exact ⟨s, rfl, unhide HS, unhide G3⟩
end Go.Proofs.YtfmmdnikeoloeaaDoor.zu
