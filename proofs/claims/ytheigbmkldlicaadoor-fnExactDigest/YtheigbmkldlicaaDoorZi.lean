/- Numbers as bytes, the highest first (l08Put, appendNumber); no condition but on sizes. -/
import Derived.Test.YtheigbmkldlicaaDoorZe
namespace Go.Proofs.YtheigbmkldlicaaDoor.zi
open Go.ChangeShapes Go.WideShapes Go.ChangeAt Go.RowKit
open Go.Proofs.YtheigbmkldlicaaDoor.sl (hide unhide ret_int ret_bool grown_refl grown_trans grown_drewN)
open Go.Proofs.YtheigbmkldlicaaDoor.zb (at_ at_bd at_eq wrap64)
open Go.Proofs.YtheigbmkldlicaaDoor.byt (Byt MadeB run_app run_back run_of)
open Go.Proofs.YtheigbmkldlicaaDoor.ze (of_own made_nil MadeB.kept wpB appB cell_new one_at bts bts_length)
open Go.Proofs.YtheigbmkldlicaaDoor.dec (str)
open Go.Proofs.YtheigbmkldlicaaDoor.za (Wd)
set_option linter.unusedVariables false

/-- a word's four bytes -/
def put4 (x : Nat) : List UInt8 := [UInt8.ofNat (x / 16777216), UInt8.ofNat (x / 65536), UInt8.ofNat (x / 256), UInt8.ofNat x]
theorem put4_length (x : Nat) : (put4 x).length = 4 := rfl
/-- the first i bytes of n -/
def be (n x i : Nat) : List UInt8 := (List.range i).map fun j => UInt8.ofNat (x / 2 ^ (8 * (n - 1 - j)))
theorem be_succ (n x i : Nat) : be n x (i + 1) = be n x i ++ [UInt8.ofNat (x / 2 ^ (8 * (n - 1 - i)))] := by
  simp [be, List.range_succ]
theorem be_length (n x i : Nat) : (be n x i).length = i := by simp [be]
theorem be4 (x : Nat) : be 4 x 4 = put4 x := by
  simp [be, put4, List.range_succ]
theorem of_mod (a b : Nat) (h : a % 256 = b % 256) : UInt8.ofNat a = UInt8.ofNat b := by
  apply UInt8.toNat_inj.1
  rw [UInt8.toNat_ofNat', UInt8.toNat_ofNat']
  omega
theorem be8 (x : Nat) (h : x < 4294967296) : be 8 x 8 = put4 0 ++ put4 x := by
  simp only [be, put4, List.range_succ, List.range_zero, List.nil_append, List.map_cons, List.map_nil, List.cons_append]
  simp only [List.cons.injEq, and_true]
  refine ⟨?_, ?_, ?_, ?_, trivial, trivial, trivial, ?_⟩ <;> apply of_mod <;> simp <;> omega

theorem four_at (wr : World) (a b c d : UInt8) : ∀ j, (h : j < [a, b, c, d].length) → (wr.alloc (.cells #[.int .u8 a.toNat, .int .u8 b.toNat, .int .u8 c.toNat, .int .u8 d.toNat] 5)).cell? ((⟨wr.heap.size, 0, none⟩ : Addr).add j) = some (.int .u8 ([a, b, c, d][j].toNat : Int)) := by
  intro j hj
  rw [cell_new]
  match j, hj with
  | 0, _ => rfl
  | 1, _ => rfl
  | 2, _ => rfl
  | 3, _ => rfl

theorem byte_of (x : Nat) : ((x : Int) % 256) = ((UInt8.ofNat x).toNat : Int) := by
  rw [UInt8.toNat_ofNat']
  omega
theorem put_back (x : Nat) (w : World) (hx : x < 4294967296) :
    (convert 22 9 (.slice (some ⟨w.heap.size, 0, none⟩) 4 4)).run Tryd.prog (w.alloc (.cells #[.int .u8 ((x : Int) / 16777216), .int .u8 ((x : Int) / 65536 % 256), .int .u8 ((x : Int) / 256 % 256), .int .u8 ((x : Int) % 256)] 5)) =
      .ok (str (put4 x)) (w.alloc (.cells #[.int .u8 ((x : Int) / 16777216), .int .u8 ((x : Int) / 65536 % 256), .int .u8 ((x : Int) / 256 % 256), .int .u8 ((x : Int) % 256)] 5)) := by
  rw [show (x : Int) / 16777216 = ((UInt8.ofNat (x / 16777216)).toNat : Int) by rw [← byte_of]; omega, show (x : Int) / 65536 % 256 = ((UInt8.ofNat (x / 65536)).toNat : Int) by rw [← byte_of]; omega, show (x : Int) / 256 % 256 = ((UInt8.ofNat (x / 256)).toNat : Int) by rw [← byte_of]; omega, byte_of x]
  exact run_convert_bytes_back (P := Tryd.prog) _ 22 9 5 ⟨w.heap.size, 0, none⟩ 4 (put4 x) Tryd.underlying22 Tryd.underlying5 Tryd.underlying9 (four_at w _ _ _ _)
theorem specPut (x : Nat) (w : World) (hx : x < 4294967296) :
    Calls Tryd.prog 123 #[.int .u32 x] w fun e w' => e = .returned (str (put4 x)) ∧ w.grownBy w' none := by
  have x0 : (0 : Int) ≤ (x : Int) := by omega
  have x1 : (x : Int) < 4294967296 := by omega
  have CV := put_back x w hx
  unfold dec.str at CV
  generalize put4 x = l at *
  go_enter Tryd.func123, Tryd.ntmps123
  go_wp2
  go_ret
  exact ⟨rfl, World.grownBy_alloc _ _ _⟩

/-- a row of bytes, or none yet -/
def BytN (lo : Nat) (w : World) (v : Value) (l : List UInt8) : Prop := (v = .slice none 0 0 ∧ l = []) ∨ Byt lo w v l
def MadeN (w w1 : World) (v : Value) (l : List UInt8) : Prop := BytN w.heap.size w1 v l ∧ w.grownBy w1 none
theorem MadeN.of {w w1 : World} {v : Value} {l : List UInt8} (h : MadeB w w1 v l) : MadeN w w1 v l := ⟨.inr h.1, h.2⟩
theorem MadeN.nil (w : World) : MadeN w w (.slice none 0 0) [] := ⟨.inl ⟨rfl, rfl⟩, grown_refl _⟩
theorem MadeN.kept {w w1 w2 : World} {v : Value} {l : List UInt8} (h : MadeN w w1 v l) (g : w1.grownBy w2 none) : MadeN w w2 v l :=
  ⟨h.1.elim .inl (fun k => .inr (k.kept g)), grown_trans h.2 g⟩
theorem wpN {o : Oper} {a : Act} {K : Act → World → Prop} {Q : Exit → Act → World → Prop} {w wr : World} {v : Value} {l t : List UInt8} {ad : Addr} {n cap : Nat}
    (hm : MadeN w wr v l) (hc : ∀ j u, (Lib.byteCells t)[j]? = some u → wr.cell? (ad.add j) = some u) (hl : l.length + t.length ≤ 4194304) (h0 : t ≠ []) (hn : n = t.length) (s x : Operand)
    (ho : o.op = .call { callee := .builtin .append, args := #[s, x], argTypes := #[22, 22] }) (hs : a.eval s = v) (hx : a.eval x = .slice (some ad) n cap)
    (h : ∀ v' w1, MadeB w w1 v' (l ++ t) → K (a.put o.dst v') w1) : o.wp Tryd.prog a wr K Q := by
  obtain ⟨hb, hg⟩ := hm
  rcases hb with ⟨rfl, rfl⟩ | hb
  · subst hn
    obtain ⟨i0, hi, hz0, hz1, hz2⟩ := info_parts byt.infoU
    have hsz := hg.size
    refine wp_append_own _ s x 22 ho w.heap.size 5 i0 (.int .u8 0) 1 1 Tryd.underlying22 hi hz0 hz1 hz2 rfl (by decide) (.slice none 0 0) 0 [] hs ⟨by simp, .inl ⟨rfl, rfl⟩⟩ ad t.length cap (Lib.byteCells t) hx (by rw [Lib.byteCells_length]; omega) hc (Lib.byteCells_one t) ?_ ?_ ?_ ?_
    · unfold maxLen
      simp at hl
      omega
    · simp at hl
      omega
    · exact hsz
    · intro v' w1 hown' hgrow _
      refine h v' w1 ⟨?_, ⟨hgrow.os.trans hg.os, hgrow.tape.trans hg.tape, hgrow.output.trans hg.output, Nat.le_trans hsz hgrow.size, fun k hk _ => ?_⟩⟩
      · rw [List.nil_append]
        have e : ∃ a c, v' = .slice (some a) t.length c := by
          obtain ⟨_, h⟩ := hown'
          rcases h with ⟨_, h1⟩ | ⟨g, c, cur, e, _⟩
          · exact absurd (List.eq_nil_of_length_eq_zero (by omega)) h0
          · exact ⟨_, c, by rw [e, Nat.zero_add]⟩
        obtain ⟨a, c, rfl⟩ := e
        exact of_own (by simpa using hown')
      · rw [hgrow.block k (by omega) (fun e => by cases e)]
        exact hg.block k hk (fun e => by cases e)
  · exact wpB ⟨hb, hg⟩ hc hl hn s x ho hs hx h
theorem appN {ops : Array Oper} {rest : List Oper} {o : Oper} {a : Act} {Q : Exit → Act → World → Prop} {w wr : World} {v : Value} {l t : List UInt8} {ad : Addr} {n cap : Nat}
    (hm : MadeN w wr v l) (hc : ∀ j u, (Lib.byteCells t)[j]? = some u → wr.cell? (ad.add j) = some u) (hl : l.length + t.length ≤ 4194304) (h0 : t ≠ []) (hn : n = t.length) (hgd : o.guard = none) (s x : Operand)
    (ho : o.op = .call { callee := .builtin .append, args := #[s, x], argTypes := #[22, 22] }) (hs : a.eval s = v) (hx : a.eval x = .slice (some ad) n cap)
    (h : ∀ v' w1, MadeB w w1 v' (l ++ t) → wpList Tryd.prog ops Q rest (a.put o.dst v') w1) : wpList Tryd.prog ops Q (o :: rest) a wr :=
  wpList_plain hgd fun K hK => wpN hm hc hl h0 hn s x ho hs hx fun v' w1 m => hK _ _ (h v' w1 m)

set_option maxRecDepth 100000 in
set_option maxHeartbeats 2000000 in
theorem appendNumber (v : Value) (l : List UInt8) (x n : Nat) (w0 w : World) (hx : x < 18446744073709551616) (hn : n ≤ 8) (hl : l.length ≤ 2097152) (hm : MadeN w0 w v l) :
    Calls Tryd.prog 137 #[v, .int .u64 x, .int .i64 n] w fun e w' => ∃ u, e = .returned u ∧ MadeN w0 w' u (l ++ be n x n) := by
  have start : Hid (MadeN w0 w v (l ++ be n x 0)) := by show MadeN _ _ _ _; simp [be]; exact hm
  have x0 : (0 : Int) ≤ (x : Int) := by omega
  have x1 : (x : Int) < 18446744073709551616 := by omega
  clear hm
  go_enter Tryd.func137, Tryd.ntmps137
  go_wp2
  go_loopw [0, 7, 9] (fun u _ i wr => ∃ k : Nat, k ≤ n ∧ i = .int .i64 k ∧ MadeN w0 wr u (l ++ be n x k)) (fun _ _ i _ => n - (intOf i).toNat)
  case atStart => exact ⟨0, Nat.zero_le _, rfl, unhide start⟩
  case round =>
    obtain ⟨k, hk, rfl, hm⟩ := hrel
    clear start
    by_cases hlt : k < n
    · have i0 : (k : Int) < (n : Int) := by omega
      have H := hide (be_succ n x k)
      obtain ⟨y, hy⟩ : ∃ y : UInt8, y = UInt8.ofNat (x / 2 ^ (8 * (n - 1 - k))) := ⟨_, rfl⟩
      have hy2 : (x : Int) / 2 ^ (8 * (n - 1 - k)) % 256 = (y.toNat : Int) := by
        rw [hy, ← byte_of]
        simp
      rw [← hy] at H
      have HL : Hid ((l ++ be n x k).length + 1 ≤ 4194304) := by
        show _ ≤ _
        rw [List.length_append, be_length]
        omega
      have M1 : Hid (MadeN w0 (wr.alloc (.cells #[.int .u8 y.toNat] 5)) _ (l ++ be n x k)) := MadeN.kept hm (World.grownBy_alloc _ _ none)
      have HB := hide (one_at wr y)
      have ne : [y] ≠ [] := by simp
      have NE := hide ne
      clear hm hy x0 x1 hx ne
      go_wp2_with (at_builtin; refine appN (unhide M1) (unhide HB) (unhide HL) (unhide NE) rfl rfl (.tmp 12) (.tmp 21) rfl rfl rfl ?_; intro v2 w2 m2; have M2 := hide (MadeN.of m2); clear m2)
      go_roundw
      case rel => exact ⟨k + 1, by omega, by go_num, by rw [unhide H, ← List.append_assoc]; exact unhide M2⟩
      case measure => simp [intOf]; omega
    · have i0 : ¬ (k : Int) < (n : Int) := by omega
      have hk' : k = n := by omega
      subst hk'
      have M := hide hm
      clear hm
      go_wp2
      go_ret
      exact ⟨_, rfl, unhide M⟩
end Go.Proofs.YtheigbmkldlicaaDoor.zi
