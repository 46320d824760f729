/- The program's solver as it lies in memory; what lost tells of it. -/
import Derived.Test.YtlpgnaedhijdpaaDoorKc
import Derived.Test.YtlpgnaedhijdpaaDoorSrtW
import Derived.Test.YtlpgnaedhijdpaaDoorOp
import Derived.Test.YtlpgnaedhijdpaaDoorSu
import Derived.Deep.QuietTactic
import Derived.BigQuiet
namespace Go.Proofs.YtlpgnaedhijdpaaDoor.kd
open Go.ChangeShapes Go.WideShapes Go.ChangeAt Go.RowKit
open Go.Proofs.YtlpgnaedhijdpaaDoor.cf (Box)
open Go.Proofs.YtlpgnaedhijdpaaDoor.srt (Tab)
open Go.Proofs.YtlpgnaedhijdpaaDoor.su (words MadeU)
open Go.Proofs.YtlpgnaedhijdpaaDoor.kc (cset lo hi lo_bit hi_bit lo_lt hi_lt)
open Go.Proofs.YtlpgnaedhijdpaaDoor.sl (hide unhide grown_refl grown_trans)
set_option linter.unusedVariables false
/-- a solver: how many variables, the row of its clauses, which clauses have a literal (by its place), which end with a variable -/
structure SV where
  n : Nat
  V : Value
  Ss : List Nat
  H : Nat → Nat
  E : Nat → Nat
def SV.at (s : SV) (k : Nat) : Value :=
  if k = 0 then .int .i64 (s.n : Int) else if k = 1 then s.V else if k < 98 then (if k % 2 = 0 then .int .u64 (lo (s.H ((k - 2) / 2)) : Int) else .int .u64 (hi (s.H ((k - 2) / 2)) : Int))
  else (if k % 2 = 0 then .int .u64 (lo (s.E ((k - 98) / 2)) : Int) else .int .u64 (hi (s.E ((k - 98) / 2)) : Int))
def SV.cells (s : SV) : List Value := (List.range 148).map s.at
structure Slv (w : World) (c : Nat) (s : SV) : Prop where
  blk : w.heap[c]? = some (.cells s.cells.toArray 115 (0, 0))
  cl : w.ownsRow 0 133 1 s.V s.Ss.length (words s.Ss)
  m : s.Ss.length ≤ 120
  h : ∀ p, s.H p < 2 ^ s.Ss.length
  e : ∀ v, s.E v < 2 ^ s.Ss.length
theorem cells_len (s : SV) : s.cells.length = 148 := by simp [SV.cells]
theorem cells_at (s : SV) {k : Nat} (h : k < 148) : s.cells[k]? = some (s.at k) := by simp [SV.cells, h]
theorem Slv.cell {w : World} {c : Nat} {s : SV} (h : Slv w c s) {k : Nat} (hk : k < 148) : w.cell? ⟨c, k, none⟩ = some (s.at k) := by
  simp only [World.cell?, h.blk, List.getElem?_toArray, cells_at s hk]
  rfl
theorem Slv.lt {w : World} {c : Nat} {s : SV} (h : Slv w c s) : c < w.heap.size := (Array.getElem?_eq_some_iff.1 h.blk).1
theorem at0 (s : SV) : s.at 0 = .int .i64 (s.n : Int) := rfl
theorem at1 (s : SV) : s.at 1 = s.V := rfl
theorem atH0 (s : SV) {p : Nat} (h : p < 48) : s.at (2 + 2 * p) = .int .u64 (lo (s.H p) : Int) := by
  unfold SV.at
  rw [if_neg (by omega), if_neg (by omega), if_pos (by omega), if_pos (by omega), show (2 + 2 * p - 2) / 2 = p by omega]
theorem atH1 (s : SV) {p : Nat} (h : p < 48) : s.at (2 + 2 * p + 1) = .int .u64 (hi (s.H p) : Int) := by
  unfold SV.at
  rw [if_neg (by omega), if_neg (by omega), if_pos (by omega), if_neg (by omega), show (2 + 2 * p + 1 - 2) / 2 = p by omega]
theorem atE0 (s : SV) {v : Nat} (h : v < 25) : s.at (98 + 2 * v) = .int .u64 (lo (s.E v) : Int) := by
  unfold SV.at
  rw [if_neg (by omega), if_neg (by omega), if_neg (by omega), if_pos (by omega), show (98 + 2 * v - 98) / 2 = v by omega]
theorem atE1 (s : SV) {v : Nat} (h : v < 25) : s.at (98 + 2 * v + 1) = .int .u64 (hi (s.E v) : Int) := by
  unfold SV.at
  rw [if_neg (by omega), if_neg (by omega), if_neg (by omega), if_neg (by omega), show (98 + 2 * v + 1 - 98) / 2 = v by omega]
theorem Slv.kept {w w' : World} {c : Nat} {s : SV} (h : Slv w c s) (g : w.grownBy w' none) : Slv w' c s :=
  ⟨by rw [g.block c h.lt (fun e => by cases e)]; exact h.blk, h.cl.kept g (by
    cases s.V.ownBlock with
    | none => exact .inl rfl
    | some k => exact .inr (by simp)), h.m, h.h, h.e⟩
theorem lt128 {x m : Nat} (h : x < 2 ^ m) (hm : m ≤ 120) : x < 2 ^ 128 := Nat.lt_of_lt_of_le h (Nat.pow_le_pow_right (by decide) (by omega))
theorem bit_lt {x m i : Nat} (h : x < 2 ^ m) (hi : x.testBit i = true) : i < m := by
  rcases Nat.lt_or_ge i m with q | q
  · exact q
  · rw [Nat.testBit_lt_two_pow (Nat.lt_of_lt_of_le h (Nat.pow_le_pow_right (by decide) q))] at hi
    cases hi
/-- trailing noughts of a word -/
theorem tz64 (x : Nat) (w : World) (hT : Tab w) (h0 : 0 < x) (h64 : x < 2 ^ 64) :
    Calls Tryd.prog 146 #[.int .u64 x] w fun e w' => e = .returned (.int .i64 (Lib.ctz 64 x : Nat)) ∧ w' = w := by
  obtain ⟨hlow, hk⟩ := Lib.lowest_bit 64 x (by omega) h64
  obtain ⟨hi, htab⟩ := Lib.deBruijn64_at _ hk
  have hcell := hT _ hi
  rw [htab] at hcell
  exact srt.tz_core x _ _ w (by simp; omega) (srt.tz_key x _ h64 (by omega) hlow) hi hk hcell
theorem ctz_bit {x : Nat} (h0 : 0 < x) (h64 : x < 2 ^ 64) : Lib.ctz 64 x < 64 ∧ x.testBit (Lib.ctz 64 x) = true := by
  obtain ⟨m, e, ht⟩ := Lib.ctzFrom_spec 64 x h0 h64
  have ec : Lib.ctz 64 x = Lib.ctzFrom 64 x := if_neg (by omega)
  rw [ec]
  refine ⟨ht, ?_⟩
  generalize Lib.ctzFrom 64 x = t at *
  rw [Nat.testBit_eq_decide_div_mod_eq, decide_eq_true_iff, e, Nat.mul_div_cancel_left _ (Nat.two_pow_pos t)]
  omega
/-- a word without the bits of another -/
def anN (a b : Nat) : Nat := a &&& (18446744073709551615 - b)
theorem anN_bit (a b i : Nat) (ha : a < 2 ^ 64) (hb : b < 2 ^ 64) : (anN a b).testBit i = (a.testBit i && !b.testBit i) := by
  unfold anN
  rw [Nat.testBit_and, show 18446744073709551615 - b = 2 ^ 64 - (b + 1) by omega, Nat.testBit_two_pow_sub_succ hb]
  by_cases h : i < 64
  · rw [decide_eq_true h, Bool.true_and]
  · rw [Nat.testBit_lt_two_pow (Nat.lt_of_lt_of_le ha (Nat.pow_le_pow_right (by decide) (by omega)))]
    rfl
theorem anN_lt (a b : Nat) (ha : a < 2 ^ 64) : anN a b < 2 ^ 64 := Nat.lt_of_le_of_lt Nat.and_le_left ha
theorem anN_zero {a b : Nat} (ha : a < 2 ^ 64) (hb : b < 2 ^ 64) (h : anN a b = 0) : ∀ i, a.testBit i = true → b.testBit i = true := by
  intro i hi
  have := anN_bit a b i ha hb
  rw [h, Nat.zero_testBit, hi, Bool.true_and] at this
  cases hb' : b.testBit i with
  | true => rfl
  | false => rw [hb'] at this; cases this
/-- what lost answers -/
def LostE (w : World) (s : SV) (v X : Nat) (e : Ending) (w' : World) : Prop := w.grownBy w' none ∧
  ((∃ i, i < s.Ss.length ∧ (s.E v).testBit i = true ∧ X.testBit i = false ∧ e = .returned (.tuple #[.int .u64 (s.Ss.getD i 0 : Int), .bool true])) ∨
   ((∀ i, (s.E v).testBit i = true → X.testBit i = true) ∧ e = .returned (.tuple #[.int .u64 0, .bool false])))
theorem lo_open {E X : Nat} (h0 : anN (lo E) (lo X) ≠ 0) : E.testBit (Lib.ctz 64 (anN (lo E) (lo X))) = true ∧ X.testBit (Lib.ctz 64 (anN (lo E) (lo X))) = false ∧ Lib.ctz 64 (anN (lo E) (lo X)) < 64 := by
  obtain ⟨h1, h2⟩ := ctz_bit (Nat.pos_of_ne_zero h0) (anN_lt _ _ (lo_lt E))
  rw [anN_bit _ _ _ (lo_lt E) (lo_lt X), Bool.and_eq_true, lo_bit, lo_bit, decide_eq_true h1, Bool.true_and, Bool.true_and] at h2
  exact ⟨h2.1, by simpa using h2.2, h1⟩
theorem hi_open {E X : Nat} (hE : E < 2 ^ 128) (hX : X < 2 ^ 128) (h0 : anN (hi E) (hi X) ≠ 0) : E.testBit (64 + Lib.ctz 64 (anN (hi E) (hi X))) = true ∧ X.testBit (64 + Lib.ctz 64 (anN (hi E) (hi X))) = false ∧ Lib.ctz 64 (anN (hi E) (hi X)) < 64 := by
  obtain ⟨h1, h2⟩ := ctz_bit (Nat.pos_of_ne_zero h0) (anN_lt _ _ (hi_lt hE))
  rw [anN_bit _ _ _ (hi_lt hE) (hi_lt hX), Bool.and_eq_true, hi_bit, hi_bit] at h2
  exact ⟨h2.1, by simpa using h2.2, h1⟩
theorem all_closed {E X : Nat} (hE : E < 2 ^ 128) (hX : X < 2 ^ 128) (h0 : anN (lo E) (lo X) = 0) (h1 : anN (hi E) (hi X) = 0) : ∀ i, E.testBit i = true → X.testBit i = true := by
  intro i hi'
  by_cases h : i < 64
  · have := anN_zero (lo_lt E) (lo_lt X) h0 i (by rw [lo_bit, hi', decide_eq_true h]; rfl)
    rw [lo_bit, Bool.and_eq_true] at this
    exact this.2
  · have := anN_zero (hi_lt hE) (hi_lt hX) h1 (i - 64) (by rw [hi_bit, show 64 + (i - 64) = i by omega]; exact hi')
    rw [hi_bit, show 64 + (i - 64) = i by omega] at this
    exact this
theorem row_at {w : World} {c : Nat} {s : SV} (h : Slv w c s) {i : Nat} (hi : i < s.Ss.length) : ∃ g cap, s.V = .slice (some ⟨g, 0, none⟩) s.Ss.length cap ∧ w.cell? ⟨g, i, none⟩ = some (.int .u64 (s.Ss.getD i 0 : Int)) := by
  have hcl := h.cl
  rcases hcl.2 with ⟨hv, h0⟩ | ⟨g, cap, cur, hv, _⟩
  · omega
  · rw [hv] at hcl
    refine ⟨g, cap, hv, ?_⟩
    rw [hcl.cellAt i (by omega)]
    simp [su.words, hi]
end Go.Proofs.YtlpgnaedhijdpaaDoor.kd
