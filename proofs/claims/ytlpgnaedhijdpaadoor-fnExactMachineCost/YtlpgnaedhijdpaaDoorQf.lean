/- What walkerOf makes of a right machine: its walker; the sizes within the bounds. -/
import Derived.Test.YtlpgnaedhijdpaaDoorQz
import Derived.Deep.MidRow
namespace Go.Proofs.YtlpgnaedhijdpaaDoor.qw
open Go.ChangeShapes Go.WideShapes Go.ChangeAt Go.RowKit
open Go.Proofs.YtlpgnaedhijdpaaDoor.kd (SV Slv)
open Go.Proofs.YtlpgnaedhijdpaaDoor.kc (cset lo hi)
open Go.Proofs.YtlpgnaedhijdpaaDoor.ks (Right Closed Sof)
open Go.Proofs.YtlpgnaedhijdpaaDoor.cf (Box)
open Go.Proofs.YtlpgnaedhijdpaaDoor.qa (Box5)
open Go.Proofs.YtlpgnaedhijdpaaDoor.srt (Tab)
open Go.Proofs.YtlpgnaedhijdpaaDoor.as_ (litAt tl tl_snoc tl_len)
open Go.Proofs.YtlpgnaedhijdpaaDoor.css (Sls OwnS tot)
open Go.Proofs.YtlpgnaedhijdpaaDoor.sl (Sl Own ints hide unhide ret_bool ret_int grown_refl grown_trans)
set_option linter.unusedVariables false
def zeroWV (n : Nat) (f p : Value) (st k : Int) (sp : Nat) : WV := ⟨n, f, p, st, k, sp, fun _ => 0, fun _ => 0⟩
set_option maxRecDepth 100000 in
theorem zero_cells (n : Nat) (f p : Value) (st k : Int) (sp : Nat) : (((((Tryd.zeroCells87.setIfInBounds 0 (.int .i64 (n : Int))).setIfInBounds 1 f).setIfInBounds 2 p).setIfInBounds 3 (.int .i64 st)).setIfInBounds 4 (.int .i64 k)).setIfInBounds 5 (.pointer (some ⟨sp, 0, none⟩)) = (zeroWV n f p st k sp).cells.toArray := by kernel_rfl
theorem infoCS : (Tryd.prog.info? 84).map (·.size) = some 2 := by kernel_rfl
theorem index84 (C : Array Value) (k : Nat) (x y : Value) (w : World) (h : k < 25) (hc0 : C[k * 2]? = some x) (hc1 : C[k * 2 + 1]? = some y) : (Instr.index 85 (.agg C) (.int .i64 (k : Int))).run Tryd.prog w = .ok (.agg #[x, y]) w := by
  obtain ⟨i, hi, hs⟩ := Option.map_eq_some_iff.1 infoCS
  obtain ⟨l0, e0⟩ := Array.getElem?_eq_some_iff.1 hc0
  obtain ⟨l1, e1⟩ := Array.getElem?_eq_some_iff.1 hc1
  have he : C.extract (k * 2) (k * 2 + 2) = #[x, y] := by
    apply Array.ext
    · simp; omega
    · intro j h1 h2
      rw [Array.getElem_extract]
      have h2' : j < 2 := by simpa using h2
      have : j = 0 ∨ j = 1 := by omega
      rcases this with rfl | rfl
      · exact e0
      · exact e1
  simp [Instr.index, run_underlying Tryd.underlying85, run_underlying Tryd.underlying84, asIntOf, sizeOf, typeInfo, hi, hs, part, isAgg, go_sem]
  rw [if_pos h, he]
/-- the clauses that end ahead of a place -/
def un (E : Nat → Nat) : Nat → Nat
  | 0 => 0
  | i + 1 => un E i ||| E i
theorem un_bit (E : Nat → Nat) (j : Nat) : ∀ i, (un E i).testBit j = true ↔ ∃ u, u < i ∧ (E u).testBit j = true := by
  intro i
  induction i with
  | zero =>
    constructor
    · intro h; simp [un] at h
    · rintro ⟨u, hu, _⟩; exact absurd hu (Nat.not_lt_zero _)
  | succ i ih =>
    rw [un, Nat.testBit_or, Bool.or_eq_true, ih]
    constructor
    · rintro (⟨u, h1, h2⟩ | h)
      · exact ⟨u, by omega, h2⟩
      · exact ⟨i, Nat.lt_succ_self _, h⟩
    · rintro ⟨u, h1, h2⟩
      by_cases e : u = i
      · exact .inr (by rw [← e]; exact h2)
      · exact .inl ⟨u, by omega, h2⟩
theorem un_lt {E : Nat → Nat} {m : Nat} (h : ∀ u, E u < 2 ^ m) : ∀ i, un E i < 2 ^ m := by
  intro i
  induction i with
  | zero => exact Nat.two_pow_pos _
  | succ i ih => exact Nat.or_lt_two_pow ih (h i)
/-- the cells of 'ending' -/
def ends (s : SV) : List Value := (List.range 50).map fun i => s.at (98 + i)
theorem ends_len (s : SV) : (ends s).length = 50 := by simp [ends]
theorem ends_at (s : SV) {i : Nat} (h : i < 50) : (ends s)[i]? = some (s.at (98 + i)) := by simp [ends, h]
theorem ends_range {w : World} {c : Nat} {s : SV} (h : Slv w c s) : w.rangeAt c 98 (ends s) := by
  intro j v hv
  by_cases hj : j < 50
  · rw [ends_at s hj] at hv
    rw [h.cell (by omega)]
    exact hv
  · rw [List.getElem?_eq_none (by rw [ends_len]; omega)] at hv
    cases hv
theorem infoE : (Tryd.prog.info? 85).map (·.size) = some 50 := by kernel_rfl
/-- the walker on its way: the places of 'ended' ahead of i are laid -/
structure Lay (w : World) (M : World → Prop) (wr : World) (c eb sp : Nat) (s : SV) (v0 v : WV) (i : Nat) : Prop where
  blk : Blk wr c v
  sl : Slv wr sp s
  bx : Box 84 wr eb (.int .u64 (lo (un s.E i) : Int)) (.int .u64 (hi (un s.E i) : Int))
  m5 : M wr
  eq : v = { v0 with D := v.D }
  ds : ∀ j, j < i → v.D j = un s.E (j + 1)
  db : ∀ j, v.D j < 2 ^ 128
  g : w.grownBy wr none
  hc : w.heap.size < c
  he : w.heap.size < eb
  ne : c ≠ eb
theorem un128 {w : World} {sp : Nat} {s : SV} (h : Slv w sp s) (i : Nat) : un s.E i < 2 ^ 128 := kd.lt128 (un_lt h.e i) h.m
/-- one place more -/
theorem Lay.next {w : World} {M : World → Prop} {wr wu : World} {c eb sp : Nat} {s : SV} {v0 v : WV} {i : Nat} (h : Lay w M wr c eb sp s v0 v i) (hi25 : i < 25) (g : wr.grownBy wu none) (hM : ∀ w1 w2 : World, M w1 → ∀ b, w.heap.size < b → w1.grownBy w2 (some b) → M w2) (hM0 : ∀ w1 w2 : World, M w1 → w1.grownBy w2 none → M w2) :
    Lay w M ((((wu.setCell ⟨eb, 0, none⟩ (.int .u64 (lo (un s.E (i + 1)) : Int))).setCell ⟨eb, 1, none⟩ (.int .u64 (hi (un s.E (i + 1)) : Int))).drew.setCell ⟨c, 6 + i * 2, none⟩ (.int .u64 (lo (un s.E (i + 1)) : Int))).setCell ⟨c, 6 + i * 2 + 1, none⟩ (.int .u64 (hi (un s.E (i + 1)) : Int))) c eb sp s v0 (setD v i (un s.E (i + 1))) (i + 1) := by
  rw [Nat.mul_comm]
  have g1 : wu.grownBy ((wu.setCell ⟨eb, 0, none⟩ (.int .u64 (lo (un s.E (i + 1)) : Int))).setCell ⟨eb, 1, none⟩ (.int .u64 (hi (un s.E (i + 1)) : Int))) (some eb) := ks.grown_set2 wu eb 0 _ _
  have bu := h.bx.kept g
  have b1 := (bu.set0 (.int .u64 (lo (un s.E (i + 1)) : Int))).set1 (.int .u64 (hi (un s.E (i + 1)) : Int))
  have ku : ∀ b, some eb = some b → ∃ cs t fz, wu.heap[b]? = some (.cells cs t fz) ∧ (t : Nat) ≠ 115 ∧ (t : Nat) ≠ 133 := fun b e => by cases e; exact ⟨_, _, _, bu, by decide, by decide⟩
  have c1 := (h.blk.kept g).by g1 (fun e => h.ne (by cases e; rfl))
  generalize (wu.setCell ⟨eb, 0, none⟩ (.int .u64 (lo (un s.E (i + 1)) : Int))).setCell ⟨eb, 1, none⟩ (.int .u64 (hi (un s.E (i + 1)) : Int)) = w1 at *
  have gd := cf.grown_drew w1 none
  have c2 := c1.kept gd
  have s2 := (Slv.by (h.sl.kept g) g1 ku).kept gd
  have m2 := hM0 _ _ (hM _ _ (hM0 _ _ h.m5 g) eb h.he g1) gd
  have b2 := b1.kept gd
  have gg : w.grownBy w1.drew none := grown_trans (ks.grow1 (grown_trans h.g g) g1 (Nat.le_of_lt h.he)) gd
  generalize w1.drew = w2 at *
  have g2 := ks.grown_set2 w2 c (6 + 2 * i) (.int .u64 (lo (un s.E (i + 1)) : Int)) (.int .u64 (hi (un s.E (i + 1)) : Int))
  refine ⟨c2.set2 (by omega) (cellsD v hi25), Slv.by s2 g2 (fun b e => by cases e; exact ⟨_, _, _, c2, by decide, by decide⟩), b2.by g2 (fun e => h.ne (by cases e; rfl)), hM _ _ m2 c h.hc g2, ?_, ?_, ?_, ks.grow1 gg g2 (Nat.le_of_lt h.hc), h.hc, h.he, h.ne⟩
  · rw [h.eq]
    rfl
  · intro j hj
    show (if j = i then _ else v.D j) = _
    by_cases e : j = i
    · rw [if_pos e, e]
    · rw [if_neg e]
      exact h.ds j (by omega)
  · intro j
    show (if j = i then _ else v.D j) < _
    split
    · exact un128 h.sl _
    · exact h.db j
theorem closed_nil (Ss : List Nat) : Closed Ss [] 0 := ⟨Nat.two_pow_pos _, fun i => by
  constructor
  · intro h; simp at h
  · rintro ⟨_, b, _, h⟩
    simp [km.wdB] at h⟩
/-- the walker is laid out: its path is empty -/
theorem Lay.done {w : World} {M : World → Prop} {wr w2 : World} {c eb sp : Nat} {s : SV} {f q : Value} {st k : Int} {n : Nat} {v : WV} {LL : List (List Int)} {a mid : Nat} (h : Lay w M wr c eb sp s (zeroWV n f q st k sp) v 25) (hR : Right n LL s) (hf : OwnS a mid w f LL) (ham : a ≤ mid) (hmid : mid ≤ w.heap.size) (g : wr.grownBy w2 none)
    (ho : w2.ownsRow wr.heap.size 3 1 (.slice (some ⟨wr.heap.size, 0, none⟩) 0 n) 0 []) :
    ∃ v', v'.st = st ∧ v'.k = k ∧ v'.f = f ∧ Wlk n LL a w.heap.size (w2.setCell ⟨c, 2, none⟩ (.slice (some ⟨wr.heap.size, 0, none⟩) 0 n)) c v' s [] := by
  have b2 := h.blk.kept g
  have gs := sl.grown_setCell w2 c 2 (.slice (some ⟨wr.heap.size, 0, none⟩) 0 n)
  have hsz := h.g.size
  have hcl := h.blk.lt
  have en : v.n = n := by rw [h.eq]; rfl
  have ef : v.f = f := by rw [h.eq]; rfl
  have es : v.st = st := by rw [h.eq]; rfl
  have ek : v.k = k := by rw [h.eq]; rfl
  have ep : v.sp = sp := by rw [h.eq]; rfl
  have ex : v.X = fun _ => 0 := by rw [h.eq]; rfl
  refine ⟨{ v with p := .slice (some ⟨wr.heap.size, 0, none⟩) 0 n }, es, ek, ef, b2.set (cellsP v _), en, ?_, hR, ?_, ?_, Nat.zero_le _, (fun x hx => by cases hx), ?_, ?_, ?_, h.db, Nat.le_of_lt h.hc, by omega, ⟨_, _, rfl⟩⟩
  · show Slv _ v.sp s
    rw [ep]
    exact Slv.by (h.sl.kept g) gs (fun b e => by cases e; exact ⟨_, _, _, b2, by decide, by decide⟩)
  · refine (css.own_mono ho hsz).kept gs (.inr fun e => ?_)
    injection e with e
    dsimp only at e
    omega
  · show OwnS a w.heap.size _ v.f LL
    rw [ef]
    exact ((((hf.sub (Nat.le_refl _) hmid).kept h.g).kept g).outs (css.outs_by (lo := c) (hi := c + 1) gs (fun k e => by cases e; omega)) (by have := h.hc; omega))
  · intro i hi
    show Closed s.Ss ([].take i) (v.X i)
    rw [ex, List.take_nil]
    exact closed_nil _
  · intro i
    show v.X i < _
    rw [ex]
    exact Nat.two_pow_pos _
  · intro i hi j
    show (v.D i).testBit j = true ↔ _
    rw [h.ds i (by omega), un_bit]
    constructor
    · rintro ⟨u, h1, h2⟩; exact ⟨u, by omega, h2⟩
    · rintro ⟨u, h1, h2⟩; exact ⟨u, by omega, h2⟩
/-- what walkerOf answers -/
def WofE (w : World) (n : Nat) (LL : List (List Int)) (a : Nat) (st k : Int) (f : Value) (A : List Int) (e : Ending) (w' : World) : Prop := ∃ (c : Nat) (s : SV) (v : WV), e = .returned (.pointer (some ⟨c, 0, none⟩)) ∧ v.st = st ∧ v.k = k ∧ v.f = f ∧ Wlk n LL a w.heap.size w' c v s A ∧ w.grownBy w' none
set_option maxRecDepth 100000 in
set_option maxHeartbeats 8000000 in
theorem walkerOf (f q : Value) (n : Nat) (st k : Int) (LL : List (List Int)) (A : List Int) (a mid : Nat) (w : World) (hT : Tab w) (h24 : n ≤ 24) (hm : LL.length ≤ 120) (ht : tot LL ≤ 1048576) (hl : ∀ c ∈ LL, ∀ x ∈ c, ok.litIn (n : Int) x = true)
    (hA : A.length ≤ n) (hb : ∀ x ∈ A, x = 0 ∨ x = 1) (hf : OwnS a mid w f LL) (ham : a ≤ mid) (hmid : mid ≤ w.heap.size) (hq : Sl w q (tl 0 A)) :
    Calls Tryd.prog 63 #[.agg #[.int .i64 (n : Int), f, q, .int .i64 st, .int .i64 k]] w fun e w' => WofE w n LL a st k f A e w' := by
  have gA := World.grownBy_alloc w (.cells #[.int .i64 (n : Int), f, q, .int .i64 st, .int .i64 k] 37) none
  have b0 := Box5.new 37 w (.int .i64 (n : Int)) f q (.int .i64 st) (.int .i64 k)
  have CS := hide (fun (w1 : World) (g : w.grownBy w1 none) => ks.solverOf f n LL w1 (hT.below (sl.below_of g)) h24 hm ht hl (hf.kept g).sls)
  obtain ⟨fa, fc, rfl⟩ := hf.len
  have HQ := hide (fun (w1 : World) (g : w.grownBy w1 none) => hq.kept g (.inl rfl))
  obtain ⟨qa, qc, hqe, _⟩ := hq
  rw [tl_len] at hqe
  subst hqe
  have B0 := hide b0
  have GA := hide gA
  have HF := hide hf
  have x0 := b0.c0
  have x1 := b0.c1
  have x2 := b0.c2
  have x3 := b0.c3
  have x4 := b0.c4
  clear hf hT b0 gA
  go_enter Tryd.func63, Tryd.ntmps63
  go_wp2_with fail
  generalize hW0 : w.alloc (.cells #[.int .i64 (n : Int), .slice fa LL.length fc, .slice qa A.length qc, .int .i64 st, .int .i64 k] 37) = W0 at *
  clear hW0
  have GX := hide (cf.grown_drew W0 none)
  go_region_held3 (fun w' => w'.cell? ⟨w.heap.size, 0, none⟩ = some (.int .i64 (n : Int)) ∧ w'.cell? ⟨w.heap.size, 1, none⟩ = some (.slice fa LL.length fc) ∧ w'.cell? ⟨w.heap.size, 2, none⟩ = some (.slice qa A.length qc) ∧ w'.cell? ⟨w.heap.size, 3, none⟩ = some (.int .i64 st) ∧ w'.cell? ⟨w.heap.size, 4, none⟩ = some (.int .i64 k)) (go_keep) (first
    | (go_at_call 97; refine (unhide CS _ (grown_trans (r := none) (unhide GA) (unhide GX))).mono ?_; rintro e w1 ⟨sp, s, rfl, m1⟩; have M1 := hide m1; replace GX := hide (grown_trans (r := none) (unhide GX) m1.2.2); have b1 := (unhide B0).kept (unhide GX); have k0 := b1.c0; have k1 := b1.c1; have k2 := b1.c2; have k3 := b1.c3; have k4 := b1.c4; have ne0 := World.new_ne w1 _ k0; clear m1 b1))
  have m1 := unhide M1
  have hbk : Blk (w1.alloc (.cells ((((((Tryd.zeroCells87.setIfInBounds 0 (.int .i64 (n : Int))).setIfInBounds 1 (.slice fa LL.length fc)).setIfInBounds 2 (.slice qa A.length qc)).setIfInBounds 3 (.int .i64 st)).setIfInBounds 4 (.int .i64 k)).setIfInBounds 5 (.pointer (some ⟨sp, 0, none⟩))) 87)) w1.heap.size (zeroWV n (.slice fa LL.length fc) (.slice qa A.length qc) st k sp) := by
    rw [zero_cells]
    show (w1.heap.push _)[w1.heap.size]? = _
    rw [Array.getElem?_push, if_pos rfl]
  have gw1 := grown_trans (r := none) (unhide GA) (unhide GX)
  have gW := World.grownBy_alloc w1 (.cells ((((((Tryd.zeroCells87.setIfInBounds 0 (.int .i64 (n : Int))).setIfInBounds 1 (.slice fa LL.length fc)).setIfInBounds 2 (.slice qa A.length qc)).setIfInBounds 3 (.int .i64 st)).setIfInBounds 4 (.int .i64 k)).setIfInBounds 5 (.pointer (some ⟨sp, 0, none⟩))) 87) none
  have hsz : (w1.alloc (.cells ((((((Tryd.zeroCells87.setIfInBounds 0 (.int .i64 (n : Int))).setIfInBounds 1 (.slice fa LL.length fc)).setIfInBounds 2 (.slice qa A.length qc)).setIfInBounds 3 (.int .i64 st)).setIfInBounds 4 (.int .i64 k)).setIfInBounds 5 (.pointer (some ⟨sp, 0, none⟩))) 87)).heap.size = w1.heap.size + 1 := World.size_alloc ..
  have hcl : w.heap.size < w1.heap.size := Nat.lt_of_lt_of_le (unhide B0).lt (unhide GX).size
  have slW := m1.1.kept gW
  have m5W := ((unhide B0).kept (unhide GX)).kept gW
  have gwW := grown_trans (r := none) gw1 gW
  have HR := hide m1.2.1
  generalize w1.alloc (.cells ((((((Tryd.zeroCells87.setIfInBounds 0 (.int .i64 (n : Int))).setIfInBounds 1 (.slice fa LL.length fc)).setIfInBounds 2 (.slice qa A.length qc)).setIfInBounds 3 (.int .i64 st)).setIfInBounds 4 (.int .i64 k)).setIfInBounds 5 (.pointer (some ⟨sp, 0, none⟩))) 87) = W1 at *
  generalize w1.heap.size = c at *
  have gB := World.grownBy_alloc W1 (.cells #[.int .u64 0, .int .u64 0] 84) none
  have bx := Box.new 84 W1 (.int .u64 0) (.int .u64 0)
  have lay : Lay w (fun wx => Box5 37 wx w.heap.size (.int .i64 (n : Int)) (.slice fa LL.length fc) (.slice qa A.length qc) (.int .i64 st) (.int .i64 k)) (W1.alloc (.cells #[.int .u64 0, .int .u64 0] 84)) c W1.heap.size sp s (zeroWV n (.slice fa LL.length fc) (.slice qa A.length qc) st k sp) (zeroWV n (.slice fa LL.length fc) (.slice qa A.length qc) st k sp) 0 :=
    ⟨hbk.kept gB, slW.kept gB, (by have e0 : lo (un s.E 0) = 0 := Nat.zero_mod _; have e1 : hi (un s.E 0) = 0 := Nat.zero_div _; rw [e0, e1]; exact bx), m5W.kept gB, rfl, fun j hj => absurd hj (Nat.not_lt_zero _), fun j => Nat.two_pow_pos 128, grown_trans gwW gB, hcl, by omega, by omega⟩
  have x5 : (W1.alloc (.cells #[.int .u64 0, .int .u64 0] 84)).cell? ⟨c, 5, none⟩ = some (.pointer (some ⟨sp, 0, none⟩)) := lay.blk.cell (k := 5) (by decide)
  have rg := ends_range lay.sl
  have ia : (Tryd.prog.info? 85).map (·.size) = some (ends s).length := by rw [ends_len]; exact infoE
  have hu := Tryd.underlying85
  have IX : Hid (∀ (i : Nat) (wz : World), i < 25 → (Instr.index 85 (.agg (ends s).toArray) (.int .i64 (i : Int))).run Tryd.prog wz = .ok (.agg #[.int .u64 (lo (s.E i) : Int), .int .u64 (hi (s.E i) : Int)]) wz) := by
    intro i wz hi25
    refine index84 _ i _ _ wz hi25 ?_ ?_
    · rw [List.getElem?_toArray, ends_at s (by omega), Nat.mul_comm, kd.atE0 s hi25]
    · rw [List.getElem?_toArray, ends_at s (by omega), Nat.mul_comm]
      have := kd.atE1 s hi25
      rw [show 98 + (2 * i + 1) = 98 + 2 * i + 1 by omega, this]
  have LY := hide lay
  clear lay bx gB gwW m5W slW hcl hsz gW gw1 hbk m1 k0 k1 k2 k3 k4 ne0 x0 x1 x2 x3 x4 M1 GX GA B0 CS
  generalize ends s = cs at *
  go_wp2_with (first | (refine wpList_load_mid rfl 85 _ rfl sp 98 rfl cs _ rg hu rfl ia ?_))
  clear rg ia hu x5
  generalize hWL : W1.alloc (.cells #[.int .u64 0, .int .u64 0] 84) = WL at *
  generalize W1.heap.size = eb at *
  clear hWL
  go_loopw [22] (fun iv wr => ∃ (i : Nat) (v : WV), i ≤ 25 ∧ iv = .int .i64 (i : Int) ∧ Hid (Lay w (fun wx => Box5 37 wx w.heap.size (.int .i64 (n : Int)) (.slice fa LL.length fc) (.slice qa A.length qc) (.int .i64 st) (.int .i64 k)) wr c eb sp s (zeroWV n (.slice fa LL.length fc) (.slice qa A.length qc) st k sp) v i)) (fun iv _ => 25 - (intOf iv).toNat)
  case atStart => exact ⟨0, _, Nat.zero_le _, rfl, LY⟩
  case round =>
    obtain ⟨i, v, hi25, rfl, hlay⟩ := hrel
    clear LY
    by_cases hlt : i < 25
    · have hix := fun wz => unhide IX i wz hlt
      have hiI : (i : Int) < 25 := by omega
      have ly := unhide hlay
      have CU := hide (fun wz => kc.union (un s.E i) (s.E i) wz (un128 ly.sl i) (kd.lt128 (ly.sl.e i) ly.sl.m))
      have gS := World.grownBy_alloc wr (.cells #[.int .u64 (lo (s.E i) : Int), .int .u64 (hi (s.E i) : Int)] 84) none
      have e0 := (ly.bx.kept gS).c0
      have e1 := (ly.bx.kept gS).c1
      have FE : Hid (∀ wu, (wr.alloc (.cells #[.int .u64 (lo (s.E i) : Int), .int .u64 (hi (s.E i) : Int)] 84)).grownBy wu none → Box 84 wu eb (.int .u64 (lo (un s.E i) : Int)) (.int .u64 (hi (un s.E i) : Int)) ∧ Blk wu c v ∧ eb ≠ c) := fun wu gu => ⟨(ly.bx.kept gS).kept gu, (ly.blk.kept gS).kept gu, fun e => ly.ne e.symm⟩
      have FN := hide (fun wu gu => ly.next (wu := wu) hlt (grown_trans (r := none) gS gu) (fun w1 w2 hm b hb g => Box5.by hm g (fun e => by cases e; omega)) (fun w1 w2 hm g => Box5.kept hm g))
      unfold kc.cset at CU
      clear ly IX gS
      go_wp2_with fail
      refine (unhide CU _).mono ?_
      rintro e wu ⟨rfl, gu⟩
      have fe := unhide FE wu gu
      have FNu := hide (unhide FN wu gu)
      have d0 := fe.1.c0
      have d1 := fe.1.c1
      have p0 := fe.1.f 0
      have p1 := fe.1.f 1
      clear e0 e1 gu CU FE FN
      go_wp2_with fail
      have b2 := (fe.1.set0 (.int .u64 (lo (un s.E i ||| s.E i) : Int))).set1 (.int .u64 (hi (un s.E i ||| s.E i) : Int))
      have c2 : Blk ((wu.setCell ⟨eb, 0, none⟩ (.int .u64 (lo (un s.E i ||| s.E i) : Int))).setCell ⟨eb, 1, none⟩ (.int .u64 (hi (un s.E i ||| s.E i) : Int))) c v := fe.2.1.by (ks.grown_set2 wu eb 0 _ _) (fun e => fe.2.2 (by cases e; rfl))
      have SK : Hid (∀ x y : Value, ((((wu.setCell ⟨eb, 0, none⟩ (.int .u64 (lo (un s.E i ||| s.E i) : Int))).setCell ⟨eb, 1, none⟩ (.int .u64 (hi (un s.E i ||| s.E i) : Int))).setCell ⟨c, 6 + i * 2, none⟩ x).setCell ⟨c, 6 + i * 2 + 1, none⟩ y).drew.cell? ⟨eb, 0, none⟩ = some (.int .u64 (lo (un s.E i ||| s.E i) : Int)) ∧ ((((wu.setCell ⟨eb, 0, none⟩ (.int .u64 (lo (un s.E i ||| s.E i) : Int))).setCell ⟨eb, 1, none⟩ (.int .u64 (hi (un s.E i ||| s.E i) : Int))).setCell ⟨c, 6 + i * 2, none⟩ x).setCell ⟨c, 6 + i * 2 + 1, none⟩ y).drew.cell? ⟨eb, 1, none⟩ = some (.int .u64 (hi (un s.E i ||| s.E i) : Int))) := fun x y => by
        have b3 := (b2.by (ks.grown_set2 _ c (6 + i * 2) x y) (fun e => fe.2.2 (by cases e; rfl))).kept (cf.grown_drew _ none)
        exact ⟨b3.c0, b3.c1⟩
      have q0 := b2.c0
      have q1 := b2.c1
      have z0 := c2.cell (k := 6 + i * 2) (by omega)
      have z1 := c2.cell (k := 6 + i * 2 + 1) (by omega)
      have y0 := c2.fz (6 + i * 2)
      have y1 := c2.fz (6 + i * 2 + 1)
      have FN2 : Hid (Lay w _ ((((wu.setCell ⟨eb, 0, none⟩ (.int .u64 (lo (un s.E i ||| s.E i) : Int))).setCell ⟨eb, 1, none⟩ (.int .u64 (hi (un s.E i ||| s.E i) : Int))).setCell ⟨c, 6 + i * 2, none⟩ (.int .u64 (lo (un s.E i ||| s.E i) : Int))).setCell ⟨c, 6 + i * 2 + 1, none⟩ (.int .u64 (hi (un s.E i ||| s.E i) : Int))).drew c eb sp s _ (setD v i (un s.E (i + 1))) (i + 1)) := unhide FNu
      clear fe b2 c2 d0 d1 p0 p1 hlt FNu
      generalize (wu.setCell ⟨eb, 0, none⟩ (.int .u64 (lo (un s.E i ||| s.E i) : Int))).setCell ⟨eb, 1, none⟩ (.int .u64 (hi (un s.E i ||| s.E i) : Int)) = W2 at *
      generalize v.at (6 + i * 2) = v6 at *
      generalize v.at (6 + i * 2 + 1) = v7 at *
      go_region_held3 (fun w' => w'.cell? ⟨eb, 0, none⟩ = some (.int .u64 (lo (un s.E i ||| s.E i) : Int)) ∧ w'.cell? ⟨eb, 1, none⟩ = some (.int .u64 (hi (un s.E i ||| s.E i) : Int))) (first | exact unhide SK _ _ | go_keep) (fail)
      go_wp2_with fail
      go_roundw
      case rel => exact ⟨i + 1, _, by omega, by go_num, FN2⟩
      case measure => simp [intOf]; omega
    · have e25 : i = 25 := by omega
      subst e25
      have ly := unhide hlay
      obtain ⟨i0, hi, hz0, hz1, hz2⟩ := info_parts sl.info3
      have m0 := ly.m5.c0
      have nI : (0 : Int) ≤ (n : Int) := by omega
      clear IX hlt
      go_wp2_with (first | (at_make; refine wpList_make_own _ rfl _ _ 24 rfl wr.heap.size 3 i0 (.int .i64 0) 1 Tryd.underlying24 hi hz0 hz1 _ _ _ n rfl rfl (by rfl) ?b1 ?b2 ?b3 ?_))
      case b1 => rw [hz2]; omega
      case b2 => unfold maxLen; omega
      case b3 => exact Nat.le_refl _
      intro w2 hown hgrow
      have DN := hide (ly.done (unhide HR) (unhide HF) ham hmid hgrow hown)
      have b2 := ly.blk.kept hgrow
      have c2 := b2.cell (k := 2) (by decide)
      have f2 := b2.fz 2
      have m5 := ly.m5.kept hgrow
      have m2' := (Box5.by m5 (sl.grown_setCell w2 c 2 (.slice (some ⟨wr.heap.size, 0, none⟩) 0 n)) (fun e => by cases e; have := ly.hc; omega)).c2
      have GW : Hid (w.grownBy (w2.setCell ⟨c, 2, none⟩ (.slice (some ⟨wr.heap.size, 0, none⟩) 0 n)) none) := ks.grow1 (grown_trans ly.g hgrow) (sl.grown_setCell w2 c 2 _) (Nat.le_of_lt ly.hc)
      clear ly hown hgrow m5 b2 m0 hlay
      generalize v.at 2 = v2 at *
      go_wp2_with fail
      generalize w2.setCell ⟨c, 2, none⟩ (.slice (some ⟨wr.heap.size, 0, none⟩) 0 n) = W3 at *
      obtain ⟨v3, e1, e2, e3, WK⟩ := unhide DN
      have ST : Hid (v3.st = st ∧ v3.k = k ∧ v3.f = .slice fa LL.length fc ∧ Wlk n LL a w.heap.size W3 c v3 s (A.take 0) ∧ w.grownBy W3 none) := ⟨e1, e2, e3, WK, unhide GW⟩
      clear DN e1 e2 e3 WK GW c2 f2 m2'
      go_loopw [47] (fun iv wx => ∃ (j : Nat) (v4 : WV), j ≤ A.length ∧ iv = .int .i64 (j : Int) ∧ Hid (v4.st = st ∧ v4.k = k ∧ v4.f = .slice fa LL.length fc ∧ Wlk n LL a w.heap.size wx c v4 s (A.take j) ∧ w.grownBy wx none)) (fun iv _ => A.length - (intOf iv).toNat)
      case atStart => exact ⟨0, v3, Nat.zero_le _, rfl, ST⟩
      case round =>
        obtain ⟨j, v4, hj, rfl, hw4⟩ := hrel
        clear ST
        obtain ⟨h1, h2, h3, h4, h5⟩ := unhide hw4
        by_cases hlt : j < A.length
        · obtain ⟨qa', qc', e', ha⟩ := unhide HQ _ h5
          rw [tl_len] at e'
          simp only [Value.slice.injEq] at e'
          obtain ⟨rfl, _, rfl⟩ := e'
          rcases ha with h | ⟨b, off, rfl, hbl, hcb⟩
          · have : (tl 0 A).length = 0 := by rw [h]; rfl
            rw [tl_len] at this
            omega
          · have c1 := hcb j (by rw [tl_len]; exact hlt)
            rw [qm.tl_getD A 0 j hlt, Nat.zero_add] at c1
            have hjI : (j : Int) < (A.length : Int) := by omega
            have hltk : (A.take j).length = j := by rw [List.length_take]; omega
            have hbit := hb _ (qm.getD_mem hlt)
            have CP := put h4 (x := A.getD j 0) (by rw [hltk]; omega) hbit
            rw [hltk] at CP
            have ets : A.take j ++ [A.getD j 0] = A.take (j + 1) := by
              rw [List.take_succ_eq_append_getElem hlt, show A.getD j 0 = A[j] by simp [hlt]]
            rw [ets] at CP
            have hbd : -24 ≤ litAt j (A.getD j 0) ∧ litAt j (A.getD j 0) ≤ 24 := by unfold as_.litAt; split <;> omega
            have hw8 := wrap8 hbd.1 hbd.2
            have HC := hide CP
            have H13 := hide (And.intro h1 (And.intro h2 (And.intro h3 h5)))
            have hb1 := hbd.1
            have hb2 := hbd.2
            clear CP hbd ets hltk hbit hcb h1 h2 h3 h4 h5 hw4 HQ
            generalize litAt j (A.getD j 0) = y at *
            go_wp2_with fail
            refine (unhide HC).mono ?_
            rintro e w7 ⟨rfl, v7, p1, p2, p3, p4, p5⟩
            have F := hide (show v7.st = st ∧ v7.k = k ∧ v7.f = .slice fa LL.length fc ∧ Wlk n LL a w.heap.size w7 c v7 s (A.take (j + 1)) ∧ w.grownBy w7 none from ⟨p1.trans (unhide H13).1, p2.trans (unhide H13).2.1, p3.trans (unhide H13).2.2.1, p4, sl.of_below (bel_trans (sl.below_of (unhide H13).2.2.2) p5)⟩)
            clear p1 p2 p3 p4 p5 HC H13
            go_wp2_with fail
            go_roundw
            case rel => exact ⟨j + 1, v7, by omega, by go_num, F⟩
            case measure => simp [intOf]; omega
        · have ej : A.take j = A := List.take_of_length_le (by omega)
          rw [ej] at h4
          have F := hide (And.intro h1 (And.intro h2 (And.intro h3 (And.intro h4 h5))))
          have hjI : ¬ (j : Int) < (A.length : Int) := by omega
          clear h1 h2 h3 h4 h5 hw4 ej HQ
          go_wp2_with fail
          go_ret
          exact ⟨c, s, v4, rfl, unhide F⟩
end Go.Proofs.YtlpgnaedhijdpaaDoor.qw
