/- What a step of the walker does: the step of the machine; no condition but that the walker is one and runs. -/
import Derived.Test.YtnlllcgcaddhmaaGreatDoorJXQy
import Derived.Laws.EntriesVeiled
import Derived.Deep.MidRow
import Derived.Test.YtnlllcgcaddhmaaGreatDoorJXQc
import Derived.Test.YtnlllcgcaddhmaaGreatDoorJXQb
import Derived.Test.YtnlllcgcaddhmaaGreatDoorJXQo
import Derived.Test.YtnlllcgcaddhmaaGreatDoorJXLq
namespace Go.Proofs.YtnlllcgcaddhmaaGreatDoor.qw
open Go.ChangeShapes Go.WideShapes Go.ChangeAt Go.RowKit
open kd (SV Slv)
open as_ (litAt tl tl_snoc tl_len)
open qm (cutN back MS stepM runM OkM cut_le)
open wm0 (end0 ret0)
open sl (Sl Own ints hide unhide ret_bool ret_int grown_refl grown_trans)
set_option linter.unusedVariables false
def Now (n : Nat) (LL : List (List Int)) (a mid c : Nat) (s : SV) (f : Value) (w w' : World) (m : MS) : Prop := ∃ v', v'.st = m.st ∧ v'.k = m.k ∧ v'.f = f ∧ Wlk n LL a mid w' c v' s m.A ∧ Below mid w w'
set_option maxRecDepth 100000 in
set_option maxHeartbeats 4000000 in
theorem step {n : Nat} {LL : List (List Int)} {a mid : Nat} {w : World} {c : Nat} {v : WV} {s : SV} {A : List Int} (h : Wlk n LL a mid w c v s A) (hs : v.st = 0) (hk0 : 0 ≤ v.k) (hk : v.k < 1000000000) :
  Calls Tryz.prog 123 #[.pointer (some ⟨c, 0, none⟩)] w fun e w' => e = .returned (.tuple #[]) ∧ Now n LL a mid c s v.f w w' (stepM n LL ⟨A, v.st, v.k⟩) := by
 have gA := World.grownBy_alloc w (.cells #[.func (.func 160) #[] #[], .func (.func 161) #[] #[], .func (.func 162) #[] #[]] 195) none
 have x4 : w.cell? ⟨c, 4, none⟩ = some (.int .i64 v.k) := h.blk.cell (k := 4) (by decide)
 have y4 := gA.cell x4 (fun e => by cases e)
 have f4 := (h.kept gA).blk.fz 4
 have ne4 := World.new_ne w _ x4
 go_enter Tryz.func123, Tryz.ntmps123
 go_wp2_with fail
 have HW1 := (h.kept gA).cellC (v' := { v with k := v.k + 1 }) (sl.grown_setCell _ c 4 (.int .i64 (v.k + 1))) ((h.kept gA).blk.set (cellsK _ (v.k + 1))) rfl rfl rfl rfl rfl (fun _ _ => rfl) h.xb
 have BL := hide (bel_set (i := 4) (u := .int .i64 (v.k + 1)) (bel_by (m := mid) (Nat.le_trans h.hc (Nat.le_of_lt h.blk.lt)) gA (fun b e => by cases e)) h.hc)
 have hcl := h.blk.lt
 have FB : Hid (∀ w5 : World, ((w.alloc (.cells #[.func (.func 160) #[] #[], .func (.func 161) #[] #[], .func (.func 162) #[] #[]] 195)).setCell ⟨c, 4, none⟩ (.int .i64 (v.k + 1))).grownBy w5 none → w5.cell? ⟨w.heap.size, 0, none⟩ = some (.func (.func 160) #[] #[]) ∧ w5.cell? ⟨w.heap.size, 1, none⟩ = some (.func (.func 161) #[] #[]) ∧ w5.cell? ⟨w.heap.size, 2, none⟩ = some (.func (.func 162) #[] #[])) := by
  intro w5 g5
  have hb : ∀ i : Nat, ((w.alloc (.cells #[.func (.func 160) #[] #[], .func (.func 161) #[] #[], .func (.func 162) #[] #[]] 195)).setCell ⟨c, 4, none⟩ (.int .i64 (v.k + 1))).cell? ⟨w.heap.size, i, none⟩ = (w.alloc (.cells #[.func (.func 160) #[] #[], .func (.func 161) #[] #[], .func (.func 162) #[] #[]] 195)).cell? ⟨w.heap.size, i, none⟩ := fun i => World.cell?_setCell_other _ _ _ _ (fun e => by have := congrArg Addr.block e; simp at this; omega)
  refine ⟨g5.cell ((hb 0).trans (by simp)) (fun e => by cases e), g5.cell ((hb 1).trans (by simp)) (fun e => by cases e), g5.cell ((hb 2).trans (by simp)) (fun e => by cases e)⟩
 have PI := hide (pathIs HW1)
 have hlen := h.len
 have HH := hide HW1
 clear h x4 y4 f4 ne4 gA HW1 hcl
 generalize hW1 : (w.alloc (.cells #[.func (.func 160) #[] #[], .func (.func 161) #[] #[], .func (.func 162) #[] #[]] 195)).setCell ⟨c, 4, none⟩ (.int .i64 (v.k + 1)) = W1 at *
 clear hW1
 refine (unhide PI).mono ?_
 rintro e w5 ⟨rfl, g5⟩
 have b5 := unhide FB w5 g5
 have t0 := b5.1
 have t1 := b5.2.1
 have t2 := b5.2.2
 have B5 := hide (bel_trans (unhide BL) (bel_by (m := mid) (Nat.le_trans (unhide HH).hc (Nat.le_of_lt (unhide HH).blk.lt)) g5 (fun b e => by cases e)))
 have H5 := hide ((unhide HH).kept g5)
 have SM : Hid (stepM n LL ⟨A, v.st, v.k⟩ = if l4.openB LL (tl 0 A) then (if A.length = n then ⟨A, 1, v.k + 1⟩ else ⟨A ++ [0], 0, v.k + 1⟩) else if cutN A A.length = 0 then ⟨[], 2, v.k + 1⟩ else ⟨back A, 0, v.k + 1⟩) := by
  show stepM n LL ⟨A, v.st, v.k⟩ = _
  unfold qm.stepM
  rw [if_pos ⟨hs, hk⟩]
 clear g5 b5 HH FB BL PI
 cases ho : l4.openB LL (tl 0 A)
 ·rw [ho] at SM
  have CT := hide (turn (unhide H5))
  clear H5 ho
  go_wp2_with fail
  refine (unhide CT).mono ?_
  rintro e w6 ⟨rfl, v6, p1, p2, p3, p4, p5⟩
  have F := hide (And.intro p1 (And.intro p2 (And.intro p3 (And.intro p4 (bel_trans (unhide B5) p5)))))
  clear p1 p2 p3 p4 p5 CT B5
  go_wp2_with fail
  (try simp only [Exit.inBlock, Exit.then])
  obtain ⟨p1, p2, p3, p4, p5⟩ := unhide F
  refine end0 rfl rfl ⟨rfl, ?_⟩
  rw [unhide SM]
  rw [if_neg (by decide)]
  by_cases hz : cutN A A.length = 0
  ·rw [if_pos hz] at p1 p4 ⊢
   exact ⟨v6, p1, p2, p3, p4, p5⟩
  ·rw [if_neg hz] at p1 p4 ⊢
   exact ⟨v6, p1.trans hs, p2, p3, p4, p5⟩
 ·rw [ho] at SM
  by_cases hn : A.length = n
  ·have CT := hide (finish (unhide H5))
   have SM2 := hide ((unhide SM).trans (by rw [if_pos rfl, if_pos hn]))
   clear SM
   have SM := SM2
   subst hn
   clear H5 ho SM2
   go_wp2_with fail
   refine (unhide CT).mono ?_
   rintro e w6 ⟨rfl, v6, p1, p2, p3, p4, p5⟩
   have F := hide (And.intro p1 (And.intro p2 (And.intro p3 (And.intro p4 (bel_trans (unhide B5) p5)))))
   clear p1 p2 p3 p4 p5 CT B5
   go_wp2_with fail
   (try simp only [Exit.inBlock, Exit.then])
   obtain ⟨p1, p2, p3, p4, p5⟩ := unhide F
   refine end0 rfl rfl ⟨rfl, ?_⟩
   rw [unhide SM]
   exact ⟨v6, p1, p2, p3, p4, p5⟩
  ·have CT := hide (deepen (unhide H5) (by omega))
   have SM2 := hide ((unhide SM).trans (by rw [if_pos rfl, if_neg hn]))
   clear SM
   have SM := SM2
   clear H5 ho SM2
   go_wp2_with fail
   refine (unhide CT).mono ?_
   rintro e w6 ⟨rfl, v6, p1, p2, p3, p4, p5⟩
   have F := hide (And.intro p1 (And.intro p2 (And.intro p3 (And.intro p4 (bel_trans (unhide B5) p5)))))
   clear p1 p2 p3 p4 p5 CT B5
   go_wp2_with fail
   (try simp only [Exit.inBlock, Exit.then])
   obtain ⟨p1, p2, p3, p4, p5⟩ := unhide F
   refine end0 rfl rfl ⟨rfl, ?_⟩
   rw [unhide SM]
   exact ⟨v6, p1.trans hs, p2, p3, p4, p5⟩
end Go.Proofs.YtnlllcgcaddhmaaGreatDoor.qw
namespace Go.Proofs.YtnlllcgcaddhmaaGreatDoor.qw
open Go.ChangeShapes Go.WideShapes Go.ChangeAt Go.RowKit
open kd (SV Slv)
open kc (cset lo hi)
open ks (Right Closed Sof)
open cf (Box)
open qa (Box5)
open srt (Tab)
open as_ (litAt tl tl_snoc tl_len)
open css (Sls OwnS tot)
open sl (Sl Own ints hide unhide ret_bool ret_int grown_refl grown_trans)
set_option linter.unusedVariables false
def zeroWV (n : Nat) (f p : Value) (st k : Int) (sp : Nat) : WV := ⟨n, f, p, st, k, sp, fun _ => 0, fun _ => 0⟩
set_option maxRecDepth 100000 in
theorem zero_cells (n : Nat) (f p : Value) (st k : Int) (sp : Nat) : (((((Tryz.zeroCells168.setIfInBounds 0 (.int .i64 (n : Int))).setIfInBounds 1 f).setIfInBounds 2 p).setIfInBounds 3 (.int .i64 st)).setIfInBounds 4 (.int .i64 k)).setIfInBounds 5 (.pointer (some ⟨sp, 0, none⟩)) = (zeroWV n f p st k sp).cells.toArray := by kernel_rfl
theorem infoCS : (Tryz.prog.info? 165).map (·.size) = some 2 := by kernel_rfl
theorem index84 (C : Array Value) (k : Nat) (x y : Value) (w : World) (h : k < 25) (hc0 : C[k * 2]? = some x) (hc1 : C[k * 2 + 1]? = some y) : (Instr.index 166 (.agg C) (.int .i64 (k : Int))).run Tryz.prog w = .ok (.agg #[x, y]) w := by
 obtain ⟨i, hi, hs⟩ := Option.map_eq_some_iff.1 infoCS
 obtain ⟨l0, e0⟩ := Array.getElem?_eq_some_iff.1 hc0
 obtain ⟨l1, e1⟩ := Array.getElem?_eq_some_iff.1 hc1
 have he : C.extract (k * 2) (k * 2 + 2) = #[x, y] := by
  apply Array.ext
  ·simp; omega
  ·intro j h1 h2
   rw [Array.getElem_extract]
   have h2' : j < 2 := by simpa using h2
   have : j = 0 ∨ j = 1 := by omega
   rcases this with rfl | rfl
   ·exact e0
   ·exact e1
 simp [Instr.index, run_underlying Tryz.underlying166, run_underlying Tryz.underlying165, asIntOf, sizeOf, typeInfo, hi, hs, part, isAgg, go_sem]
 rw [if_pos h, he]
def un (E : Nat → Nat) : Nat → Nat
 | 0 => 0
 | i + 1 => un E i ||| E i
theorem un_bit (E : Nat → Nat) (j : Nat) : ∀ i, (un E i).testBit j = true ↔ ∃ u, u < i ∧ (E u).testBit j = true := by
 intro i
 induction i with
 | zero =>
  constructor
  ·intro h; simp [un] at h
  ·rintro ⟨u, hu, _⟩; exact absurd hu (Nat.not_lt_zero _)
 | succ i ih =>
  rw [un, Nat.testBit_or, Bool.or_eq_true, ih]
  constructor
  ·rintro (⟨u, h1, h2⟩ | h)
   ·exact ⟨u, by omega, h2⟩
   ·exact ⟨i, Nat.lt_succ_self _, h⟩
  ·rintro ⟨u, h1, h2⟩
   by_cases e : u = i
   ·exact .inr (by rw [← e]; exact h2)
   ·exact .inl ⟨u, by omega, h2⟩
theorem un_lt {E : Nat → Nat} {m : Nat} (h : ∀ u, E u < 2 ^ m) : ∀ i, un E i < 2 ^ m := by
 intro i
 induction i with
 | zero => exact Nat.two_pow_pos _
 | succ i ih => exact Nat.or_lt_two_pow ih (h i)
def ends (s : SV) : List Value := (List.range 50).map fun i => s.at (98 + i)
theorem ends_len (s : SV) : (ends s).length = 50 := by simp [ends]
theorem ends_at (s : SV) {i : Nat} (h : i < 50) : (ends s)[i]? = some (s.at (98 + i)) := by simp [ends, h]
theorem ends_range {w : World} {c : Nat} {s : SV} (h : Slv w c s) : w.rangeAt c 98 (ends s) := by
 intro j v hv
 by_cases hj : j < 50
 ·rw [ends_at s hj] at hv
  rw [h.cell (by omega)]
  exact hv
 ·rw [List.getElem?_eq_none (by rw [ends_len]; omega)] at hv
  cases hv
theorem infoE : (Tryz.prog.info? 166).map (·.size) = some 50 := by kernel_rfl
structure Lay (w : World) (M : World → Prop) (wr : World) (c eb sp : Nat) (s : SV) (v0 v : WV) (i : Nat) : Prop where
 blk : Blk wr c v
 sl : Slv wr sp s
 bx : Box 165 wr eb (.int .u64 (lo (un s.E i) : Int)) (.int .u64 (hi (un s.E i) : Int))
 m5 : M wr
 eq : v = { v0 with D := v.D }
 ds : ∀ j, j < i → v.D j = un s.E (j + 1)
 db : ∀ j, v.D j < 2 ^ 128
 g : w.grownBy wr none
 hc : w.heap.size < c
 he : w.heap.size < eb
 ne : c ≠ eb
theorem un128 {w : World} {sp : Nat} {s : SV} (h : Slv w sp s) (i : Nat) : un s.E i < 2 ^ 128 := kd.lt128 (un_lt h.e i) h.m
theorem Lay.next {w : World} {M : World → Prop} {wr wu : World} {c eb sp : Nat} {s : SV} {v0 v : WV} {i : Nat} (h : Lay w M wr c eb sp s v0 v i) (hi25 : i < 25) (g : wr.grownBy wu none) (hM : ∀ w1 w2 : World, M w1 → ∀ b, w.heap.size < b → w1.grownBy w2 (some b) → M w2) (hM0 : ∀ w1 w2 : World, M w1 → w1.grownBy w2 none → M w2) :
  Lay w M ((((wu.setCell ⟨eb, 0, none⟩ (.int .u64 (lo (un s.E (i + 1)) : Int))).setCell ⟨eb, 1, none⟩ (.int .u64 (hi (un s.E (i + 1)) : Int))).drew.setCell ⟨c, 6 + i * 2, none⟩ (.int .u64 (lo (un s.E (i + 1)) : Int))).setCell ⟨c, 6 + i * 2 + 1, none⟩ (.int .u64 (hi (un s.E (i + 1)) : Int))) c eb sp s v0 (setD v i (un s.E (i + 1))) (i + 1) := by
 rw [Nat.mul_comm]
 have g1 : wu.grownBy ((wu.setCell ⟨eb, 0, none⟩ (.int .u64 (lo (un s.E (i + 1)) : Int))).setCell ⟨eb, 1, none⟩ (.int .u64 (hi (un s.E (i + 1)) : Int))) (some eb) := ks.grown_set2 wu eb 0 _ _
 have bu := h.bx.kept g
 have b1 := (bu.set0 (.int .u64 (lo (un s.E (i + 1)) : Int))).set1 (.int .u64 (hi (un s.E (i + 1)) : Int))
 have ku : ∀ b, some eb = some b → ∃ cs t fz, wu.heap[b]? = some (.cells cs t fz) ∧ (t : Nat) ≠ 191 ∧ (t : Nat) ≠ 153 := fun b e => by cases e; exact ⟨_, _, _, bu, by decide, by decide⟩
 have c1 := (h.blk.kept g).by g1 (fun e => h.ne (by cases e; rfl))
 generalize (wu.setCell ⟨eb, 0, none⟩ (.int .u64 (lo (un s.E (i + 1)) : Int))).setCell ⟨eb, 1, none⟩ (.int .u64 (hi (un s.E (i + 1)) : Int)) = w1 at *
 have gd := cf.grown_drew w1 none
 have c2 := c1.kept gd
 have s2 := (Slv.by (h.sl.kept g) g1 ku).kept gd
 have m2 := hM0 _ _ (hM _ _ (hM0 _ _ h.m5 g) eb h.he g1) gd
 have b2 := b1.kept gd
 have gg : w.grownBy w1.drew none := grown_trans (ks.grow1 (grown_trans h.g g) g1 (Nat.le_of_lt h.he)) gd
 generalize w1.drew = w2 at *
 have g2 := ks.grown_set2 w2 c (6 + 2 * i) (.int .u64 (lo (un s.E (i + 1)) : Int)) (.int .u64 (hi (un s.E (i + 1)) : Int))
 refine ⟨c2.set2 (by omega) (cellsD v hi25), Slv.by s2 g2 (fun b e => by cases e; exact ⟨_, _, _, c2, by decide, by decide⟩), b2.by g2 (fun e => h.ne (by cases e; rfl)), hM _ _ m2 c h.hc g2, ?_, ?_, ?_, ks.grow1 gg g2 (Nat.le_of_lt h.hc), h.hc, h.he, h.ne⟩
 ·rw [h.eq]
  rfl
 ·intro j hj
  show (if j = i then _ else v.D j) = _
  by_cases e : j = i
  ·rw [if_pos e, e]
  ·rw [if_neg e]
   exact h.ds j (by omega)
 ·intro j
  show (if j = i then _ else v.D j) < _
  split
  ·exact un128 h.sl _
  ·exact h.db j
theorem closed_nil (Ss : List Nat) : Closed Ss [] 0 := ⟨Nat.two_pow_pos _, fun i => by
 constructor
 ·intro h; simp at h
 ·rintro ⟨_, b, _, h⟩
  simp [km.wdB] at h⟩
theorem Lay.done {w : World} {M : World → Prop} {wr w2 : World} {c eb sp : Nat} {s : SV} {f q : Value} {st k : Int} {n : Nat} {v : WV} {LL : List (List Int)} {a mid : Nat} (h : Lay w M wr c eb sp s (zeroWV n f q st k sp) v 25) (hR : Right n LL s) (hf : OwnS a mid w f LL) (ham : a ≤ mid) (hmid : mid ≤ w.heap.size) (g : wr.grownBy w2 none)
  (ho : w2.ownsRow wr.heap.size 3 1 (.slice (some ⟨wr.heap.size, 0, none⟩) 0 n) 0 []) :
  ∃ v', v'.st = st ∧ v'.k = k ∧ v'.f = f ∧ Wlk n LL a w.heap.size (w2.setCell ⟨c, 2, none⟩ (.slice (some ⟨wr.heap.size, 0, none⟩) 0 n)) c v' s [] := by
 have b2 := h.blk.kept g
 have gs := sl.grown_setCell w2 c 2 (.slice (some ⟨wr.heap.size, 0, none⟩) 0 n)
 have hsz := h.g.size
 have hcl := h.blk.lt
 have en : v.n = n := by rw [h.eq]; rfl
 have ef : v.f = f := by rw [h.eq]; rfl
 have es : v.st = st := by rw [h.eq]; rfl
 have ek : v.k = k := by rw [h.eq]; rfl
 have ep : v.sp = sp := by rw [h.eq]; rfl
 have ex : v.X = fun _ => 0 := by rw [h.eq]; rfl
 refine ⟨{ v with p := .slice (some ⟨wr.heap.size, 0, none⟩) 0 n }, es, ek, ef, b2.set (cellsP v _), en, ?_, hR, ?_, ?_, Nat.zero_le _, (fun x hx => by cases hx), ?_, ?_, ?_, h.db, Nat.le_of_lt h.hc, by omega, ⟨_, _, rfl⟩⟩
 ·show Slv _ v.sp s
  rw [ep]
  exact Slv.by (h.sl.kept g) gs (fun b e => by cases e; exact ⟨_, _, _, b2, by decide, by decide⟩)
 ·refine (css.own_mono ho hsz).kept gs (.inr fun e => ?_)
  injection e with e
  dsimp only at e
  omega
 ·show OwnS a w.heap.size _ v.f LL
  rw [ef]
  exact ((((hf.sub (Nat.le_refl _) hmid).kept h.g).kept g).outs (css.outs_by (lo := c) (hi := c + 1) gs (fun k e => by cases e; omega)) (by have := h.hc; omega))
 ·intro i hi
  show Closed s.Ss ([].take i) (v.X i)
  rw [ex, List.take_nil]
  exact closed_nil _
 ·intro i
  show v.X i < _
  rw [ex]
  exact Nat.two_pow_pos _
 ·intro i hi j
  show (v.D i).testBit j = true ↔ _
  rw [h.ds i (by omega), un_bit]
  constructor
  ·rintro ⟨u, h1, h2⟩; exact ⟨u, by omega, h2⟩
  ·rintro ⟨u, h1, h2⟩; exact ⟨u, by omega, h2⟩
def WofE (w : World) (n : Nat) (LL : List (List Int)) (a : Nat) (st k : Int) (f : Value) (A : List Int) (e : Ending) (w' : World) : Prop := ∃ (c : Nat) (s : SV) (v : WV), e = .returned (.pointer (some ⟨c, 0, none⟩)) ∧ v.st = st ∧ v.k = k ∧ v.f = f ∧ Wlk n LL a w.heap.size w' c v s A ∧ w.grownBy w' none
set_option maxRecDepth 100000 in
set_option maxHeartbeats 8000000 in
theorem walkerOf (f q : Value) (n : Nat) (st k : Int) (LL : List (List Int)) (A : List Int) (a mid : Nat) (w : World) (hT : Tab w) (h24 : n ≤ 24) (hm : LL.length ≤ 120) (ht : tot LL ≤ 1048576) (hl : ∀ c ∈ LL, ∀ x ∈ c, ok.litIn (n : Int) x = true)
  (hA : A.length ≤ n) (hb : ∀ x ∈ A, x = 0 ∨ x = 1) (hf : OwnS a mid w f LL) (ham : a ≤ mid) (hmid : mid ≤ w.heap.size) (hq : Sl w q (tl 0 A)) :
  Calls Tryz.prog 121 #[.agg #[.int .i64 (n : Int), f, q, .int .i64 st, .int .i64 k]] w fun e w' => WofE w n LL a st k f A e w' := by
 have gA := World.grownBy_alloc w (.cells #[.int .i64 (n : Int), f, q, .int .i64 st, .int .i64 k] 106) none
 have b0 := Box5.new 106 w (.int .i64 (n : Int)) f q (.int .i64 st) (.int .i64 k)
 have CS := hide (fun (w1 : World) (g : w.grownBy w1 none) => ks.solverOf f n LL w1 (hT.below (sl.below_of g)) h24 hm ht hl (hf.kept g).sls)
 obtain ⟨fa, fc, rfl⟩ := hf.len
 have HQ := hide (fun (w1 : World) (g : w.grownBy w1 none) => hq.kept g (.inl rfl))
 obtain ⟨qa, qc, hqe, _⟩ := hq
 rw [tl_len] at hqe
 subst hqe
 have B0 := hide b0
 have GA := hide gA
 have HF := hide hf
 have x0 := b0.c0
 have x1 := b0.c1
 have x2 := b0.c2
 have x3 := b0.c3
 have x4 := b0.c4
 clear hf hT b0 gA
 go_enter Tryz.func121, Tryz.ntmps121
 go_wp2_with fail
 generalize hW0 : w.alloc (.cells #[.int .i64 (n : Int), .slice fa LL.length fc, .slice qa A.length qc, .int .i64 st, .int .i64 k] 106) = W0 at *
 clear hW0
 have GX := hide (cf.grown_drew W0 none)
 go_region_held3 (fun w' => w'.cell? ⟨w.heap.size, 0, none⟩ = some (.int .i64 (n : Int)) ∧ w'.cell? ⟨w.heap.size, 1, none⟩ = some (.slice fa LL.length fc) ∧ w'.cell? ⟨w.heap.size, 2, none⟩ = some (.slice qa A.length qc) ∧ w'.cell? ⟨w.heap.size, 3, none⟩ = some (.int .i64 st) ∧ w'.cell? ⟨w.heap.size, 4, none⟩ = some (.int .i64 k)) (go_keep) (first
  | (go_at_call 125; refine (unhide CS _ (grown_trans (r := none) (unhide GA) (unhide GX))).mono ?_; rintro e w1 ⟨sp, s, rfl, m1⟩; have M1 := hide m1; replace GX := hide (grown_trans (r := none) (unhide GX) m1.2.2); have b1 := (unhide B0).kept (unhide GX); have k0 := b1.c0; have k1 := b1.c1; have k2 := b1.c2; have k3 := b1.c3; have k4 := b1.c4; have ne0 := World.new_ne w1 _ k0; clear m1 b1))
 have m1 := unhide M1
 have hbk : Blk (w1.alloc (.cells ((((((Tryz.zeroCells168.setIfInBounds 0 (.int .i64 (n : Int))).setIfInBounds 1 (.slice fa LL.length fc)).setIfInBounds 2 (.slice qa A.length qc)).setIfInBounds 3 (.int .i64 st)).setIfInBounds 4 (.int .i64 k)).setIfInBounds 5 (.pointer (some ⟨sp, 0, none⟩))) 168)) w1.heap.size (zeroWV n (.slice fa LL.length fc) (.slice qa A.length qc) st k sp) := by
  rw [zero_cells]
  show (w1.heap.push _)[w1.heap.size]? = _
  rw [Array.getElem?_push, if_pos rfl]
 have gw1 := grown_trans (r := none) (unhide GA) (unhide GX)
 have gW := World.grownBy_alloc w1 (.cells ((((((Tryz.zeroCells168.setIfInBounds 0 (.int .i64 (n : Int))).setIfInBounds 1 (.slice fa LL.length fc)).setIfInBounds 2 (.slice qa A.length qc)).setIfInBounds 3 (.int .i64 st)).setIfInBounds 4 (.int .i64 k)).setIfInBounds 5 (.pointer (some ⟨sp, 0, none⟩))) 168) none
 have hsz : (w1.alloc (.cells ((((((Tryz.zeroCells168.setIfInBounds 0 (.int .i64 (n : Int))).setIfInBounds 1 (.slice fa LL.length fc)).setIfInBounds 2 (.slice qa A.length qc)).setIfInBounds 3 (.int .i64 st)).setIfInBounds 4 (.int .i64 k)).setIfInBounds 5 (.pointer (some ⟨sp, 0, none⟩))) 168)).heap.size = w1.heap.size + 1 := World.size_alloc ..
 have hcl : w.heap.size < w1.heap.size := Nat.lt_of_lt_of_le (unhide B0).lt (unhide GX).size
 have slW := m1.1.kept gW
 have m5W := ((unhide B0).kept (unhide GX)).kept gW
 have gwW := grown_trans (r := none) gw1 gW
 have HR := hide m1.2.1
 generalize w1.alloc (.cells ((((((Tryz.zeroCells168.setIfInBounds 0 (.int .i64 (n : Int))).setIfInBounds 1 (.slice fa LL.length fc)).setIfInBounds 2 (.slice qa A.length qc)).setIfInBounds 3 (.int .i64 st)).setIfInBounds 4 (.int .i64 k)).setIfInBounds 5 (.pointer (some ⟨sp, 0, none⟩))) 168) = W1 at *
 generalize w1.heap.size = c at *
 have gB := World.grownBy_alloc W1 (.cells #[.int .u64 0, .int .u64 0] 165) none
 have bx := Box.new 165 W1 (.int .u64 0) (.int .u64 0)
 have lay : Lay w (fun wx => Box5 106 wx w.heap.size (.int .i64 (n : Int)) (.slice fa LL.length fc) (.slice qa A.length qc) (.int .i64 st) (.int .i64 k)) (W1.alloc (.cells #[.int .u64 0, .int .u64 0] 165)) c W1.heap.size sp s (zeroWV n (.slice fa LL.length fc) (.slice qa A.length qc) st k sp) (zeroWV n (.slice fa LL.length fc) (.slice qa A.length qc) st k sp) 0 :=
  ⟨hbk.kept gB, slW.kept gB, (by have e0 : lo (un s.E 0) = 0 := Nat.zero_mod _; have e1 : hi (un s.E 0) = 0 := Nat.zero_div _; rw [e0, e1]; exact bx), m5W.kept gB, rfl, fun j hj => absurd hj (Nat.not_lt_zero _), fun j => Nat.two_pow_pos 128, grown_trans gwW gB, hcl, by omega, by omega⟩
 have x5 : (W1.alloc (.cells #[.int .u64 0, .int .u64 0] 165)).cell? ⟨c, 5, none⟩ = some (.pointer (some ⟨sp, 0, none⟩)) := lay.blk.cell (k := 5) (by decide)
 have rg := ends_range lay.sl
 have ia : (Tryz.prog.info? 166).map (·.size) = some (ends s).length := by rw [ends_len]; exact infoE
 have hu := Tryz.underlying166
 have IX : Hid (∀ (i : Nat) (wz : World), i < 25 → (Instr.index 166 (.agg (ends s).toArray) (.int .i64 (i : Int))).run Tryz.prog wz = .ok (.agg #[.int .u64 (lo (s.E i) : Int), .int .u64 (hi (s.E i) : Int)]) wz) := by
  intro i wz hi25
  refine index84 _ i _ _ wz hi25 ?_ ?_
  ·rw [List.getElem?_toArray, ends_at s (by omega), Nat.mul_comm, kd.atE0 s hi25]
  ·rw [List.getElem?_toArray, ends_at s (by omega), Nat.mul_comm]
   have := kd.atE1 s hi25
   rw [show 98 + (2 * i + 1) = 98 + 2 * i + 1 by omega, this]
 have LY := hide lay
 clear lay bx gB gwW m5W slW hcl hsz gW gw1 hbk m1 k0 k1 k2 k3 k4 ne0 x0 x1 x2 x3 x4 M1 GX GA B0 CS
 generalize ends s = cs at *
 go_wp2_with (first | (refine wpList_load_mid rfl 166 _ rfl sp 98 rfl cs _ rg hu rfl ia ?_))
 clear rg ia hu x5
 generalize hWL : W1.alloc (.cells #[.int .u64 0, .int .u64 0] 165) = WL at *
 generalize W1.heap.size = eb at *
 clear hWL
 go_loopw [22] (fun iv wr => ∃ (i : Nat) (v : WV), i ≤ 25 ∧ iv = .int .i64 (i : Int) ∧ Hid (Lay w (fun wx => Box5 106 wx w.heap.size (.int .i64 (n : Int)) (.slice fa LL.length fc) (.slice qa A.length qc) (.int .i64 st) (.int .i64 k)) wr c eb sp s (zeroWV n (.slice fa LL.length fc) (.slice qa A.length qc) st k sp) v i)) (fun iv _ => 25 - (intOf iv).toNat)
 case atStart => exact ⟨0, _, Nat.zero_le _, rfl, LY⟩
 case round =>
  obtain ⟨i, v, hi25, rfl, hlay⟩ := hrel
  clear LY
  by_cases hlt : i < 25
  ·have hix := fun wz => unhide IX i wz hlt
   have hiI : (i : Int) < 25 := by omega
   have ly := unhide hlay
   have CU := hide (fun wz => kc.union (un s.E i) (s.E i) wz (un128 ly.sl i) (kd.lt128 (ly.sl.e i) ly.sl.m))
   have gS := World.grownBy_alloc wr (.cells #[.int .u64 (lo (s.E i) : Int), .int .u64 (hi (s.E i) : Int)] 165) none
   have e0 := (ly.bx.kept gS).c0
   have e1 := (ly.bx.kept gS).c1
   have FE : Hid (∀ wu, (wr.alloc (.cells #[.int .u64 (lo (s.E i) : Int), .int .u64 (hi (s.E i) : Int)] 165)).grownBy wu none → Box 165 wu eb (.int .u64 (lo (un s.E i) : Int)) (.int .u64 (hi (un s.E i) : Int)) ∧ Blk wu c v ∧ eb ≠ c) := fun wu gu => ⟨(ly.bx.kept gS).kept gu, (ly.blk.kept gS).kept gu, fun e => ly.ne e.symm⟩
   have FN := hide (fun wu gu => ly.next (wu := wu) hlt (grown_trans (r := none) gS gu) (fun w1 w2 hm b hb g => Box5.by hm g (fun e => by cases e; omega)) (fun w1 w2 hm g => Box5.kept hm g))
   unfold kc.cset at CU
   clear ly IX gS
   go_wp2_with fail
   refine (unhide CU _).mono ?_
   rintro e wu ⟨rfl, gu⟩
   have fe := unhide FE wu gu
   have FNu := hide (unhide FN wu gu)
   have d0 := fe.1.c0
   have d1 := fe.1.c1
   have p0 := fe.1.f 0
   have p1 := fe.1.f 1
   clear e0 e1 gu CU FE FN
   go_wp2_with fail
   have b2 := (fe.1.set0 (.int .u64 (lo (un s.E i ||| s.E i) : Int))).set1 (.int .u64 (hi (un s.E i ||| s.E i) : Int))
   have c2 : Blk ((wu.setCell ⟨eb, 0, none⟩ (.int .u64 (lo (un s.E i ||| s.E i) : Int))).setCell ⟨eb, 1, none⟩ (.int .u64 (hi (un s.E i ||| s.E i) : Int))) c v := fe.2.1.by (ks.grown_set2 wu eb 0 _ _) (fun e => fe.2.2 (by cases e; rfl))
   have SK : Hid (∀ x y : Value, ((((wu.setCell ⟨eb, 0, none⟩ (.int .u64 (lo (un s.E i ||| s.E i) : Int))).setCell ⟨eb, 1, none⟩ (.int .u64 (hi (un s.E i ||| s.E i) : Int))).setCell ⟨c, 6 + i * 2, none⟩ x).setCell ⟨c, 6 + i * 2 + 1, none⟩ y).drew.cell? ⟨eb, 0, none⟩ = some (.int .u64 (lo (un s.E i ||| s.E i) : Int)) ∧ ((((wu.setCell ⟨eb, 0, none⟩ (.int .u64 (lo (un s.E i ||| s.E i) : Int))).setCell ⟨eb, 1, none⟩ (.int .u64 (hi (un s.E i ||| s.E i) : Int))).setCell ⟨c, 6 + i * 2, none⟩ x).setCell ⟨c, 6 + i * 2 + 1, none⟩ y).drew.cell? ⟨eb, 1, none⟩ = some (.int .u64 (hi (un s.E i ||| s.E i) : Int))) := fun x y => by
    have b3 := (b2.by (ks.grown_set2 _ c (6 + i * 2) x y) (fun e => fe.2.2 (by cases e; rfl))).kept (cf.grown_drew _ none)
    exact ⟨b3.c0, b3.c1⟩
   have q0 := b2.c0
   have q1 := b2.c1
   have z0 := c2.cell (k := 6 + i * 2) (by omega)
   have z1 := c2.cell (k := 6 + i * 2 + 1) (by omega)
   have y0 := c2.fz (6 + i * 2)
   have y1 := c2.fz (6 + i * 2 + 1)
   have FN2 : Hid (Lay w _ ((((wu.setCell ⟨eb, 0, none⟩ (.int .u64 (lo (un s.E i ||| s.E i) : Int))).setCell ⟨eb, 1, none⟩ (.int .u64 (hi (un s.E i ||| s.E i) : Int))).setCell ⟨c, 6 + i * 2, none⟩ (.int .u64 (lo (un s.E i ||| s.E i) : Int))).setCell ⟨c, 6 + i * 2 + 1, none⟩ (.int .u64 (hi (un s.E i ||| s.E i) : Int))).drew c eb sp s _ (setD v i (un s.E (i + 1))) (i + 1)) := unhide FNu
   clear fe b2 c2 d0 d1 p0 p1 hlt FNu
   generalize (wu.setCell ⟨eb, 0, none⟩ (.int .u64 (lo (un s.E i ||| s.E i) : Int))).setCell ⟨eb, 1, none⟩ (.int .u64 (hi (un s.E i ||| s.E i) : Int)) = W2 at *
   generalize v.at (6 + i * 2) = v6 at *
   generalize v.at (6 + i * 2 + 1) = v7 at *
   go_region_held3 (fun w' => w'.cell? ⟨eb, 0, none⟩ = some (.int .u64 (lo (un s.E i ||| s.E i) : Int)) ∧ w'.cell? ⟨eb, 1, none⟩ = some (.int .u64 (hi (un s.E i ||| s.E i) : Int))) (first | exact unhide SK _ _ | go_keep) (fail)
   go_wp2_with fail
   go_roundw
   case rel => exact ⟨i + 1, _, by omega, by go_num, FN2⟩
   case measure => simp [intOf]; omega
  ·have e25 : i = 25 := by omega
   subst e25
   have ly := unhide hlay
   obtain ⟨i0, hi, hz0, hz1, hz2⟩ := info_parts sl.info3
   have m0 := ly.m5.c0
   have nI : (0 : Int) ≤ (n : Int) := by omega
   clear IX hlt
   go_wp2_with (first | (at_make; refine wpList_make_own _ rfl _ _ 34 rfl wr.heap.size 3 i0 (.int .i64 0) 1 Tryz.underlying34 hi hz0 hz1 _ _ _ n rfl rfl (by rfl) ?b1 ?b2 ?b3 ?_))
   case b1 => rw [hz2]; omega
   case b2 => unfold maxLen; omega
   case b3 => exact Nat.le_refl _
   intro w2 hown hgrow
   have DN := hide (ly.done (unhide HR) (unhide HF) ham hmid hgrow hown)
   have b2 := ly.blk.kept hgrow
   have c2 := b2.cell (k := 2) (by decide)
   have f2 := b2.fz 2
   have m5 := ly.m5.kept hgrow
   have m2' := (Box5.by m5 (sl.grown_setCell w2 c 2 (.slice (some ⟨wr.heap.size, 0, none⟩) 0 n)) (fun e => by cases e; have := ly.hc; omega)).c2
   have GW : Hid (w.grownBy (w2.setCell ⟨c, 2, none⟩ (.slice (some ⟨wr.heap.size, 0, none⟩) 0 n)) none) := ks.grow1 (grown_trans ly.g hgrow) (sl.grown_setCell w2 c 2 _) (Nat.le_of_lt ly.hc)
   clear ly hown hgrow m5 b2 m0 hlay
   generalize v.at 2 = v2 at *
   go_wp2_with fail
   generalize w2.setCell ⟨c, 2, none⟩ (.slice (some ⟨wr.heap.size, 0, none⟩) 0 n) = W3 at *
   obtain ⟨v3, e1, e2, e3, WK⟩ := unhide DN
   have ST : Hid (v3.st = st ∧ v3.k = k ∧ v3.f = .slice fa LL.length fc ∧ Wlk n LL a w.heap.size W3 c v3 s (A.take 0) ∧ w.grownBy W3 none) := ⟨e1, e2, e3, WK, unhide GW⟩
   clear DN e1 e2 e3 WK GW c2 f2 m2'
   go_loopw [47] (fun iv wx => ∃ (j : Nat) (v4 : WV), j ≤ A.length ∧ iv = .int .i64 (j : Int) ∧ Hid (v4.st = st ∧ v4.k = k ∧ v4.f = .slice fa LL.length fc ∧ Wlk n LL a w.heap.size wx c v4 s (A.take j) ∧ w.grownBy wx none)) (fun iv _ => A.length - (intOf iv).toNat)
   case atStart => exact ⟨0, v3, Nat.zero_le _, rfl, ST⟩
   case round =>
    obtain ⟨j, v4, hj, rfl, hw4⟩ := hrel
    clear ST
    obtain ⟨h1, h2, h3, h4, h5⟩ := unhide hw4
    by_cases hlt : j < A.length
    ·obtain ⟨qa', qc', e', ha⟩ := unhide HQ _ h5
     rw [tl_len] at e'
     simp only [Value.slice.injEq] at e'
     obtain ⟨rfl, _, rfl⟩ := e'
     rcases ha with h | ⟨b, off, rfl, hbl, hcb⟩
     ·have : (tl 0 A).length = 0 := by rw [h]; rfl
      rw [tl_len] at this
      omega
     ·have c1 := hcb j (by rw [tl_len]; exact hlt)
      rw [qm.tl_getD A 0 j hlt, Nat.zero_add] at c1
      have hjI : (j : Int) < (A.length : Int) := by omega
      have hltk : (A.take j).length = j := by rw [List.length_take]; omega
      have hbit := hb _ (qm.getD_mem hlt)
      have CP := put h4 (x := A.getD j 0) (by rw [hltk]; omega) hbit
      rw [hltk] at CP
      have ets : A.take j ++ [A.getD j 0] = A.take (j + 1) := by
       rw [List.take_succ_eq_append_getElem hlt, show A.getD j 0 = A[j] by simp [hlt]]
      rw [ets] at CP
      have hbd : -24 ≤ litAt j (A.getD j 0) ∧ litAt j (A.getD j 0) ≤ 24 := by unfold as_.litAt; split <;> omega
      have hw8 := wrap8 hbd.1 hbd.2
      have HC := hide CP
      have H13 := hide (And.intro h1 (And.intro h2 (And.intro h3 h5)))
      have hb1 := hbd.1
      have hb2 := hbd.2
      clear CP hbd ets hltk hbit hcb h1 h2 h3 h4 h5 hw4 HQ
      generalize litAt j (A.getD j 0) = y at *
      go_wp2_with fail
      refine (unhide HC).mono ?_
      rintro e w7 ⟨rfl, v7, p1, p2, p3, p4, p5⟩
      have F := hide (show v7.st = st ∧ v7.k = k ∧ v7.f = .slice fa LL.length fc ∧ Wlk n LL a w.heap.size w7 c v7 s (A.take (j + 1)) ∧ w.grownBy w7 none from ⟨p1.trans (unhide H13).1, p2.trans (unhide H13).2.1, p3.trans (unhide H13).2.2.1, p4, sl.of_below (bel_trans (sl.below_of (unhide H13).2.2.2) p5)⟩)
      clear p1 p2 p3 p4 p5 HC H13
      go_wp2_with fail
      go_roundw
      case rel => exact ⟨j + 1, v7, by omega, by go_num, F⟩
      case measure => simp [intOf]; omega
    ·have ej : A.take j = A := List.take_of_length_le (by omega)
     rw [ej] at h4
     have F := hide (And.intro h1 (And.intro h2 (And.intro h3 (And.intro h4 h5))))
     have hjI : ¬ (j : Int) < (A.length : Int) := by omega
     clear h1 h2 h3 h4 h5 hw4 ej HQ
     go_wp2_with fail
     go_ret
     exact ⟨c, s, v4, rfl, unhide F⟩
end Go.Proofs.YtnlllcgcaddhmaaGreatDoor.qw
namespace Go.Proofs.YtnlllcgcaddhmaaGreatDoor.qg
open Go.ChangeShapes Go.WideShapes Go.ChangeAt Go.RowKit
open qa (Box5 OwnM)
open cf (Box)
open css (Sls OwnS tot)
open sl (Sl Own ints hide unhide ret_int ret_bool grown_refl grown_trans)
set_option linter.unusedVariables false
set_option maxRecDepth 100000 in
set_option maxHeartbeats 4000000 in
theorem copyMachine (v q : Value) (n st k : Int) (LL : List (List Int)) (P : List Int) (lo hi : Nat) (w : World) (hn : tot LL ≤ 1048576) (hP : P.length ≤ 1048576) (hv : OwnM lo hi w v q LL P) :
  Calls Tryz.prog 119 #[.agg #[.int .i64 n, v, q, .int .i64 st, .int .i64 k]] w fun e w' => ∃ u p, e = .returned (.agg #[.int .i64 n, u, p, .int .i64 st, .int .i64 k]) ∧ OwnM w.heap.size w'.heap.size w' u p LL P ∧ w.grownBy w' none := by
 obtain ⟨m, m1, m2, m3, m4⟩ := hv
 have g0 : w.grownBy ((w.alloc (.cells #[.int .i64 n, v, q, .int .i64 st, .int .i64 k] 106)).alloc (.cells #[.int .i64 0, .slice none 0 0, .slice none 0 0, .int .i64 0, .int .i64 0] 106)) none := grown_trans (World.grownBy_alloc _ _ _) (World.grownBy_alloc _ _ _)
 have b0 := (Box5.new 106 w (.int .i64 n) v q (.int .i64 st) (.int .i64 k)).kept (World.grownBy_alloc _ (.cells #[.int .i64 0, .slice none 0 0, .slice none 0 0, .int .i64 0, .int .i64 0] 106) none)
 have b1 := Box5.new 106 (w.alloc (.cells #[.int .i64 n, v, q, .int .i64 st, .int .i64 k] 106)) (.int .i64 0) (.slice none 0 0) (.slice none 0 0) (.int .i64 0) (.int .i64 0)
 rw [World.size_alloc] at b1
 have hsz : ((w.alloc (.cells #[.int .i64 n, v, q, .int .i64 st, .int .i64 k] 106)).alloc (.cells #[.int .i64 0, .slice none 0 0, .slice none 0 0, .int .i64 0, .int .i64 0] 106)).heap.size = w.heap.size + 2 := by simp only [World.size_alloc]
 have C := hide (fun w1 (g : w.grownBy w1 none) => qc.copyCnf v n LL lo m w1 hn (m3.kept g))
 have U := hide (fun w1 (g : w.grownBy w1 none) => m4.kept g)
 obtain ⟨qx, qy, eq, _⟩ := m4.sl
 subst eq
 have x0 := b0.c0
 have x1 := b0.c1
 have B0 := hide b0
 have B1 := hide b1
 have G0 := hide g0
 have HS := hide hsz
 clear g0 b0 b1 hsz m1 m2 m3 m4
 go_enter Tryz.func119, Tryz.ntmps119
 go_wp2_with fail
 generalize (w.alloc (.cells #[.int .i64 n, v, .slice qx P.length qy, .int .i64 st, .int .i64 k] 106)).alloc (.cells #[.int .i64 0, .slice none 0 0, .slice none 0 0, .int .i64 0, .int .i64 0] 106) = W0 at *
 refine (unhide C _ (unhide G0)).mono ?_; rintro e w1 ⟨u, rfl, o1, g1⟩
 obtain ⟨ua, uc, rfl⟩ := o1.len
 have c1 := (unhide B0).kept g1
 have y0 := c1.c0
 have y1 := c1.c1
 have y2 := c1.c2
 have f0 := c1.f 0
 have f1 := c1.f 1
 have hs0 := unhide HS
 have hs1 := g1.size
 have ST : Hid (Box5 106 ((w1.setCell ⟨w.heap.size, 0, none⟩ (.int .i64 n)).setCell ⟨w.heap.size, 1, none⟩ (.slice ua LL.length uc)) w.heap.size (.int .i64 n) (.slice ua LL.length uc) (.slice qx P.length qy) (.int .i64 st) (.int .i64 k) ∧ Box5 106 ((w1.setCell ⟨w.heap.size, 0, none⟩ (.int .i64 n)).setCell ⟨w.heap.size, 1, none⟩ (.slice ua LL.length uc)) (w.heap.size + 1) (.int .i64 0) (.slice none 0 0) (.slice none 0 0) (.int .i64 0) (.int .i64 0) ∧
   w.grownBy ((w1.setCell ⟨w.heap.size, 0, none⟩ (.int .i64 n)).setCell ⟨w.heap.size, 1, none⟩ (.slice ua LL.length uc)) none ∧ OwnS W0.heap.size w1.heap.size ((w1.setCell ⟨w.heap.size, 0, none⟩ (.int .i64 n)).setCell ⟨w.heap.size, 1, none⟩ (.slice ua LL.length uc)) (.slice ua LL.length uc) LL ∧ ((w1.setCell ⟨w.heap.size, 0, none⟩ (.int .i64 n)).setCell ⟨w.heap.size, 1, none⟩ (.slice ua LL.length uc)).heap.size = w1.heap.size) :=
  ⟨((c1.set0 _).set1 _), ((((unhide B1).kept g1).setO (by omega)).setO (by omega)), cf.grown_set (cf.grown_set (grown_trans (unhide G0) g1) (by omega)) (by omega), cf.ownS_set (cf.ownS_set o1 (by omega)) (by omega), by rw [cf.size_set, cf.size_set]⟩
 have Z2 : Hid (((w1.setCell ⟨w.heap.size, 0, none⟩ (.int .i64 n)).setCell ⟨w.heap.size, 1, none⟩ (.slice ua LL.length uc)).cell? ⟨w.heap.size, 2, none⟩ = some (.slice qx P.length qy)) := (unhide ST).1.c2
 have HS1 := hide (And.intro hs0 hs1)
 clear hs0 hs1 c1 o1 g1 C B0 B1 G0 x0 x1
 go_upto_region 2 with fail
 clear y0 y1 y2 f0 f1 Z2
 generalize (w1.setCell ⟨w.heap.size, 0, none⟩ (.int .i64 n)).setCell ⟨w.heap.size, 1, none⟩ (.slice ua LL.length uc) = w2 at *
 have MN := hide (app.made_nil w2)
 have z2 := (unhide ST).1.c2
 have ne2 := World.new_ne _ _ z2
 have z2' := ((unhide ST).1.kept (unhide MN).2).c2
 have U2 := hide (unhide U _ (grown_trans (r := none) (unhide ST).2.2.1 (unhide MN).2))
 clear U
 go_wp2_with (at_builtin; refine app.appendI (A := []) (unhide MN).2 (unhide MN).1 (unhide U2) (by show 0 + P.length ≤ 4194304; omega) rfl _ _ rfl rfl rfl ?_)
 intro p w3 m3 g3
 have m3' : wo.Made w2 w3 p P := m3
 obtain ⟨pa, pc, ep, _⟩ := Sl.of_own m3'.1
 subst ep
 obtain ⟨s1, s2, s3, s4, s5⟩ := unhide ST
 have d0 := s1.kept m3'.2
 have d1 := s2.kept m3'.2
 have F := hide (And.intro d0 (And.intro d1 (And.intro (grown_trans (r := none) s3 m3'.2) (And.intro (s4.kept m3'.2) (And.intro m3'.1 (And.intro s5 m3'.2.size))))))
 have r0 := d0.c0
 have r1 := d0.c1
 have r2 := d0.c2
 have r3 := d0.c3
 have r4 := d0.c4
 have k2 := d0.f 2
 have t0 := d1.c0
 have t1 := d1.c1
 have t2 := d1.c2
 have t3 := d1.c3
 have t4 := d1.c4
 have l0 := d1.f 0
 have l1 := d1.f 1
 have l2 := d1.f 2
 have l3 := d1.f 3
 have l4 := d1.f 4
 clear z2 z2' ne2 d0 d1 m3 m3' g3 s1 s2 s3 s4 s5 ST MN U2
 go_wp2_with fail
 (try simp only [Exit.inBlock, Exit.then])
 obtain ⟨d0, d1, s3, s4, o3, s5, s6⟩ := unhide F
 obtain ⟨h1, h2⟩ := unhide HS1
 refine bodyPost_ret (qa.ret_box5 rfl rfl ((((((d1.setO (d := w.heap.size) (i := 2) (by omega)).set0 _).set1 _).set2 _).set3 _).set4 _)) rfl ⟨_, _, rfl, ?_, ?_⟩
 ·simp only [cf.size_set]
  have own : ∀ {wx : World} {c i : Nat} {u : Value}, c < w.heap.size + 2 → OwnM (w.heap.size + 2) w3.heap.size wx (.slice ua LL.length uc) (.slice pa P.length pc) LL P → OwnM (w.heap.size + 2) w3.heap.size (wx.setCell ⟨c, i, none⟩ u) (.slice ua LL.length uc) (.slice pa P.length pc) LL P := fun {wx c i u} hc h =>
   h.outs (css.outs_by (lo := c) (hi := c + 1) (sl.grown_setCell wx c i u) (fun k e => by cases e; omega)) (by omega)
  have base : OwnM (w.heap.size + 2) w3.heap.size w3 (.slice ua LL.length uc) (.slice pa P.length pc) LL P := ⟨w1.heap.size, by omega, by omega, s4.sub (by omega) (Nat.le_refl _), by rw [s5] at o3; exact sl.Own.of o3⟩
  exact (own (by omega) (own (by omega) (own (by omega) (own (by omega) (own (by omega) (own (by omega) base)))))).sub (by omega) (Nat.le_refl _)
 ·exact cf.grown_set (cf.grown_set (cf.grown_set (cf.grown_set (cf.grown_set (cf.grown_set s3 (by omega)) (by omega)) (by omega)) (by omega)) (by omega)) (by omega)
end Go.Proofs.YtnlllcgcaddhmaaGreatDoor.qg
namespace Go.Proofs.YtnlllcgcaddhmaaGreatDoor.qh
open Go.ChangeShapes Go.WideShapes Go.ChangeAt Go.RowKit
open qa (Box5 OwnM)
open qm (machB vals MS stepM runM OkM run_stop)
open qw (WV Wlk Blk Now WofE bel_trans bel_by bel_set)
open kd (SV Slv)
open srt (Tab)
open as_ (tl tl_len)
open ok (cnfB)
open css (Sls OwnS tot)
open sl (Sl Own ints hide unhide ret_int ret_bool grown_refl grown_trans)
set_option linter.unusedVariables false
def res (n : Int) (LL : List (List Int)) (P : List Int) (st k cnt : Int) : List Int × Int × Int :=
 if machB n LL P st k && decide (0 ≤ cnt ∧ cnt ≤ 1000000) then (tl 0 (runM n.toNat LL cnt.toNat ⟨vals P, st, k⟩).A, (runM n.toNat LL cnt.toNat ⟨vals P, st, k⟩).st, (runM n.toNat LL cnt.toNat ⟨vals P, st, k⟩).k) else (P, st, k)
theorem res_no {n st k cnt : Int} {LL : List (List Int)} {P : List Int} (h : (machB n LL P st k && decide (0 ≤ cnt ∧ cnt ≤ 1000000)) = false) : res n LL P st k cnt = (P, st, k) := by unfold res; rw [h]; rfl
theorem res_yes {n st k cnt : Int} {LL : List (List Int)} {P : List Int} (h : (machB n LL P st k && decide (0 ≤ cnt ∧ cnt ≤ 1000000)) = true) : res n LL P st k cnt = (tl 0 (runM n.toNat LL cnt.toNat ⟨vals P, st, k⟩).A, (runM n.toNat LL cnt.toNat ⟨vals P, st, k⟩).st, (runM n.toNat LL cnt.toNat ⟨vals P, st, k⟩).k) := by unfold res; rw [h]; rfl
def RunE (w : World) (n : Int) (LL : List (List Int)) (r : List Int × Int × Int) (e : Ending) (w' : World) : Prop := ∃ u p, e = .returned (.agg #[.int .i64 n, u, p, .int .i64 r.2.1, .int .i64 r.2.2]) ∧ OwnM w.heap.size w'.heap.size w' u p LL r.1 ∧ w.grownBy w' none
theorem set5 {w wx : World} {c lo hi : Nat} {t : TypeId} {a0 b0 p0 x0 y0 a b p x y u q : Value} {LL : List (List Int)} {P : List Int} (hb : Box5 t wx c a0 b0 p0 x0 y0) (hg : w.grownBy wx none) (hc : w.heap.size ≤ c) (ho : OwnM lo hi wx u q LL P) (hlo : c < lo) :
  Box5 t (((((wx.setCell ⟨c, 0, none⟩ a).setCell ⟨c, 1, none⟩ b).setCell ⟨c, 2, none⟩ p).setCell ⟨c, 3, none⟩ x).setCell ⟨c, 4, none⟩ y) c a b p x y ∧ w.grownBy (((((wx.setCell ⟨c, 0, none⟩ a).setCell ⟨c, 1, none⟩ b).setCell ⟨c, 2, none⟩ p).setCell ⟨c, 3, none⟩ x).setCell ⟨c, 4, none⟩ y) none ∧
   OwnM lo hi (((((wx.setCell ⟨c, 0, none⟩ a).setCell ⟨c, 1, none⟩ b).setCell ⟨c, 2, none⟩ p).setCell ⟨c, 3, none⟩ x).setCell ⟨c, 4, none⟩ y) u q LL P ∧ (((((wx.setCell ⟨c, 0, none⟩ a).setCell ⟨c, 1, none⟩ b).setCell ⟨c, 2, none⟩ p).setCell ⟨c, 3, none⟩ x).setCell ⟨c, 4, none⟩ y).heap.size = wx.heap.size := by
 have own : ∀ {wx : World} {i : Nat} {z : Value}, OwnM lo hi wx u q LL P → OwnM lo hi (wx.setCell ⟨c, i, none⟩ z) u q LL P := fun {wx i z} h =>
  h.outs (css.outs_by (lo := c) (hi := c + 1) (sl.grown_setCell wx c i z) (fun k e => by cases e; omega)) (by omega)
 refine ⟨((((hb.set0 _).set1 _).set2 _).set3 _).set4 _, cf.grown_set (cf.grown_set (cf.grown_set (cf.grown_set (cf.grown_set hg hc) hc) hc) hc) hc, own (own (own (own (own ho)))), by simp only [cf.size_set]⟩
theorem set5o {w wx : World} {c d : Nat} {t : TypeId} {a0 b0 p0 x0 y0 a b p x y : Value} (hb : Box5 t wx d a0 b0 p0 x0 y0) (hc : c ≠ d) :
  Box5 t (((((wx.setCell ⟨c, 0, none⟩ a).setCell ⟨c, 1, none⟩ b).setCell ⟨c, 2, none⟩ p).setCell ⟨c, 3, none⟩ x).setCell ⟨c, 4, none⟩ y) d a0 b0 p0 x0 y0 := ((((hb.setO hc).setO hc).setO hc).setO hc).setO hc
theorem cnf_parts {n : Int} {LL : List (List Int)} (h : cnfB n LL = true) : LL.length ≤ 120 ∧ ∀ c ∈ LL, ∀ x ∈ c, ok.litIn n x = true := by
 unfold ok.cnfB at h
 simp only [Bool.and_eq_true, decide_eq_true_iff] at h
 refine ⟨h.1.2, fun c hc x hx => ?_⟩
 have := List.all_eq_true.1 h.2 c hc
 unfold ok.clB at this
 rw [Bool.and_eq_true, List.all_eq_true] at this
 exact this.1 x hx
structure Way (N : Nat) (LL : List (List Int)) (a mid c : Nat) (s : SV) (f : Value) (w4 wr : World) (fin : MS) (j : Nat) (v : WV) (m : MS) : Prop where
 run : runM N LL j m = fin
 ok : OkM N m
 st : v.st = m.st
 k : v.k = m.k
 f : v.f = f
 wk : Wlk N LL a mid wr c v s m.A
 bel : Below mid w4 wr
 jb : j ≤ 1000000
theorem Way.fin {w w4 wr : World} {N : Nat} {LL : List (List Int)} {a mid c : Nat} {s : SV} {f : Value} {m fin : MS} {v : WV} {j : Nat} {a0 b0 p0 x0 y0 : Value} (h : Way N LL a mid c s f w4 wr fin j v m) (hj : fin = m) (hb : Box5 106 w4 (w.heap.size + 1) a0 b0 p0 x0 y0) (hg : w.grownBy w4 none) (hwa : w.heap.size + 2 ≤ a) (hm : mid ≤ w4.heap.size) :
  Box5 106 (((((wr.setCell ⟨w.heap.size + 1, 0, none⟩ (.int .i64 (N : Int))).setCell ⟨w.heap.size + 1, 1, none⟩ v.f).setCell ⟨w.heap.size + 1, 2, none⟩ v.p).setCell ⟨w.heap.size + 1, 3, none⟩ (.int .i64 v.st)).setCell ⟨w.heap.size + 1, 4, none⟩ (.int .i64 v.k)) (w.heap.size + 1) (.int .i64 (N : Int)) v.f v.p (.int .i64 v.st) (.int .i64 v.k) ∧
   RunE w (N : Int) LL (tl 0 fin.A, fin.st, fin.k) (.returned (.agg #[.int .i64 (N : Int), v.f, v.p, .int .i64 v.st, .int .i64 v.k])) (((((wr.setCell ⟨w.heap.size + 1, 0, none⟩ (.int .i64 (N : Int))).setCell ⟨w.heap.size + 1, 1, none⟩ v.f).setCell ⟨w.heap.size + 1, 2, none⟩ v.p).setCell ⟨w.heap.size + 1, 3, none⟩ (.int .i64 v.st)).setCell ⟨w.heap.size + 1, 4, none⟩ (.int .i64 v.k)) ∧
   Box5 106 wr (w.heap.size + 1) a0 b0 p0 x0 y0 := by
 have ham := h.wk.am
 have hbr : Box5 106 wr (w.heap.size + 1) a0 b0 p0 x0 y0 := by
  unfold qa.Box5
  rw [h.bel.block _ (by omega)]
  exact hb
 have hgr : w.grownBy wr none := sl.of_below ⟨h.bel.os.trans hg.os, h.bel.tape.trans hg.tape, h.bel.output.trans hg.output, Nat.le_trans hg.size h.bel.size, fun k hk => (h.bel.block k (by omega)).trans (hg.block k hk (fun e => by cases e))⟩
 have how : OwnM a wr.heap.size wr v.f v.p LL (tl 0 m.A) := ⟨mid, ham, Nat.le_trans h.wk.hc (Nat.le_of_lt h.wk.blk.lt), h.wk.cl, sl.Own.of (by rw [tl_len]; exact h.wk.ow)⟩
 obtain ⟨q1, q2, q3, q4⟩ := set5 (a := .int .i64 (N : Int)) (b := v.f) (p := v.p) (x := .int .i64 v.st) (y := .int .i64 v.k) hbr hgr (by omega) how (by omega)
 refine ⟨q1, ?_, hbr⟩
 subst hj
 refine ⟨v.f, v.p, ?_, q3.sub (by omega) (by rw [q4]; exact Nat.le_refl _), q2⟩
 rw [h.st, h.k]
set_option maxRecDepth 100000 in
set_option maxHeartbeats 8000000 in
theorem implMachineRun (v q : Value) (n st k cnt : Int) (LL : List (List Int)) (P : List Int) (lo hi : Nat) (w : World) (hT : Tab w) (hn : tot LL ≤ 1048576) (hP : P.length ≤ 1048576) (hv : OwnM lo hi w v q LL P) :
  Calls Tryz.prog 74 #[.agg #[.int .i64 n, v, q, .int .i64 st, .int .i64 k], .int .i64 cnt] w fun e w' => RunE w n LL (res n LL P st k cnt) e w' := by
 have g0 : w.grownBy ((w.alloc (.cells #[.int .i64 n, v, q, .int .i64 st, .int .i64 k] 106)).alloc (.cells #[.int .i64 0, .slice none 0 0, .slice none 0 0, .int .i64 0, .int .i64 0] 106)) none := grown_trans (World.grownBy_alloc _ _ _) (World.grownBy_alloc _ _ _)
 have b0 := (Box5.new 106 w (.int .i64 n) v q (.int .i64 st) (.int .i64 k)).kept (World.grownBy_alloc _ (.cells #[.int .i64 0, .slice none 0 0, .slice none 0 0, .int .i64 0, .int .i64 0] 106) none)
 have b1 := Box5.new 106 (w.alloc (.cells #[.int .i64 n, v, q, .int .i64 st, .int .i64 k] 106)) (.int .i64 0) (.slice none 0 0) (.slice none 0 0) (.int .i64 0) (.int .i64 0)
 rw [World.size_alloc] at b1
 have hsz : ((w.alloc (.cells #[.int .i64 n, v, q, .int .i64 st, .int .i64 k] 106)).alloc (.cells #[.int .i64 0, .slice none 0 0, .slice none 0 0, .int .i64 0, .int .i64 0] 106)).heap.size = w.heap.size + 2 := by simp only [World.size_alloc]
 have C := hide (fun w1 (g : w.grownBy w1 none) => qg.copyMachine v q n st k LL P lo hi w1 hn hP (hv.kept g))
 have HT := hide (fun w1 (g : w.grownBy w1 none) => hT.below (sl.below_of g))
 have x0 := b0.c0
 have x1 := b0.c1
 have x2 := b0.c2
 have x3 := b0.c3
 have x4 := b0.c4
 have B0 := hide b0
 have B1 := hide b1
 have G0 := hide g0
 have HS := hide hsz
 clear g0 b0 b1 hsz hv hT
 go_enter Tryz.func74, Tryz.ntmps74
 go_wp2_with fail
 generalize (w.alloc (.cells #[.int .i64 n, v, q, .int .i64 st, .int .i64 k] 106)).alloc (.cells #[.int .i64 0, .slice none 0 0, .slice none 0 0, .int .i64 0, .int .i64 0] 106) = W0 at *
 refine (unhide C _ (unhide G0)).mono ?_; rintro e w1 ⟨u, p, rfl, o1, g1⟩
 obtain ⟨ua, uc, pa, pc, rfl, rfl⟩ := o1.len
 have hs0 := unhide HS
 have hs1 := g1.size
 have c0 := (unhide B0).kept g1
 have c1 := (unhide B1).kept g1
 have s5 := set5 (a := .int .i64 n) (b := .slice ua LL.length uc) (p := .slice pa P.length pc) (x := .int .i64 st) (y := .int .i64 k) c0 (grown_trans (unhide G0) g1) (Nat.le_refl _) o1 (by omega)
 have s6 := set5o (c := w.heap.size) (a := .int .i64 n) (b := .slice ua LL.length uc) (p := .slice pa P.length pc) (x := .int .i64 st) (y := .int .i64 k) (w := w) c1 (by omega)
 have ST := hide (And.intro s5 s6)
 have y0 := c0.c0
 have y1 := c0.c1
 have y2 := c0.c2
 have y3 := c0.c3
 have y4 := c0.c4
 have f0 := c0.f 0
 have f1 := c0.f 1
 have f2 := c0.f 2
 have f3 := c0.f 3
 have f4 := c0.f 4
 have HS1 := hide (And.intro hs0 hs1)
 clear s5 s6 c0 c1 hs0 hs1 o1 g1 C B0 B1 G0 x0 x1 x2 x3 x4
 go_upto_region 2 with fail
 clear y0 y1 y2 y3 y4 f0 f1 f2 f3 f4
 generalize ((((w1.setCell ⟨w.heap.size, 0, none⟩ (.int .i64 n)).setCell ⟨w.heap.size, 1, none⟩ (.slice ua LL.length uc)).setCell ⟨w.heap.size, 2, none⟩ (.slice pa P.length pc)).setCell ⟨w.heap.size, 3, none⟩ (.int .i64 st)).setCell ⟨w.heap.size, 4, none⟩ (.int .i64 k) = w2 at *
 obtain ⟨⟨t1, t2, t3, t4⟩, t5⟩ := unhide ST
 clear ST
 have CM := hide (qb.implMachineOk _ _ n st k LL P w2 hn hP t3.sls t3.sl)
 have FX : Hid (∀ w3 : World, w2.grownBy w3 none → Box5 106 w3 w.heap.size (.int .i64 n) (.slice ua LL.length uc) (.slice pa P.length pc) (.int .i64 st) (.int .i64 k) ∧ Box5 106 w3 (w.heap.size + 1) (.int .i64 0) (.slice none 0 0) (.slice none 0 0) (.int .i64 0) (.int .i64 0) ∧ OwnM W0.heap.size w1.heap.size w3 (.slice ua LL.length uc) (.slice pa P.length pc) LL P ∧ w.grownBy w3 none ∧ w1.heap.size ≤ w3.heap.size) := fun w3 g3 => ⟨t1.kept g3, t5.kept g3, t3.kept g3, grown_trans t2 g3, by have := g3.size; omega⟩
 -- where the copy is the answer
 have NO : Hid (∀ w3 : World, w2.grownBy w3 none → res n LL P st k cnt = (P, st, k) → Box5 106 (((((w3.setCell ⟨w.heap.size + 1, 0, none⟩ (.int .i64 n)).setCell ⟨w.heap.size + 1, 1, none⟩ (.slice ua LL.length uc)).setCell ⟨w.heap.size + 1, 2, none⟩ (.slice pa P.length pc)).setCell ⟨w.heap.size + 1, 3, none⟩ (.int .i64 st)).setCell ⟨w.heap.size + 1, 4, none⟩ (.int .i64 k)) (w.heap.size + 1) (.int .i64 n) (.slice ua LL.length uc) (.slice pa P.length pc) (.int .i64 st) (.int .i64 k) ∧
   RunE w n LL (res n LL P st k cnt) (.returned (.agg #[.int .i64 n, .slice ua LL.length uc, .slice pa P.length pc, .int .i64 st, .int .i64 k])) (((((w3.setCell ⟨w.heap.size + 1, 0, none⟩ (.int .i64 n)).setCell ⟨w.heap.size + 1, 1, none⟩ (.slice ua LL.length uc)).setCell ⟨w.heap.size + 1, 2, none⟩ (.slice pa P.length pc)).setCell ⟨w.heap.size + 1, 3, none⟩ (.int .i64 st)).setCell ⟨w.heap.size + 1, 4, none⟩ (.int .i64 k))) := by
  intro w3 g3 hr
  obtain ⟨h1, h2, h3, h4, h5⟩ := unhide FX w3 g3
  obtain ⟨z1, z2⟩ := unhide HS1
  obtain ⟨q1, q2, q3, q4⟩ := set5 (a := .int .i64 n) (b := .slice ua LL.length uc) (p := .slice pa P.length pc) (x := .int .i64 st) (y := .int .i64 k) h2 h4 (by omega) h3 (by omega)
  refine ⟨q1, ?_⟩
  rw [hr]
  exact ⟨_, _, rfl, q3.sub (by omega) (by omega), q2⟩
 have m0 := t1.c0
 have m1 := t1.c1
 have m2 := t1.c2
 have m3 := t1.c3
 have m4 := t1.c4
 have r0 := t5.c0
 have r1 := t5.c1
 have r2 := t5.c2
 have r3 := t5.c3
 have r4 := t5.c4
 have l0 := t5.f 0
 have l1 := t5.f 1
 have l2 := t5.f 2
 have l3 := t5.f 3
 have l4 := t5.f 4
 by_cases hc0 : cnt < 0
 ·have E := hide (unhide NO w2 (grown_refl _) (res_no (by rw [decide_eq_false (by omega), Bool.and_false])))
  clear NO FX CM t1 t2 t3 t4 t5 HT HS1
  go_wp2_with fail
  (try simp only [Exit.inBlock, Exit.then])
  exact bodyPost_ret (qa.ret_box5 rfl rfl (unhide E).1) rfl (unhide E).2
 ·by_cases hc1 : cnt > 1000000
  ·have E := hide (unhide NO w2 (grown_refl _) (res_no (by rw [decide_eq_false (by omega), Bool.and_false])))
   clear NO FX CM t1 t2 t3 t4 t5 HT HS1
   go_wp2_with fail
   (try simp only [Exit.inBlock, Exit.then])
   exact bodyPost_ret (qa.ret_box5 rfl rfl (unhide E).1) rfl (unhide E).2
  ·cases hm : machB n LL P st k
   ·rw [hm] at CM
    have EN := hide (res_no (cnt := cnt) (show (machB n LL P st k && decide (0 ≤ cnt ∧ cnt ≤ 1000000)) = false by rw [hm]; rfl))
    clear hm t1 t2 t3 t4 t5 HT HS1
    go_wp2_with fail
    refine (unhide CM).mono ?_; rintro e w3 ⟨rfl, g3⟩
    have E := hide (unhide NO w3 g3 (unhide EN))
    obtain ⟨t1, t5, _, _, _⟩ := unhide FX w3 g3
    clear m0 m1 m2 m3 m4 r0 r1 r2 r3 r4 l0 l1 l2 l3 l4
    have m0 := t1.c0
    have m1 := t1.c1
    have m2 := t1.c2
    have m3 := t1.c3
    have m4 := t1.c4
    have r0 := t5.c0
    have r1 := t5.c1
    have r2 := t5.c2
    have r3 := t5.c3
    have r4 := t5.c4
    have l0 := t5.f 0
    have l1 := t5.f 1
    have l2 := t5.f 2
    have l3 := t5.f 3
    have l4 := t5.f 4
    clear t1 t5 g3 NO FX CM EN
    go_wp2_with fail
    (try simp only [Exit.inBlock, Exit.then])
    exact bodyPost_ret (qa.ret_box5 rfl rfl (unhide E).1) rfl (unhide E).2
   ·rw [hm] at CM
    have EY := hide (res_yes (cnt := cnt) (show (machB n LL P st k && decide (0 ≤ cnt ∧ cnt ≤ 1000000)) = true by rw [hm, decide_eq_true (by omega)]; rfl))
    obtain ⟨N, rfl, h24, hcn, htl, hok⟩ := qm.mach_ok hm
    obtain ⟨j0, rfl⟩ := Int.eq_ofNat_of_zero_le (show 0 ≤ cnt by omega)
    clear hm NO t1 t2 t3 t4 t5
    go_wp2_with fail
    refine (unhide CM).mono ?_; rintro e w3 ⟨rfl, g3⟩
    obtain ⟨t1, t5, t3, t4, t6⟩ := unhide FX w3 g3
    obtain ⟨hm120, hlit⟩ := cnf_parts hcn
    obtain ⟨mid, q1, q2, q3, q4⟩ := t3
    have hmid : mid ≤ w3.heap.size := by omega
    have hql : Sl w3 (.slice pa P.length pc) (tl 0 (vals P)) := by rw [htl]; exact q4.sl
    have hvl := hok.len
    have CW := hide (qw.walkerOf (.slice ua LL.length uc) (.slice pa P.length pc) N st k LL (vals P) W0.heap.size mid w3 (unhide HT w3 t4) h24 hm120 hn hlit hok.len hok.bit q3 q1 hmid hql)
    clear m0 m1 m2 m3 m4 r0 r1 r2 r3 r4 l0 l1 l2 l3 l4
    have m0 := t1.c0
    have m1 := t1.c1
    have m2 := t1.c2
    have m3 := t1.c3
    have m4 := t1.c4
    have OK := hide hok
    have HTL := hide htl
    have X3 := hide (And.intro t5 (And.intro t4 (And.intro (And.intro (unhide HS1).1 (unhide HS1).2) t6)))
    clear t1 t5 t4 t6 hm120 hlit q1 q2 q3 q4 hmid hql hvl hok htl FX CM HT g3 hcn
    go_wp2_with fail
    refine (unhide CW).mono ?_; rintro e w4 ⟨c, s, v, rfl, v1, v2, v3, wk, g4⟩
    have WY : Hid (Way N LL W0.heap.size w3.heap.size c s (.slice ua LL.length uc) w4 w4 (runM N LL j0 ⟨vals P, st, k⟩) j0 v ⟨vals P, st, k⟩) := ⟨rfl, unhide OK, v1, v2, v3, wk, Below.refl _ _, by omega⟩
    have FN : Hid (∀ (wr : World) (j : Nat) (v' : WV) (m : MS), Way N LL W0.heap.size w3.heap.size c s (.slice ua LL.length uc) w4 wr (runM N LL j0 ⟨vals P, st, k⟩) j v' m → runM N LL j0 ⟨vals P, st, k⟩ = m →
      Box5 106 (((((wr.setCell ⟨w.heap.size + 1, 0, none⟩ (.int .i64 (N : Int))).setCell ⟨w.heap.size + 1, 1, none⟩ v'.f).setCell ⟨w.heap.size + 1, 2, none⟩ v'.p).setCell ⟨w.heap.size + 1, 3, none⟩ (.int .i64 v'.st)).setCell ⟨w.heap.size + 1, 4, none⟩ (.int .i64 v'.k)) (w.heap.size + 1) (.int .i64 (N : Int)) v'.f v'.p (.int .i64 v'.st) (.int .i64 v'.k) ∧
      RunE w (N : Int) LL (res (N : Int) LL P st k (j0 : Int)) (.returned (.agg #[.int .i64 (N : Int), v'.f, v'.p, .int .i64 v'.st, .int .i64 v'.k])) (((((wr.setCell ⟨w.heap.size + 1, 0, none⟩ (.int .i64 (N : Int))).setCell ⟨w.heap.size + 1, 1, none⟩ v'.f).setCell ⟨w.heap.size + 1, 2, none⟩ v'.p).setCell ⟨w.heap.size + 1, 3, none⟩ (.int .i64 v'.st)).setCell ⟨w.heap.size + 1, 4, none⟩ (.int .i64 v'.k)) ∧
      Box5 106 wr (w.heap.size + 1) (.int .i64 0) (.slice none 0 0) (.slice none 0 0) (.int .i64 0) (.int .i64 0)) := by
     intro wr j v' m hw hm
     obtain ⟨z1, z2, ⟨z3, z4⟩, z5⟩ := unhide X3
     have := hw.fin (w := w) hm (z1.kept g4) (grown_trans z2 g4) (by omega) g4.size
     rw [unhide EY]
     simp only [Int.toNat_natCast]
     exact this
    clear v1 v2 v3 wk g4 CW m0 m1 m2 m3 m4 EY X3 OK HTL HS1
    go_wp2_with fail
    go_loopw [1] (fun iv wr => ∃ (j : Nat) (v' : WV) (m : MS), iv = .int .i64 (j : Int) ∧ Hid (Way N LL W0.heap.size w3.heap.size c s (.slice ua LL.length uc) w4 wr (runM N LL j0 ⟨vals P, st, k⟩) j v' m)) (fun iv _ => (intOf iv).toNat)
    case atStart => exact ⟨j0, v, _, rfl, WY⟩
    case round =>
     obtain ⟨j, v', m, rfl, hway⟩ := hrel
     clear WY
     have EX : Hid (runM N LL j0 ⟨vals P, st, k⟩ = m → Box5 106 (((((wr.setCell ⟨w.heap.size + 1, 0, none⟩ (.int .i64 (N : Int))).setCell ⟨w.heap.size + 1, 1, none⟩ v'.f).setCell ⟨w.heap.size + 1, 2, none⟩ v'.p).setCell ⟨w.heap.size + 1, 3, none⟩ (.int .i64 v'.st)).setCell ⟨w.heap.size + 1, 4, none⟩ (.int .i64 v'.k)) (w.heap.size + 1) (.int .i64 (N : Int)) v'.f v'.p (.int .i64 v'.st) (.int .i64 v'.k) ∧ _) := fun hm => unhide FN wr j v' m (unhide hway) hm
     have wk := (unhide hway).wk
     have a0 : wr.cell? ⟨c, 0, none⟩ = some (.int .i64 (N : Int)) := by
      have := wk.blk.cell (k := 0) (by decide)
      rw [show v'.at 0 = .int .i64 (v'.n : Int) from rfl, wk.vn] at this
      exact this
     have a1 : wr.cell? ⟨c, 1, none⟩ = some v'.f := wk.blk.cell (k := 1) (by decide)
     have a2 : wr.cell? ⟨c, 2, none⟩ = some v'.p := wk.blk.cell (k := 2) (by decide)
     have a3 : wr.cell? ⟨c, 3, none⟩ = some (.int .i64 v'.st) := wk.blk.cell (k := 3) (by decide)
     have a4 : wr.cell? ⟨c, 4, none⟩ = some (.int .i64 v'.k) := wk.blk.cell (k := 4) (by decide)
     have CMv := hide (qw.moves wk.blk)
     obtain ⟨pg, pcap, hps⟩ := wk.ps
     have hvf := (unhide hway).f
     rw [hvf] at a1
     rw [hps] at a2
     have HPS := hide (And.intro hvf hps)
     clear FN hvf hps
     by_cases hj : j = 0
     ·subst hj
      obtain ⟨e1, e2, e3⟩ := unhide EX (unhide hway).run.symm
      rw [(unhide HPS).1, (unhide HPS).2] at e1 e2
      have E := hide (And.intro e1 e2)
      have r0 := e3.c0
      have r1 := e3.c1
      have r2 := e3.c2
      have r3 := e3.c3
      have r4 := e3.c4
      have l0 := e3.f 0
      have l1 := e3.f 1
      have l2 := e3.f 2
      have l3 := e3.f 3
      have l4 := e3.f 4
      clear e1 e2 e3 EX CMv wk hway HPS
      go_wp2_with fail
      (try simp only [Exit.inBlock, Exit.then])
      exact bodyPost_ret (qa.ret_box5 rfl rfl (unhide E).1) rfl (unhide E).2
     ·have hjI : (0 : Int) < (j : Int) := by omega
      have hj1 : IntKind.i64.wrap ((j : Int) - 1) = ((j - 1 : Nat) : Int) := by rw [IntKind.wrap_i64]; have := (unhide hway).jb; omega
      have est := (unhide hway).st
      have ek := (unhide hway).k
      by_cases hmv : m.st = 0 ∧ m.k < 1000000000
      ·rw [est, ek, decide_eq_true hmv] at CMv
       have CT := hide (qw.step wk (by rw [est]; exact hmv.1) (by rw [ek]; exact (unhide hway).ok.k0) (by rw [ek]; exact hmv.2))
       have NX : Hid (∀ wz : World, Now N LL W0.heap.size w3.heap.size c s v'.f wr wz (stepM N LL ⟨m.A, v'.st, v'.k⟩) → ∃ v2, Way N LL W0.heap.size w3.heap.size c s (.slice ua LL.length uc) w4 wz (runM N LL j0 ⟨vals P, st, k⟩) (j - 1) v2 (stepM N LL m)) := by
        rintro wz ⟨v2, p1, p2, p3, p4, p5⟩
        rw [est, ek] at p1 p2 p4
        refine ⟨v2, ?_, (unhide hway).ok.step, p1, p2, p3.trans (unhide HPS).1, p4, bel_trans (unhide hway).bel p5, by have := (unhide hway).jb; omega⟩
        rw [← (unhide hway).run]
        obtain ⟨i, rfl⟩ : ∃ i, j = i + 1 := ⟨j - 1, by omega⟩
        rfl
       clear EX HPS hmv est ek wk hway a0 a1 a2
       go_wp2_with fail
       refine (unhide CMv).mono ?_; rintro e w' ⟨rfl, hw⟩; have hw' := hw.symm; clear hw; subst hw'
       go_wp2_with fail
       refine (unhide CT).mono ?_; rintro e w6 ⟨rfl, nw⟩
       obtain ⟨v2, hw2⟩ := unhide NX w6 nw
       have W2 := hide hw2
       clear nw hw2 NX CT CMv
       go_wp2_with fail
       go_roundw
       case rel => exact ⟨j - 1, v2, _, by go_num, W2⟩
       case measure => simp [intOf]; omega
      ·rw [est, ek, decide_eq_false hmv] at CMv
       clear est ek
       obtain ⟨e1, e2, e3⟩ := unhide EX (by rw [← (unhide hway).run]; exact run_stop hmv _)
       rw [(unhide HPS).1, (unhide HPS).2] at e1 e2
       have E := hide (And.intro e1 e2)
       have r0 := e3.c0
       have r1 := e3.c1
       have r2 := e3.c2
       have r3 := e3.c3
       have r4 := e3.c4
       have l0 := e3.f 0
       have l1 := e3.f 1
       have l2 := e3.f 2
       have l3 := e3.f 3
       have l4 := e3.f 4
       clear e1 e2 e3 EX wk hway HPS hmv
       go_wp2_with fail
       refine (unhide CMv).mono ?_; rintro e w' ⟨rfl, hw⟩; have hw' := hw.symm; clear hw; subst hw'
       go_wp2_with fail
       (try simp only [Exit.inBlock, Exit.then])
       exact bodyPost_ret (qa.ret_box5 rfl rfl (unhide E).1) rfl (unhide E).2
end Go.Proofs.YtnlllcgcaddhmaaGreatDoor.qh
namespace Go.Proofs.YtnlllcgcaddhmaaGreatDoor.qi
open Go.ChangeShapes Go.WideShapes Go.ChangeAt Go.RowKit
open qa (Box5 OwnM)
open qm (machB vals MS stepM runM OkM run_stop cutN back)
open qw (bel_by bel_trans bel_set own_take)
open wm0 (listB)
open as_ (litAt tl tl_len tl_snoc)
open ok (cnfB)
open css (Sls OwnS tot)
open sl (Sl Own ints hide unhide ret_int ret_bool grown_refl grown_trans)
set_option linter.unusedVariables false
theorem fr_none {w w' : World} {r : Option Nat} (g : w.grownBy w' none) : w.grownBy w' r := ⟨g.os, g.tape, g.output, g.size, fun k hk _ => g.block k hk (fun e => by cases e)⟩
theorem fr_then {w w1 w2 : World} {r : Option Nat} (h : w.grownBy w1 r) (g : w1.grownBy w2 none) : w.grownBy w2 r := sl.grown_trans' h (fr_none g)
theorem fr_set {w w1 : World} {r : Option Nat} {c i : Nat} {u : Value} (h : w.grownBy w1 r) (hc : w.heap.size ≤ c) : w.grownBy (w1.setCell ⟨c, i, none⟩ u) r :=
 ⟨h.os, h.tape, h.output, by rw [cf.size_set]; exact h.size, fun k hk hr => (Below.heap_setCell _ _ _ _ (by show k ≠ c; omega)).trans (h.block k hk hr)⟩
theorem fr_own {w w1 : World} {c i : Nat} {u : Value} (h : w.grownBy w1 (some c)) : w.grownBy (w1.setCell ⟨c, i, none⟩ u) (some c) := sl.grown_trans' h (sl.grown_setCell w1 c i u)
def Lies (w : World) (p0 p : Value) : Prop := p.ownBlock = p0.ownBlock ∨ ∀ b, p.ownBlock = some b → w.heap.size ≤ b
def StpE (w : World) (N : Nat) (f : Value) (LL : List (List Int)) (a mid : Nat) (p0 : Value) (m : MS) (e : Ending) (w' : World) : Prop := ∃ p, e = .returned (.agg #[.int .i64 (N : Int), f, p, .int .i64 m.st, .int .i64 m.k]) ∧ w'.ownsRow mid 3 1 p m.A.length (ints (tl 0 m.A)) ∧ OwnS a mid w' f LL ∧ w.grownBy w' p0.ownBlock ∧ Lies w p0 p
theorem row_set {w : World} {b : Nat} {p u : Value} {A : List Int} {c i : Nat} {t : TypeId} {cs : Array Value} {fz : Nat × Nat} (h : w.ownsRow b 3 1 p A.length (ints (tl 0 A))) (hc : w.heap[c]? = some (.cells cs t fz)) (ht : (3 : Nat) ≠ t) : (w.setCell ⟨c, i, none⟩ u).ownsRow b 3 1 p A.length (ints (tl 0 A)) := by
 refine h.kept (sl.grown_setCell w c i u) ?_
 cases q : p.ownBlock with
 | none => exact .inl rfl
 | some g =>
  rcases ks.row_nec h hc ht with e | e
  ·rw [q] at e; cases e
  ·exact .inr (by rw [← q]; exact e)
theorem row_setG {w : World} {b n : Nat} {p u : Value} {xs : List Value} {c i : Nat} {t : TypeId} {cs : Array Value} {fz : Nat × Nat} (h : w.ownsRow b 3 1 p n xs) (hc : w.heap[c]? = some (.cells cs t fz)) (ht : (3 : Nat) ≠ t) : (w.setCell ⟨c, i, none⟩ u).ownsRow b 3 1 p n xs := by
 refine h.kept (sl.grown_setCell w c i u) ?_
 cases q : p.ownBlock with
 | none => exact .inl rfl
 | some g =>
  rcases ks.row_nec h hc ht with e | e
  ·rw [q] at e; cases e
  ·exact .inr (by rw [← q]; exact e)
theorem set_last {α : Type} (L : List α) (k : Nat) (y : α) (hk : k < L.length) : (L.take (k + 1)).set k y = L.take k ++ [y] := by
 rw [List.take_succ_eq_append_getElem hk, List.set_append_right _ _ (by rw [List.length_take]; omega), List.length_take, Nat.min_eq_left (by omega), Nat.sub_self]
 rfl
theorem turned {A : List Int} {k : Nat} (hk : k < A.length) : ((ints (tl 0 A)).take (k + 1)).set k (.int .i64 ((k : Int) + 1)) = ints (tl 0 (A.take k ++ [1])) := by
 have hl : (A.take k).length = k := by rw [List.length_take]; omega
 rw [set_last _ _ _ (by rw [sl.ints_length, tl_len]; exact hk), tl_snoc, Nat.zero_add, hl, app.ints_append, ← qm.tl_take]
 congr 1
 unfold sl.ints
 rw [List.map_take]
theorem fin {w wx : World} {N : Nat} {f p : Value} {LL : List (List Int)} {a mid : Nat} {m : MS} {a0 b0 p0 x0 y0 po : Value} (hr : Box5 106 wx (w.heap.size + 1) a0 b0 p0 x0 y0) (ho : wx.ownsRow mid 3 1 p m.A.length (ints (tl 0 m.A))) (hf : OwnS a mid wx f LL) (hb : w.grownBy wx po.ownBlock) (hm : mid ≤ w.heap.size) (hly : Lies w po p) :
  Box5 106 (((((wx.setCell ⟨w.heap.size + 1, 0, none⟩ (.int .i64 (N : Int))).setCell ⟨w.heap.size + 1, 1, none⟩ f).setCell ⟨w.heap.size + 1, 2, none⟩ p).setCell ⟨w.heap.size + 1, 3, none⟩ (.int .i64 m.st)).setCell ⟨w.heap.size + 1, 4, none⟩ (.int .i64 m.k)) (w.heap.size + 1) (.int .i64 (N : Int)) f p (.int .i64 m.st) (.int .i64 m.k) ∧
   StpE w N f LL a mid po m (.returned (.agg #[.int .i64 (N : Int), f, p, .int .i64 m.st, .int .i64 m.k])) (((((wx.setCell ⟨w.heap.size + 1, 0, none⟩ (.int .i64 (N : Int))).setCell ⟨w.heap.size + 1, 1, none⟩ f).setCell ⟨w.heap.size + 1, 2, none⟩ p).setCell ⟨w.heap.size + 1, 3, none⟩ (.int .i64 m.st)).setCell ⟨w.heap.size + 1, 4, none⟩ (.int .i64 m.k)) := by
 have h1 := hr.set0 (.int .i64 (N : Int))
 have h2 := h1.set1 f
 have h3 := h2.set2 p
 have h4 := h3.set3 (.int .i64 m.st)
 refine ⟨h4.set4 _, p, rfl, ?_, ?_, ?_, hly⟩
 ·exact row_set (row_set (row_set (row_set (row_set ho hr (by decide)) h1 (by decide)) h2 (by decide)) h3 (by decide)) h4 (by decide)
 ·exact cf.ownS_set (cf.ownS_set (cf.ownS_set (cf.ownS_set (cf.ownS_set hf (by omega)) (by omega)) (by omega)) (by omega)) (by omega)
 ·exact fr_set (fr_set (fr_set (fr_set (fr_set hb (by omega)) (by omega)) (by omega)) (by omega)) (by omega)
set_option maxRecDepth 100000 in
set_option maxHeartbeats 8000000 in
theorem l07Step (f p : Value) (N : Nat) (LL : List (List Int)) (a mid : Nat) (m : MS) (w : World) (h24 : N ≤ 24) (hn : tot LL ≤ 1048576) (hc : ∀ c ∈ LL, ∀ x ∈ c, lits.okB x = true) (hok : OkM N m) (hf : OwnS a mid w f LL) (hp : w.ownsRow mid 3 1 p m.A.length (ints (tl 0 m.A))) (hmid : mid ≤ w.heap.size) :
  Calls Tryz.prog 137 #[.agg #[.int .i64 (N : Int), f, p, .int .i64 m.st, .int .i64 m.k]] w fun e w' => StpE w N f LL a mid p (stepM N LL m) e w' := by
 have g0 : w.grownBy ((w.alloc (.cells #[.int .i64 (N : Int), f, p, .int .i64 m.st, .int .i64 m.k] 106)).alloc (.cells #[.int .i64 0, .slice none 0 0, .slice none 0 0, .int .i64 0, .int .i64 0] 106)) none := grown_trans (World.grownBy_alloc _ _ _) (World.grownBy_alloc _ _ _)
 have b0 := (Box5.new 106 w (.int .i64 (N : Int)) f p (.int .i64 m.st) (.int .i64 m.k)).kept (World.grownBy_alloc _ (.cells #[.int .i64 0, .slice none 0 0, .slice none 0 0, .int .i64 0, .int .i64 0] 106) none)
 have b1 := Box5.new 106 (w.alloc (.cells #[.int .i64 (N : Int), f, p, .int .i64 m.st, .int .i64 m.k] 106)) (.int .i64 0) (.slice none 0 0) (.slice none 0 0) (.int .i64 0) (.int .i64 0)
 rw [World.size_alloc] at b1
 have hf0 := hf.kept g0
 have hp0 := hp.kept g0 (qw.ne_none hp)
 have bl0 : w.grownBy _ p.ownBlock := fr_none g0
 obtain ⟨fa, fc, rfl⟩ := hf.len
 obtain ⟨pa, pc, hpe⟩ := ks.row_form hp
 subst hpe
 have hlen := hok.len
 obtain ⟨M', hM'⟩ : ∃ M', stepM N LL m = M' := ⟨_, rfl⟩
 rw [hM']
 have HM := hide hM'
 clear hf hp g0 hM'
 have m0 := b0.c0
 have m1 := b0.c1
 have m2 := b0.c2
 have m3 := b0.c3
 have m4 := b0.c4
 have r0 := b1.c0
 have r1 := b1.c1
 have r2 := b1.c2
 have r3 := b1.c3
 have r4 := b1.c4
 have fz0 := b1.f 0
 have fz1 := b1.f 1
 have fz2 := b1.f 2
 have fz3 := b1.f 3
 have fz4 := b1.f 4
 have n2 := b0.f 2
 have n3 := b0.f 3
 have n4 := b0.f 4
 go_enter Tryz.func137, Tryz.ntmps137
 go_upto_region 1 with fail
 generalize (w.alloc (.cells #[.int .i64 (N : Int), .slice fa LL.length fc, .slice pa m.A.length pc, .int .i64 m.st, .int .i64 m.k] 106)).alloc (.cells #[.int .i64 0, .slice none 0 0, .slice none 0 0, .int .i64 0, .int .i64 0] 106) = W0 at *
 by_cases hmv : m.st = 0 ∧ m.k < 1000000000
 ·obtain ⟨A, st, k⟩ := m
  dsimp only at *
  obtain ⟨rfl, hk1⟩ := hmv
  have hk0 := hok.k0
  have hbt := hok.bit
  dsimp only at hk0 hbt
  -- the steps are one more
  have c4 := b0.set4 (.int .i64 (k + 1))
  have d4 := b1.setO (d := w.heap.size) (i := 4) (u := .int .i64 (k + 1)) (by omega)
  have hp4 := row_set (i := 4) (u := .int .i64 (k + 1)) hp0 b0 (by decide)
  have hf4 := cf.ownS_set (c := w.heap.size) (i := 4) (u := .int .i64 (k + 1)) hf0 (by omega)
  have bl4 := fr_set (c := w.heap.size) (i := 4) (u := .int .i64 (k + 1)) bl0 (Nat.le_refl _)
  have hpS : Sl (W0.setCell ⟨w.heap.size, 4, none⟩ (.int .i64 (k + 1))) (.slice pa A.length pc) (tl 0 A) := Sl.of_own (by rw [tl_len]; exact hp4)
  have CO := hide (l4.l05Open (.slice fa LL.length fc) (.slice pa A.length pc) (N : Int) LL (tl 0 A) _ hn (by rw [tl_len]; omega) hc hf4.sls hpS)
  have ST := hide (And.intro c4 (And.intro d4 (And.intro hp4 (And.intro hf4 bl4))))
  have hkw : IntKind.i64.wrap (k + 1) = k + 1 := by rw [IntKind.wrap_i64]; omega
  clear c4 d4 hp4 hf4 bl4 hpS b0 b1 hp0 hf0 bl0 hok hc
  go_wp2_with fail
  generalize W0.setCell ⟨w.heap.size, 4, none⟩ (.int .i64 (k + 1)) = W1 at *
  refine (unhide CO).mono ?_; rintro e w5 ⟨rfl, g5⟩
  obtain ⟨z1, z2, z3, z4, z5⟩ := unhide ST
  have b5 := z1.kept g5
  have r5 := z2.kept g5
  have p5 := z3.kept g5 (qw.ne_none z3)
  have f5 := z4.kept g5
  have s5 : w.heap.size < w5.heap.size := b5.lt
  have l5 := fr_then z5 g5
  clear CO ST z1 z2 z3 z4 z5 g5 hkw n2 n3 n4 m0 m1 m2 m3 m4 r0 r1 r2 r3 r4 fz0 fz1 fz2 fz3 fz4
  have m0 := b5.c0
  have m1 := b5.c1
  have m2 := b5.c2
  have m3 := b5.c3
  have m4 := b5.c4
  have r0 := r5.c0
  have r1 := r5.c1
  have r2 := r5.c2
  have r3 := r5.c3
  have r4 := r5.c4
  have fz0 := r5.f 0
  have fz1 := r5.f 1
  have fz2 := r5.f 2
  have fz3 := r5.f 3
  have fz4 := r5.f 4
  have n2 := b5.f 2
  have n3 := b5.f 3
  cases ho : l4.openB LL (tl 0 A)
  ·have SM := hide (show M' = if cutN A A.length = 0 then ⟨[], 2, k + 1⟩ else ⟨back A, 0, k + 1⟩ by rw [← unhide HM]; unfold qm.stepM; rw [if_pos ⟨rfl, hk1⟩, ho]; rfl)
   have CC : Hid (∀ j, j < A.length → ∃ g, pa = some ⟨g, 0, none⟩ ∧ mid ≤ g ∧ A.length ≤ pc ∧ w5.cell? ⟨g, j, none⟩ = some (.int .i64 (litAt j (A.getD j 0))) ∧ w5.frozen? ⟨g, j, none⟩ = false) := by
    intro j hj
    rcases p5.2 with ⟨e, h0⟩ | ⟨g, cap', cur, e, hg, _, hcap, _⟩
    ·omega
    ·injection e with e1 e2 e3
     subst e1
     refine ⟨g, rfl, hg, by omega, ?_, p5.frozenAt j⟩
     rw [p5.cellAt j (by omega)]
     have e := qm.tl_getD A 0 j hj
     rw [Nat.zero_add] at e
     rw [← e]
     simp [sl.ints, tl_len, hj]
   have PK := hide (And.intro b5 (And.intro r5 (And.intro p5 (And.intro f5 l5))))
   clear HM ho b5 r5 p5 f5 l5
   go_wp2_with fail
   go_loop [3] (fun i => ∃ j : Nat, j ≤ A.length ∧ i = .int .i64 j ∧ Hid (cutN A j = cutN A A.length)) (fun i => (intOf i).toNat)
   case atStart => exact ⟨A.length, Nat.le_refl _, rfl, rfl⟩
   case round =>
    obtain ⟨j, hj, rfl, hcut⟩ := hrel
    by_cases h0 : j = 0
    ·subst h0
     have hz : cutN A A.length = 0 := (unhide hcut).symm
     obtain ⟨b5, r5, p5, f5, l5⟩ := unhide PK
     have EM := hide (show M' = ⟨[], 2, k + 1⟩ by rw [unhide SM, if_pos hz])
     have hemp : w5.ownsRow mid 3 1 (.slice pa 0 pc) 0 [] ∧ (pa = none → pc = 0) := by
      rcases p5.2 with ⟨e, h0⟩ | ⟨g, cap', cur, e, hg, _⟩
      ·injection e with e1 e2 e3
       subst e1 e3
       exact ⟨⟨rfl, .inl ⟨rfl, rfl⟩⟩, fun _ => rfl⟩
      ·injection e with e1 e2 e3
       subst e1 e3
       have := own_take (k := 0) p5 (Nat.zero_le _)
       exact ⟨this, fun h => by cases h⟩
     have c5 := b5.set2 (.slice pa 0 pc)
     have hown0 : (Value.slice pa 0 pc).ownBlock = (Value.slice pa A.length pc).ownBlock := by cases pa <;> rfl
     have E := hide (fin (po := .slice pa A.length pc) (p := .slice pa 0 pc) (m := ⟨[], 2, k + 1⟩) (N := N) ((r5.setO (d := w.heap.size) (i := 2) (u := .slice pa 0 pc) (by omega)).setO (d := w.heap.size) (i := 3) (u := .int .i64 2) (by omega)) (row_setG (row_setG hemp.1 b5 (by decide)) c5 (by decide)) (cf.ownS_set (c := w.heap.size) (i := 3) (u := .int .i64 2) (cf.ownS_set (c := w.heap.size) (i := 2) (u := .slice pa 0 pc) f5 (by omega)) (by omega)) (fr_set (c := w.heap.size) (i := 3) (u := .int .i64 2) (fr_set (c := w.heap.size) (i := 2) (u := .slice pa 0 pc) l5 (Nat.le_refl _)) (Nat.le_refl _)) hmid (.inl hown0))
     dsimp only at E
     have hpc := hemp.2
     clear hz b5 r5 p5 f5 l5 c5 hemp hown0 CC PK SM hcut
     cases pa with
     | none =>
      obtain rfl := hpc rfl
      clear hpc
      go_wp2_with fail
      (try simp only [Exit.inBlock, Exit.then])
      exact bodyPost_ret (qa.ret_box5 rfl rfl (unhide E).1) rfl (by rw [unhide EM]; exact (unhide E).2)
     | some pd =>
      clear hpc
      go_wp2_with fail
      (try simp only [Exit.inBlock, Exit.then])
      exact bodyPost_ret (qa.ret_box5 rfl rfl (unhide E).1) rfl (by rw [unhide EM]; exact (unhide E).2)
    ·have hj1 : 1 ≤ j := by omega
     obtain ⟨g, rfl, hgm, hcap, c1, cf1⟩ := unhide CC (j - 1) (by omega)
     have hjI : ¬ (j : Int) ≤ 0 := by omega
     have hwr : IntKind.i64.wrap ((j : Int) - 1) = ((j - 1 : Nat) : Int) := by rw [IntKind.wrap_i64]; omega
     have hib : ((j - 1 : Nat) : Int) < (A.length : Int) := by omega
     have hcs : cutN A j = if A.getD (j - 1) 0 = 1 then cutN A (j - 1) else j := by
      obtain ⟨i, rfl⟩ : ∃ i, j = i + 1 := ⟨j - 1, by omega⟩
      rfl
     by_cases hx : A.getD (j - 1) 0 = 1
     ·rw [hx] at c1
      rw [if_pos hx] at hcs
      have hpos : litAt (j - 1) 1 > 0 := by unfold as_.litAt; rw [if_pos rfl]; omega
      have R : Hid (cutN A (j - 1) = cutN A A.length) := by rw [← hcs]; exact hcut
      clear hx hcs hcut CC PK SM
      generalize litAt (j - 1) 1 = y at *
      go_wp2_with fail
      go_round
      case rel => exact ⟨j - 1, by omega, by go_num, R⟩
      case measure => simp [intOf]; omega
     ·rw [if_neg hx] at hcs
      have hz : cutN A A.length = j := by rw [← hcs]; exact (unhide hcut).symm
      have hx0 : A.getD (j - 1) 0 = 0 := by
       rcases hbt _ (qm.getD_mem (A := A) (i := j - 1) (by omega)) with q | q
       ·exact q
       ·exact absurd q hx
      rw [hx0] at c1
      have hneg : ¬ litAt (j - 1) 0 > 0 := by unfold as_.litAt; rw [if_neg (by decide)]; omega
      have hbk : A.take (j - 1) ++ [1] = back A := by unfold qm.back; rw [hz]
      have EM := hide (show M' = ⟨back A, 0, k + 1⟩ by rw [unhide SM, if_neg (by rw [hz]; exact h0)])
      obtain ⟨b5, r5, p5, f5, l5⟩ := unhide PK
      have c5 := b5.set2 (.slice (some ⟨g, 0, none⟩) j pc)
      have o1 := row_setG (i := 2) (u := .slice (some ⟨g, 0, none⟩) j pc) (own_take (k := j) p5 hj) b5 (by decide)
      have o2 := (o1.stored (j - 1) (.int .i64 (j : Int))).1
      have htn := turned (A := A) (k := j - 1) (by omega)
      rw [show j - 1 + 1 = j by omega, show ((j - 1 : Nat) : Int) + 1 = (j : Int) by omega, hbk] at htn
      have hbl : (back A).length = j := by rw [← hbk, List.length_append, List.length_take, List.length_singleton]; omega
      rw [htn] at o2
      have hneb : ∀ (cs : Array Value) (t : TypeId) (fz : Nat × Nat) (c : Nat), (w5.setCell ⟨w.heap.size, 2, none⟩ (.slice (some ⟨g, 0, none⟩) j pc)).heap[c]? = some (.cells cs t fz) → (3 : Nat) ≠ t → g ≠ c := fun cs t fz c hcc ht e => by
       rcases ks.row_nec o1 hcc ht with q | q
       ·cases q
       ·exact q (by rw [e]; rfl)
      have gb := hneb _ _ _ _ c5 (by decide)
      have d5 := r5.setO (d := w.heap.size) (i := 2) (u := .slice (some ⟨g, 0, none⟩) j pc) (by omega)
      have gr := hneb _ _ _ _ d5 (by decide)
      have E := hide (fin (po := .slice (some ⟨g, 0, none⟩) A.length pc) (p := .slice (some ⟨g, 0, none⟩) j pc) (m := ⟨back A, 0, k + 1⟩) (N := N) (d5.setO (d := g) (i := j - 1) (u := .int .i64 (j : Int)) gr) (by rw [hbl]; exact o2) (cf.ownS_set (c := g) (i := j - 1) (u := .int .i64 (j : Int)) (cf.ownS_set (c := w.heap.size) (i := 2) (u := .slice (some ⟨g, 0, none⟩) j pc) f5 (by omega)) (.inr hgm)) (fr_own (c := g) (i := j - 1) (u := .int .i64 (j : Int)) (fr_set (c := w.heap.size) (i := 2) (u := .slice (some ⟨g, 0, none⟩) j pc) l5 (Nat.le_refl _))) hmid (.inl rfl))
      dsimp only at E
      have hjc : (j : Int) ≤ (pc : Int) := by omega
      have hj0 : ((j : Int) == 0) = false := by simp; omega
      have hjj : ((j - 1 : Nat) : Int) < (j : Int) := by omega
      have gr' : ¬ w.heap.size + 1 = g := fun e => gr e.symm
      have gb' : ¬ w.heap.size = g := fun e => gb e.symm
      clear hx hx0 hcs hcut hz hbk b5 r5 p5 f5 l5 c5 d5 o1 o2 htn hbl hneb CC PK SM
      generalize litAt (j - 1) 0 = y at *
      go_wp2_with fail
      (try simp only [Exit.inBlock, Exit.then])
      exact bodyPost_ret (qa.ret_box5 rfl rfl (unhide E).1) rfl (by rw [unhide EM]; exact (unhide E).2)
  ·by_cases hN : A.length = N
   ·have E := hide (fin (po := .slice pa A.length pc) (p := .slice pa A.length pc) (m := ⟨A, 1, k + 1⟩) (N := N) (r5.setO (d := w.heap.size) (i := 3) (u := .int .i64 1) (by omega)) (row_set p5 b5 (by decide)) (cf.ownS_set (c := w.heap.size) (i := 3) (u := .int .i64 1) f5 (by omega)) (fr_set (c := w.heap.size) (i := 3) (u := .int .i64 1) l5 (Nat.le_refl _)) hmid (.inl rfl))
    have EM := hide (show M' = ⟨A, 1, k + 1⟩ by rw [← unhide HM]; unfold qm.stepM; rw [if_pos ⟨rfl, hk1⟩, if_pos ho, if_pos hN])
    clear HM ho b5 r5 p5 f5 l5
    subst hN
    dsimp only at E
    go_wp2_with fail
    (try simp only [Exit.inBlock, Exit.then])
    exact bodyPost_ret (qa.ret_box5 rfl rfl (unhide E).1) rfl (by rw [unhide EM]; exact (unhide E).2)
   ·have hN' : ((A.length : Int) == (N : Int)) = false := by simp; omega
    have EM := hide (show M' = ⟨A ++ [0], 0, k + 1⟩ by rw [← unhide HM]; unfold qm.stepM; rw [if_pos ⟨rfl, hk1⟩, if_pos ho, if_neg hN])
    have gA := World.grownBy_alloc w5 (.cells #[.int .i64 (-(A.length : Int) - 1)] 3) none
    have hown : (w5.alloc (.cells #[.int .i64 (-(A.length : Int) - 1)] 3)).ownsRow mid 3 1 (.slice pa A.length pc) (tl 0 A).length (ints (tl 0 A)) := by rw [tl_len]; exact p5.alloc _
    have OWN := hide hown
    have NB : Hid ((w5.alloc (.cells #[.int .i64 (-(A.length : Int) - 1)] 3)).cell? ⟨w5.heap.size, 0, none⟩ = some (.int .i64 (-(A.length : Int) - 1))) := by
     show _ = _
     simp
    have MZ : Hid (mid ≤ (w5.alloc (.cells #[.int .i64 (-(A.length : Int) - 1)] 3)).heap.size) := by
     show mid ≤ _
     rw [World.size_alloc]; omega
    have hM : (tl 0 A).length ≤ 4194304 := by rw [tl_len]; omega
    have ne2 := World.new_ne w5 _ m2
    have bA := b5.kept gA
    have FX : Hid (∀ g cap w3, w3.ownsRow mid 3 1 (.slice (some ⟨g, 0, none⟩) ((tl 0 A).length + 1) cap) ((tl 0 A).length + 1) (ints (tl 0 A) ++ [.int .i64 (-(A.length : Int) - 1)]) → (w5.alloc (.cells #[.int .i64 (-(A.length : Int) - 1)] 3)).grownBy w3 (Value.slice pa A.length pc).ownBlock →
      Box5 106 w3 w.heap.size (.int .i64 (N : Int)) (.slice fa LL.length fc) (.slice pa A.length pc) (.int .i64 0) (.int .i64 (k + 1)) ∧ Box5 106 w3 (w.heap.size + 1) (.int .i64 0) (.slice none 0 0) (.slice none 0 0) (.int .i64 0) (.int .i64 0) ∧
      (w3.ownsRow mid 3 1 (.slice (some ⟨g, 0, none⟩) ((tl 0 A).length + 1) cap) (A ++ [0]).length (ints (tl 0 (A ++ [0]))) ∧ OwnS a mid w3 (.slice fa LL.length fc) LL ∧ w.grownBy w3 (Value.slice pa A.length pc).ownBlock)) := by
     intro g cap w3 o3 g3
     have hne : ∀ (cs : Array Value) (t : TypeId) (fz : Nat × Nat) (c : Nat), (w5.alloc (.cells #[.int .i64 (-(A.length : Int) - 1)] 3)).heap[c]? = some (.cells cs t fz) → (3 : Nat) ≠ t → (Value.slice pa A.length pc).ownBlock ≠ some c := fun cs t fz c hcc ht => by
      rcases ks.row_nec (unhide OWN) hcc ht with e | e
      ·rw [e]; exact fun z => by cases z
      ·exact e
     refine ⟨bA.by g3 (hne _ _ _ _ bA (by decide)), (r5.kept gA).by g3 (hne _ _ _ _ (r5.kept gA) (by decide)), ?_, ?_, ?_⟩
     ·rw [tl_snoc, Nat.zero_add, app.ints_append, List.length_append, List.length_singleton]
      rw [tl_len] at o3 ⊢
      exact o3
     ·exact (f5.kept gA).outs (css.outs_by (lo := mid) (hi := (w5.alloc (.cells #[.int .i64 (-(A.length : Int) - 1)] 3)).heap.size) g3 (fun k e => (unhide OWN).lt k e)) (.inl (Nat.le_refl _))
     ·exact sl.grown_trans' (fr_then l5 gA) g3
    have m2A := bA.c2
    clear HM ho b5 r5 p5 f5 l5 gA hown bA
    go_wp2_with (at_builtin; refine listB (unhide OWN) (unhide NB) (unhide MZ) hM rfl _ _ rfl rfl rfl ?_)
    intro g cap w3 o3 g3 l3
    have ly3 : Lies w (.slice pa A.length pc) (.slice (some ⟨g, 0, none⟩) ((tl 0 A).length + 1) cap) := by
     rcases l3 with q | q
     ·exact .inl q.symm
     ·exact .inr fun b e => by have e' : g = b := Option.some.inj e; omega
    obtain ⟨b6, r6, o6, f6, l6⟩ := unhide FX g cap w3 o3 g3
    have E := hide (fin (po := .slice pa A.length pc) (p := .slice (some ⟨g, 0, none⟩) ((tl 0 A).length + 1) cap) (m := ⟨A ++ [0], 0, k + 1⟩) (N := N) (r6.setO (d := w.heap.size) (i := 2) (u := .slice (some ⟨g, 0, none⟩) ((tl 0 A).length + 1) cap) (by omega)) (row_set o6 b6 (by decide)) (cf.ownS_set (c := w.heap.size) (i := 2) (u := .slice (some ⟨g, 0, none⟩) ((tl 0 A).length + 1) cap) f6 (by omega)) (fr_set (c := w.heap.size) (i := 2) (u := .slice (some ⟨g, 0, none⟩) ((tl 0 A).length + 1) cap) l6 (Nat.le_refl _)) hmid ly3)
    clear m0 m1 m2 m3 m4 r0 r1 r2 r3 r4 fz0 fz1 fz2 fz3 fz4 n2 n3 m2A ne2
    have m0 := b6.c0
    have m1 := b6.c1
    have m2 := b6.c2
    have m3 := b6.c3
    have m4 := b6.c4
    have r0 := r6.c0
    have r1 := r6.c1
    have r2 := r6.c2
    have r3 := r6.c3
    have r4 := r6.c4
    have fz0 := r6.f 0
    have fz1 := r6.f 1
    have fz2 := r6.f 2
    have fz3 := r6.f 3
    have fz4 := r6.f 4
    have n2 := b6.f 2
    clear b6 r6 o6 f6 l6 o3 g3 l3 ly3 FX OWN NB MZ
    dsimp only at E
    go_wp2_with fail
    (try simp only [Exit.inBlock, Exit.then])
    exact bodyPost_ret (qa.ret_box5 rfl rfl (unhide E).1) rfl (by rw [unhide EM]; exact (unhide E).2)
 ·have E := hide (fin (po := .slice pa m.A.length pc) (p := .slice pa m.A.length pc) (N := N) b1 hp0 hf0 bl0 hmid (.inl rfl))
  have EM := hide (show M' = m by rw [← unhide HM]; exact qm.step_stop hmv)
  have hk' : m.st = 0 → ¬ m.k < 1000000000 := fun h1 h2 => hmv ⟨h1, h2⟩
  clear hmv hok hc b0 b1 hf0 hp0 bl0 HM
  obtain ⟨A, st, k⟩ := m
  dsimp only at *
  by_cases hs : st = 0
  ·subst hs
   have hk2 : k ≥ 1000000000 := by have := hk' rfl; omega
   clear hk'
   go_wp2_with fail
   (try simp only [Exit.inBlock, Exit.then])
   exact bodyPost_ret (qa.ret_box5 rfl rfl (unhide E).1) rfl (by rw [unhide EM]; exact (unhide E).2)
  ·have hs' : (st != 0) = true := by simpa using hs
   clear hk'
   go_wp2_with fail
   (try simp only [Exit.inBlock, Exit.then])
   exact bodyPost_ret (qa.ret_box5 rfl rfl (unhide E).1) rfl (by rw [unhide EM]; exact (unhide E).2)
end Go.Proofs.YtnlllcgcaddhmaaGreatDoor.qi
namespace Go.Proofs.YtnlllcgcaddhmaaGreatDoor.qi
open Go.ChangeShapes Go.WideShapes Go.ChangeAt Go.RowKit
open qa (Box5 OwnM)
open qm (machB vals MS stepM runM OkM run_stop cutN back)
open as_ (litAt tl tl_len tl_snoc)
open css (Sls OwnS tot)
open sl (Sl Own ints hide unhide ret_int ret_bool grown_refl grown_trans)
set_option linter.unusedVariables false
structure Wy (w : World) (N : Nat) (LL : List (List Int)) (a mid : Nat) (f p0 : Value) (fin : MS) (wr : World) (j : Nat) (p : Value) (m : MS) : Prop where
 run : runM N LL j m = fin
 ok : OkM N m
 bx : Box5 106 wr w.heap.size (.int .i64 (N : Int)) f p (.int .i64 m.st) (.int .i64 m.k)
 rs : Box5 106 wr (w.heap.size + 1) (.int .i64 0) (.slice none 0 0) (.slice none 0 0) (.int .i64 0) (.int .i64 0)
 ow : wr.ownsRow mid 3 1 p m.A.length (ints (tl 0 m.A))
 cl : OwnS a mid wr f LL
 g : w.grownBy wr p0.ownBlock
 ly : Lies w p0 p
theorem row_ne {w : World} {b n : Nat} {p : Value} {xs : List Value} {c : Nat} {t : TypeId} {cs : Array Value} {fz : Nat × Nat} (h : w.ownsRow b 3 1 p n xs) (hc : w.heap[c]? = some (.cells cs t fz)) (ht : (3 : Nat) ≠ t) : p.ownBlock ≠ some c := by
 rcases ks.row_nec h hc ht with e | e
 ·rw [e]; exact fun z => by cases z
 ·exact e
theorem Wy.next {w : World} {N : Nat} {LL : List (List Int)} {a mid : Nat} {f p0 p p' : Value} {fin m : MS} {wr w1 : World} {j : Nat} (h : Wy w N LL a mid f p0 fin wr (j + 1) p m) (hm : mid ≤ w.heap.size) (ho : w1.ownsRow mid 3 1 p' (stepM N LL m).A.length (ints (tl 0 (stepM N LL m).A))) (hf : OwnS a mid w1 f LL) (hg : wr.grownBy w1 p.ownBlock) (hl : Lies wr p p') :
  Wy w N LL a mid f p0 fin (((((w1.setCell ⟨w.heap.size, 0, none⟩ (.int .i64 (N : Int))).setCell ⟨w.heap.size, 1, none⟩ f).setCell ⟨w.heap.size, 2, none⟩ p').setCell ⟨w.heap.size, 3, none⟩ (.int .i64 (stepM N LL m).st)).setCell ⟨w.heap.size, 4, none⟩ (.int .i64 (stepM N LL m).k)) j p' (stepM N LL m) ∧ Box5 106 w1 w.heap.size (.int .i64 (N : Int)) f p (.int .i64 m.st) (.int .i64 m.k) := by
 have b1 := h.bx.by hg (row_ne h.ow h.bx (by decide))
 have r1 := h.rs.by hg (row_ne h.ow h.rs (by decide))
 have h1 := b1.set0 (.int .i64 (N : Int))
 have h2 := h1.set1 f
 have h3 := h2.set2 p'
 have h4 := h3.set3 (.int .i64 (stepM N LL m).st)
 have hsz := h.g.size
 have gg : w.grownBy w1 p0.ownBlock := by
  refine ⟨hg.os.trans h.g.os, hg.tape.trans h.g.tape, hg.output.trans h.g.output, Nat.le_trans hsz hg.size, fun k hk hr => ?_⟩
  rw [hg.block k (by omega) (fun e => ?_)]
  ·exact h.g.block k hk hr
  ·rcases h.ly with q | q
   ·exact hr (by rw [← q]; exact e)
   ·have := q k e.symm; omega
 refine ⟨⟨h.run, h.ok.step, h4.set4 _, ((((r1.setO (by omega)).setO (by omega)).setO (by omega)).setO (by omega)).setO (by omega), row_set (row_set (row_set (row_set (row_set ho b1 (by decide)) h1 (by decide)) h2 (by decide)) h3 (by decide)) h4 (by decide), cf.ownS_set (cf.ownS_set (cf.ownS_set (cf.ownS_set (cf.ownS_set hf (by omega)) (by omega)) (by omega)) (by omega)) (by omega), fr_set (fr_set (fr_set (fr_set (fr_set gg (Nat.le_refl _)) (Nat.le_refl _)) (Nat.le_refl _)) (Nat.le_refl _)) (Nat.le_refl _), ?_⟩, b1⟩
 rcases hl with q | q
 ·rcases h.ly with q' | q'
  ·exact .inl (q.trans q')
  ·exact .inr fun b e => q' b (by rw [← q]; exact e)
 ·exact .inr fun b e => Nat.le_trans hsz (q b e)
set_option maxRecDepth 100000 in
set_option maxHeartbeats 8000000 in
theorem l07Run (f p : Value) (N c0 : Nat) (LL : List (List Int)) (a mid : Nat) (m : MS) (w : World) (h24 : N ≤ 24) (hc0 : c0 ≤ 1000000) (hn : tot LL ≤ 1048576) (hc : ∀ c ∈ LL, ∀ x ∈ c, lits.okB x = true) (hok : OkM N m) (hf : OwnS a mid w f LL) (hp : w.ownsRow mid 3 1 p m.A.length (ints (tl 0 m.A))) (hmid : mid ≤ w.heap.size) :
  Calls Tryz.prog 83 #[.agg #[.int .i64 (N : Int), f, p, .int .i64 m.st, .int .i64 m.k], .int .i64 (c0 : Int)] w fun e w' => StpE w N f LL a mid p (runM N LL c0 m) e w' := by
 have g0 : w.grownBy ((w.alloc (.cells #[.int .i64 (N : Int), f, p, .int .i64 m.st, .int .i64 m.k] 106)).alloc (.cells #[.int .i64 0, .slice none 0 0, .slice none 0 0, .int .i64 0, .int .i64 0] 106)) none := grown_trans (World.grownBy_alloc _ _ _) (World.grownBy_alloc _ _ _)
 have b0 := (Box5.new 106 w (.int .i64 (N : Int)) f p (.int .i64 m.st) (.int .i64 m.k)).kept (World.grownBy_alloc _ (.cells #[.int .i64 0, .slice none 0 0, .slice none 0 0, .int .i64 0, .int .i64 0] 106) none)
 have b1 := Box5.new 106 (w.alloc (.cells #[.int .i64 (N : Int), f, p, .int .i64 m.st, .int .i64 m.k] 106)) (.int .i64 0) (.slice none 0 0) (.slice none 0 0) (.int .i64 0) (.int .i64 0)
 rw [World.size_alloc] at b1
 have ST : Hid (Wy w N LL a mid f p (runM N LL c0 m) ((w.alloc (.cells #[.int .i64 (N : Int), f, p, .int .i64 m.st, .int .i64 m.k] 106)).alloc (.cells #[.int .i64 0, .slice none 0 0, .slice none 0 0, .int .i64 0, .int .i64 0] 106)) c0 p m) := ⟨rfl, hok, b0, b1, hp.kept g0 (qw.ne_none hp), hf.kept g0, fr_none g0, .inl rfl⟩
 obtain ⟨fa, fc, rfl⟩ := hf.len
 have HC := hide hc
 clear hf hp g0 b0 b1 hok hc
 generalize runM N LL c0 m = fin0 at *
 go_enter Tryz.func83, Tryz.ntmps83
 go_wp2_with fail
 go_loopw [5] (fun iv wr => ∃ (i j : Nat) (p1 : Value) (m1 : MS), i + j = c0 ∧ iv = .int .i64 (i : Int) ∧ Hid (Wy w N LL a mid (.slice fa LL.length fc) p fin0 wr j p1 m1)) (fun iv _ => c0 - (intOf iv).toNat)
 case atStart => exact ⟨0, c0, p, m, Nat.zero_add _, rfl, ST⟩
 case round =>
  obtain ⟨i, j, p1, m1, hij, rfl, hwy⟩ := hrel
  clear ST
  have wy := unhide hwy
  obtain ⟨pa, pc, hpe⟩ := ks.row_form wy.ow
  subst hpe
  have HIJ := hide hij
  have EX : Hid (fin0 = m1 → Box5 106 (((((wr.setCell ⟨w.heap.size + 1, 0, none⟩ (.int .i64 (N : Int))).setCell ⟨w.heap.size + 1, 1, none⟩ (.slice fa LL.length fc)).setCell ⟨w.heap.size + 1, 2, none⟩ (.slice pa m1.A.length pc)).setCell ⟨w.heap.size + 1, 3, none⟩ (.int .i64 m1.st)).setCell ⟨w.heap.size + 1, 4, none⟩ (.int .i64 m1.k)) (w.heap.size + 1) (.int .i64 (N : Int)) (.slice fa LL.length fc) (.slice pa m1.A.length pc) (.int .i64 m1.st) (.int .i64 m1.k) ∧ StpE w N (.slice fa LL.length fc) LL a mid p fin0 (.returned (.agg #[.int .i64 (N : Int), .slice fa LL.length fc, .slice pa m1.A.length pc, .int .i64 m1.st, .int .i64 m1.k])) (((((wr.setCell ⟨w.heap.size + 1, 0, none⟩ (.int .i64 (N : Int))).setCell ⟨w.heap.size + 1, 1, none⟩ (.slice fa LL.length fc)).setCell ⟨w.heap.size + 1, 2, none⟩ (.slice pa m1.A.length pc)).setCell ⟨w.heap.size + 1, 3, none⟩ (.int .i64 m1.st)).setCell ⟨w.heap.size + 1, 4, none⟩ (.int .i64 m1.k))) := fun e => by
   subst e
   exact fin (po := p) (p := .slice pa fin0.A.length pc) (N := N) wy.rs wy.ow wy.cl wy.g hmid wy.ly
  have cm0 := wy.bx.c0
  have cm1 := wy.bx.c1
  have cm2 := wy.bx.c2
  have cm3 := wy.bx.c3
  have cm4 := wy.bx.c4
  have r0 := wy.rs.c0
  have r1 := wy.rs.c1
  have r2 := wy.rs.c2
  have r3 := wy.rs.c3
  have r4 := wy.rs.c4
  have fz0 := wy.rs.f 0
  have fz1 := wy.rs.f 1
  have fz2 := wy.rs.f 2
  have fz3 := wy.rs.f 3
  have fz4 := wy.rs.f 4
  have hi1 : (i : Int) ≤ 1000000 := by omega
  by_cases hj : j = 0
  ·subst hj
   have hii : ¬ (i : Int) < (c0 : Int) := by omega
   have E := hide (unhide EX (show fin0 = m1 from wy.run.symm))
   clear EX wy hwy hij HIJ
   go_wp2_with fail
   (try simp only [Exit.inBlock, Exit.then])
   exact bodyPost_ret (qa.ret_box5 rfl rfl (unhide E).1) rfl (unhide E).2
  ·have hii : (i : Int) < (c0 : Int) := by omega
   by_cases hmv : m1.st = 0 ∧ m1.k < 1000000000
   ·obtain ⟨jj, rfl⟩ : ∃ jj, j = jj + 1 := ⟨j - 1, by omega⟩
    have hsz := wy.g.size
    have CT := hide (l07Step (.slice fa LL.length fc) (.slice pa m1.A.length pc) N LL a mid m1 wr h24 hn (unhide HC) wy.ok wy.cl wy.ow (by omega))
    have NX : Hid (∀ (w1 : World) (p' : Value), w1.ownsRow mid 3 1 p' (stepM N LL m1).A.length (ints (tl 0 (stepM N LL m1).A)) → OwnS a mid w1 (.slice fa LL.length fc) LL → wr.grownBy w1 (Value.slice pa m1.A.length pc).ownBlock → Lies wr (.slice pa m1.A.length pc) p' → _) := fun w1 p' h1 h2 h3 h4 => wy.next hmid h1 h2 h3 h4
    have h0 := hmv.1
    have h1 := hmv.2
    have hs0 : m1.st = 0 := hmv.1
    rw [hs0] at cm3
    clear EX wy hwy hij hmv h0
    generalize hM1 : stepM N LL m1 = M1 at *
    clear hM1
    obtain ⟨A1, s1, k1⟩ := m1
    dsimp only at *
    subst hs0
    go_wp2_with fail
    refine (unhide CT).mono ?_; rintro e w1 ⟨p', rfl, o1, f1, g1, ly1⟩
    obtain ⟨qa', qc', hqe⟩ := ks.row_form o1
    subst hqe
    obtain ⟨wy2, bb⟩ := unhide NX w1 _ o1 f1 g1 ly1
    have W2 := hide wy2
    clear cm0 cm1 cm2 cm3 cm4 r0 r1 r2 r3 r4 fz0 fz1 fz2 fz3 fz4 o1 f1 g1 ly1 NX CT wy2
    have cm0 := bb.c0
    have cm1 := bb.c1
    have cm2 := bb.c2
    have cm3 := bb.c3
    have cm4 := bb.c4
    have fz0 := bb.f 0
    have fz1 := bb.f 1
    have fz2 := bb.f 2
    have fz3 := bb.f 3
    have fz4 := bb.f 4
    clear bb
    go_wp2_with fail
    go_roundw
    case rel => exact ⟨i + 1, jj, _, M1, by have := unhide HIJ; omega, by go_num, W2⟩
    case measure => simp [intOf]; omega
   ·have E := hide (unhide EX (show fin0 = m1 by rw [← wy.run]; exact run_stop hmv _))
    have hk' : m1.st = 0 → ¬ m1.k < 1000000000 := fun h1 h2 => hmv ⟨h1, h2⟩
    clear EX wy hwy hij HIJ hmv
    obtain ⟨A1, s1, k1⟩ := m1
    dsimp only at *
    by_cases hs : s1 = 0
    ·subst hs
     have hk2 : ¬ k1 < 1000000000 := hk' rfl
     clear hk'
     go_wp2_with fail
     (try simp only [Exit.inBlock, Exit.then])
     exact bodyPost_ret (qa.ret_box5 rfl rfl (unhide E).1) rfl (unhide E).2
    ·have hs' : (s1 == 0) = false := by simpa using hs
     clear hk'
     go_wp2_with fail
     (try simp only [Exit.inBlock, Exit.then])
     exact bodyPost_ret (qa.ret_box5 rfl rfl (unhide E).1) rfl (unhide E).2
end Go.Proofs.YtnlllcgcaddhmaaGreatDoor.qi
namespace Go.Proofs.YtnlllcgcaddhmaaGreatDoor.qm
open as_ (litAt tl tl_snoc tl_len)
open cls (hasB)
open ok (cnfB litIn)
open l4 (openB emptyB)
open lits (okB okB_iff)
open lq (Ahead rest rest_none rest_end rest_branch litIn_parts)
set_option linter.unusedVariables false
def po : Nat → List Int → Nat
 | _, [] => 0
 | d, x :: l => (if x = 1 then 2 ^ d else 1) + po (d - 1) l
structure Far (n : Nat) (m : MS) (j : Nat) : Prop where
 ok : OkM n m
 run : m.st = 0 → m.k = (j : Int) ∧ j ≤ po n m.A
 fin : m.st ≠ 0 → m.k + 1 ≤ (2 ^ (n + 1) : Nat)
theorem Far.start (n : Nat) : Far n ⟨[], 0, 0⟩ 0 := ⟨⟨Nat.zero_le _, (fun x hx => by cases hx), Int.le_refl _, by show (0 : Int) ≤ 1000000000; decide, .inl rfl⟩, fun _ => ⟨rfl, Nat.zero_le _⟩, fun h => absurd rfl h⟩
end Go.Proofs.YtnlllcgcaddhmaaGreatDoor.qm
namespace Go.Proofs.YtnlllcgcaddhmaaGreatDoor.qh
open Go.ChangeShapes Go.WideShapes Go.ChangeAt Go.RowKit
open qa (Box5 OwnM)
open cf (Box)
open qm (machB vals MS stepM runM OkM run_stop)
open qi (l07Step l07Run row_ne)
open srt (Tab)
open as_ (tl tl_len)
open ok (cnfB)
open css (Sls OwnS tot)
open sl (Sl Own ints hide unhide ret_int ret_bool grown_refl grown_trans)
set_option linter.unusedVariables false
def costI (n : Int) (LL : List (List Int)) : Int := if cnfB n LL then (if (runM n.toNat LL 1000000 ⟨[], 0, 0⟩).st = 0 then -1 else (runM n.toNat LL 1000000 ⟨[], 0, 0⟩).k) else -1
theorem cost_no {n : Int} {LL : List (List Int)} (h : cnfB n LL = false) : costI n LL = -1 := by unfold costI; rw [h]; exact if_neg (by decide)
theorem cost_yes {n : Int} {LL : List (List Int)} (h : cnfB n LL = true) : ∃ N : Nat, n = (N : Int) ∧ N ≤ 24 ∧ cnfB (N : Int) LL = true ∧ costI n LL = (if (runM N LL 1000000 ⟨[], 0, 0⟩).st = 0 then -1 else (runM N LL 1000000 ⟨[], 0, 0⟩).k) := by
 have h24 := qb.cnf24 h
 obtain ⟨N, rfl⟩ := Int.eq_ofNat_of_zero_le h24.1
 refine ⟨N, rfl, by omega, h, ?_⟩
 unfold costI
 rw [h, Int.toNat_natCast]
 exact if_pos rfl
theorem start_res {N : Nat} {LL : List (List Int)} (h : cnfB (N : Int) LL = true) : res (N : Int) LL [] 0 0 1000000 = (tl 0 (runM N LL 1000000 ⟨[], 0, 0⟩).A, (runM N LL 1000000 ⟨[], 0, 0⟩).st, (runM N LL 1000000 ⟨[], 0, 0⟩).k) := by
 have hm : machB (N : Int) LL [] 0 0 = true := qm.ok_mach (m := ⟨[], 0, 0⟩) h (qm.Far.start N).ok
 have e1 : (1000000 : Int).toNat = 1000000 := rfl
 have e2 : vals [] = [] := rfl
 rw [res_yes (by rw [hm]; decide), Int.toNat_natCast, e1, e2]
set_option maxRecDepth 100000 in
set_option maxHeartbeats 8000000 in
theorem implMachineCost (v : Value) (n : Int) (LL : List (List Int)) (lo hi : Nat) (w : World) (hn : tot LL ≤ 1048576) (hT : Tab w) (hv : OwnS lo hi w v LL) :
  Calls Tryz.prog 35 #[.agg #[.int .i64 n, v]] w fun e w' => e = .returned (.int .i64 (costI n LL)) ∧ w.grownBy w' none := by
 have g0 := World.grownBy_alloc w (.cells #[.int .i64 n, v] 26) none
 have b0 := Box.new 26 w (.int .i64 n) v
 have C := hide (fun w1 (g : w.grownBy w1 none) => qc.implMachineStart v n LL lo hi w1 hn (hv.kept g))
 have HN := hide hn
 have HT := hide (fun w1 (g : w.grownBy w1 none) => hT.below (sl.below_of g))
 have x0 := b0.c0
 have x1 := b0.c1
 have G0 := hide g0
 clear g0 b0 hv hT
 go_enter Tryz.func35, Tryz.ntmps35
 go_wp2_with fail
 generalize w.alloc (.cells #[.int .i64 n, v] 26) = W0 at *
 refine (unhide C _ (unhide G0)).mono ?_; rintro e w1 ⟨u, p, rfl, o1, g1⟩
 obtain ⟨ua, uc, pa, pc, rfl, rfl⟩ := o1.len
 have G1 := hide (grown_trans (r := none) (unhide G0) g1)
 cases hb : cnfB n LL
 ·have E := hide (cost_no hb)
  have gA := hide (grown_trans (r := none) (unhide G1) (World.grownBy_alloc w1 (.cells #[.int .i64 (qc.stN n LL), .slice ua (qc.stR n LL).length uc, .slice pa ([] : List Int).length pc, .int .i64 0, .int .i64 0] 106) none))
  clear hb o1 g1 C G0
  go_wp2_with fail
  go_ret
  exact ⟨ret_int (unhide E).symm, unhide gA⟩
 ·have e1 : qc.stN n LL = n := by unfold qc.stN; rw [hb]; rfl
  have e2 : qc.stR n LL = LL := by unfold qc.stR; rw [hb]; rfl
  rw [e2] at o1
  have gA := World.grownBy_alloc w1 (.cells #[.int .i64 n, .slice ua LL.length uc, .slice pa 0 pc, .int .i64 0, .int .i64 0] 106) none
  have bM := Box5.new 106 w1 (.int .i64 n) (.slice ua LL.length uc) (.slice pa 0 pc) (.int .i64 0) (.int .i64 0)
  have oM := o1.kept gA
  have GM := hide (grown_trans (r := none) (unhide G1) gA)
  obtain ⟨N, eN, h24, hcf, hrun⟩ := cost_yes hb
  subst eN
  have ct := implMachineRun (.slice ua LL.length uc) (.slice pa 0 pc) (N : Int) 0 0 1000000 LL [] _ _ _ (unhide HT _ (unhide GM)) (unhide HN) (Nat.zero_le _) oM
  rw [start_res hcf] at ct
  have CT := hide ct
  have ER := hide hrun
  have BM := hide bM
  have m0 := bM.c0
  have m1 := bM.c1
  have m2 := bM.c2
  have m3 := bM.c3
  have m4 := bM.c4
  rw [e1, e2]
  have FW : Hid (∀ w3 : World, (w1.alloc (.cells #[.int .i64 (N : Int), .slice ua LL.length uc, .slice pa 0 pc, .int .i64 0, .int .i64 0] 106)).grownBy w3 none → Box5 106 w3 w1.heap.size (.int .i64 (N : Int)) (.slice ua LL.length uc) (.slice pa 0 pc) (.int .i64 0) (.int .i64 0) ∧ w.grownBy w3 none ∧ w.heap.size ≤ w1.heap.size) := fun w3 g3 => ⟨(unhide BM).kept g3, grown_trans (unhide GM) g3, (unhide G1).size⟩
  clear e1 e2 o1 g1 C G0 G1 gA oM bM hrun hb hcf ct
  generalize runM N LL 1000000 ⟨[], 0, 0⟩ = M1 at *
  obtain ⟨A1, s1, k1⟩ := M1
  dsimp only at *
  go_wp2_with fail
  refine (unhide CT).mono ?_; rintro e w3 ⟨u3, p3, rfl, o3, g3⟩
  obtain ⟨a3, c3, b3, d3, rfl, rfl⟩ := o3.len
  obtain ⟨bb, gg, hsz⟩ := unhide FW w3 g3
  have FG : Hid (w.grownBy (((((w3.setCell ⟨w1.heap.size, 0, none⟩ (.int .i64 (N : Int))).setCell ⟨w1.heap.size, 1, none⟩ (.slice a3 LL.length c3)).setCell ⟨w1.heap.size, 2, none⟩ (.slice b3 (tl 0 A1).length d3)).setCell ⟨w1.heap.size, 3, none⟩ (.int .i64 s1)).setCell ⟨w1.heap.size, 4, none⟩ (.int .i64 k1)) none) := cf.grown_set (cf.grown_set (cf.grown_set (cf.grown_set (cf.grown_set gg hsz) hsz) hsz) hsz) hsz
  clear m0 m1 m2 m3 m4
  have m0 := bb.c0
  have m1 := bb.c1
  have m2 := bb.c2
  have m3 := bb.c3
  have m4 := bb.c4
  have f0 := bb.f 0
  have f1 := bb.f 1
  have f2 := bb.f 2
  have f3 := bb.f 3
  have f4 := bb.f 4
  clear bb gg hsz o3 g3 FW CT BM GM
  by_cases hs : s1 = 0
  ·subst hs
   go_wp2_with fail
   go_ret
   exact ⟨ret_int (by rw [unhide ER]; rfl), unhide FG⟩
  ·have hs' : (s1 == 0) = false := by simpa using hs
   go_wp2_with fail
   go_ret
   exact ⟨ret_int (by rw [unhide ER, if_neg hs]), unhide FG⟩
set_option maxRecDepth 100000 in
set_option maxHeartbeats 8000000 in
theorem specMachineCost (v : Value) (n : Int) (LL : List (List Int)) (lo hi : Nat) (w : World) (hn : tot LL ≤ 1048576) (hh : hi ≤ w.heap.size) (hv : OwnS lo hi w v LL) :
  Calls Tryz.prog 39 #[.agg #[.int .i64 n, v]] w fun e w' => e = .returned (.int .i64 (costI n LL)) ∧ w.grownBy w' none := by
 have g0 := World.grownBy_alloc w (.cells #[.int .i64 n, v] 26) none
 have b0 := Box.new 26 w (.int .i64 n) v
 have C := hide (fun w1 (g : w.grownBy w1 none) => qc.specMachineStart v n LL lo hi w1 hn (hv.kept g) (Nat.le_trans hh g.size))
 have HN := hide hn
 skip
 have x0 := b0.c0
 have x1 := b0.c1
 have G0 := hide g0
 clear g0 b0 hv
 go_enter Tryz.func39, Tryz.ntmps39
 go_wp2_with fail
 generalize w.alloc (.cells #[.int .i64 n, v] 26) = W0 at *
 refine (unhide C _ (unhide G0)).mono ?_; rintro e w1 ⟨u, p, rfl, o1, g1⟩
 obtain ⟨ua, uc, pa, pc, rfl, rfl⟩ := o1.len
 have G1 := hide (grown_trans (r := none) (unhide G0) g1)
 cases hb : cnfB n LL
 ·have E := hide (cost_no hb)
  have gA := hide (grown_trans (r := none) (unhide G1) (World.grownBy_alloc w1 (.cells #[.int .i64 (qc.stN n LL), .slice ua (qc.stR n LL).length uc, .slice pa ([] : List Int).length pc, .int .i64 0, .int .i64 0] 106) none))
  clear hb o1 g1 C G0
  go_wp2_with fail
  go_ret
  exact ⟨ret_int (unhide E).symm, unhide gA⟩
 ·have e1 : qc.stN n LL = n := by unfold qc.stN; rw [hb]; rfl
  have e2 : qc.stR n LL = LL := by unfold qc.stR; rw [hb]; rfl
  rw [e2] at o1
  have gA := World.grownBy_alloc w1 (.cells #[.int .i64 n, .slice ua LL.length uc, .slice pa 0 pc, .int .i64 0, .int .i64 0] 106) none
  have bM := Box5.new 106 w1 (.int .i64 n) (.slice ua LL.length uc) (.slice pa 0 pc) (.int .i64 0) (.int .i64 0)
  have oM := o1.kept gA
  have GM := hide (grown_trans (r := none) (unhide G1) gA)
  obtain ⟨N, eN, h24, hcf, hrun⟩ := cost_yes hb
  obtain ⟨mid, q1, q2, q3, q4⟩ := oM
  subst eN
  have hok0 : OkM N ⟨[], 0, 0⟩ := (qm.Far.start N).ok
  have CT := hide (l07Run (.slice ua LL.length uc) (.slice pa 0 pc) N 1000000 LL _ mid ⟨[], 0, 0⟩ _ h24 (Nat.le_refl _) (unhide HN) (fun c hc x hx => (lq.litIn_parts ((cnf_parts hcf).2 c hc x hx)).1) hok0 q3 q4.1 (by have h1 := g1.size; rw [World.size_alloc]; omega))
  have ER := hide hrun
  have BM := hide bM
  have m0 := bM.c0
  have m1 := bM.c1
  have m2 := bM.c2
  have m3 := bM.c3
  have m4 := bM.c4
  rw [e1, e2]
  have FW : Hid (∀ w3 : World, (w1.alloc (.cells #[.int .i64 (N : Int), .slice ua LL.length uc, .slice pa 0 pc, .int .i64 0, .int .i64 0] 106)).grownBy w3 (Value.slice pa 0 pc).ownBlock → Box5 106 w3 w1.heap.size (.int .i64 (N : Int)) (.slice ua LL.length uc) (.slice pa 0 pc) (.int .i64 0) (.int .i64 0) ∧ w.grownBy w3 none ∧ w.heap.size ≤ w1.heap.size) := fun w3 g3 => by
   have hgs := (unhide GM).size
   have hg0 := (unhide G0).size
   refine ⟨(unhide BM).by g3 (row_ne q4.1 (unhide BM) (by decide)), ⟨g3.os.trans (unhide GM).os, g3.tape.trans (unhide GM).tape, g3.output.trans (unhide GM).output, Nat.le_trans (unhide GM).size g3.size, fun i hi _ => (g3.block i (by omega) (fun e => by have := (q4.1.lt i e.symm).1; omega)).trans ((unhide GM).block i hi (fun e => by cases e))⟩, (unhide G1).size⟩
  clear e1 e2 o1 g1 C G0 G1 gA bM hrun hb hcf q1 q2 q3 q4 hok0
  generalize runM N LL 1000000 ⟨[], 0, 0⟩ = M1 at *
  obtain ⟨A1, s1, k1⟩ := M1
  dsimp only at *
  go_wp2_with fail
  refine (unhide CT).mono ?_; rintro e w3 ⟨p3, rfl, o3, f3, g3, _⟩
  obtain ⟨b3, d3, hpe⟩ := ks.row_form o3
  subst hpe
  obtain ⟨bb, gg, hsz⟩ := unhide FW w3 g3
  have FG : Hid (w.grownBy (((((w3.setCell ⟨w1.heap.size, 0, none⟩ (.int .i64 (N : Int))).setCell ⟨w1.heap.size, 1, none⟩ (.slice ua LL.length uc)).setCell ⟨w1.heap.size, 2, none⟩ (.slice b3 A1.length d3)).setCell ⟨w1.heap.size, 3, none⟩ (.int .i64 s1)).setCell ⟨w1.heap.size, 4, none⟩ (.int .i64 k1)) none) := cf.grown_set (cf.grown_set (cf.grown_set (cf.grown_set (cf.grown_set gg hsz) hsz) hsz) hsz) hsz
  clear m0 m1 m2 m3 m4
  have m0 := bb.c0
  have m1 := bb.c1
  have m2 := bb.c2
  have m3 := bb.c3
  have m4 := bb.c4
  have f0 := bb.f 0
  have f1 := bb.f 1
  have f2 := bb.f 2
  have ff3 := bb.f 3
  have f4 := bb.f 4
  clear bb gg hsz o3 f3 g3 FW CT BM GM
  by_cases hs : s1 = 0
  ·subst hs
   go_wp2_with fail
   go_ret
   exact ⟨ret_int (by rw [unhide ER]; rfl), unhide FG⟩
  ·have hs' : (s1 == 0) = false := by simpa using hs
   go_wp2_with fail
   go_ret
   exact ⟨ret_int (by rw [unhide ER, if_neg hs]), unhide FG⟩
end Go.Proofs.YtnlllcgcaddhmaaGreatDoor.qh
