/- What the walker's own functions do: within, put, pathIs; no condition but that the walker is one. -/
import Derived.Test.YtnlllcgcaddhmaaGreatDoorJXQw
import Derived.Test.YtnlllcgcaddhmaaGreatDoorJXWw0
import Derived.Deep.RegionHeld3
namespace Go.Proofs.YtnlllcgcaddhmaaGreatDoor.qw
open Go.ChangeShapes Go.WideShapes Go.ChangeAt Go.RowKit
open kd (SV Slv anN anN_bit anN_lt anN_zero all_closed atH0 atH1)
open kc (cset lo hi lo_lt hi_lt lo_bit hi_bit)
open ks (Right Closed blk_set2 grown_set2 grow1 row_nec closed_snoc toGrown)
open as_ (litAt tl tl_snoc tl_len)
open cf (Box)
open css (Sls OwnS Outs tot)
open bset (placeN)
open lits (okB)
open wm0 (end0 ret0 listB)
open sl (Sl Own ints hide unhide ret_bool ret_int grown_refl grown_trans)
set_option linter.unusedVariables false
def subB (X Y : Nat) : Bool := decide ((anN (lo X) (lo Y) ||| anN (hi X) (hi Y)) = 0)
theorem or_zero {a b : Nat} : (a ||| b) = 0 ↔ a = 0 ∧ b = 0 := by
 constructor
 ·intro h
  have : ∀ i, a.testBit i = false ∧ b.testBit i = false := fun i => by
   have e := Nat.testBit_or a b i
   rw [h, Nat.zero_testBit] at e
   cases ha : a.testBit i <;> cases hb : b.testBit i <;> rw [ha, hb] at e <;> simp at e ⊢
  exact ⟨Nat.eq_of_testBit_eq fun i => by rw [(this i).1, Nat.zero_testBit], Nat.eq_of_testBit_eq fun i => by rw [(this i).2, Nat.zero_testBit]⟩
 ·rintro ⟨rfl, rfl⟩; rfl
theorem sub_iff {X Y : Nat} (hX : X < 2 ^ 128) (hY : Y < 2 ^ 128) : subB X Y = true ↔ ∀ j, X.testBit j = true → Y.testBit j = true := by
 unfold subB
 rw [decide_eq_true_iff, or_zero]
 constructor
 ·rintro ⟨h0, h1⟩
  exact all_closed hX hY h0 h1
 ·intro h
  refine ⟨Nat.eq_of_testBit_eq fun i => ?_, Nat.eq_of_testBit_eq fun i => ?_⟩
  ·rw [anN_bit _ _ _ (lo_lt X) (lo_lt Y), Nat.zero_testBit, lo_bit, lo_bit]
   cases hx : X.testBit i with
   | false => simp
   | true => rw [h i hx]; cases decide (i < 64) <;> rfl
  ·rw [anN_bit _ _ _ (hi_lt hX) (hi_lt hY), Nat.zero_testBit, hi_bit, hi_bit]
   cases hx : X.testBit (64 + i) with
   | false => simp
   | true => rw [h _ hx]; rfl
set_option maxHeartbeats 1000000 in
theorem within (X Y : Nat) (w : World) (hX : X < 2 ^ 128) (hY : Y < 2 ^ 128) :
  Calls Tryz.prog 193 #[cset X, cset Y] w fun e w' => e = .returned (.bool (subB X Y)) ∧ w.grownBy w' none := by
 have a0 := u64_andNot_nat (lo X) (lo Y) (lo_lt _) (lo_lt _)
 have a1 := u64_andNot_nat (hi X) (hi Y) (hi_lt hX) (hi_lt hY)
 have hb0 := anN_lt (lo X) (lo Y) (lo_lt X)
 have hb1 := anN_lt (hi X) (hi Y) (hi_lt hX)
 unfold subB
 unfold kd.anN at *
 unfold cset
 generalize lo X &&& (18446744073709551615 - lo Y) = d0 at *
 generalize hi X &&& (18446744073709551615 - hi Y) = d1 at *
 have a2 := u64_or_nat d0 d1 hb0 hb1
 generalize lo X = x0 at *
 generalize lo Y = y0 at *
 generalize hi X = x1 at *
 generalize hi Y = y1 at *
 have gA := grown_trans (r := none) (World.grownBy_alloc w (.cells #[.int .u64 (x0 : Int), .int .u64 (x1 : Int)] 165) none) (World.grownBy_alloc _ (.cells #[.int .u64 (y0 : Int), .int .u64 (y1 : Int)] 165) none)
 have GA := hide gA
 have A2 := hide a2
 clear gA
 go_enter Tryz.func193, Tryz.ntmps193
 go_wp2
 go_ret
 refine ⟨ret_bool ?_, unhide GA⟩
 rw [Bool.eq_iff_iff]
 simp
theorem bel_by {m : Nat} {w w' : World} {r : Option Nat} (h : m ≤ w.heap.size) (g : w.grownBy w' r) (hr : ∀ b, r = some b → m ≤ b) : Below m w w' :=
 ⟨g.os, g.tape, g.output, g.size, fun k hk => g.block k (by omega) (fun e => by have := hr k e.symm; omega)⟩
theorem bel_trans {m : Nat} {w w' w2 : World} (h : Below m w w') (k : Below m w' w2) : Below m w w2 :=
 ⟨k.os.trans h.os, k.tape.trans h.tape, k.output.trans h.output, Nat.le_trans h.size k.size, fun i hi => (k.block i hi).trans (h.block i hi)⟩
theorem bel_set {m c i : Nat} {w w' : World} {u : Value} (h : Below m w w') (hc : m ≤ c) : Below m w (w'.setCell ⟨c, i, none⟩ u) :=
 ⟨h.os, h.tape, h.output, by rw [cf.size_set]; exact h.size, fun k hk => (Below.heap_setCell _ _ _ _ (by show k ≠ c; omega)).trans (h.block k hk)⟩
theorem lit_ok {A : List Int} {n : Nat} (h24 : n ≤ 24) (hl : A.length < n) {x : Int} (hx : x = 0 ∨ x = 1) : okB (litAt A.length x) = true ∧ placeN (litAt A.length x) = km.plc A.length x ∧ -24 ≤ litAt A.length x ∧ litAt A.length x ≤ 24 := by
 have hb : okB (litAt A.length x) = true := by
  rw [lits.okB_iff]
  unfold as_.litAt
  split <;> omega
 exact ⟨hb, km.place_at (by omega) hx, (lits.okB_iff.1 hb).2⟩
theorem plc_lt {i : Nat} {x : Int} (h : i < 24) : km.plc i x < 48 := by
 unfold km.plc
 split <;> omega
theorem Wlk.close {n : Nat} {LL : List (List Int)} {a mid : Nat} {w : World} {c : Nat} {v : WV} {s : SV} {A : List Int} {i1 Y : Nat} (h : Wlk n LL a mid w c v s A) (hii : A.length < i1) (h25 : i1 < 25) (hY : Y < 2 ^ 128) :
  Wlk n LL a mid ((w.setCell ⟨c, 56 + i1 * 2, none⟩ (.int .u64 (lo Y : Int))).setCell ⟨c, 56 + i1 * 2 + 1, none⟩ (.int .u64 (hi Y : Int))) c (setX v i1 Y) s A := by
 rw [Nat.mul_comm]
 refine h.cellC (grown_set2 w c _ _ _) (h.blk.set2 (by omega) (cellsX v h25)) rfl rfl rfl rfl rfl (fun i hi' => ?_) (fun i => ?_)
 ·show (if i = i1 then Y else v.X i) = v.X i
  rw [if_neg (by omega)]
 ·show (if i = i1 then Y else v.X i) < _
  split
  ·exact hY
  ·exact h.xb i
theorem close_X (v : WV) (i1 Y i : Nat) : (setX v i1 Y).X i = if i = i1 then Y else v.X i := rfl
theorem Wlk.reads {n : Nat} {LL : List (List Int)} {a mid : Nat} {w : World} {c : Nat} {v : WV} {s : SV} {A : List Int} {p : Nat} (h : Wlk n LL a mid w c v s A) (hl : A.length < 25) (hp : p < 48) :
  w.cell? ⟨c, 5, none⟩ = some (.pointer (some ⟨v.sp, 0, none⟩)) ∧ w.cell? ⟨c, 56 + A.length * 2, none⟩ = some (.int .u64 (lo (v.X A.length) : Int)) ∧ w.cell? ⟨c, 56 + A.length * 2 + 1, none⟩ = some (.int .u64 (hi (v.X A.length) : Int)) ∧
   w.cell? ⟨v.sp, 2 + p * 2, none⟩ = some (.int .u64 (lo (s.H p) : Int)) ∧ w.cell? ⟨v.sp, 2 + p * 2 + 1, none⟩ = some (.int .u64 (hi (s.H p) : Int)) := by
 refine ⟨h.blk.cell (k := 5) (by decide), ?_, ?_, ?_, ?_⟩
 ·rw [h.blk.cell (by omega), Nat.mul_comm, atX0 _ (by omega)]
 ·rw [h.blk.cell (by omega), Nat.mul_comm, atX1 _ (by omega)]
 ·rw [h.sl.cell (by omega), Nat.mul_comm, atH0 _ hp]
 ·rw [h.sl.cell (by omega), Nat.mul_comm, atH1 _ hp]
set_option maxRecDepth 100000 in
set_option maxHeartbeats 8000000 in
theorem put {n : Nat} {LL : List (List Int)} {a mid : Nat} {w : World} {c : Nat} {v : WV} {s : SV} {A : List Int} {x : Int} (h : Wlk n LL a mid w c v s A) (hl : A.length < n) (hx : x = 0 ∨ x = 1) :
  Calls Tryz.prog 159 #[.pointer (some ⟨c, 0, none⟩), .int .i8 (litAt A.length x)] w fun e w' => e = .returned (.tuple #[]) ∧ ∃ v', v'.st = v.st ∧ v'.k = v.k ∧ v'.f = v.f ∧ Wlk n LL a mid w' c v' s (A ++ [x]) ∧ Below mid w w' := by
 have h24 := h.rt.n24
 obtain ⟨ho, hp, hb1, hb2⟩ := lit_ok h24 hl hx
 have hpl := plc_lt (i := A.length) (x := x) (by omega)
 have CP := hide (fun w => toGrown (bset.placeC (litAt A.length x) w ho))
 have CU := hide (fun w => kc.union (v.X A.length) (s.H (km.plc A.length x)) w (h.xb _) (kd.lt128 (h.sl.h _) h.sl.m))
 rw [hp] at CP
 have x2 := h.blk.cell (k := 2) (by decide)
 have x5 := h.blk.cell (k := 5) (by decide)
 have y0 := h.blk.cell (k := 56 + A.length * 2) (by omega)
 have y1 := h.blk.cell (k := 56 + A.length * 2 + 1) (by omega)
 rw [Nat.mul_comm, atX0 _ (by omega), Nat.mul_comm] at y0
 rw [Nat.mul_comm, atX1 _ (by omega), Nat.mul_comm] at y1
 have z0 := h.sl.cell (k := 2 + km.plc A.length x * 2) (by omega)
 have z1 := h.sl.cell (k := 2 + km.plc A.length x * 2 + 1) (by omega)
 rw [Nat.mul_comm, atH0 _ hpl, Nat.mul_comm] at z0
 rw [Nat.mul_comm, atH1 _ hpl, Nat.mul_comm] at z1
 obtain ⟨pa, pc, hpv⟩ := ks.row_form h.ow
 have e2 : v.at 2 = .slice pa A.length pc := hpv
 have e5 : v.at 5 = .pointer (some ⟨v.sp, 0, none⟩) := rfl
 rw [e2] at x2
 rw [e5] at x5
 have hi1 : (A.length : Int) < 25 := by omega
 obtain ⟨i1, hi1e⟩ : ∃ i1 : Nat, i1 = A.length + 1 := ⟨_, rfl⟩
 have hi3 : (i1 : Int) < 25 := by omega
 have hi4 : IntKind.i64.wrap ((A.length : Int) + 1) = (i1 : Int) := by rw [IntKind.wrap_i64]; omega
 have u0 := h.blk.cell (k := 56 + i1 * 2) (by omega)
 have u1 := h.blk.cell (k := 56 + i1 * 2 + 1) (by omega)
 have hi2 : (km.plc A.length x : Int) < 48 := by omega
 have CK := hide (fun (w' : World) (g : w.grownBy w' none) => And.intro (g.cell x5 (fun e => by cases e)) (And.intro (g.cell y0 (fun e => by cases e)) (And.intro (g.cell y1 (fun e => by cases e)) (And.intro (g.cell z0 (fun e => by cases e)) (And.intro (g.cell z1 (fun e => by cases e)) (And.intro (g.cell u0 (fun e => by cases e)) (And.intro (g.cell u1 (fun e => by cases e)) (And.intro ((h.kept g).blk.fz (56 + i1 * 2)) ((h.kept g).blk.fz (56 + i1 * 2 + 1))))))))))
 have hYlt := kc.or_lt (h.xb A.length) (kd.lt128 (h.sl.h (km.plc A.length x)) h.sl.m)
 have HW := hide (fun (w' : World) (g : w.grownBy w' none) => (h.kept g).close (i1 := i1) (by omega) (by omega) hYlt)
 have SK := hide (fun (w' : World) (g : w.grownBy w' none) => by
  have r := (unhide HW w' g).reads (p := km.plc A.length x) (by omega) hpl
  rw [close_X, if_neg (show ¬ A.length = i1 by omega)] at r
  exact r)
 unfold kc.cset at CU
 have HE := hide hi1e
 have HP := hide hpv
 clear hp ho hpv e2 e5 hi1e u0 u1
 generalize v.at (56 + i1 * 2) = v6 at *
 generalize v.at (56 + i1 * 2 + 1) = v7 at *
 generalize hpe : km.plc A.length x = p at *
 generalize hye : litAt A.length x = y at *
 have HPE := hide hpe
 have HY := hide hye
 clear hpe hye
 go_enter Tryz.func159, Tryz.ntmps159
 go_wp2_with fail
 have GX := hide (cf.grown_drew w none)
 go_region_held3 (fun w' => w'.cell? ⟨c, 5, none⟩ = some (.pointer (some ⟨v.sp, 0, none⟩)) ∧ w'.cell? ⟨c, 56 + A.length * 2, none⟩ = some (.int .u64 (lo (v.X A.length) : Int)) ∧ w'.cell? ⟨c, 56 + A.length * 2 + 1, none⟩ = some (.int .u64 (hi (v.X A.length) : Int)) ∧ w'.cell? ⟨v.sp, 2 + p * 2, none⟩ = some (.int .u64 (lo (s.H p) : Int)) ∧ w'.cell? ⟨v.sp, 2 + p * 2 + 1, none⟩ = some (.int .u64 (hi (s.H p) : Int))) (first | go_keep | exact unhide SK _ (unhide GX)) (first
  | (go_at_call 155; refine (unhide CP _).mono ?_; rintro e w8 ⟨rfl, g8⟩; replace GX := hide (grown_trans (r := none) (unhide GX) g8); obtain ⟨k1, k2, k3, k4, k5, k6, k7, k8, k9⟩ := unhide CK _ (unhide GX); clear g8)
  | (go_at_call 158; refine (unhide CU _).mono ?_; rintro e w8 ⟨rfl, g8⟩; replace GX := hide (grown_trans (r := none) (unhide GX) g8); obtain ⟨k1, k2, k3, k4, k5, k6, k7, k8, k9⟩ := unhide CK _ (unhide GX); clear g8))
 have WK := hide (unhide HW _ (unhide GX))
 have BL : Hid (Below mid w ((w8.setCell ⟨c, 56 + i1 * 2, none⟩ (.int .u64 (lo (v.X A.length ||| s.H p) : Int))).setCell ⟨c, 56 + i1 * 2 + 1, none⟩ (.int .u64 (hi (v.X A.length ||| s.H p) : Int)))) := bel_set (bel_set (bel_by (Nat.le_trans h.hc (Nat.le_of_lt h.blk.lt)) (unhide GX) (fun b e => by cases e)) h.hc) h.hc
 generalize hW2 : (w8.setCell ⟨c, 56 + i1 * 2, none⟩ (.int .u64 (lo (v.X A.length ||| s.H p) : Int))).setCell ⟨c, 56 + i1 * 2 + 1, none⟩ (.int .u64 (hi (v.X A.length ||| s.H p) : Int)) = W2 at *
 have hwlk := unhide WK
 have q2 := hwlk.blk.cell (k := 2) (by decide)
 have e2 : (setX v i1 (v.X A.length ||| s.H p)).at 2 = v.p := rfl
 rw [e2, unhide HP] at q2
 have ne2 := World.new_ne W2 _ q2
 have gA := World.grownBy_alloc W2 (.cells #[.int .i64 y] 3) none
 have hown : (W2.alloc (.cells #[.int .i64 y] 3)).ownsRow mid 3 1 (.slice pa A.length pc) (tl 0 A).length (ints (tl 0 A)) := by
  have := hwlk.ow.alloc (.cells #[.int .i64 y] 3)
  rw [tl_len]
  rw [show (setX v i1 (v.X A.length ||| s.H p)).p = v.p from rfl, unhide HP] at this
  exact this
 have hNB : (W2.alloc (.cells #[.int .i64 y] 3)).cell? ⟨W2.heap.size, 0, none⟩ = some (.int .i64 y) := by simp
 have hmz : mid ≤ (W2.alloc (.cells #[.int .i64 y] 3)).heap.size := by
  rw [World.size_alloc]
  have := hwlk.hc
  have := hwlk.blk.lt
  omega
 have OWN := hide hown
 have NB := hide hNB
 have MZ := hide hmz
 have hM : (tl 0 A).length ≤ 4194304 := by rw [tl_len]; omega
 have CB := hide (fun (w3 : World) (g3 : (W2.alloc (.cells #[.int .i64 y] 3)).grownBy w3 v.p.ownBlock) => And.intro (((hwlk.kept gA).blk.by g3 (hwlk.kept gA).pc).cell (k := 2) (by decide)) (((hwlk.kept gA).blk.by g3 (hwlk.kept gA).pc).fz 2))
 have XS : Hid (∀ i, i ≤ (A ++ [x]).length → Closed s.Ss ((A ++ [x]).take i) ((setX v i1 (v.X A.length ||| s.H p)).X i)) := by
  have he := unhide HE
  intro i hi
  rw [close_X]
  rw [List.length_append, List.length_singleton] at hi
  by_cases e : i = i1
  ·rw [if_pos e, e, he, List.take_of_length_le (by rw [List.length_append, List.length_singleton]; omega)]
   have := h.xs A.length (Nat.le_refl _)
   rw [List.take_of_length_le (Nat.le_refl _)] at this
   exact closed_snoc h.rt h.sl.m this (unhide HPE).symm
  ·rw [if_neg e, List.take_append_of_le_length (by omega)]
   exact h.xs i (by omega)
 have FIN := hide (fun (w3 : World) (u : Value) (g3 : (W2.alloc (.cells #[.int .i64 y] 3)).grownBy w3 v.p.ownBlock) (o3 : w3.ownsRow mid 3 1 u (A ++ [x]).length (ints (tl 0 (A ++ [x])))) (s3 : ∃ g cap, u = .slice (some ⟨g, 0, none⟩) (A ++ [x]).length cap) =>
  And.intro ((hwlk.kept gA).path g3 o3 (by rw [List.length_append, List.length_singleton]; omega) (fun z hz => by rcases List.mem_append.1 hz with q | q; exact h.bit z q; rw [List.mem_singleton.1 q]; exact hx) (unhide XS) s3)
   (bel_set (c := c) (i := 2) (u := u) (bel_trans (bel_trans (unhide BL) (bel_by (Nat.le_trans h.hc (Nat.le_of_lt hwlk.blk.lt)) gA (fun b e => by cases e))) (bel_by (unhide MZ) g3 (fun b e => ((hwlk.kept gA).ow.lt b e).1))) h.hc))
 have hwy : IntKind.i64.wrap y = y := by rw [IntKind.wrap_i64]; omega
 have QP : Hid (∀ g cap (w3 : World), w3.ownsRow mid 3 1 (.slice (some ⟨g, 0, none⟩) ((tl 0 A).length + 1) cap) ((tl 0 A).length + 1) (ints (tl 0 A) ++ [.int .i64 y]) → w3.ownsRow mid 3 1 (.slice (some ⟨g, 0, none⟩) ((tl 0 A).length + 1) cap) (A ++ [x]).length (ints (tl 0 (A ++ [x])))) := by
  intro g cap w3 o
  rw [tl_snoc, Nat.zero_add, unhide HY, app.ints_append, List.length_append, List.length_singleton]
  rw [tl_len] at o ⊢
  exact o
 rw [unhide HP] at CB FIN
 clear hown hNB hmz hwlk gA XS BL hW2 HW SK WK x5 y0 y1 z0 z1 k1 k2 k3 k4 k5 k6 k7 k8 k9 CP CU CK x2 h e2 hi4 HE
 go_wp2_with (at_builtin; refine listB (unhide OWN) (unhide NB) (unhide MZ) hM rfl _ _ rfl rfl rfl ?_)
 intro g cap w3 o3 g3 l3
 have F3 := hide (unhide FIN w3 _ g3 (unhide QP g cap w3 o3) ⟨g, cap, by rw [tl_len, List.length_append, List.length_singleton]⟩)
 have cb := unhide CB w3 g3
 have r0 := cb.1
 have r1 := cb.2
 clear o3 g3 l3 cb q2 ne2 OWN NB MZ CB FIN QP
 go_wp2_with fail
 (try simp only [Exit.inBlock, Exit.then])
 obtain ⟨f1, f2⟩ := unhide F3
 exact end0 rfl rfl ⟨rfl, { setX v i1 (v.X A.length ||| s.H p) with p := _ }, rfl, rfl, rfl, f1, f2⟩
set_option maxRecDepth 100000 in
set_option maxHeartbeats 4000000 in
theorem pathIs {n : Nat} {LL : List (List Int)} {a mid : Nat} {w : World} {c : Nat} {v : WV} {s : SV} {A : List Int} (h : Wlk n LL a mid w c v s A) :
  Calls Tryz.prog 163 #[.pointer (some ⟨c, 0, none⟩)] w fun e w' => e = .returned (.int .i64 (if l4.openB LL (tl 0 A) then (if A.length = n then 1 else 2) else 0)) ∧ w.grownBy w' none := by
 have h24 := h.rt.n24
 have hl := h.len
 have hX := h.xs A.length (Nat.le_refl _)
 rw [List.take_of_length_le (Nat.le_refl _)] at hX
 have hop := qm.open_iff h.rt h.sl.e hl h.bit hX
 have hsub : subB (v.D A.length) (v.X A.length) = l4.openB LL (tl 0 A) := by
  rw [Bool.eq_iff_iff, sub_iff (h.db _) (h.xb _), hop]
  constructor
  ·intro q j hj
   exact q j ((h.ds A.length (by omega) j).2 hj)
  ·intro q j hj
   exact q j ((h.ds A.length (by omega) j).1 hj)
 have CW := hide (fun w1 => within (v.D A.length) (v.X A.length) w1 (h.db _) (h.xb _))
 rw [hsub] at CW
 have x2 := h.blk.cell (k := 2) (by decide)
 have x5 := h.blk.cell (k := 5) (by decide)
 have y0 := h.blk.cell (k := 56 + A.length * 2) (by omega)
 have y1 := h.blk.cell (k := 56 + A.length * 2 + 1) (by omega)
 rw [Nat.mul_comm, atX0 _ (by omega), Nat.mul_comm] at y0
 rw [Nat.mul_comm, atX1 _ (by omega), Nat.mul_comm] at y1
 have z0 := h.blk.cell (k := 6 + A.length * 2) (by omega)
 have z1 := h.blk.cell (k := 6 + A.length * 2 + 1) (by omega)
 rw [Nat.mul_comm, atD0 _ (by omega), Nat.mul_comm] at z0
 rw [Nat.mul_comm, atD1 _ (by omega), Nat.mul_comm] at z1
 have s0 := h.sl.cell (k := 0) (by decide)
 rw [kd.at0, h.rt.sn] at s0
 obtain ⟨pa, pc, hpv⟩ := ks.row_form h.ow
 have e2 : v.at 2 = .slice pa A.length pc := hpv
 have e5 : v.at 5 = .pointer (some ⟨v.sp, 0, none⟩) := rfl
 rw [e2] at x2
 rw [e5] at x5
 unfold kc.cset at CW
 have hi1 : (A.length : Int) < 25 := by omega
 have CK := hide (fun (w' : World) (g : w.grownBy w' none) => And.intro (g.cell x5 (fun e => by cases e)) (And.intro (g.cell y0 (fun e => by cases e)) (And.intro (g.cell y1 (fun e => by cases e)) (And.intro (g.cell z0 (fun e => by cases e)) (And.intro (g.cell z1 (fun e => by cases e)) (g.cell s0 (fun e => by cases e)))))))
 clear hsub hop hX hpv e2 e5 h
 generalize l4.openB LL (tl 0 A) = ob at *
 go_enter Tryz.func163, Tryz.ntmps163
 go_wp2_with fail
 have GX := hide (cf.grown_drew w none)
 go_region_held3 (fun w' => w'.cell? ⟨c, 6 + A.length * 2, none⟩ = some (.int .u64 (lo (v.D A.length) : Int)) ∧ w'.cell? ⟨c, 6 + A.length * 2 + 1, none⟩ = some (.int .u64 (hi (v.D A.length) : Int)) ∧ w'.cell? ⟨c, 56 + A.length * 2, none⟩ = some (.int .u64 (lo (v.X A.length) : Int)) ∧ w'.cell? ⟨c, 56 + A.length * 2 + 1, none⟩ = some (.int .u64 (hi (v.X A.length) : Int))) (go_keep) (first
  | (go_at_call 193; refine (unhide CW _).mono ?_; rintro e w8 ⟨rfl, g8⟩; replace GX := hide (grown_trans (r := none) (unhide GX) g8); obtain ⟨k1, k2, k3, k4, k5, k6⟩ := unhide CK _ (unhide GX); clear g8))
 clear x2 x5 y0 y1 z0 z1 s0 CW CK
 cases ob
 ·go_wp2_with fail
  go_ret
  exact ⟨rfl, unhide GX⟩
 ·by_cases hn : A.length = n
  ·subst hn
   go_wp2_with fail
   go_ret
   exact ⟨ret_int (by simp), unhide GX⟩
  ·have hn' : ((A.length : Int) == (n : Int)) = false := by simp; omega
   go_wp2_with fail
   go_ret
   exact ⟨ret_int (by simp), unhide GX⟩
end Go.Proofs.YtnlllcgcaddhmaaGreatDoor.qw
