/- Part of the program: what it answers at every formula of the call's own that holds at most 2^20 values, and every list of at most 2^20 numbers. -/
import Derived.Test.YtibpnocpafppaaaDoorGk
namespace Go.Proofs.YtibpnocpafppaaaDoor.gj
open Go.ChangeShapes Go.WideShapes Go.ChangeAt Go.RowKit
open Go.Proofs.YtibpnocpafppaaaDoor.sl (Sl Own ints marks hide unhide ret_int ret_bool grown_refl grown_trans grown_drewN below_of of_below)
open Go.Proofs.YtibpnocpafppaaaDoor.css (Sls OwnS Outs tot sumLen marksS own_mono)
open Go.Proofs.YtibpnocpafppaaaDoor.cf (Box)
open Go.Proofs.YtibpnocpafppaaaDoor.ok (cnfB)
open Go.Proofs.YtibpnocpafppaaaDoor.lits (okB varI)
open Go.Proofs.YtibpnocpafppaaaDoor.cls (hasB)
open Go.Proofs.YtibpnocpafppaaaDoor.bset (setOf placeN)
open Go.Proofs.YtibpnocpafppaaaDoor.srt (oppN andN swp)
open Go.Proofs.YtibpnocpafppaaaDoor.gb (Rd Kpt flt KeptE)
open Go.Proofs.YtibpnocpafppaaaDoor.ge (outN outR OutE ini_all out_no out_yes OwnD)
set_option linter.unusedVariables false

/-- what lies in memory behind the first lines -/
structure Pst (w W : World) (lo hi c : Nat) (n : Int) (v : Value) (LL : List (List Int)) (x : Nat) : Prop where
  g : w.grownBy W none
  b0 : Box 26 W w.heap.size (.int .i64 n) v
  b1 : Box 26 W (w.heap.size + 1) (.int .i64 0) (.slice none 0 0)
  o : OwnS lo hi W v LL
  h : hi ≤ w.heap.size
  l : w.heap.size + 2 ≤ c
  k : W.heap[c]? = some (.cells #[.int .u64 (x : Int)] 83 (0, 0))
theorem Pst.kept {w W W1 : World} {lo hi c : Nat} {n : Int} {v : Value} {LL : List (List Int)} {x : Nat} (h : Pst w W lo hi c n v LL x) (g : W.grownBy W1 none) : Pst w W1 lo hi c n v LL x :=
  ⟨grown_trans h.g g, h.b0.kept g, h.b1.kept g, h.o.kept g, h.h, h.l, by rw [g.block c (Array.getElem?_eq_some_iff.1 h.k).1 (fun e => by cases e)]; exact h.k⟩
theorem Pst.cell {w W : World} {lo hi c : Nat} {n : Int} {v : Value} {LL : List (List Int)} {x : Nat} (h : Pst w W lo hi c n v LL x) : W.cell? ⟨c, 0, none⟩ = some (.int .u64 (x : Int)) ∧ W.frozen? ⟨c, 0, none⟩ = false := by
  have k := h.k
  constructor
  · unfold World.cell?
    rw [k]
    rfl
  · unfold World.frozen?
    rw [k]
    rfl
theorem Pst.set {w W : World} {lo hi c : Nat} {n : Int} {v : Value} {LL : List (List Int)} {x : Nat} (h : Pst w W lo hi c n v LL x) (y : Nat) : Pst w (W.setCell ⟨c, 0, none⟩ (.int .u64 (y : Int))) lo hi c n v LL y := by
  have hl := h.l
  have hh := h.h
  refine ⟨cf.grown_set h.g (by omega), h.b0.setO (by omega), h.b1.setO (by omega), cf.ownS_set h.o (.inr (by omega)), h.h, h.l, ?_⟩
  have k := h.k
  simp [World.setCell, Array.getElem?_modify, k]
theorem Pst.new {w w1 : World} {lo hi : Nat} {n : Int} {v : Value} {LL : List (List Int)} (x : Nat) (g : w.grownBy w1 none) (b0 : Box 26 w1 w.heap.size (.int .i64 n) v) (b1 : Box 26 w1 (w.heap.size + 1) (.int .i64 0) (.slice none 0 0)) (o : OwnS lo hi w1 v LL) (h : hi ≤ w.heap.size) :
    Pst w (w1.alloc (.cells #[.int .u64 (x : Int)] 83)) lo hi w1.heap.size n v LL x := by
  have gA := World.grownBy_alloc w1 (.cells #[.int .u64 (x : Int)] 83) none
  have l1 := b1.lt
  refine ⟨grown_trans g gA, b0.kept gA, b1.kept gA, o.kept gA, h, by omega, ?_⟩
  show (w1.heap.push _)[w1.heap.size]? = _
  simp

theorem gc0 (w : World) (x : Value) (t : TypeId) : (w.alloc (.cells #[x] t)).cell? ⟨w.heap.size, 0, none⟩ = some x := by
  simp
theorem tot_filter (B : List Int → Bool) (LL : List (List Int)) : tot (LL.filter B) ≤ tot LL := by
  unfold css.tot
  have h1 := List.length_filter_le B LL
  have h2 : ((LL.filter B).map List.length).sum ≤ (LL.map List.length).sum := by
    clear h1
    induction LL with
    | nil => exact Nat.le_refl _
    | cons C LL ih =>
      rw [List.filter_cons]
      split
      · simp only [List.map_cons, List.sum_cons]; omega
      · simp only [List.map_cons, List.sum_cons]; omega
  omega
set_option maxRecDepth 10000 in
set_option maxHeartbeats 4000000 in
theorem implPart (v u : Value) (n : Int) (LL : List (List Int)) (V : List Int) (lo hi : Nat) (w : World) (hn : tot LL ≤ 1048576) (hV : V.length ≤ 1048576) (hv : OwnS lo hi w v LL) (hlo : lo ≤ w.heap.size) (hhi : hi ≤ w.heap.size) (hu : Sl w u V) :
    Calls Tryd.prog 32 #[.agg #[.int .i64 n, v], u] w fun e w' => OutE (cnfB n LL) n (LL.filter (inB V)) w e w' := by
  have hl := Nat.le_trans (css.tot_len LL) hn
  obtain ⟨a, cap, rfl⟩ := hv.len
  obtain ⟨g0, b0, b1⟩ := ini_all w (.int .i64 n) (.slice a LL.length cap)
  have C := hide (ok.implCnfOk _ n LL _ hn (hv.kept g0).sls)
  have HV := hide hv
  have CL := hide (fun (w1 : World) (g : w.grownBy w1 none) => bset.litsOf u V w1 hV (hu.kept g (.inl rfl)))
  obtain ⟨va, vc, rfl, _⟩ := hu
  have P48 : setOf V &&& 93824992236885 < 2 ^ 48 := Nat.lt_of_le_of_lt Nat.and_le_left (bset.setOf_lt V)
  have ea : bits .and .u64 (setOf V : Int) 93824992236885 = ((setOf V &&& 93824992236885 : Nat) : Int) := srt.and_eq (setOf V) 93824992236885 (bset.setOf_lt V) (by decide)
  have eo : bits .or .u64 ((setOf V &&& 93824992236885 : Nat) : Int) ((oppN (setOf V &&& 93824992236885) : Nat) : Int) = ((amN V : Nat) : Int) := srt.orN_eq _ _ P48 (srt.oppN_lt _)
  have OP := hide (fun w1 => srt.opposites (setOf V &&& 93824992236885) w1 P48)
  have G0 := hide g0
  have B0 := hide b0
  have B1 := hide b1
  clear hv g0 b0 b1 P48
  go_enter Tryd.func32, Tryd.ntmps32
  go_wp2_with fail
  refine (unhide C).mono ?_; rintro e w1 ⟨rfl, g1⟩
  have G1 := hide (grown_trans (r := none) (unhide G0) g1)
  have bx0 := (unhide B0).kept g1
  have bx1 := (unhide B1).kept g1
  have x0 := bx0.c0
  have x1 := bx0.c1
  have y0 := bx1.c0
  have y1 := bx1.c1
  have y2 := bx1.f 0
  have y3 := bx1.f 1
  have X1 := hide bx1
  have ST := hide ((Pst.new (amN V) (unhide G1) bx0 bx1 ((unhide HV).kept (unhide G1)) hhi).kept (cf.grown_drew _ none))
  clear C g1 bx0 bx1 B0 B1 G0
  cases hb : cnfB n LL
  · have E := hide hb
    clear hb ST
    go_wp2_with fail
    (try simp only [Exit.inBlock, Exit.then])
    exact out_no (unhide E) (unhide X1) (unhide G1) rfl rfl rfl rfl
  · have E := hide hb
    clear hb X1 y0 y1 y2 y3 x0 x1
    generalize setOf V &&& 93824992236885 = pp at *
    go_upto_region 4 with (go_at_call 93; refine (unhide CL _ (unhide G1)).mono ?_; rintro e w2 ⟨rfl, hw⟩; have hw' := hw.symm; clear hw; subst hw')
    have kc := gc0 w1 (.int .u64 (pp : Int)) 83
    go_region_with (first
      | (go_at_call 94; refine (unhide OP _).mono ?_; rintro e w2 ⟨rfl, hw⟩; have hw' := hw.symm; clear hw; subst hw'))
    all_goals
      have cl := (unhide ST).g.size
      generalize hW1 : (w1.alloc (.cells #[.int .u64 (amN V : Int)] 83)).drew = W1 at *
      generalize w1.heap.size = c at *
      have KP := hide (keptPart _ n V LL lo hi c W1 hn (unhide E) (Nat.le_trans hlo cl) (Nat.le_trans hhi cl) (unhide ST).o (unhide ST).cell.1)
      have x0 := (unhide ST).b0.c0
      have x1 := (unhide ST).b0.c1
      clear hW1 OP CL ea eo kc G1 HV
      go_wp2_with fail
      refine (unhide KP).mono ?_; rintro e w3 ⟨q, rfl, o3, g3⟩
      obtain ⟨qa, qc, rfl⟩ := o3.len
      have S3 := (unhide ST).kept g3
      have HL := hide (app.copyLists _ (LL.filter (inB V)) lo _ w3.drew (Nat.le_trans (tot_filter _ LL) hn) (o3.kept (cf.grown_drew w3 none)))
      clear x0 x1
      have x0 := S3.b0.c0
      have x1 := S3.b0.c1
      have y0 := S3.b1.c0
      have y1 := S3.b1.c1
      have y2 := S3.b1.f 0
      have y3 := S3.b1.f 1
      have ST3 := hide S3
      clear S3 o3 g3 KP ST cl
      generalize hRR : LL.filter (inB V) = RR at *
      have HRR := hide hRR
      clear hRR
      go_wp2_with fail
      go_region_held3 (fun w' => w'.cell? ⟨w.heap.size, 0, none⟩ = some (.int .i64 n)) (go_keep) (first
        | (go_at_call 96; refine (unhide HL).mono ?_; rintro e w4 ⟨z, rfl, o4, g4⟩; obtain ⟨za, zc, rfl⟩ := o4.len; have G4 := hide (grown_trans (r := none) (cf.grown_drew w3 none) g4); have O4 := hide o4; have z0 := ((unhide ST3).b0.kept (unhide G4)).c0; have r0 := ((unhide ST3).b1.kept (unhide G4)).c0; have r1 := ((unhide ST3).b1.kept (unhide G4)).c1; have r2 := ((unhide ST3).b1.kept (unhide G4)).f 0; have r3 := ((unhide ST3).b1.kept (unhide G4)).f 1; clear o4 g4))
      go_wp2_with fail
      (try simp only [Exit.inBlock, Exit.then])
      have hrr := unhide HRR
      subst hrr
      exact out_yes (unhide E) (unhide ST3).b1 (unhide ST3).g (unhide O4) (unhide G4) rfl rfl rfl rfl
end Go.Proofs.YtibpnocpafppaaaDoor.gj
