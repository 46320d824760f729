/- SumBlock of the program: 64 rounds and the state added; no condition but that words are words and the table lies as it should. -/
import Derived.Test.YtheigbmkldlicaaDoorZl
import Derived.Deep.RegionHeld3
import Derived.Deep.RegionLaw
namespace Go.Proofs.YtheigbmkldlicaaDoor.zm
open Go.ChangeShapes Go.WideShapes Go.ChangeAt Go.RowKit
open Go.Proofs.YtheigbmkldlicaaDoor.sl (hide unhide ret_int ret_bool grown_refl grown_trans grown_drewN)
open Go.Proofs.YtheigbmkldlicaaDoor.za (Wd rotI g4)
open Go.Proofs.YtheigbmkldlicaaDoor.zs (ints Made)
open Go.Proofs.YtheigbmkldlicaaDoor.zc (wds wds_length wall getD_wd form)
open Go.Proofs.YtheigbmkldlicaaDoor.zk (kL kc TabK)
open Go.Proofs.YtheigbmkldlicaaDoor.zl (rnd v8 Wd8 wd8_parts wd8_of rnd_wd set_new implRound)
set_option linter.unusedVariables false

/-- a variable of eight words -/
def Bx (w : World) (b : Nat) (L : List Int) : Prop := w.heap[b]? = some (.cells (ints L).toArray 138 (0, 0))
theorem Bx.kept {w w' : World} {b : Nat} {L : List Int} (h : Bx w b L) (g : w.grownBy w' none) : Bx w' b L :=
  (g.block b (Array.getElem?_eq_some_iff.1 h).1 (fun e => by cases e)).trans h
theorem Bx.lt {w : World} {b : Nat} {L : List Int} (h : Bx w b L) : b < w.heap.size := (Array.getElem?_eq_some_iff.1 h).1
theorem Bx.cell {w : World} {b : Nat} {L : List Int} (h : Bx w b L) (j : Nat) (hj : j < L.length) : w.cell? ⟨b, j, none⟩ = some (.int .u32 (L.getD j 0)) := by
  unfold Bx at h
  simp only [World.cell?, h]
  show (ints L).toArray[j]? = _
  rw [List.getElem?_toArray, zs.ints, List.getElem?_map, List.getElem?_eq_getElem hj, List.getD, List.getElem?_eq_getElem hj]
  rfl
theorem Bx.frozen {w : World} {b : Nat} {L : List Int} (h : Bx w b L) (j : Nat) : w.frozen? ⟨b, j, none⟩ = false := by
  unfold Bx at h
  simp [World.frozen?, h]
theorem Bx.set {w : World} {b : Nat} {L : List Int} (h : Bx w b L) (j : Nat) (x : Int) : Bx (w.setCell ⟨b, j, none⟩ (.int .u32 x)) b (L.set j x) := by
  unfold Bx at *
  have e : ints (L.set j x) = (ints L).set j (.int .u32 x) := by simp [zs.ints, List.map_set]
  rw [e]
  simp [World.setCell, Array.getElem?_modify, h]
theorem Bx.other {w : World} {b c : Nat} {L : List Int} (h : Bx w b L) (hc : b ≠ c) (j : Nat) (v : Value) : Bx (w.setCell ⟨c, j, none⟩ v) b L :=
  (Below.heap_setCell _ _ _ _ hc).trans h
theorem Bx.new (w : World) (L : List Int) : Bx (w.alloc (.cells (ints L).toArray 138)) w.heap.size L := Go.heap_alloc_new w _
/-- words that are read -/
def Rd (w : World) (b : Nat) (M : List Int) : Prop := ∀ j, j < M.length → w.cell? ⟨b, j, none⟩ = some (.int .u32 (M.getD j 0))
theorem Rd.kept {w w' : World} {b : Nat} {M : List Int} (h : Rd w b M) (g : w.grownBy w' none) : Rd w' b M := fun j hj => g.cell (h j hj) (fun e => by cases e)
theorem Rd.other {w : World} {b c : Nat} {M : List Int} (h : Rd w b M) (hc : b ≠ c) (i : Nat) (v : Value) : Rd (w.setCell ⟨c, i, none⟩ v) b M := fun j hj => by
  rw [← h j hj]
  exact World.cell?_of_block (a := ⟨b, j, none⟩) (Below.heap_setCell _ _ _ _ hc)
theorem Bx.rd {w : World} {b : Nat} {L : List Int} (h : Bx w b L) : Rd w b L := fun j hj => h.cell j hj

/-- what lies in memory while a block is worked on: now in nb, the result in rb, what is read in pb, g, kb -/
structure Inv (w wr : World) (nb rb pb g kb : Nat) (N Z L ws ks : List Int) : Prop where
  grown : w.grownBy wr none
  now : Bx wr nb N
  res : Bx wr rb Z
  st : Rd wr pb L
  wd : Rd wr g ws
  tb : Rd wr kb ks
theorem Inv.kept {w wr wr' : World} {nb rb pb g kb : Nat} {N Z L ws ks : List Int} (h : Inv w wr nb rb pb g kb N Z L ws ks) (k : wr.grownBy wr' none) : Inv w wr' nb rb pb g kb N Z L ws ks :=
  ⟨grown_trans h.grown k, h.now.kept k, h.res.kept k, h.st.kept k, h.wd.kept k, h.tb.kept k⟩
theorem Inv.set {w wr : World} {nb rb pb g kb : Nat} {N Z L ws ks : List Int} (h : Inv w wr nb rb pb g kb N Z L ws ks) (hn : w.heap.size ≤ nb) (d1 : rb ≠ nb) (d2 : pb ≠ nb) (d3 : g ≠ nb) (d4 : kb ≠ nb) (j : Nat) (x : Int) :
    Inv w (wr.setCell ⟨nb, j, none⟩ (.int .u32 x)) nb rb pb g kb (N.set j x) Z L ws ks :=
  ⟨set_new h.grown hn j _, h.now.set j x, h.res.other d1 j _, h.st.other d2 j _, h.wd.other d3 j _, h.tb.other d4 j _⟩
theorem Inv.set8 {w wr : World} {nb rb pb g kb : Nat} {a b c d e f i m a' b' c' d' e' f' i' m' : Int} {Z L ws ks : List Int} (h : Inv w wr nb rb pb g kb [a, b, c, d, e, f, i, m] Z L ws ks) (hn : w.heap.size ≤ nb) (d1 : rb ≠ nb) (d2 : pb ≠ nb) (d3 : g ≠ nb) (d4 : kb ≠ nb) :
    Inv w ((((((((wr.setCell ⟨nb, 0, none⟩ (.int .u32 a')).setCell ⟨nb, 1, none⟩ (.int .u32 b')).setCell ⟨nb, 2, none⟩ (.int .u32 c')).setCell ⟨nb, 3, none⟩ (.int .u32 d')).setCell ⟨nb, 4, none⟩ (.int .u32 e')).setCell ⟨nb, 5, none⟩ (.int .u32 f')).setCell ⟨nb, 6, none⟩ (.int .u32 i')).setCell ⟨nb, 7, none⟩ (.int .u32 m')) nb rb pb g kb [a', b', c', d', e', f', i', m'] Z L ws ks :=
  (((((((h.set hn d1 d2 d3 d4 0 a').set hn d1 d2 d3 d4 1 b').set hn d1 d2 d3 d4 2 c').set hn d1 d2 d3 d4 3 d').set hn d1 d2 d3 d4 4 e').set hn d1 d2 d3 d4 5 f').set hn d1 d2 d3 d4 6 i').set hn d1 d2 d3 d4 7 m'

theorem start {w w1 : World} {L Z : List Int} (g : ((w.alloc (.cells (ints L).toArray 138)).alloc (.cells (ints Z).toArray 138)).grownBy w1 none) : Bx w1 w.heap.size L ∧ Bx w1 (w.heap.size + 1) Z ∧ w.grownBy w1 none := by
  refine ⟨((Bx.new w L).kept (World.grownBy_alloc _ _ none)).kept g, ?_, grown_trans (r := none) (grown_trans (r := none) (World.grownBy_alloc _ _ none) (World.grownBy_alloc _ _ none)) g⟩
  have h := Bx.new (w.alloc (.cells (ints L).toArray 138)) Z
  rw [World.size_alloc] at h
  exact h.kept g
theorem Bx.parts {w : World} {b : Nat} {a b' c d e f g i : Int} (h : Bx w b [a, b', c, d, e, f, g, i]) : w.cell? ⟨b, 0, none⟩ = some (.int .u32 a) ∧ w.cell? ⟨b, 1, none⟩ = some (.int .u32 b') ∧ w.cell? ⟨b, 2, none⟩ = some (.int .u32 c) ∧ w.cell? ⟨b, 3, none⟩ = some (.int .u32 d) ∧ w.cell? ⟨b, 4, none⟩ = some (.int .u32 e) ∧ w.cell? ⟨b, 5, none⟩ = some (.int .u32 f) ∧ w.cell? ⟨b, 6, none⟩ = some (.int .u32 g) ∧ w.cell? ⟨b, 7, none⟩ = some (.int .u32 i) ∧ ∀ j, w.frozen? ⟨b, j, none⟩ = false :=
  ⟨h.cell 0 (by simp), h.cell 1 (by simp), h.cell 2 (by simp), h.cell 3 (by simp), h.cell 4 (by simp), h.cell 5 (by simp), h.cell 6 (by simp), h.cell 7 (by simp), h.frozen⟩
/-- what is left behind so many rounds -/
def rr (L ws : List Int) : Nat → List Int
  | 0 => L
  | i + 1 => rnd (rr L ws i) ((kL.getD i 0 + ws.getD i 0) % 4294967296)
theorem rr_wd {L ws : List Int} (h : Wd8 L) : ∀ i, Wd8 (rr L ws i)
  | 0 => h
  | i + 1 => rnd_wd (rr_wd h i) _
/-- the first i words added -/
def ad (N L : List Int) : Nat → List Int
  | 0 => N
  | i + 1 => (ad N L i).set i ((N.getD i 0 + L.getD i 0) % 4294967296)
theorem ad_length (N L : List Int) : ∀ i, (ad N L i).length = N.length
  | 0 => rfl
  | i + 1 => by rw [ad, List.length_set, ad_length N L i]
theorem ad_getD (N L : List Int) : ∀ i j, i ≤ j → (ad N L i).getD j 0 = N.getD j 0
  | 0, _, _ => rfl
  | i + 1, j, h => by
    rw [ad, List.getD, List.getElem?_set_ne (by omega)]
    exact ad_getD N L i j (by omega)
theorem ad_wd {N L : List Int} (h : Wd8 N) : ∀ i, Wd8 (ad N L i)
  | 0 => h
  | i + 1 => ⟨by rw [ad_length]; exact h.1, fun x hx => by
    rw [ad] at hx
    rcases List.mem_or_eq_of_mem_set hx with hx | hx
    · exact (ad_wd h i).2 x hx
    · rw [hx]
      exact za.mod_wd _⟩
/-- what SumBlock answers -/
def blk (L : List Int) (s : ByteArray) : List Int := if s.size = 64 then ad (rr L (wds s 64) 64) L 8 else L
theorem blk_wd {L : List Int} (h : Wd8 L) (s : ByteArray) : Wd8 (blk L s) := by
  unfold blk
  split
  · exact ad_wd (rr_wd h _) _
  · exact h

set_option maxRecDepth 100000 in
set_option maxHeartbeats 4000000 in
theorem implSumBlock (L : List Int) (s : ByteArray) (w : World) (hL : Wd8 L) (hs : s.size ≤ 1048576) (hT : TabK w) :
    Calls Tryd.prog 136 #[v8 L, .string s] w fun r w' => r = .returned (v8 (blk L s)) ∧ w.grownBy w' none := by
  have HT := hide hT
  have H8 := hide hL
  obtain ⟨a, b, c, d, e, f, g, i, rfl, ha, hb, hc, hd, he, hf, hg, hi⟩ := wd8_parts hL
  clear ha hb hc hd he hf hg hi hL hT
  obtain ⟨W0, hW0⟩ : ∃ W0, W0 = (w.alloc (.cells (ints [a, b, c, d, e, f, g, i]).toArray 138)).alloc (.cells (ints [0, 0, 0, 0, 0, 0, 0, 0]).toArray 138) := ⟨_, rfl⟩
  by_cases h64 : s.size = 64
  · have hb : ((s.size : Int) != 64) = false := by simp [h64]
    have E : Hid (blk [a, b, c, d, e, f, g, i] s = ad (rr [a, b, c, d, e, f, g, i] (wds s 64) 64) [a, b, c, d, e, f, g, i] 8) := by show _ = _; unfold blk; rw [if_pos h64]
    have CW := hide (fun w => zd.implSumWords s w hs)
    rw [show wall s = wds s 64 by unfold zc.wall; rw [if_pos h64]] at CW
    show Calls Tryd.prog 136 #[.agg #[.int .u32 a, .int .u32 b, .int .u32 c, .int .u32 d, .int .u32 e, .int .u32 f, .int .u32 g, .int .u32 i], .string s] w fun r w' => r = .returned (v8 (blk [a, b, c, d, e, f, g, i] s)) ∧ w.grownBy w' none
    clear h64
    go_enter Tryd.func136, Tryd.ntmps136
    go_wp2_with fail
    refine (unhide CW _).mono ?_; rintro r w1 ⟨u, rfl, m1⟩
    obtain ⟨B0, B1, g1⟩ := start (w := w) (w1 := w1) (L := [a, b, c, d, e, f, g, i]) (Z := [0, 0, 0, 0, 0, 0, 0, 0]) m1.2
    obtain ⟨gb, cap, hu⟩ := form m1 (by rw [wds_length]; decide)
    rw [wds_length] at hu
    subst hu
    have R1 : Rd w1 gb (wds s 64) := by
      intro j hj
      have h1 := m1.1
      rw [wds_length] at h1 hj
      rw [h1.cellAt j (by omega)]
      have hl := wds_length s 64
      simp [zs.ints, hl, hj]
    have l0 := B0.lt
    have l1 := B1.lt
    have lg : gb < w1.heap.size := World.block_lt_of_cell? w1 _ (R1 0 (by rw [wds_length]; decide))
    obtain ⟨p0, p1, p2, p3, p4, p5, p6, p7, _⟩ := B0.parts
    have I1 : Hid (Inv w (w1.alloc (.cells (ints [a, b, c, d, e, f, g, i]).toArray 138)) w1.heap.size (w.heap.size + 1) w.heap.size gb w.heap.size [a, b, c, d, e, f, g, i] [0, 0, 0, 0, 0, 0, 0, 0] [a, b, c, d, e, f, g, i] (wds s 64) [a, b, c, d, e, f, g, i]) :=
      have ga := World.grownBy_alloc w1 (.cells (ints [a, b, c, d, e, f, g, i]).toArray 138) none
      ⟨grown_trans g1 ga, Bx.new _ _, B1.kept ga, B0.rd.kept ga, R1.kept ga, B0.rd.kept ga⟩
    have hsz := g1.size
    have n0 : w.heap.size ≤ w1.heap.size := by omega
    have n1 : w.heap.size + 1 ≠ w1.heap.size := by omega
    have n2 : w.heap.size ≠ w1.heap.size := by omega
    have n3 : gb ≠ w1.heap.size := by omega
    have N0 := hide n0
    have N1 := hide n1
    have N2 := hide n2
    have N3 := hide n3
    clear B0 B1 g1 m1 R1 CW hW0 W0 n0 n1 n2 n3 hsz l0 l1 lg
    go_wp2_with fail
    go_loopw [7, 16] (fun _ t wr => ∃ k : Nat, k ≤ 64 ∧ t = .int .i64 k ∧ Inv w wr w1.heap.size (w.heap.size + 1) w.heap.size gb w.heap.size (rr [a, b, c, d, e, f, g, i] (wds s 64) k) [0, 0, 0, 0, 0, 0, 0, 0] [a, b, c, d, e, f, g, i] (wds s 64) [a, b, c, d, e, f, g, i]) (fun _ t _ => 64 - (intOf t).toNat)
    case atStart => exact ⟨0, by omega, rfl, unhide I1⟩
    case round =>
      obtain ⟨k, hk, rfl, hI⟩ := hrel
      clear I1 p0 p1 p2 p3 p4 p5 p6 p7
      have hN := rr_wd (L := [a, b, c, d, e, f, g, i]) (ws := wds s 64) (unhide H8) k
      by_cases hlt : k < 64
      · have i0 : (k : Int) < 64 := by omega
        have CK := hide (fun w => zk.implSumConst (k : Int) w)
        rw [show kc (k : Int) = kL.getD k 0 by unfold zk.kc; rw [if_pos (by omega)]; rfl] at CK
        have x0 := hI.wd k (by rw [wds_length]; exact hlt)
        have CR := hide (fun w' => implRound (rr [a, b, c, d, e, f, g, i] (wds s 64) k) ((kL.getD k 0 + (wds s 64).getD k 0) % 4294967296) w' hN)
        have HR : Hid (rr [a, b, c, d, e, f, g, i] (wds s 64) (k + 1) = rnd (rr [a, b, c, d, e, f, g, i] (wds s 64) k) ((kL.getD k 0 + (wds s 64).getD k 0) % 4294967296)) := rfl
        have HI := hide hI
        have hN2 := rnd_wd hN ((kL.getD k 0 + (wds s 64).getD k 0) % 4294967296)
        obtain ⟨a', b', c', d', e', f', g', i', hE, _⟩ := wd8_parts hN
        rw [hE] at CR HI HR hN2
        obtain ⟨a2, b2, c2, d2, e2, f2, g2, i2, hE2, _⟩ := wd8_parts hN2
        rw [hE2] at CR HR
        have CR' : Hid (∀ w', Calls Tryd.prog 177 #[.agg #[.int .u32 a', .int .u32 b', .int .u32 c', .int .u32 d', .int .u32 e', .int .u32 f', .int .u32 g', .int .u32 i'], .int .u32 ((kL.getD k 0 + (wds s 64).getD k 0) % 4294967296)] w' fun r w'' => r = .returned (.agg #[.int .u32 a2, .int .u32 b2, .int .u32 c2, .int .u32 d2, .int .u32 e2, .int .u32 f2, .int .u32 g2, .int .u32 i2]) ∧ w'.grownBy w'' none) := unhide CR
        have wk : IntKind.u32.wrap (kL.getD k 0 + (wds s 64).getD k 0) = (kL.getD k 0 + (wds s 64).getD k 0) % 4294967296 := IntKind.wrap_u32 _
        generalize (kL.getD k 0 + (wds s 64).getD k 0) % 4294967296 = kk at *
        generalize kL.getD k 0 = x at *
        obtain ⟨y, HYY⟩ : ∃ y, Hid ((wds s 64).getD k 0 = y) := ⟨_, rfl⟩
        rw [show (wds s 64).getD k 0 = y from unhide HYY] at x0 wk
        have CKd := hide (unhide CK wr.drew ((unhide HT).kept (grown_trans (unhide HI).grown (grown_drewN _ 1))))
        have CRd := hide (unhide CR' wr.drew)
        have CC := hide (fun (w' : World) (g' : wr.drew.grownBy w' none) => And.intro ((unhide HI).now.kept (grown_trans (r := none) (grown_drewN wr 1) g')).parts (((unhide HI).wd.kept (grown_trans (r := none) (grown_drewN wr 1) g')) k (by rw [wds_length]; exact hlt)))
        rw [show (wds s 64).getD k 0 = y from unhide HYY] at CC
        obtain ⟨q0, q1, q2, q3, q4, q5, q6, q7, q8⟩ := (unhide HI).now.parts
        clear hI hN hN2 hE hE2 CR CR' CK
        go_wp2_with fail
        go_region_with (first
          | (go_at_call 178; refine (unhide CKd).mono ?_; rintro r w' ⟨rfl, rfl⟩)
          | (go_at_call 177; refine (unhide CRd).mono ?_; rintro r w2 ⟨rfl, g2'⟩; have G2 := hide g2'; obtain ⟨⟨t0, t1, t2, t3, t4, t5, t6, t7, t8⟩, t9⟩ := unhide CC _ g2'; clear g2'))
        all_goals
          have IN := hide (Inv.set8 (a' := a2) (b' := b2) (c' := c2) (d' := d2) (e' := e2) (f' := f2) (i' := g2) (m' := i2) ((unhide HI).kept (grown_trans (r := none) (grown_drewN wr 1) (unhide G2))) (unhide N0) (unhide N1) (unhide N2) (unhide N3) (unhide N2))
          clear t0 t1 t2 t3 t4 t5 t6 t7 t8 t9 q0 q1 q2 q3 q4 q5 q6 q7 q8 CC CRd CKd
          go_wp2_with fail
          go_roundw
          case rel => exact ⟨k + 1, by omega, by go_num, by rw [unhide HR]; exact unhide IN⟩
          case measure => simp [intOf]; omega
      · have i0 : ¬ (k : Int) < 64 := by omega
        have hk' : k = 64 := by omega
        subst hk'
        have HN8 := hide hN
        generalize rr [a, b, c, d, e, f, g, i] (wds s 64) 64 = N at *
        have HI := hide hI
        clear hI hlt hk hN
        go_wp2_with fail
        go_loopw [8, 29] (fun _ t wr => ∃ k : Nat, k ≤ 8 ∧ t = .int .i64 k ∧ Inv w wr w1.heap.size (w.heap.size + 1) w.heap.size gb w.heap.size (ad N [a, b, c, d, e, f, g, i] k) [0, 0, 0, 0, 0, 0, 0, 0] [a, b, c, d, e, f, g, i] (wds s 64) [a, b, c, d, e, f, g, i]) (fun _ t _ => 8 - (intOf t).toNat)
        case atStart => exact ⟨0, by omega, rfl, unhide HI⟩
        case round =>
          obtain ⟨k, hk, rfl, hI⟩ := hrel
          clear HI
          have hal := ad_length N [a, b, c, d, e, f, g, i] k
          rw [(unhide HN8).1] at hal
          by_cases hlt : k < 8
          · have i1 : (k : Int) < 8 := by omega
            have c0 := hI.now.cell k (by omega)
            rw [ad_getD N _ k k (Nat.le_refl _)] at c0
            have c1 := hI.st k hlt
            have c2 := hI.now.frozen k
            have ST := hide (fun (wr' : World) (g' : wr.grownBy wr' none) => (hI.kept g').set (unhide N0) (unhide N1) (unhide N2) (unhide N3) (unhide N2) k ((N.getD k 0 + [a, b, c, d, e, f, g, i].getD k 0) % 4294967296))
            have HA : Hid (ad N [a, b, c, d, e, f, g, i] (k + 1) = (ad N [a, b, c, d, e, f, g, i] k).set k ((N.getD k 0 + [a, b, c, d, e, f, g, i].getD k 0) % 4294967296)) := rfl
            generalize [a, b, c, d, e, f, g, i].getD k 0 = y at *
            generalize N.getD k 0 = x at *
            have R := hide (unhide ST (wr.drewN 1) (grown_drewN _ _))
            clear hI hal ST
            go_wp2
            go_region
            all_goals
              go_wp2
              go_roundw
              case rel => exact ⟨k + 1, by omega, by go_num, by rw [unhide HA]; exact unhide R⟩
              case measure => simp [intOf]; omega
          · have i1 : ¬ (k : Int) < 8 := by omega
            have hk' : k = 8 := by omega
            subst hk'
            have hA := ad_wd (L := [a, b, c, d, e, f, g, i]) (unhide HN8) 8
            obtain ⟨a2, b2, c2, d2, e2, f2, g2, i2, hE2, _⟩ := wd8_parts hA
            rw [hE2] at hI
            have EE := unhide E
            rw [hE2] at EE
            have E2 := hide EE
            obtain ⟨q0, q1, q2, q3, q4, q5, q6, q7, q8⟩ := hI.now.parts
            obtain ⟨r0, r1, r2, r3, r4, r5, r6, r7, r8⟩ := hI.res.parts
            have G := hide hI.grown
            have hrn : ¬ w.heap.size + 1 = w1.heap.size := unhide N1
            clear hA hE2 hI EE E hal
            go_wp2
            refine bodyPost_ret (v := .agg #[.int .u32 a2, .int .u32 b2, .int .u32 c2, .int .u32 d2, .int .u32 e2, .int .u32 f2, .int .u32 g2, .int .u32 i2]) (by simp [results, Tryd.results136, go_sem, r0, r1, r2, r3, r4, r5, r6, r7]) rfl ⟨by rw [unhide E2]; rfl, ?_⟩
            refine set_new (set_new (set_new (set_new (set_new (set_new (set_new (set_new (unhide G) (by omega) _ _) (by omega) _ _) (by omega) _ _) (by omega) _ _) (by omega) _ _) (by omega) _ _) (by omega) _ _) (by omega) _ _
  · have hb : ((s.size : Int) != 64) = true := by simp; omega
    rw [show blk [a, b, c, d, e, f, g, i] s = [a, b, c, d, e, f, g, i] by unfold blk; rw [if_neg h64]]
    show Calls Tryd.prog 136 #[.agg #[.int .u32 a, .int .u32 b, .int .u32 c, .int .u32 d, .int .u32 e, .int .u32 f, .int .u32 g, .int .u32 i], .string s] w fun r w' => r = .returned (.agg #[.int .u32 a, .int .u32 b, .int .u32 c, .int .u32 d, .int .u32 e, .int .u32 f, .int .u32 g, .int .u32 i]) ∧ w.grownBy w' none
    clear h64 hW0 W0
    go_enter Tryd.func136, Tryd.ntmps136
    go_wp2
    refine bodyPost_ret (v := .agg #[.int .u32 a, .int .u32 b, .int .u32 c, .int .u32 d, .int .u32 e, .int .u32 f, .int .u32 g, .int .u32 i]) (by simp [results, Tryd.results136, go_sem]) rfl ⟨rfl, ?_⟩
    exact grown_trans (World.grownBy_alloc _ _ none) (World.grownBy_alloc _ _ none)
end Go.Proofs.YtheigbmkldlicaaDoor.zm
