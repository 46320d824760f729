/- What impl.CnfSort answers at every formula that holds at most 2^20 values: its clauses in order, in memory of their own. -/
import Derived.Test.YtibpnocpafppaaaDoorPi
import Derived.Test.YtibpnocpafppaaaDoorGr
import Derived.Test.YtibpnocpafppaaaDoorOk
import Derived.Test.YtibpnocpafppaaaDoorRow
namespace Go.Proofs.YtibpnocpafppaaaDoor.cso
open Go.ChangeShapes Go.WideShapes Go.ChangeAt Go.RowKit
open Go.Proofs.YtibpnocpafppaaaDoor.sl (Sl Own ints hide unhide grown_refl grown_trans grown_drewN below_of of_below)
open Go.Proofs.YtibpnocpafppaaaDoor.css (Sls OwnS tot)
open Go.Proofs.YtibpnocpafppaaaDoor.cf (Box)
open Go.Proofs.YtibpnocpafppaaaDoor.gr (MidF)
open Go.Proofs.YtibpnocpafppaaaDoor.ok (cnfB)
open Go.Proofs.YtibpnocpafppaaaDoor.ro (cells8 size8 pad pad_len one8 infoRow lits8 lits8_pad)
open Go.Proofs.YtibpnocpafppaaaDoor.mk (Fine)
open Go.Proofs.YtibpnocpafppaaaDoor.cs (Up good oneAll oneAll_mem oneAll_nodup oneAll_len cnfS cnfS_of cnfS_len good_ok good_24 good_len)
open Go.Proofs.YtibpnocpafppaaaDoor.le (lessL)
open Go.Proofs.YtibpnocpafppaaaDoor.rws (cellsR cellsR_len row_kept grown_past)
open Go.Proofs.YtibpnocpafppaaaDoor.pio (Lie OutI rowC rowC_len rowC_one end0)
open Go.Proofs.YtibpnocpafppaaaDoor.srt (Tab)
set_option linter.unusedVariables false
attribute [local go_sem ↓] Go.wp_at_zero Go.wp_at_succ

def srtB (n : Int) (LL : List (List Int)) : Bool := cnfB n LL
def srtN (n : Int) (LL : List (List Int)) : Int := if cnfB n LL then n else 0
def srtR (n : Int) (LL : List (List Int)) : List (List Int) := if cnfB n LL then cnfS LL else []
theorem srt_no {n : Int} {LL : List (List Int)} (h : cnfB n LL = false) : srtN n LL = 0 ∧ srtR n LL = [] ∧ srtB n LL = false := by
  unfold srtN srtR srtB
  rw [h]
  exact ⟨rfl, rfl, rfl⟩
theorem srt_yes {n : Int} {LL : List (List Int)} (h : cnfB n LL = true) : srtN n LL = n ∧ srtR n LL = cnfS LL ∧ srtB n LL = true := by
  unfold srtN srtR srtB
  rw [h]
  exact ⟨rfl, rfl, rfl⟩
theorem ownS_nil (lo hi : Nat) (w : World) : OwnS lo hi w (.slice none 0 0) [] :=
  ⟨[], rfl, World.ownsRow_nil .., (fun k e => by cases e), (fun p hp => by cases hp), .nil⟩
/-- the blocks that both begin with: the formula, the answer's -/
def ini (w : World) (n : Int) (v : Value) : World := (w.alloc (.cells #[.int .i64 n, v] 26)).alloc (.cells #[.int .i64 0, .slice none 0 0] 26)
theorem ini_grown (w : World) (n : Int) (v : Value) : w.grownBy (ini w n v) none := grown_trans (World.grownBy_alloc _ _ _) (World.grownBy_alloc _ _ _)
theorem ini_box0 (w : World) (n : Int) (v : Value) : Box 26 (ini w n v) w.heap.size (.int .i64 n) v := (Box.new 26 w (.int .i64 n) v).kept (World.grownBy_alloc _ _ _)
theorem ini_box1 (w : World) (n : Int) (v : Value) : Box 26 (ini w n v) (w.heap.size + 1) (.int .i64 0) (.slice none 0 0) := by
  have := Box.new 26 (w.alloc (.cells #[.int .i64 n, v] 26)) (.int .i64 0) (.slice none 0 0)
  rw [World.size_alloc] at this
  exact this
theorem ret_no {fn : Func} {p u : Tmp} {a : Act} {w w1 : World} {n : Int} {LL : List (List Int)} (hb : Box 26 w1 (w.heap.size + 1) (.int .i64 0) (.slice none 0 0)) (g : w.grownBy w1 none) (h : cnfB n LL = false)
    (hr : fn.results = #[.cell p 26, .tmp u]) (hp : a.tmps.getD p undef = .pointer (some ⟨w.heap.size + 1, 0, none⟩)) (hu : a.tmps.getD u undef = .bool false) (hd : a.defers = []) :
    bodyPost Tryd.prog fn (fun e w' => ∃ q, e = .returned (.tuple #[.agg #[.int .i64 (srtN n LL), q], .bool (srtB n LL)]) ∧ OwnS w.heap.size w'.heap.size w' q (srtR n LL) ∧ w.grownBy w' none) Exit.ret a ((w1.setCell ⟨w.heap.size + 1, 0, none⟩ (.int .i64 0)).setCell ⟨w.heap.size + 1, 1, none⟩ (.slice none 0 0)) := by
  refine bodyPost_ret (cf.ret_box2 hr hp ((hb.set0 (.int .i64 0)).set1 (.slice none 0 0))) hd ⟨.slice none 0 0, ?_, ?_, cf.grown_set (cf.grown_set g (by omega)) (by omega)⟩
  · rw [hu, (srt_no h).1, (srt_no h).2.2]
  · rw [(srt_no h).2.1]
    exact ownS_nil _ _ _
theorem midA {w w2 : World} {n : Int} {len : Nat} {Bs : List (Nat × Value × Value)} (g : w.grownBy w2 none) (hl : len ≤ 1048576) (hB : ∀ b ∈ Bs, Box 26 w2 b.1 b.2.1 b.2.2) :
    MidF w ((w2.alloc (.cells (madeCells #[.slice none 0 0] len) 31)).alloc (.cells #[.int .i64 n, .slice (some ⟨w2.heap.size, 0, none⟩) 0 len] 26)).drew (w2.heap.size + 1) n [] Bs := by
  have gs := g.size
  have g1 := World.grownBy_alloc w2 (.cells (madeCells #[.slice none 0 0] len) 31) none
  have g2 := World.grownBy_alloc (w2.alloc (.cells (madeCells #[.slice none 0 0] len) 31)) (.cells #[.int .i64 n, .slice (some ⟨w2.heap.size, 0, none⟩) 0 len] 26) none
  have gd := cf.grown_drew ((w2.alloc (.cells (madeCells #[.slice none 0 0] len) 31)).alloc (.cells #[.int .i64 n, .slice (some ⟨w2.heap.size, 0, none⟩) 0 len] 26)) none
  have gg := grown_trans (r := none) (grown_trans (r := none) g1 g2) gd
  refine ⟨by omega, grown_trans g gg, fun b hb => ⟨?_, (hB b hb).kept gg⟩, some ⟨w2.heap.size, 0, none⟩, len, ?_, ?_⟩
  · have := (hB b hb).lt
    omega
  · have := (Box.new 26 (w2.alloc (.cells (madeCells #[.slice none 0 0] len) 31)) (.int .i64 n) (.slice (some ⟨w2.heap.size, 0, none⟩) 0 len)).kept gd
    rw [World.size_alloc] at this
    exact this
  · exact (((gr.ownS_made w2 len w.heap.size gs hl).kept g2).kept gd).sub (Nat.le_refl _) (by show _ ≤ (World.alloc _ _).heap.size; rw [World.size_alloc, World.size_alloc]; omega)
theorem midB {w w2 : World} {n : Int} {len : Nat} {Bs : List (Nat × Value × Value)} (g : w.grownBy w2 none) (hl : len ≤ 1048576) (hB : ∀ b ∈ Bs, Box 26 w2 b.1 b.2.1 b.2.2) :
    MidF w ((w2.alloc (.cells #[.int .i64 n, .slice (some ⟨w2.heap.size + 1, 0, none⟩) 0 len] 26)).alloc (.cells (madeCells #[.slice none 0 0] len) 31)).drew w2.heap.size n [] Bs := by
  have gs := g.size
  have g1 := World.grownBy_alloc w2 (.cells #[.int .i64 n, .slice (some ⟨w2.heap.size + 1, 0, none⟩) 0 len] 26) none
  have g2 := World.grownBy_alloc (w2.alloc (.cells #[.int .i64 n, .slice (some ⟨w2.heap.size + 1, 0, none⟩) 0 len] 26)) (.cells (madeCells #[.slice none 0 0] len) 31) none
  have gd := cf.grown_drew ((w2.alloc (.cells #[.int .i64 n, .slice (some ⟨w2.heap.size + 1, 0, none⟩) 0 len] 26)).alloc (.cells (madeCells #[.slice none 0 0] len) 31)) none
  have gg := grown_trans (r := none) (grown_trans (r := none) g1 g2) gd
  refine ⟨by omega, grown_trans g gg, fun b hb => ⟨?_, (hB b hb).kept gg⟩, some ⟨w2.heap.size + 1, 0, none⟩, len, ?_, ?_⟩
  · have := (hB b hb).lt
    omega
  · exact ((Box.new 26 w2 (.int .i64 n) (.slice (some ⟨w2.heap.size + 1, 0, none⟩) 0 len)).kept g2).kept gd
  · have := gr.ownS_made (w2.alloc (.cells #[.int .i64 n, .slice (some ⟨w2.heap.size + 1, 0, none⟩) 0 len] 26)) len w.heap.size (by rw [World.size_alloc]; omega) hl
    rw [World.size_alloc] at this
    exact (this.kept gd).sub (Nat.le_refl _) (by show _ ≤ (World.alloc _ _).heap.size; rw [World.size_alloc, World.size_alloc]; omega)

/-- no rows -/
theorem putNil (w : World) : Calls Tryd.prog 65 #[.slice none 0 0, .func (.func 66) #[] #[]] w fun e w' => e = .returned (.tuple #[]) ∧ w' = w := by
  go_enter Tryd.func65, Tryd.ntmps65
  go_wp2_with fail
  go_loop [8] (fun i => i = .int .i64 0) (fun _ => 0)
  case atStart => rfl
  case round =>
    subst hrel
    go_wp2_with fail
    exact end0 rfl rfl ⟨rfl, rfl⟩
/-- rows put in order, wherever they lie -/
theorem putAny (lo : Nat) (u : Value) (X : List (List Int)) (w : World) (hX : ∀ L ∈ X, Fine L) (hn : X.Nodup) (hl : X.length ≤ 1048576) (h : w.ownsRow lo 69 24 u X.length (cellsR X)) :
    Calls Tryd.prog 65 #[u, .func (.func 66) #[] #[]] w fun e w' => e = .returned (.tuple #[]) ∧ ∃ X', w'.ownsRow lo 69 24 u X'.length (cellsR X') ∧ Up lessL X' ∧ (∀ x, x ∈ X' ↔ x ∈ X) ∧ w.grownBy w' u.ownBlock := by
  have h' := h
  rcases h.2 with ⟨rfl, h0⟩ | ⟨g, cap, cur, rfl, _⟩
  · have e : X = [] := List.eq_nil_of_length_eq_zero h0
    subst e
    exact (putNil w).mono fun e w' h => ⟨h.1, [], by rw [h.2]; exact h', List.Pairwise.nil, by simp, by rw [h.2]; exact grown_refl w⟩
  · exact (pio.putInOrder lo g cap X w hX hn hl h').mono fun e w' h => by
      obtain ⟨h1, h2, S, h3, h4, h5, h6⟩ := h
      rw [List.drop_eq_nil_of_le (Nat.le_refl _), List.append_nil] at h3
      rw [List.take_of_length_le (Nat.le_refl _)] at h6
      exact ⟨h1, S, by rw [h4]; exact h3, h5, h6, h2⟩
theorem grown_own {w w1 w2 : World} {v : Value} {lo n z : Nat} {xs : List Value} {t : TypeId} (g : w.grownBy w1 none) (h : w1.ownsRow lo t z v n xs) (hlo : w.heap.size ≤ lo) (g1 : w1.grownBy w2 v.ownBlock) : w.grownBy w2 none :=
  ⟨g1.os.trans g.os, g1.tape.trans g.tape, g1.output.trans g.output, Nat.le_trans g.size g1.size, fun k hk _ => by
    rw [g1.block k (Nat.lt_of_lt_of_le hk g.size) (fun e => by have := (h.lt k e.symm).1; omega)]
    exact g.block k hk (fun e => by cases e)⟩
theorem rows_form {lo : Nat} {w : World} {u : Value} {X : List (List Int)} (h : w.ownsRow lo 69 24 u X.length (cellsR X)) : ∃ ua uc, u = .slice ua X.length uc ∧ (X = [] ∨ ∃ g, ua = some ⟨g, 0, none⟩ ∧ Lie lo w g X.length uc X) := by
  have h' := h
  rcases h.2 with ⟨rfl, h0⟩ | ⟨g, cap, cur, rfl, _⟩
  · exact ⟨none, 0, by rw [h0], .inl (List.eq_nil_of_length_eq_zero h0)⟩
  · exact ⟨_, cap, rfl, .inr ⟨g, rfl, h'⟩⟩
theorem fine_good {LL : List (List Int)} : ∀ L ∈ oneAll (good LL), Fine L := fun L hL => ⟨good_24 ((oneAll_mem _).1 hL), good_ok ((oneAll_mem _).1 hL)⟩
theorem fine_srt {LL : List (List Int)} : ∀ L ∈ cnfS LL, Fine L := fun L hL => ⟨good_24 (cs.cnfS_mem.1 hL), good_ok (cs.cnfS_mem.1 hL)⟩

set_option maxRecDepth 10000 in
set_option maxHeartbeats 4000000 in
theorem implCnfSort (v : Value) (n : Int) (LL : List (List Int)) (w : World) (hT : Tab w) (hn : tot LL ≤ 1048576) (hv : Sls w v LL) :
    Calls Tryd.prog 19 #[.agg #[.int .i64 n, v]] w fun e w' => ∃ u, e = .returned (.tuple #[.agg #[.int .i64 (srtN n LL), u], .bool (srtB n LL)]) ∧ OwnS w.heap.size w'.heap.size w' u (srtR n LL) ∧ w.grownBy w' none := by
  have hl := Nat.le_trans (css.tot_len LL) hn
  have cc := ok.implCnfOk v n LL (ini w n v) hn (hv.kept (ini_grown w n v))
  have I0 := hide (ini_grown w n v)
  have I1 := hide (ini_box0 w n v)
  have I2 := hide (ini_box1 w n v)
  unfold ini at cc I0 I1 I2
  cases hb : cnfB n LL
  · rw [hb] at cc
    have CC := hide cc
    have E := hide hb
    clear cc hb hv
    go_enter Tryd.func19, Tryd.ntmps19
    go_wp2_with fail
    refine (unhide CC).mono ?_; rintro e w2 ⟨rfl, g2⟩
    have b2 := (unhide I2).kept g2
    have r0 := b2.c0
    have r1 := b2.c1
    have f0 := b2.f 0
    have f1 := b2.f 1
    have B2 := hide b2
    have G2 := hide (grown_trans (r := none) (unhide I0) g2)
    clear b2 g2
    go_wp2_with fail
    (try simp only [Exit.inBlock, Exit.then])
    exact ret_no (unhide B2) (unhide G2) (unhide E) rfl (by rfl) (by rfl) (by rfl)
  · rw [hb] at cc
    have CC := hide cc
    have E := hide hb
    have HV := hide hv
    have HT := hide hT
    obtain ⟨a, cap, rfl, _⟩ := hv
    clear cc hb hT
    go_enter Tryd.func19, Tryd.ntmps19
    go_wp2_with fail
    refine (unhide CC).mono ?_; rintro e w2 ⟨rfl, g2⟩
    have b1 := (unhide I1).kept g2
    have B2 := hide ((unhide I2).kept g2)
    have B1 := hide b1
    have k0 := b1.c0
    have k1 := b1.c1
    have G2 := hide (grown_trans (r := none) (unhide I0) g2)
    clear b1 g2 CC I0 I1 I2
    go_wp2_with fail
    refine (rws.rowsOf (.slice a LL.length cap) LL w2 ((unhide HT).kept (unhide G2)) hn ((unhide HV).kept (unhide G2))).mono ?_; rintro e w3 ⟨u, rfl, o3, g3⟩
    have lo3 : w.heap.size ≤ w2.heap.size := (unhide G2).size
    have cp := putAny w2.heap.size u (oneAll (good LL)) w3 fine_good (oneAll_nodup _) (Nat.le_trans (oneAll_len _) (Nat.le_trans (good_len _) hl)) o3
    have CP := hide cp
    have O3 := hide o3
    have G3 := hide g3
    clear cp o3 g3 k0 k1
    go_wp2_with fail
    refine (unhide CP).mono ?_; rintro e w4 ⟨rfl, X, o4, u4, m4, g4⟩
    obtain rfl : X = cnfS LL := cnfS_of u4 m4
    have G24 := grown_own (unhide G3) (unhide O3) (Nat.le_refl _) g4
    have b1 := (unhide B1).kept G24
    have b2 := (unhide B2).kept G24
    have G4 := hide (grown_trans (r := none) (unhide G2) G24)
    have SR := hide (srt_yes (unhide E))
    have hXf := hide (fine_srt (LL := LL))
    have hXl := cnfS_len LL
    generalize cnfS LL = X at *
    have hX2 : X.length ≤ 1048576 := by omega
    obtain ⟨ua, uc, rfl, FR⟩ := rows_form o4
    have HR := hide FR
    have BB : Hid (∀ b ∈ [(w.heap.size, Value.int .i64 n, Value.slice a LL.length cap), (w.heap.size + 1, Value.int .i64 0, Value.slice none 0 0)], Box 26 w4 b.1 b.2.1 b.2.2) := by
      intro b hb
      simp only [List.mem_cons, List.not_mem_nil, or_false] at hb
      rcases hb with rfl | rfl
      · exact b1
      · exact b2
    have k0 := b1.c0
    have k1 := b1.c1
    clear FR b1 b2 G24 g4 u4 m4 O3 G3 G2 B1 B2 CP HV HT o4 hXl E
    go_upto_region 5 with fail
    go_cut [5] (fun p wx => ∃ c, p = .pointer (some ⟨c, 0, none⟩) ∧ Hid (MidF w4 wx c n [] [(w.heap.size, Value.int .i64 n, Value.slice a LL.length cap), (w.heap.size + 1, Value.int .i64 0, Value.slice none 0 0)]))
    case first =>
      have hmk := gr.mk0 X.length hX2
      have hp : (0 : Int) ≤ (X.length : Int) := Int.natCast_nonneg _
      have MA := hide (midA (n := n) (grown_refl w4) hX2 (unhide BB))
      have MB := hide (midB (n := n) (grown_refl w4) hX2 (unhide BB))
      clear BB G4 HR
      have ne0 := World.new_ne w4 _ k0
      go_region_held3 (fun w' => w'.cell? ⟨w.heap.size, 0, none⟩ = some (.int .i64 n)) (go_keep) (fail)
      all_goals go_wp2_with fail
      · go_meet
        exact ⟨_, rfl, MA⟩
      · go_meet
        exact ⟨_, rfl, MB⟩
    case rest =>
      obtain ⟨c, rfl, hm0⟩ := hcut
      clear BB k0 k1
      go_wp2_with fail
      go_loopw [25] (fun i wr => ∃ k : Nat, k ≤ X.length ∧ i = .int .i64 k ∧ Hid (MidF w4 wr c n (X.take k) [(w.heap.size, Value.int .i64 n, Value.slice a LL.length cap), (w.heap.size + 1, Value.int .i64 0, Value.slice none 0 0)])) (fun i _ => X.length - (intOf i).toNat)
      case atStart => exact ⟨0, Nat.zero_le _, rfl, hm0⟩
      case round =>
        obtain ⟨k, hk, rfl, hm⟩ := hrel
        clear hm0
        by_cases hlt : k < X.length
        · rcases unhide HR with h | ⟨g, rfl, hLie⟩
          · rw [h] at hlt
            simp at hlt
          · have hg := (unhide hm).grown
            have hi' : (k : Int) < (X.length : Int) := by omega
            have h0' : (0 : Int) ≤ (k : Int) := by omega
            have hts := css.take_snoc X k hlt
            have hfc : Fine (X.getD k []) := unhide hXf _ (by rw [show X.getD k [] = X[k] by simp [hlt]]; exact List.getElem_mem hlt)
            have hsp : X = X.take k ++ X.getD k [] :: X.drop (k + 1) := by
              rw [show X.getD k [] = X[k] by simp [hlt], ← List.drop_eq_getElem_cons hlt, List.take_append_drop]
            have hL2 : Lie w2.heap.size w4 g X.length uc (X.take k ++ X.getD k [] :: X.drop (k + 1)) := by rw [← hsp]; exact hLie
            have rg : wr.rangeAt g (k * 24) (rowC (X.getD k [])) := pio.range_kept (hL2.range (fun L hL => unhide hXf L (List.mem_of_mem_take hL)) (by rw [List.length_take, Nat.min_eq_left (by omega)])) hg
            generalize X.getD k [] = d at *
            have HTS := hide hts
            have hM : (X.take k).length ≤ 1048576 := by rw [List.length_take]; omega
            generalize X.take k = M at *
            have hu := Tryd.underlying69
            have la := rowC_len hfc
            have oa := rowC_one d
            have ia : (Tryd.prog.info? 69).map (·.size) = some (rowC d).length := by rw [la]; exact infoRow
            have M5 := hide ((unhide hm).kept (rws.row_new wr #[.int .i8 0, .int .i8 0, .int .i8 0, .int .i8 0, .int .i8 0, .int .i8 0, .int .i8 0, .int .i8 0, .int .i8 0, .int .i8 0, .int .i8 0, .int .i8 0, .int .i8 0, .int .i8 0, .int .i8 0, .int .i8 0, .int .i8 0, .int .i8 0, .int .i8 0, .int .i8 0, .int .i8 0, .int .i8 0, .int .i8 0, .int .i8 0] (rowC d).toArray))
            have hr := Go.heap_alloc_new wr (.cells #[.int .i8 0, .int .i8 0, .int .i8 0, .int .i8 0, .int .i8 0, .int .i8 0, .int .i8 0, .int .i8 0, .int .i8 0, .int .i8 0, .int .i8 0, .int .i8 0, .int .i8 0, .int .i8 0, .int .i8 0, .int .i8 0, .int .i8 0, .int .i8 0, .int .i8 0, .int .i8 0, .int .i8 0, .int .i8 0, .int .i8 0, .int .i8 0] 69)
            have ia2 : (Tryd.prog.info? 69).map (·.size) = some (rowC d).toArray.size := by rw [List.size_toArray]; exact ia
            have one : (rowC d).toArray.all (·.oneCell') = true := all_oneCell_toArray oa
            have hg5 := setRow_heap (wr.alloc (.cells #[.int .i8 0, .int .i8 0, .int .i8 0, .int .i8 0, .int .i8 0, .int .i8 0, .int .i8 0, .int .i8 0, .int .i8 0, .int .i8 0, .int .i8 0, .int .i8 0, .int .i8 0, .int .i8 0, .int .i8 0, .int .i8 0, .int .i8 0, .int .i8 0, .int .i8 0, .int .i8 0, .int .i8 0, .int .i8 0, .int .i8 0, .int .i8 0] 69)) wr.heap.size _ (rowC d).toArray _ _ hr
            have CL := fun w' => ro.rowList (pad d) w' (pad_len hfc.1) (mk.pad_bd hfc)
            rw [lits8_pad d (fun x hx => (lits.okB_iff.1 (hfc.2 x hx)).1), show cells8 (pad d) = (rowC d).toArray by simp [pio.rowC]] at CL
            have HCL := hide CL
            have HG5 := hide hg5
            clear hsp hL2 hLie hts hm hfc CL hg5 HR hg
            generalize rowC d = cs at *
            go_wp2_with (first | (refine wpList_load_mid rfl 69 _ rfl g (k * 24) rfl cs _ rg hu rfl ia ?_) | (refine wpList_store_row rfl 69 _ _ rfl wr.heap.size cs.toArray rfl rfl 69 _ hr ia2 ?_ ?_ ?_))
            · exact (show (24 : Nat) = cs.toArray.size by rw [List.size_toArray, la])
            · exact one
            generalize hW5 : (wr.alloc (.cells #[.int .i8 0, .int .i8 0, .int .i8 0, .int .i8 0, .int .i8 0, .int .i8 0, .int .i8 0, .int .i8 0, .int .i8 0, .int .i8 0, .int .i8 0, .int .i8 0, .int .i8 0, .int .i8 0, .int .i8 0, .int .i8 0, .int .i8 0, .int .i8 0, .int .i8 0, .int .i8 0, .int .i8 0, .int .i8 0, .int .i8 0, .int .i8 0] 69)).setRow wr.heap.size cs.toArray = w5 at *
            clear hW5 hr rg one ia2
            have rg : w5.rangeAt wr.heap.size 0 cs := by
              intro j v hv
              rw [Nat.zero_add, cell_of_row _ _ j cs.toArray _ _ (unhide HG5)]
              simpa using hv
            generalize wr.heap.size = b7 at *
            obtain ⟨q0, q1, q2, oa', ocap, q3, q4⟩ := unhide M5
            have o1 := q3.c1
            have Q0 := hide q0
            have Q1 := hide q1
            have Q2 := hide q2
            have Q3 := hide q3
            have Q4 := hide q4
            clear M5 q0 q1 q2 q3 q4 HG5
            refine pio.region_drew (by kernel_rfl) ?_
            refine wpAny_take (i := 0) (v := ?vz1) rfl (by kernel_rfl) (by kernel_rfl) (by kernel_rfl) (fun _ _ _ h => h) (Or.inl ⟨by rfl, ?yz1⟩) ?rz1
            case yz1 => first | (intro w; go_simp; done) | (intro w; go_simp; with_reducible rfl)
            simp only [Act.put, List.getElem_toArray, List.getElem_cons_zero, List.setIfInBounds_toArray, List.set_cons_zero, List.set_cons_succ]
            refine wpAny_ready (rs := [1, 2]) (by kernel_rfl) (by simp) ?_
            refine AllReady.cons rfl (fun K hK => ?_) (AllReady.cons rfl (fun K hK => ?_) AllReady.nil)
            · rw [if_pos (by rfl)]
              simp only [List.getElem_toArray, List.getElem_cons_succ, List.getElem_cons_zero]
              go_simp
              refine hK _ _ ?_
              clear hK K
              refine wpAny_ready (rs := [2]) (by kernel_rfl) (by simp) ?_
              refine AllReady.cons rfl (fun K hK => ?_) AllReady.nil
              rw [if_pos (by rfl)]
              refine wp_load_mid _ _ rfl _ _ rfl cs _ rg hu rfl ia ?_
              refine hK _ _ ?_
              clear hK K
              simp only [Act.put, List.getElem_toArray, List.getElem_cons_succ, List.getElem_cons_zero, List.setIfInBounds_toArray, List.set_cons_zero, List.set_cons_succ]
              refine wpAny_ready (rs := [3]) (by kernel_rfl) (by simp) ?_
              refine AllReady.cons rfl (fun K hK => ?_) AllReady.nil
              rw [if_pos (by rfl)]
              simp only [List.getElem_toArray, List.getElem_cons_succ, List.getElem_cons_zero]
              go_simp
              refine (unhide HCL w5.drew).mono ?_
              rintro e w6 ⟨u6, rfl, o6, g6⟩
              obtain ⟨ya, yc, rfl, _⟩ := (sl.Own.of o6).sl
              have G6 := hide (grown_trans (r := none) (cf.grown_drew w5 none) g6)
              have U6 := hide (sl.Own.of o6)
              have k1 := ((unhide Q3).kept (unhide G6)).c1
              have k2 := ((unhide Q3).kept (unhide G6)).f 1
              have k9 := (((unhide Q3).kept (unhide G6)).kept (World.grownBy_alloc w6 (.cells #[.slice ya d.length yc] 31) none)).c1
              clear o6 g6
              refine hK _ _ ?_
              clear hK K
              refine wpAny_ready (rs := [4]) (by kernel_rfl) (by simp) ?_
              refine AllReady.cons rfl (fun K hK => ?_) AllReady.nil
              rw [if_pos (by rfl)]
              simp only [List.getElem_toArray, List.getElem_cons_succ, List.getElem_cons_zero]
              go_simp
              refine hK _ _ ?_
              clear hK K
              refine wpAny_ready (rs := [5]) (by kernel_rfl) (by simp) ?_
              refine AllReady.cons rfl (fun K hK => ?_) AllReady.nil
              refine gr.stepR ((unhide Q4).kept (unhide G6)) (unhide U6) (unhide Q1).size (unhide G6).size hM (by rfl) _ _ (by rfl) (by rfl) (by rfl) ?_
              intro g7 cap7 w7 h7 g7'
              have R7 := hide (gr.MidF.step (unhide Q0) (unhide Q1) (unhide Q2) (unhide Q3) (unhide Q4) (unhide G6) h7 g7')
              have k3 := (unhide R7).1.1
              have k4 := (unhide R7).1.2.1
              clear h7 g7'
              refine hK _ _ ?_
              clear hK K
              simp only [Act.put, List.getElem_toArray, List.getElem_cons_succ, List.getElem_cons_zero, List.setIfInBounds_toArray, List.set_cons_zero, List.set_cons_succ]
              refine wpAny_take (i := 6) (v := ?vz2) rfl (by kernel_rfl) (by kernel_rfl) (by kernel_rfl) (fun _ _ _ h => h) (Or.inl ⟨by rfl, ?yz2⟩) ?rz2
              case yz2 => first | (intro w; go_simp; done) | (intro w; go_simp; with_reducible rfl)
              simp only [Act.put, List.getElem_toArray, List.getElem_cons_succ, List.getElem_cons_zero, List.setIfInBounds_toArray, List.set_cons_zero, List.set_cons_succ]
              refine wpAny_ready (rs := [7]) (by kernel_rfl) (by simp) ?_
              refine AllReady.cons rfl (fun K hK => ?_) AllReady.nil
              rw [if_pos (by rfl)]
              simp only [List.getElem_toArray, List.getElem_cons_succ, List.getElem_cons_zero]
              go_simp
              refine hK _ _ ?_
              clear hK K
              refine wpAny_done (by kernel_rfl) ?_ _
              go_wp2_with fail
              go_roundw
              case rel => exact ⟨k + 1, by omega, by go_num, by rw [unhide HTS]; exact (unhide R7).2⟩
              case measure => simp [intOf]; omega
            · rw [if_pos (by rfl)]
              refine wp_load_mid _ _ rfl _ _ rfl cs _ rg hu rfl ia ?_
              refine hK _ _ ?_
              clear hK K
              simp only [Act.put, List.getElem_toArray, List.getElem_cons_succ, List.getElem_cons_zero, List.setIfInBounds_toArray, List.set_cons_zero, List.set_cons_succ]
              refine wpAny_ready (rs := [1, 3]) (by kernel_rfl) (by simp) ?_
              refine AllReady.cons rfl (fun K hK => ?_) (AllReady.cons rfl (fun K hK => ?_) AllReady.nil)
              · rw [if_pos (by rfl)]
                simp only [List.getElem_toArray, List.getElem_cons_succ, List.getElem_cons_zero]
                go_simp
                refine hK _ _ ?_
                clear hK K
                refine wpAny_ready (rs := [3]) (by kernel_rfl) (by simp) ?_
                refine AllReady.cons rfl (fun K hK => ?_) AllReady.nil
                rw [if_pos (by rfl)]
                simp only [List.getElem_toArray, List.getElem_cons_succ, List.getElem_cons_zero]
                go_simp
                refine (unhide HCL w5.drew).mono ?_
                rintro e w6 ⟨u6, rfl, o6, g6⟩
                obtain ⟨ya, yc, rfl, _⟩ := (sl.Own.of o6).sl
                have G6 := hide (grown_trans (r := none) (cf.grown_drew w5 none) g6)
                have U6 := hide (sl.Own.of o6)
                have k1 := ((unhide Q3).kept (unhide G6)).c1
                have k2 := ((unhide Q3).kept (unhide G6)).f 1
                have k9 := (((unhide Q3).kept (unhide G6)).kept (World.grownBy_alloc w6 (.cells #[.slice ya d.length yc] 31) none)).c1
                clear o6 g6
                refine hK _ _ ?_
                clear hK K
                refine wpAny_ready (rs := [4]) (by kernel_rfl) (by simp) ?_
                refine AllReady.cons rfl (fun K hK => ?_) AllReady.nil
                rw [if_pos (by rfl)]
                simp only [List.getElem_toArray, List.getElem_cons_succ, List.getElem_cons_zero]
                go_simp
                refine hK _ _ ?_
                clear hK K
                refine wpAny_ready (rs := [5]) (by kernel_rfl) (by simp) ?_
                refine AllReady.cons rfl (fun K hK => ?_) AllReady.nil
                refine gr.stepR ((unhide Q4).kept (unhide G6)) (unhide U6) (unhide Q1).size (unhide G6).size hM (by rfl) _ _ (by rfl) (by rfl) (by rfl) ?_
                intro g7 cap7 w7 h7 g7'
                have R7 := hide (gr.MidF.step (unhide Q0) (unhide Q1) (unhide Q2) (unhide Q3) (unhide Q4) (unhide G6) h7 g7')
                have k3 := (unhide R7).1.1
                have k4 := (unhide R7).1.2.1
                clear h7 g7'
                refine hK _ _ ?_
                clear hK K
                simp only [Act.put, List.getElem_toArray, List.getElem_cons_succ, List.getElem_cons_zero, List.setIfInBounds_toArray, List.set_cons_zero, List.set_cons_succ]
                refine wpAny_take (i := 6) (v := ?vz3) rfl (by kernel_rfl) (by kernel_rfl) (by kernel_rfl) (fun _ _ _ h => h) (Or.inl ⟨by rfl, ?yz3⟩) ?rz3
                case yz3 => first | (intro w; go_simp; done) | (intro w; go_simp; with_reducible rfl)
                simp only [Act.put, List.getElem_toArray, List.getElem_cons_succ, List.getElem_cons_zero, List.setIfInBounds_toArray, List.set_cons_zero, List.set_cons_succ]
                refine wpAny_ready (rs := [7]) (by kernel_rfl) (by simp) ?_
                refine AllReady.cons rfl (fun K hK => ?_) AllReady.nil
                rw [if_pos (by rfl)]
                simp only [List.getElem_toArray, List.getElem_cons_succ, List.getElem_cons_zero]
                go_simp
                refine hK _ _ ?_
                clear hK K
                refine wpAny_done (by kernel_rfl) ?_ _
                go_wp2_with fail
                go_roundw
                case rel => exact ⟨k + 1, by omega, by go_num, by rw [unhide HTS]; exact (unhide R7).2⟩
                case measure => simp [intOf]; omega
              · rw [if_pos (by rfl)]
                simp only [List.getElem_toArray, List.getElem_cons_succ, List.getElem_cons_zero]
                go_simp
                refine (unhide HCL w5.drew).mono ?_
                rintro e w6 ⟨u6, rfl, o6, g6⟩
                obtain ⟨ya, yc, rfl, _⟩ := (sl.Own.of o6).sl
                have G6 := hide (grown_trans (r := none) (cf.grown_drew w5 none) g6)
                have U6 := hide (sl.Own.of o6)
                have k1 := ((unhide Q3).kept (unhide G6)).c1
                have k2 := ((unhide Q3).kept (unhide G6)).f 1
                have k9 := (((unhide Q3).kept (unhide G6)).kept (World.grownBy_alloc w6 (.cells #[.slice ya d.length yc] 31) none)).c1
                clear o6 g6
                refine hK _ _ ?_
                clear hK K
                refine wpAny_ready (rs := [1, 4]) (by kernel_rfl) (by simp) ?_
                refine AllReady.cons rfl (fun K hK => ?_) (AllReady.cons rfl (fun K hK => ?_) AllReady.nil)
                · rw [if_pos (by rfl)]
                  simp only [List.getElem_toArray, List.getElem_cons_succ, List.getElem_cons_zero]
                  go_simp
                  refine hK _ _ ?_
                  clear hK K
                  refine wpAny_ready (rs := [4]) (by kernel_rfl) (by simp) ?_
                  refine AllReady.cons rfl (fun K hK => ?_) AllReady.nil
                  rw [if_pos (by rfl)]
                  simp only [List.getElem_toArray, List.getElem_cons_succ, List.getElem_cons_zero]
                  go_simp
                  refine hK _ _ ?_
                  clear hK K
                  refine wpAny_ready (rs := [5]) (by kernel_rfl) (by simp) ?_
                  refine AllReady.cons rfl (fun K hK => ?_) AllReady.nil
                  refine gr.stepR ((unhide Q4).kept (unhide G6)) (unhide U6) (unhide Q1).size (unhide G6).size hM (by rfl) _ _ (by rfl) (by rfl) (by rfl) ?_
                  intro g7 cap7 w7 h7 g7'
                  have R7 := hide (gr.MidF.step (unhide Q0) (unhide Q1) (unhide Q2) (unhide Q3) (unhide Q4) (unhide G6) h7 g7')
                  have k3 := (unhide R7).1.1
                  have k4 := (unhide R7).1.2.1
                  clear h7 g7'
                  refine hK _ _ ?_
                  clear hK K
                  simp only [Act.put, List.getElem_toArray, List.getElem_cons_succ, List.getElem_cons_zero, List.setIfInBounds_toArray, List.set_cons_zero, List.set_cons_succ]
                  refine wpAny_take (i := 6) (v := ?vz4) rfl (by kernel_rfl) (by kernel_rfl) (by kernel_rfl) (fun _ _ _ h => h) (Or.inl ⟨by rfl, ?yz4⟩) ?rz4
                  case yz4 => first | (intro w; go_simp; done) | (intro w; go_simp; with_reducible rfl)
                  simp only [Act.put, List.getElem_toArray, List.getElem_cons_succ, List.getElem_cons_zero, List.setIfInBounds_toArray, List.set_cons_zero, List.set_cons_succ]
                  refine wpAny_ready (rs := [7]) (by kernel_rfl) (by simp) ?_
                  refine AllReady.cons rfl (fun K hK => ?_) AllReady.nil
                  rw [if_pos (by rfl)]
                  simp only [List.getElem_toArray, List.getElem_cons_succ, List.getElem_cons_zero]
                  go_simp
                  refine hK _ _ ?_
                  clear hK K
                  refine wpAny_done (by kernel_rfl) ?_ _
                  go_wp2_with fail
                  go_roundw
                  case rel => exact ⟨k + 1, by omega, by go_num, by rw [unhide HTS]; exact (unhide R7).2⟩
                  case measure => simp [intOf]; omega
                · rw [if_pos (by rfl)]
                  simp only [List.getElem_toArray, List.getElem_cons_succ, List.getElem_cons_zero]
                  go_simp
                  refine hK _ _ ?_
                  clear hK K
                  refine wpAny_ready (rs := [1]) (by kernel_rfl) (by simp) ?_
                  refine AllReady.cons rfl (fun K hK => ?_) AllReady.nil
                  rw [if_pos (by rfl)]
                  simp only [List.getElem_toArray, List.getElem_cons_succ, List.getElem_cons_zero]
                  go_simp
                  refine hK _ _ ?_
                  clear hK K
                  refine wpAny_ready (rs := [5]) (by kernel_rfl) (by simp) ?_
                  refine AllReady.cons rfl (fun K hK => ?_) AllReady.nil
                  refine gr.stepR ((unhide Q4).kept (unhide G6)) (unhide U6) (unhide Q1).size (unhide G6).size hM (by rfl) _ _ (by rfl) (by rfl) (by rfl) ?_
                  intro g7 cap7 w7 h7 g7'
                  have R7 := hide (gr.MidF.step (unhide Q0) (unhide Q1) (unhide Q2) (unhide Q3) (unhide Q4) (unhide G6) h7 g7')
                  have k3 := (unhide R7).1.1
                  have k4 := (unhide R7).1.2.1
                  clear h7 g7'
                  refine hK _ _ ?_
                  clear hK K
                  simp only [Act.put, List.getElem_toArray, List.getElem_cons_succ, List.getElem_cons_zero, List.setIfInBounds_toArray, List.set_cons_zero, List.set_cons_succ]
                  refine wpAny_take (i := 6) (v := ?vz5) rfl (by kernel_rfl) (by kernel_rfl) (by kernel_rfl) (fun _ _ _ h => h) (Or.inl ⟨by rfl, ?yz5⟩) ?rz5
                  case yz5 => first | (intro w; go_simp; done) | (intro w; go_simp; with_reducible rfl)
                  simp only [Act.put, List.getElem_toArray, List.getElem_cons_succ, List.getElem_cons_zero, List.setIfInBounds_toArray, List.set_cons_zero, List.set_cons_succ]
                  refine wpAny_ready (rs := [7]) (by kernel_rfl) (by simp) ?_
                  refine AllReady.cons rfl (fun K hK => ?_) AllReady.nil
                  rw [if_pos (by rfl)]
                  simp only [List.getElem_toArray, List.getElem_cons_succ, List.getElem_cons_zero]
                  go_simp
                  refine hK _ _ ?_
                  clear hK K
                  refine wpAny_done (by kernel_rfl) ?_ _
                  go_wp2_with fail
                  go_roundw
                  case rel => exact ⟨k + 1, by omega, by go_num, by rw [unhide HTS]; exact (unhide R7).2⟩
                  case measure => simp [intOf]; omega
        · have hi' : ¬ (k : Int) < (X.length : Int) := by omega
          have e : X.take k = X := List.take_of_length_le (by omega)
          rw [e] at hm
          have br := (unhide hm).box (w.heap.size + 1) (.int .i64 0) (.slice none 0 0) (by simp)
          obtain ⟨q0, q1, q2, oa, ocap, q3, q4⟩ := unhide hm
          have r0 := br.c0
          have r1 := br.c1
          have rf0 := br.f 0
          have rf1 := br.f 1
          have o0 := q3.c0
          have o1 := q3.c1
          have BR := hide br
          have Q1 := hide (grown_trans (r := none) (unhide G4) q1)
          have Q4 := hide (q4.sub (lo' := w.heap.size) (unhide G4).size (Nat.le_refl _))
          clear HR hm e q0 q1 q2 q3 q4 br
          go_wp2
          (try simp only [Exit.inBlock, Exit.then])
          refine bodyPost_ret (cf.ret_box2 rfl rfl (((unhide BR).set0 (.int .i64 n)).set1 (.slice oa X.length ocap))) rfl ⟨.slice oa X.length ocap, ?_, ?_, ?_⟩
          · rw [(unhide SR).1, (unhide SR).2.2]
            rfl
          · rw [(unhide SR).2.1, cf.size_set, cf.size_set]
            exact gr.ownS_set (gr.ownS_set (unhide Q4) (unhide BR)) ((unhide BR).set0 (.int .i64 n))
          · exact cf.grown_set (cf.grown_set (unhide Q1) (by omega)) (by omega)
end Go.Proofs.YtibpnocpafppaaaDoor.cso
