/- What the program's CacheFind does; no condition but on sizes. -/
import Derived.Test.YtgjakiliepfjiaaUp
namespace Go.Proofs.Ytgjakiliepfjiaa.ua
open Go.ChangeShapes Go.WideShapes Go.ChangeAt Go.RowKit Go.Maps Go.MuLone
open Go.Proofs.Ytgjakiliepfjiaa.sl (Sl Own ints marks hide unhide ret_int ret_bool grown_refl grown_trans grown_drewN below_of of_below)
open Go.Proofs.Ytgjakiliepfjiaa.css (Outs outs_trans outs_none outs_by outs_refl own_mono own_sub own_outs own_kind)
open Go.Proofs.Ytgjakiliepfjiaa.yb (Box4)
open Go.Proofs.Ytgjakiliepfjiaa.cf (Box)
set_option linter.unusedVariables false
/-- what is returned through two structs' cells, and a value -/
theorem ret_find {fn : Func} {p p2 u : Tmp} {tmps : Array Value} {w : World} {c c2 : Nat} {x y a b q z : Value} (h : fn.results = #[.cell p 26, .cell p2 29, .tmp u]) (hp : tmps.getD p undef = .pointer (some ⟨c, 0, none⟩)) (hp2 : tmps.getD p2 undef = .pointer (some ⟨c2, 0, none⟩)) (hb : Box 26 w c x y) (hb2 : Box4 29 w c2 a b q z) :
    (results fn tmps).run Try.prog w = .ok (.tuple #[.agg #[x, y], .agg #[a, b, q, z], tmps.getD u undef]) w := by
  have e : (results fn tmps).run Try.prog w = ((asAddr (tmps.getD p undef)).run Try.prog w).andThen fun a w₁ => ((loadVar 26 a).run Try.prog w₁).andThen fun v w₂ => ((asAddr (tmps.getD p2 undef)).run Try.prog w₂).andThen fun a2 w₃ => ((loadVar 29 a2).run Try.prog w₃).andThen fun v2 w₄ => .ok (.tuple #[v, v2, tmps.getD u undef]) w₄ := by
    simp only [results, h]
    simp [Sem.run_bind, Result.andThen]
  rw [e, hp]
  simp only [asAddr, Sem.run_pure, Result.andThen_ok]
  rw [run_loadVar_row w c 26 26 #[x, y] (0, 0) _ hb Try.underlying26 rfl sizeC]
  simp only [Result.andThen_ok, hp2, Sem.run_pure]
  rw [run_loadVar_row w c2 29 29 #[a, b, q, z] (0, 0) _ hb2 Try.underlying29 rfl sizeK]
  rfl
/-- the one of a digest -/
def ent (KK : List Kn) (d : ByteArray) : Kn := (KK.find? (fun k => !oth d k)).getD kz
theorem ent_at {KK : List Kn} {d : ByteArray} (hd : Dist KK KK.length) (j : Nat) (hj : j < KK.length) (e : (KK.getD j kz).dg = d) : ent KK d = KK.getD j kz := by
  have hg : ∀ i (h : i < KK.length), KK.getD i kz = KK[i] := fun i h => by simp [h]
  unfold ent
  cases h : KK.find? (fun k => !oth d k) with
  | none =>
    have q := List.find?_eq_none.1 h KK[j] (List.getElem_mem hj)
    simp only [Bool.not_eq_true', Bool.not_eq_false] at q
    exact absurd (by rw [← hg j hj]; exact e) (oth_iff.1 q)
  | some x =>
    have h1 := List.find?_some h
    obtain ⟨i, hi, rfl⟩ := List.getElem_of_mem (List.mem_of_find?_eq_some h)
    have h2 : (KK.getD i kz).dg = d := by
      rw [hg i hi]
      refine Classical.byContradiction fun q => ?_
      rw [oth_iff.2 q] at h1
      cases h1
    show KK[i] = _
    rw [← hg i hi]
    rcases Nat.lt_trichotomy i j with q | q | q
    · exact absurd (h2.trans e.symm) (hd i j q hj)
    · rw [q]
    · exact absurd (e.trans h2.symm) (hd j i q hi)
/-- whether something is found -/
def fndB (room : Int) (KK : List Kn) (d : ByteArray) : Bool := okC room KK && !newTo KK d KK.length
def fndK (room : Int) (KK : List Kn) (d : ByteArray) : Kn := if fndB room KK d then ent KK d else kz
def fndL (room : Int) (KK : List Kn) (d : ByteArray) : List Kn := if fndB room KK d then rest KK d ++ [ent KK d] else KK
/-- what CacheFind answers -/
def FindE (w : World) (room : Int) (KK : List Kn) (d : ByteArray) (e : Ending) (w' : World) : Prop := ∃ u v mid, e = .returned (.tuple #[.agg #[.int .i64 room, u], .agg #[.string (fndK room KK d).dg, .bool (fndK room KK d).sat, v, .int .i64 (fndK room KK d).cost], .bool (fndB room KK d)]) ∧ w.heap.size ≤ mid ∧ mid ≤ w'.heap.size ∧ Own w.heap.size mid w' v (fndK room KK d).vals ∧ OwnK mid w'.heap.size w' u (fndL room KK d) ∧ w.grownBy w' none
theorem okC_parts {room : Int} {KK : List Kn} (h : okC room KK = true) : 0 ≤ room ∧ room ≤ 50 ∧ (KK.length : Int) ≤ room ∧ Dist KK KK.length := by
  unfold okC at h
  simp only [Bool.and_eq_true, decide_eq_true_eq] at h
  exact ⟨h.1.1.1, h.1.1.2, h.1.2, okTo_dist KK _ h.2⟩
theorem own_none (lo hi : Nat) (w : World) : Own lo hi w (.slice none 0 0) [] := ⟨World.ownsRow_nil .., fun k e => by cases e⟩
theorem getD_out (E : List Kn) (i : Nat) (h : E.length ≤ i) : E.getD i kz = kz := by simp [h]
/-- both results are stored -/
theorem put6 {w : World} {c : Nat} {x y a b q z : Value} (R : Box 26 w c x y) (Q : Box4 29 w (c + 1) a b q z) (x' y' a' b' q' z' : Value) :
    Box 26 ((((((w.setCell ⟨c, 0, none⟩ x').setCell ⟨c, 1, none⟩ y').setCell ⟨c + 1, 0, none⟩ a').setCell ⟨c + 1, 1, none⟩ b').setCell ⟨c + 1, 2, none⟩ q').setCell ⟨c + 1, 3, none⟩ z') c x' y' ∧
    Box4 29 ((((((w.setCell ⟨c, 0, none⟩ x').setCell ⟨c, 1, none⟩ y').setCell ⟨c + 1, 0, none⟩ a').setCell ⟨c + 1, 1, none⟩ b').setCell ⟨c + 1, 2, none⟩ q').setCell ⟨c + 1, 3, none⟩ z') (c + 1) a' b' q' z' ∧
    Outs c (c + 2) w ((((((w.setCell ⟨c, 0, none⟩ x').setCell ⟨c, 1, none⟩ y').setCell ⟨c + 1, 0, none⟩ a').setCell ⟨c + 1, 1, none⟩ b').setCell ⟨c + 1, 2, none⟩ q').setCell ⟨c + 1, 3, none⟩ z') ∧
    ((((((w.setCell ⟨c, 0, none⟩ x').setCell ⟨c, 1, none⟩ y').setCell ⟨c + 1, 0, none⟩ a').setCell ⟨c + 1, 1, none⟩ b').setCell ⟨c + 1, 2, none⟩ q').setCell ⟨c + 1, 3, none⟩ z').heap.size = w.heap.size := by
  have o1 : ∀ (v : World) i u, Outs c (c + 2) v (v.setCell ⟨c, i, none⟩ u) := fun v i u => outs_by (sl.grown_setCell v c i u) (fun k e => by cases e; omega)
  have o2 : ∀ (v : World) i u, Outs c (c + 2) v (v.setCell ⟨c + 1, i, none⟩ u) := fun v i u => outs_by (sl.grown_setCell v (c + 1) i u) (fun k e => by cases e; omega)
  refine ⟨?_, ?_, ?_, ?_⟩
  · exact ((((R.set0 x').set1 y').setO (d := c + 1) (by omega)).setO (d := c + 1) (by omega)).setO (d := c + 1) (by omega) |>.setO (d := c + 1) (by omega)
  · exact ((Q.setO (d := c) (by omega)).setO (d := c) (by omega)).setA _ _ _ _
  · exact outs_trans (outs_trans (outs_trans (outs_trans (outs_trans (o1 _ _ _) (o1 _ _ _)) (o2 _ _ _)) (o2 _ _ _)) (o2 _ _ _)) (o2 _ _ _)
  · simp only [cf.size_set]
theorem grown_outs {w w1 w2 : World} {lo hi : Nat} (g : w.grownBy w1 none) (o : Outs lo hi w1 w2) (h : w.heap.size ≤ lo) : w.grownBy w2 none :=
  ⟨o.os.trans g.os, o.tape.trans g.tape, o.output.trans g.output, Nat.le_trans g.size o.size, fun k hk _ => (o.block k (Nat.lt_of_lt_of_le hk g.size) (by omega)).trans (g.block k hk (fun e => by cases e))⟩
set_option maxRecDepth 10000 in
set_option maxHeartbeats 4000000 in
/-- .. where nothing is found -/
theorem findCacheNo (v : Value) (room : Int) (KK : List Kn) (d : ByteArray) (w : World) (hn : tot KK ≤ 1048576) (hd : d.size ≤ maxLen) (hv : VKns w v KK) (hb : fndB room KK d = false) :
    Calls Try.prog 12 #[.agg #[.int .i64 room, v], .string d] w fun e w' => FindE w room KK d e w' := by
  have h1 := Nat.le_trans (tot_len KK) hn
  have h2 := fun i => Nat.le_trans (tot_vals KK i) hn
  have h3 : ∀ i, (KK.getD i kz).dg.size ≤ maxLen := fun i => Nat.le_trans (tot_dg KK i) (Nat.le_trans hn (by decide))
  have HK : Hid (fndK room KK d = kz) := by show _ = _; unfold fndK; rw [hb]; rfl
  have HL : Hid (fndL room KK d = KK) := by show _ = _; unfold fndL; rw [hb]; rfl
  have HB := hide hb
  obtain ⟨a, cap, rfl⟩ := hv.len
  obtain ⟨W1, hW1⟩ : ∃ W1, W1 = ((w.alloc (.cells #[.int .i64 room, .slice a KK.length cap] 26)).alloc (.cells #[.int .i64 0, .slice none 0 0] 26)).alloc (.cells #[.string ⟨#[]⟩, .bool false, .slice none 0 0, .int .i64 0] 29) := ⟨_, rfl⟩
  have g1 : w.grownBy W1 none := by rw [hW1]; exact grown_trans (grown_trans (World.grownBy_alloc _ _ _) (World.grownBy_alloc _ _ _)) (World.grownBy_alloc _ _ _)
  have s1 : W1.heap.size = w.heap.size + 1 + 1 + 1 := by rw [hW1]; simp only [World.size_alloc]
  have B1 : Box 26 W1 w.heap.size (.int .i64 room) (.slice a KK.length cap) := by rw [hW1]; exact ((Box.new _ _ _ _).kept (World.grownBy_alloc _ _ none)).kept (World.grownBy_alloc _ _ none)
  have R1 : Box 26 W1 (w.heap.size + 1) (.int .i64 0) (.slice none 0 0) := by
    rw [hW1]
    have := (Box.new 26 (w.alloc (.cells #[.int .i64 room, .slice a KK.length cap] 26)) (.int .i64 0) (.slice none 0 0)).kept (World.grownBy_alloc _ (.cells #[.string ⟨#[]⟩, .bool false, .slice none 0 0, .int .i64 0] 29) none)
    rw [World.size_alloc] at this
    exact this
  have Q1 : Box4 29 W1 (w.heap.size + 1 + 1) (.string ⟨#[]⟩) (.bool false) (.slice none 0 0) (.int .i64 0) := by
    rw [hW1]
    have := Box4.new 29 ((w.alloc (.cells #[.int .i64 room, .slice a KK.length cap] 26)).alloc (.cells #[.int .i64 0, .slice none 0 0] 26)) (.string ⟨#[]⟩) (.bool false) (.slice none 0 0) (.int .i64 0)
    rw [World.size_alloc, World.size_alloc] at this
    exact this
  have CS := hide (shelfOf (.slice a KK.length cap) room KK W1 h1 h3 (hv.kept g1))
  have CC := hide (fun w2 (g : W1.grownBy w2 none) => copyCache (.slice a KK.length cap) room KK w2 h1 h2 (hv.kept (grown_trans (r := none) g1 g)))
  have HG := hide g1
  have HB1 := hide B1
  have HR1 := hide R1
  have HQ1 := hide Q1
  have b0 := B1.c0
  have b1 := B1.c1
  rw [hW1] at b0 b1
  clear g1 B1 R1 Q1 hv h1 h2 h3 hb
  go_enter Try.func12, Try.ntmps12
  go_upto_region 1 with fail
  rw [← hW1] at b0 b1 ⊢
  clear hW1
  go_wp2_with fail
  refine (unhide CS).mono ?_; rintro e w2 ⟨s, bm, room', v', E, D, rfl, S2, hy, hno⟩
  have hT : ∃ c, Told D d c false := by
    cases hok : okC room KK
    · rw [hno hok]
      exact ⟨0, rfl, rfl⟩
    · obtain ⟨rfl, rfl, rfl⟩ := hy hok
      obtain ⟨c, b, _, ht⟩ := look S2.map hd
      have : b = false := by
        rw [← ht.2, newTo_dm]
        have := unhide HB
        unfold fndB at this
        rw [hok] at this
        simpa using this
      rw [this] at ht
      exact ⟨c, ht⟩
  obtain ⟨c, hT⟩ := hT
  have CF := hide (findNo s bm room' v' E D W1 w2 d c S2 hd hT)
  clear b0 b1 CS S2 hy hno hT
  go_wp2_with fail
  refine (unhide CF).mono ?_; rintro e w3 ⟨rfl, S3⟩
  obtain ⟨W4, hW4⟩ : ∃ W4, W4 = w3.alloc (.cells #[.string ⟨#[]⟩, .bool false, .slice none 0 0, .int .i64 0] 29) := ⟨_, rfl⟩
  have g4 : W1.grownBy W4 none := by rw [hW4]; exact grown_trans S3.g (World.grownBy_alloc _ _ _)
  have C4 := hide (unhide CC W4 g4)
  have G4 := hide (grown_trans (r := none) (unhide HG) g4)
  have B4 := (unhide HB1).kept g4
  have R4 := hide ((unhide HR1).kept g4)
  have Q4 := hide ((unhide HQ1).kept g4)
  have z4 := g4.size
  have b0 := B4.c0
  have b1 := B4.c1
  clear g4 B4 CC CF S3 HB1 HR1 HQ1
  go_upto_region 3 with fail
  rw [← hW4]
  clear hW4
  generalize w3.heap.size = kb at *
  go_wp2_with fail
  refine (unhide C4).mono ?_; rintro e w5 ⟨u5, rfl, o5, g5⟩
  obtain ⟨ua, uc, rfl⟩ := o5.len
  have G5 := hide (grown_trans (r := none) (unhide G4) g5)
  have R5 := hide ((unhide R4).kept g5)
  have Q5 := hide ((unhide Q4).kept g5)
  have O5 := hide o5
  have z5 := g5.size
  clear g5 o5 C4 G4 R4 Q4 b0 b1
  have r0 := (unhide R5).c0
  have r1 := (unhide R5).c1
  have rf0 := (unhide R5).f 0
  have rf1 := (unhide R5).f 1
  have q0 := (unhide Q5).c0
  have q1 := (unhide Q5).c1
  have q2 := (unhide Q5).c2
  have q3 := (unhide Q5).c3
  have qf0 := (unhide Q5).f 0
  have qf1 := (unhide Q5).f 1
  have qf2 := (unhide Q5).f 2
  have qf3 := (unhide Q5).f 3
  go_wp2_with fail
  (try simp only [Exit.inBlock, Exit.then])
  obtain ⟨RR, QQ, gO, sz⟩ := put6 (unhide R5) (unhide Q5) (.int .i64 room) (.slice ua KK.length uc) (.string ⟨#[]⟩) (.bool false) (.slice none 0 0) (.int .i64 0)
  refine bodyPost_ret (ret_find rfl rfl rfl RR QQ) rfl ⟨_, _, w.heap.size, by rw [unhide HK, unhide HB]; rfl, Nat.le_refl _, by rw [sz]; exact (unhide G5).size, by rw [unhide HK]; exact own_none _ _ _, ?_, ?_⟩
  · rw [unhide HL, sz]
    exact ((unhide O5).outs gO (.inr (by omega))).sub (by omega) (Nat.le_refl _)
  · exact grown_outs (unhide G5) gO (by omega)
set_option maxRecDepth 10000 in
set_option maxHeartbeats 4000000 in
/-- .. where one is found -/
theorem findCacheYes (v : Value) (room : Int) (KK : List Kn) (d : ByteArray) (w : World) (hn : tot KK ≤ 1048576) (hd : d.size ≤ maxLen) (hv : VKns w v KK) (hb : fndB room KK d = true) :
    Calls Try.prog 12 #[.agg #[.int .i64 room, v], .string d] w fun e w' => FindE w room KK d e w' := by
  have h1 := Nat.le_trans (tot_len KK) hn
  have h2 := fun i => Nat.le_trans (tot_vals KK i) hn
  have h3 : ∀ i, (KK.getD i kz).dg.size ≤ maxLen := fun i => Nat.le_trans (tot_dg KK i) (Nat.le_trans hn (by decide))
  have hok : okC room KK = true := by unfold fndB at hb; rw [Bool.and_eq_true] at hb; exact hb.1
  obtain ⟨hr0, hr1, hr2, hdist⟩ := okC_parts hok
  have hnw : newTo KK d KK.length = false := by unfold fndB at hb; rw [Bool.and_eq_true] at hb; simpa using hb.2
  obtain ⟨j, hj, ej⟩ : ∃ j, j < KK.length ∧ (KK.getD j kz).dg = d := by
    refine (has_dm KK d KK.length).1 ?_
    rw [newTo_dm, hnw]
    rfl
  have eK := ent_at hdist j hj ej
  have HK : Hid (fndK room KK d = KK.getD j kz) := by show _ = _; unfold fndK; rw [hb, ← eK]; rfl
  have HL : Hid (fndL room KK d = rest KK d ++ [KK.getD j kz]) := by show _ = _; unfold fndL; rw [hb, ← eK]; rfl
  have HB := hide hb
  have hT : Told (dmAt KK KK.length) d (j : Int) true := ⟨by rw [← ej, at_dm KK (num 0) KK.length hdist j hj]; rfl, by rw [newTo_dm, hnw]; rfl⟩
  have hSa : ∀ i, i < (KK ++ [KK.getD j kz]).length → ∃ c b, Told ((dmAt KK KK.length).put (key (KK.getD j kz).dg) (num KK.length)) ((KK ++ [KK.getD j kz]).getD i kz).dg c b ∧ S1 KK (KK.getD j kz) i = (b && (c == (i : Int))) := fun i hi => told1 hdist (KK.getD j kz) i hi
  have hsz := size1 hdist (KK.getD j kz)
  have hrl := rest_len (d := (KK.getD j kz).dg) hdist
  have hf1 := filt1 KK (KK.getD j kz)
  have hdd : ∀ i, ((KK ++ [KK.getD j kz]).getD i kz).dg.size ≤ maxLen := by
    intro i
    by_cases q : i < KK.length
    · rw [getD_snoc KK _ i q]; exact h3 i
    · by_cases q2 : i = KK.length
      · rw [q2, getD_last]; exact h3 j
      · rw [getD_out _ _ (by rw [List.length_append, List.length_singleton]; omega)]; exact Nat.zero_le _
  have hvv : ∀ i, ((KK ++ [KK.getD j kz]).getD i kz).vals.length ≤ 1048576 := by
    intro i
    by_cases q : i < KK.length
    · rw [getD_snoc KK _ i q]; exact h2 i
    · by_cases q2 : i = KK.length
      · rw [q2, getD_last]; exact h2 j
      · rw [getD_out _ _ (by rw [List.length_append, List.length_singleton]; omega)]; exact Nat.zero_le _
  have hlen : (KK ++ [KK.getD j kz]).length ≤ 1048577 := by rw [List.length_append, List.length_singleton]; omega
  have CO := hide (fun (s bm : Nat) (v4 : Value) (W W4 : World) (S4 : Shf W W4 s bm 0 room v4 (KK ++ [KK.getD j kz]) ((dmAt KK KK.length).put (key (KK.getD j kz).dg) (num KK.length))) => cache s bm room v4 _ _ W W4 (S1 KK (KK.getD j kz)) S4 hlen hdd hvv (by rw [hsz]; omega) hSa)
  rw [hf1, ej] at CO
  have CFY := hide (fun (s bm : Nat) (v4 : Value) (W w2 : World) (S2 : Shf W w2 s bm 0 room v4 KK (dmAt KK KK.length)) => findYes s bm j room v4 KK (dmAt KK KK.length) W w2 d S2 hd h1 hj (h3 j) (h2 j) hT)
  have HOK := hide hok
  have HEJ := hide ej
  obtain ⟨a, cap, rfl⟩ := hv.len
  obtain ⟨W1, hW1⟩ : ∃ W1, W1 = ((w.alloc (.cells #[.int .i64 room, .slice a KK.length cap] 26)).alloc (.cells #[.int .i64 0, .slice none 0 0] 26)).alloc (.cells #[.string ⟨#[]⟩, .bool false, .slice none 0 0, .int .i64 0] 29) := ⟨_, rfl⟩
  have g1 : w.grownBy W1 none := by rw [hW1]; exact grown_trans (grown_trans (World.grownBy_alloc _ _ _) (World.grownBy_alloc _ _ _)) (World.grownBy_alloc _ _ _)
  have s1 : W1.heap.size = w.heap.size + 1 + 1 + 1 := by rw [hW1]; simp only [World.size_alloc]
  have B1 : Box 26 W1 w.heap.size (.int .i64 room) (.slice a KK.length cap) := by rw [hW1]; exact ((Box.new _ _ _ _).kept (World.grownBy_alloc _ _ none)).kept (World.grownBy_alloc _ _ none)
  have R1 : Box 26 W1 (w.heap.size + 1) (.int .i64 0) (.slice none 0 0) := by
    rw [hW1]
    have := (Box.new 26 (w.alloc (.cells #[.int .i64 room, .slice a KK.length cap] 26)) (.int .i64 0) (.slice none 0 0)).kept (World.grownBy_alloc _ (.cells #[.string ⟨#[]⟩, .bool false, .slice none 0 0, .int .i64 0] 29) none)
    rw [World.size_alloc] at this
    exact this
  have Q1 : Box4 29 W1 (w.heap.size + 1 + 1) (.string ⟨#[]⟩) (.bool false) (.slice none 0 0) (.int .i64 0) := by
    rw [hW1]
    have := Box4.new 29 ((w.alloc (.cells #[.int .i64 room, .slice a KK.length cap] 26)).alloc (.cells #[.int .i64 0, .slice none 0 0] 26)) (.string ⟨#[]⟩) (.bool false) (.slice none 0 0) (.int .i64 0)
    rw [World.size_alloc, World.size_alloc] at this
    exact this
  have CS := hide (shelfOf (.slice a KK.length cap) room KK W1 h1 h3 (hv.kept g1))
  have HG := hide g1
  have HB1 := hide B1
  have HR1 := hide R1
  have HQ1 := hide Q1
  have b0 := B1.c0
  have b1 := B1.c1
  rw [hW1] at b0 b1
  clear g1 B1 R1 Q1 hv
  go_enter Try.func12, Try.ntmps12
  go_upto_region 1 with fail
  rw [← hW1] at b0 b1 ⊢
  clear hW1
  go_wp2_with fail
  refine (unhide CS).mono ?_; rintro e w2 ⟨s, bm, room', v', E, D, rfl, S2, hy, hno⟩
  obtain ⟨rfl, rfl, rfl⟩ := hy (unhide HOK)
  have CF := hide (unhide CFY s bm v' W1 w2 S2)
  clear b0 b1 CS S2 hy hno CFY hSa hsz hrl hf1 hdd hvv hlen hT eK h1 h2 h3 hok hnw hr0 hr1 hr2 hdist hb
  unfold FoundE at CF
  rw [unhide HEJ] at CF
  generalize E.getD j kz = x at *
  obtain ⟨dg, sat, vals, cost⟩ := x
  dsimp only at *
  subst ej
  go_wp2_with fail
  refine (unhide CF).mono ?_; rintro e w3 ⟨u3, v3, lo, rfl, S3, o3, l3, l4⟩
  obtain ⟨ua3, uc3, rfl, hx3⟩ := Sl.of_own o3
  clear hx3
  obtain ⟨W4, hW4⟩ : ∃ W4, W4 = w3.alloc (.cells #[.string dg, .bool sat, .slice ua3 vals.length uc3, .int .i64 cost] 29) := ⟨_, rfl⟩
  have g4 : w3.grownBy W4 none := by rw [hW4]; exact World.grownBy_alloc _ _ _
  have K4 : Box4 29 W4 w3.heap.size (.string dg) (.bool sat) (.slice ua3 vals.length uc3) (.int .i64 cost) := by rw [hW4]; exact Box4.new _ _ _ _ _ _
  have gd := cf.grown_drew W4 none
  have gA : W1.grownBy W4.drew none := grown_trans (r := none) (grown_trans (r := none) S3.g g4) gd
  have S5 := (S3.kept g4).kept gd
  have C5 := hide (unhide CO s bm v3 W1 W4.drew S5)
  have hs5 := S5.hs
  have hl5 := S5.lt
  have z4 := gA.size
  have G5 := hide (grown_trans (r := none) (unhide HG) gA)
  have R5 := hide ((unhide HR1).kept gA)
  have Q5 := hide ((unhide HQ1).kept gA)
  have K5 := hide (K4.kept gd)
  have O5 := hide (row_kept (row_kept o3 g4) gd)
  have l3' := S3.lt
  have zz : w3.heap.size < W4.heap.size := by rw [hW4, World.size_alloc]; omega
  have y0 := K4.c0
  have y1 := K4.c1
  have y2 := K4.c2
  have y3 := K4.c3
  clear g4 K4 gd gA S3 S5 CO CF o3 HR1 HQ1 HG HB1 HEJ HOK
  go_upto_region 3 with fail
  rw [← hW4]
  clear hW4
  generalize w3.heap.size = kb at *
  have n1 : ¬ kb = w.heap.size + 1 := by omega
  have n2 : ¬ w.heap.size + 1 = kb := by omega
  have n3 : (some s : Option Nat) ≠ some (w.heap.size + 1) := by intro e; injection e; omega
  have n4 : (some s : Option Nat) ≠ some (w.heap.size + 1 + 1) := by intro e; injection e; omega
  have n5 : (some s : Option Nat) ≠ some kb := by intro e; injection e; omega
  have GO : Hid (∀ w6, W4.drew.grownBy w6 (some s) → w.grownBy w6 none) := fun w6 g => grown_in (unhide G5) g (by omega)
  have OO : Hid (∀ w6, W4.drew.grownBy w6 (some s) → w6.ownsRow lo 3 1 (.slice ua3 vals.length uc3) vals.length (ints vals)) := fun w6 g => (unhide O5).kept g (by
    cases q : (Value.slice ua3 vals.length uc3).ownBlock with
    | none => exact .inl rfl
    | some k => exact .inr (fun e => by cases e; have := ((unhide O5).lt _ q).1; omega))
  go_wp2_with fail
  go_region_with (first
    | (go_at_call 31; refine (unhide C5).mono ?_; rintro e w6 ⟨u6, rfl, o6, g6⟩; obtain ⟨ua6, uc6, rfl⟩ := o6.len; have R6 := hide ((unhide R5).by g6 n3); have Q6 := hide ((unhide Q5).by g6 n4); have K6 := hide ((unhide K5).by g6 n5); have G6 := hide (unhide GO w6 g6); have V6 := hide (unhide OO w6 g6); have O6 := hide o6; have z6 := g6.size; have r0 := (unhide R6).c0; have r1 := (unhide R6).c1; have rf0 := (unhide R6).f 0; have rf1 := (unhide R6).f 1; have q0 := (unhide Q6).c0; have q1 := (unhide Q6).c1; have q2 := (unhide Q6).c2; have q3 := (unhide Q6).c3; have qf0 := (unhide Q6).f 0; have qf1 := (unhide Q6).f 1; have qf2 := (unhide Q6).f 2; have qf3 := (unhide Q6).f 3; have k0 := (unhide K6).c0; have k1 := (unhide K6).c1; have k2 := (unhide K6).c2; have k3 := (unhide K6).c3; clear g6 o6))
  all_goals
    go_wp2_with fail
    (try simp only [Exit.inBlock, Exit.then])
    obtain ⟨RR, QQ, gO, sz⟩ := put6 (unhide R6) (unhide Q6) (.int .i64 room') (.slice ua6 ((rest E dg).length + 1) uc6) (.string dg) (.bool sat) (.slice ua3 vals.length uc3) (.int .i64 cost)
    refine bodyPost_ret (ret_find rfl rfl rfl RR QQ) rfl ⟨_, _, W4.drew.heap.size, by rw [unhide HK, unhide HB]; rfl, by omega, by rw [sz]; exact z6, ?_, ?_, grown_outs (unhide G6) gO (by omega)⟩
    · rw [unhide HK]
      exact ⟨own_mono (row_outs (hi := W4.drew.heap.size) (unhide V6) (fun k e => ((unhide O5).lt k e).2) gO (.inr (by omega))) (by omega), fun k e => ((unhide O5).lt k e).2⟩
    · rw [unhide HL, sz]
      have q := unhide O6
      rw [List.length_append] at q
      exact q.outs gO (.inr (by omega))
theorem implCacheFind (v : Value) (room : Int) (KK : List Kn) (d : ByteArray) (w : World) (hn : tot KK ≤ 1048576) (hd : d.size ≤ maxLen) (hv : VKns w v KK) :
    Calls Try.prog 12 #[.agg #[.int .i64 room, v], .string d] w fun e w' => FindE w room KK d e w' := by
  cases hb : fndB room KK d
  · exact findCacheNo v room KK d w hn hd hv hb
  · exact findCacheYes v room KK d w hn hd hv hb
end Go.Proofs.Ytgjakiliepfjiaa.ua
