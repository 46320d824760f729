/- What the program's CachePut does; no condition but on sizes. -/
import Derived.Test.YtgjakiliepfjiaaUq
namespace Go.Proofs.Ytgjakiliepfjiaa.ua
open Go.ChangeShapes Go.WideShapes Go.ChangeAt Go.RowKit Go.Maps Go.MuLone
open Go.Proofs.Ytgjakiliepfjiaa.sl (Sl Own ints marks hide unhide ret_int ret_bool grown_refl grown_trans grown_drewN below_of of_below)
open Go.Proofs.Ytgjakiliepfjiaa.css (Outs outs_trans outs_none outs_by outs_refl own_mono own_sub own_outs own_kind)
open Go.Proofs.Ytgjakiliepfjiaa.yb (Box4)
open Go.Proofs.Ytgjakiliepfjiaa.cf (Box)
set_option linter.unusedVariables false
/-- whether one may be put -/
def putOk (room : Int) (KK : List Kn) (k : Kn) : Bool := okC room KK && costB k.cost
def putK (room : Int) (KK : List Kn) (k : Kn) : List Kn := if putOk room KK k then putL room KK k else KK
theorem rest_le (KK : List Kn) (d : ByteArray) : (rest KK d).length ≤ KK.length := List.length_filter_le _ _
set_option maxRecDepth 10000 in
set_option maxHeartbeats 4000000 in
theorem implCachePut (v u : Value) (room : Int) (KK : List Kn) (k : Kn) (w : World) (hn : tot KK ≤ 1048576) (hd : k.dg.size ≤ maxLen) (hL : k.vals.length ≤ 1048576) (hv : VKns w v KK) (hu : Vl w u k.vals) :
    Calls Try.prog 8 #[.agg #[.int .i64 room, v], .agg #[.string k.dg, .bool k.sat, u, .int .i64 k.cost]] w fun e w' => CacheE w room (putK room KK k) e w' := by
  have h1 := Nat.le_trans (tot_len KK) hn
  have h2 := fun i => Nat.le_trans (tot_vals KK i) hn
  have h3 : ∀ i, (KK.getD i kz).dg.size ≤ maxLen := fun i => Nat.le_trans (tot_dg KK i) (Nat.le_trans hn (by decide))
  obtain ⟨a, cap, rfl⟩ := hv.len
  obtain ⟨ua, uc, rfl, hx⟩ := hu.sl
  clear hx
  obtain ⟨W1, hW1⟩ : ∃ W1, W1 = ((w.alloc (.cells #[.int .i64 room, .slice a KK.length cap] 26)).alloc (.cells #[.string k.dg, .bool k.sat, .slice ua k.vals.length uc, .int .i64 k.cost] 29)).alloc (.cells #[.int .i64 0, .slice none 0 0] 26) := ⟨_, rfl⟩
  have g1 : w.grownBy W1 none := by rw [hW1]; exact grown_trans (grown_trans (World.grownBy_alloc _ _ _) (World.grownBy_alloc _ _ _)) (World.grownBy_alloc _ _ _)
  have s1 : W1.heap.size = w.heap.size + 1 + 1 + 1 := by rw [hW1]; simp only [World.size_alloc]
  have B1 : Box 26 W1 w.heap.size (.int .i64 room) (.slice a KK.length cap) := by rw [hW1]; exact ((Box.new _ _ _ _).kept (World.grownBy_alloc _ _ none)).kept (World.grownBy_alloc _ _ none)
  have Q1 : Box4 29 W1 (w.heap.size + 1) (.string k.dg) (.bool k.sat) (.slice ua k.vals.length uc) (.int .i64 k.cost) := by
    rw [hW1]
    have := (Box4.new 29 (w.alloc (.cells #[.int .i64 room, .slice a KK.length cap] 26)) (.string k.dg) (.bool k.sat) (.slice ua k.vals.length uc) (.int .i64 k.cost)).kept (World.grownBy_alloc _ (.cells #[.int .i64 0, .slice none 0 0] 26) none)
    rw [World.size_alloc] at this
    exact this
  have R1 : Box 26 W1 (w.heap.size + 1 + 1) (.int .i64 0) (.slice none 0 0) := by
    rw [hW1]
    have := Box.new 26 ((w.alloc (.cells #[.int .i64 room, .slice a KK.length cap] 26)).alloc (.cells #[.string k.dg, .bool k.sat, .slice ua k.vals.length uc, .int .i64 k.cost] 29)) (.int .i64 0) (.slice none 0 0)
    rw [World.size_alloc, World.size_alloc] at this
    exact this
  have CS := hide (shelfOf (.slice a KK.length cap) room KK W1 h1 h3 (hv.kept g1))
  have CC := hide (fun w2 (g : W1.grownBy w2 none) => copyCache (.slice a KK.length cap) room KK w2 h1 h2 (hv.kept (grown_trans (r := none) g1 g)))
  have CK := hide (fun w2 => costOk k.cost w2)
  have HU := hide (hu.kept g1)
  have HG := hide g1
  have HB1 := hide B1
  have HR1 := hide R1
  have HQ1 := hide Q1
  have b0 := B1.c0
  have b1 := B1.c1
  rw [hW1] at b0 b1
  clear g1 B1 R1 Q1 hv hu
  go_enter Try.func8, Try.ntmps8
  go_upto_region 1 with fail
  rw [← hW1] at b0 b1 ⊢
  clear hW1
  go_wp2_with fail
  refine (unhide CS).mono ?_; rintro e w2 ⟨s, bm, room', v', E, D, rfl, S2, hy, hno⟩
  have g2 := S2.g
  have B2 := (unhide HB1).kept g2
  have R2 := hide ((unhide HR1).kept g2)
  have Q2 := hide ((unhide HQ1).kept g2)
  have G2 := hide (grown_trans (r := none) (unhide HG) g2)
  have C2 := hide (unhide CC w2 g2)
  have z2 := g2.size
  clear b0 b1 CS CC HB1 HQ1 g2
  have b0 := B2.c0
  have b1 := B2.c1
  have q0 := (unhide Q2).c0
  have q1 := (unhide Q2).c1
  have q2 := (unhide Q2).c2
  have q3 := (unhide Q2).c3
  clear B2
  by_cases hp : putOk room KK k = true
  · have HL : Hid (putK room KK k = putL room KK k) := if_pos hp
    have hok : okC room KK = true := by unfold putOk at hp; rw [Bool.and_eq_true] at hp; exact hp.1
    have hcb : costB k.cost = true := by unfold putOk at hp; rw [Bool.and_eq_true] at hp; exact hp.2
    obtain ⟨hr0, hr1, hr2, hdist⟩ := okC_parts hok
    obtain ⟨e1, e2, e3⟩ := hy hok
    rw [e1, e2, e3] at S2
    have hdd : ∀ i, ((KK ++ [k]).getD i kz).dg.size ≤ maxLen := by
      intro i
      by_cases q : i < KK.length
      · rw [getD_snoc KK _ i q]; exact h3 i
      · by_cases q2 : i = KK.length
        · rw [q2, getD_last]; exact hd
        · rw [getD_out _ _ (by rw [List.length_append, List.length_singleton]; omega)]; exact Nat.zero_le _
    have hvv : ∀ i, ((KK ++ [k]).getD i kz).vals.length ≤ 1048576 := by
      intro i
      by_cases q : i < KK.length
      · rw [getD_snoc KK _ i q]; exact h2 i
      · by_cases q2 : i = KK.length
        · rw [q2, getD_last]; exact hL
        · rw [getD_out _ _ (by rw [List.length_append, List.length_singleton]; omega)]; exact Nat.zero_le _
    have hlen : (KK ++ [k]).length ≤ 1048577 := by rw [List.length_append, List.length_singleton]; omega
    have hsz := size1 hdist k
    have hrl := rest_le KK k.dg
    have hP : ∃ (D' : DataW Unit) (S : Nat → Bool), (Calls Try.prog 30 #[.pointer (some ⟨s, 0, none⟩), .agg #[.string k.dg, .bool k.sat, .slice ua k.vals.length uc, .int .i64 k.cost]] w2 fun e w' => e = .returned (.tuple #[]) ∧ ∃ v', Shf W1 w' s bm 0 room v' (KK ++ [k]) D') ∧ Maps.size D' ≤ 1048577 ∧ (∀ i, i < (KK ++ [k]).length → ∃ c b, Told D' ((KK ++ [k]).getD i kz).dg c b ∧ S i = (b && (c == (i : Int)))) ∧ filt S (KK ++ [k]) (KK ++ [k]).length = putL room KK k := by
      by_cases hr : room < ((rest KK k.dg).length : Int) + 1
      · obtain ⟨hnew, hrest, hroom⟩ := full_new hdist k hr2 hr
        have hs2 := size2 hdist k hnew
        refine ⟨_, fun i => decide (0 < i), putB s bm room v' KK _ W1 w2 _ k (d0 KK k) S2 h1 hd (unhide HU) (by rw [hsz]; omega) rfl (hdd 0) (told0 hdist k hnew) (by rw [hs2]; omega), by rw [hs2]; omega, told2 hdist k hnew, ?_⟩
        rw [filt2 _ _ (Nat.le_refl _), List.take_length]
        unfold putL
        rw [if_pos hr, hrest]
      · refine ⟨_, S1 KK k, putA s bm room v' KK _ W1 w2 _ k S2 h1 hd (unhide HU) (by rw [hsz]; omega), by rw [hsz]; omega, told1 hdist k, ?_⟩
        rw [filt1]
        unfold putL
        rw [if_neg hr]
    obtain ⟨D', S, hP1, hP2, hP3, hP4⟩ := hP
    have CP := hide hP1
    have CO := hide (fun (v4 : Value) (W4 : World) (S4 : Shf W1 W4 s bm 0 room v4 (KK ++ [k]) D') => cache s bm room v4 _ D' W1 W4 S S4 hlen hdd hvv hP2 hP3)
    rw [hP4] at CO
    rw [hcb] at CK
    have hsW := S2.hs
    clear hP1 hP2 hP3 hP4 hlen hdd hvv hsz hrl hr0 hr1 hr2 hdist hp h1 h2 h3 hcb e1 e2 e3 hy hno S2 C2 HU
    go_wp2_with fail
    refine (unhide CK _).mono ?_; rintro e w' ⟨rfl, hw⟩; have hw' := hw.symm; clear hw; subst hw'
    go_wp2_with fail
    refine (unhide CP).mono ?_; rintro e w3 ⟨rfl, v3, S3⟩
    have C3 := hide (unhide CO v3 w3 S3)
    have g3 := S3.g
    have R3 := hide ((unhide HR1).kept g3)
    have G3 := hide (grown_trans (r := none) (unhide HG) g3)
    have z3 := g3.size
    have l3 := S3.lt
    clear g3 S3 CP CO CK R2 G2 Q2 HR1 HG b0 b1 q0 q1 q2 q3
    have n3 : (some s : Option Nat) ≠ some (w.heap.size + 1 + 1) := by intro e; injection e; omega
    go_wp2_with fail
    refine (unhide C3).mono ?_; rintro e w6 ⟨u6, rfl, o6, g6⟩
    obtain ⟨u6a, u6c, rfl⟩ := o6.len
    have R6 := hide ((unhide R3).by g6 n3)
    have G6 := hide (grown_in (unhide G3) g6 (by omega))
    have O6 := hide o6
    clear o6 g6 C3 R3 G3
    have r0 := (unhide R6).c0
    have r1 := (unhide R6).c1
    have rf0 := (unhide R6).f 0
    have rf1 := (unhide R6).f 1
    go_wp2_with fail
    (try simp only [Exit.inBlock, Exit.then])
    refine bodyPost_ret (ret_cache rfl rfl (((unhide R6).set0 (.int .i64 room)).set1 (.slice u6a (putL room KK k).length u6c))) rfl ⟨_, by rfl, ?_, ?_⟩
    · rw [unhide HL, cf.size_set, cf.size_set]
      exact (ownK_set (ownK_set (unhide O6) (by omega)) (by omega)).sub (by omega) (Nat.le_refl _)
    · exact cf.grown_set (cf.grown_set (unhide G6) (by omega)) (by omega)
  · have HL : Hid (putK room KK k = KK) := if_neg hp
    clear h1 h2 h3 HU
    cases hok : okC room KK
    · clear hp hy hno S2
      go_wp2_with fail
      refine (unhide C2).mono ?_; rintro e w5 ⟨u5, rfl, o5, g5⟩
      obtain ⟨u5a, u5c, rfl⟩ := o5.len
      have G5 := hide (grown_trans (r := none) (unhide G2) g5)
      have R5 := hide ((unhide R2).kept g5)
      have O5 := hide o5
      have z5 := g5.size
      clear g5 o5 C2 G2 R2 b0 b1 q0 q1 q2 q3
      have r0 := (unhide R5).c0
      have r1 := (unhide R5).c1
      have rf0 := (unhide R5).f 0
      have rf1 := (unhide R5).f 1
      go_wp2_with fail
      (try simp only [Exit.inBlock, Exit.then])
      refine bodyPost_ret (ret_cache rfl rfl (((unhide R5).set0 (.int .i64 room)).set1 (.slice u5a KK.length u5c))) rfl ⟨_, by rfl, ?_, ?_⟩
      · rw [unhide HL, cf.size_set, cf.size_set]
        exact (ownK_set (ownK_set (unhide O5) (by omega)) (by omega)).sub (by omega) (Nat.le_refl _)
      · exact cf.grown_set (cf.grown_set (unhide G5) (by omega)) (by omega)
    · have hcb : costB k.cost = false := by
        cases q : costB k.cost
        · rfl
        · exact absurd (show putOk room KK k = true by unfold putOk; rw [hok, q]; rfl) hp
      rw [hcb] at CK
      clear hp hy hno S2 hcb
      go_wp2_with fail
      refine (unhide CK _).mono ?_; rintro e w' ⟨rfl, hw⟩; have hw' := hw.symm; clear hw; subst hw'
      go_wp2_with fail
      refine (unhide C2).mono ?_; rintro e w5 ⟨u5, rfl, o5, g5⟩
      obtain ⟨u5a, u5c, rfl⟩ := o5.len
      have G5 := hide (grown_trans (r := none) (unhide G2) g5)
      have R5 := hide ((unhide R2).kept g5)
      have O5 := hide o5
      have z5 := g5.size
      clear g5 o5 C2 G2 R2 b0 b1 q0 q1 q2 q3
      have r0 := (unhide R5).c0
      have r1 := (unhide R5).c1
      have rf0 := (unhide R5).f 0
      have rf1 := (unhide R5).f 1
      go_wp2_with fail
      (try simp only [Exit.inBlock, Exit.then])
      refine bodyPost_ret (ret_cache rfl rfl (((unhide R5).set0 (.int .i64 room)).set1 (.slice u5a KK.length u5c))) rfl ⟨_, by rfl, ?_, ?_⟩
      · rw [unhide HL, cf.size_set, cf.size_set]
        exact (ownK_set (ownK_set (unhide O5) (by omega)) (by omega)).sub (by omega) (Nat.le_refl _)
      · exact cf.grown_set (cf.grown_set (unhide G5) (by omega)) (by omega)
end Go.Proofs.Ytgjakiliepfjiaa.ua
