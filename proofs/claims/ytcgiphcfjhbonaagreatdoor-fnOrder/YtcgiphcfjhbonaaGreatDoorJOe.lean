/- An answer that is issued verifies, as plain mathematics: where what is signed is short enough to have a mark; no other condition. -/
import Derived.Test.YtcgiphcfjhbonaaGreatDoorJOy
import Derived.Test.YtcgiphcfjhbonaaGreatDoorJOs
import Derived.Test.YtcgiphcfjhbonaaGreatDoorJXDv
import Derived.Test.YtcgiphcfjhbonaaGreatDoorJOq
import Derived.Test.YtcgiphcfjhbonaaGreatDoorJXTr
import Derived.Test.YtcgiphcfjhbonaaGreatDoorJXYy
import Derived.Test.YtcgiphcfjhbonaaGreatDoorJOd
namespace Go.Proofs.YtcgiphcfjhbonaaGreatDoor.ys
open da (digT)
open zr (okM macT)
open yg (sgB)
open ra (raB raL)
open tr (trueB)
open xe (checkB)
open rq (RP)
open yb (Cr)
open yh (refL fnd)
open yi (issO digB bodyB satB markB)
open yv (vfC)
open lq (solveL)
set_option linter.unusedVariables false
theorem mac_len (key s : ByteArray) (h : key.size ≤ 64) (h2 : s.size ≤ 59800) : (macT key s).length = 32 := by
 unfold zr.macT
 rw [if_pos ⟨h, h2⟩]
 unfold zo.sumT
 rw [if_pos (by have := zr.in2_size key s; omega)]
 unfold zo.sumL
 rw [zo.out4_length]
theorem mark_ok (key d : ByteArray) (sat : Bool) (b : ByteArray) (h : key.size ≤ 64) (h2 : (sgB d sat b).size ≤ 59800) : okM key (sgB d sat b) (markB key d sat b) = true := by
 unfold zr.okM
 apply decide_eq_true
 refine ⟨fun e => ?_, rfl⟩
 have := mac_len key _ h h2
 rw [e] at this
 cases this
theorem iss_parts {key : ByteArray} {n : Int} {LL : List (List Int)} {c : Cr} (h : issO key n LL = some c) : digT n LL ≠ [] ∧ key.size ≤ 64 ∧ (fnd n LL).2 = true ∧ c = (digB n LL, satB (fnd n LL).1, bodyB (fnd n LL).1, markB key (digB n LL) (satB (fnd n LL).1) (bodyB (fnd n LL).1)) := by
 unfold yi.issO at h
 split at h
 ·cases h
 ·rename_i q
  cases h
  refine ⟨fun e => q (.inl e), Nat.le_of_not_lt (fun e => q (.inr (.inl e))), ?_, rfl⟩
  cases e : (fnd n LL).2
  ·exact absurd (.inr (.inr e)) q
  ·rfl
theorem bad_all {n : Int} : ∀ (C : List (List Int)) (Ss : List Nat), wm.badN n Ss C = C.length → ∀ L ∈ C, ok.clB n L = true
 | [], _, _, L, hL => by cases hL
 | K :: C, Ss, h, L, hL => by
  rw [xt.bad_cons] at h
  split at h
  ·rename_i q
   rw [Bool.and_eq_true] at q
   rcases List.mem_cons.1 hL with rfl | hL
   ·exact q.1
   ·exact bad_all C (Ss ++ [bset.setOf K]) (by rw [List.length_cons] at h; omega) L hL
  ·rw [List.length_cons] at h
   omega
theorem ok_all {n : Int} {L : List Int} (hn : n ≤ 24) (h : ok.clB n L = true) : cls.okAll L = true := by
 unfold ok.clB at h
 unfold cls.okAll
 rw [Bool.and_eq_true, List.all_eq_true] at h ⊢
 refine ⟨fun x hx => ?_, h.2⟩
 have := h.1 x hx
 unfold ok.litIn at this
 rw [Bool.and_eq_true] at this
 exact this.1
theorem lines_short : ∀ (C : List (List Int)), (cx.lines C).length ≤ 11 * (C.map List.length).sum + 2 * C.length := by
 intro C
 induction C with
 | nil => exact Nat.le_refl _
 | cons L C ih =>
  have e : cx.lines (L :: C) = txt.text L ++ [10] ++ cx.lines C := rfl
  have hb : (txt.text L).length ≤ 11 * L.length + 1 := by
   unfold txt.text
   split
   ·rename_i h
    have := txt.body_len L (by unfold cls.okAll at h; rw [Bool.and_eq_true] at h; first | exact h.1 | exact h.2)
    rw [List.length_append, List.length_singleton]
    omega
   ·exact Nat.zero_le _
  rw [e, List.length_append, List.length_append, List.length_singleton, List.map_cons, List.sum_cons, List.length_cons]
  omega
theorem solve_true {n : Int} {LL : List (List Int)} {A : List Int} (h : solveL n LL [] = some A) : trueB n LL A = true ∧ A.length ≤ 24 ∧ (A.length : Int) = n ∧ A.all tr.bitB = true := by
 unfold lq.solveL at h
 split at h
 ·rename_i q
  rw [Bool.and_eq_true] at q
  obtain ⟨⟨hl, hb⟩, hp⟩ := lq.lst_some h
  have hc := q.1
  have hbits : A.all tr.bitB = true := by
   rw [List.all_eq_true]
   intro x hx
   unfold tr.bitB
   apply decide_eq_true
   rcases hb x hx with rfl | rfl <;> decide
  unfold lq.holds at hp
  rw [Bool.and_eq_true] at hp
  unfold ok.cnfB at q
  simp only [Bool.and_eq_true, decide_eq_true_iff] at q
  have hn : (A.length : Int) = n := by omega
  refine ⟨?_, by omega, hn, hbits⟩
  unfold tr.trueB tr.assignB
  rw [hc, decide_eq_true hn, hbits, hp.1]
  rfl
 ·cases h
theorem issued {key : ByteArray} {n : Int} {LL : List (List Int)} {d b m : ByteArray} {sat : Bool} {O : Option (List (List Int))} (h : issO key n LL = some (d, sat, b, m)) (hb : b.size ≤ 59700) (hO : RP (rd.bytes b) O) : vfC key n LL d sat b m O = 0 := by
 obtain ⟨h1, h2, h3, h4⟩ := iss_parts h
 simp only [Prod.mk.injEq] at h4
 obtain ⟨rfl, rfl, rfl, rfl⟩ := h4
 have hd := yi.dig_size n LL
 have hd32 : (digB n LL).size ≤ 32 := by
  show (digT n LL).toArray.size ≤ _
  rw [List.size_toArray]
  unfold da.digT
  split
  ·exact zr.sumT_len _
  ·exact Nat.zero_le _
 have hm := mark_ok key (digB n LL) (satB (fnd n LL).1) (bodyB (fnd n LL).1) h2 (by rw [yg.sg_size]; omega)
 unfold yv.vfC
 rw [if_neg (by rw [hm]; decide), if_neg (fun q => by rcases q with q | q; exact h1 q; exact q rfl)]
 cases hs : solveL n LL [] with
 | some A =>
  have e : fnd n LL = (.inl A, true) := by unfold yh.fnd; rw [hs]
  rw [e] at hO ⊢
  obtain ⟨t1, t2, t3, t4⟩ := solve_true hs
  have bk := dv.back t2 t4
  have eb : rd.bytes (bodyB (.inl A)) = as_.asText A := rfl
  rw [if_pos (show satB (Sum.inl A, true).1 = true from rfl)]
  show (if raB (rd.bytes (bodyB (.inl A))) n = false then 3 else if trueB n LL (raL (rd.bytes (bodyB (.inl A))) n) = false then 4 else 0) = 0
  rw [eb, ← t3, if_neg (by rw [bk.2.2.1]; decide), bk.2.2.2.1, if_neg (by rw [t3, t1]; decide)]
 | none =>
  have e : fnd n LL = (.inr (refL n LL).1, (refL n LL).2) := by unfold yh.fnd; rw [hs]
  rw [e] at hO h3 ⊢
  unfold yh.refL at h3 hO ⊢
  split at h3
  ·rename_i hc
   rw [if_pos hc] at hO ⊢
   obtain ⟨r1, r2, r3⟩ := xs.refute_all hc h3
   have cf := xt.check_facts r1
   have n24 : n ≤ 24 := by
    have q := hc
    unfold ok.cnfB at q
    simp only [Bool.and_eq_true, decide_eq_true_iff] at q
    omega
   have hall : (xw.wlk n LL 700 []).1.all cls.okAll = true := by
    rw [List.all_eq_true]
    exact fun L hL => ok_all n24 (bad_all _ _ cf.2.2.1 L hL)
   have ep : rd.bytes (bodyB (.inr (xw.wlk n LL 700 []).1)) = cx.lines (xw.wlk n LL 700 []).1 := by
    show pt.prf _ = _
    unfold pt.prf
    rw [decide_eq_true cf.2.1, hall]
    rfl
   have eO : O = some (xw.wlk n LL 700 []).1 := hO.one (.inl ⟨_, rfl, hall, cf.2.1, ep.symm⟩)
   subst eO
   rw [if_neg (by simp [yi.satB]), if_neg (fun e => by cases e), if_neg (by show ¬ checkB n LL (xw.wlk n LL 700 []).1 = false; rw [r1]; decide)]
  ·cases h3
end Go.Proofs.YtcgiphcfjhbonaaGreatDoor.ys
namespace Go.Proofs.YtcgiphcfjhbonaaGreatDoor.ms
open lits (okB okB_iff placeI varI)
open bset (placeN placeN_le setOf setOf_lt setOf_bit setOf_has)
open cls (hasB)
open srt (srt litI okTo has_pos has_neg hi_bit)
open ok (cnfB clB litIn)
open tr (litT clT cnfT assignB trueB bitB)
open cs (good cnfS cnfS_mem cnfS_up cnfS_len same less_ord good_ok good_24 srt_ok)
open le (lessL)
set_option linter.unusedVariables false
theorem place_lit (p : Nat) (h : p < 48) : placeN (litI p) = p := by
 unfold bset.placeN lits.placeI srt.litI
 split <;> split <;> omega
theorem lit_place {x : Int} (h : okB x = true) : litI (placeN x) = x := by
 have := okB_iff.1 h
 unfold bset.placeN lits.placeI srt.litI
 split <;> split <;> omega
theorem srt_mem {S : Nat} {x : Int} : x ∈ srt S 48 ↔ okB x = true ∧ S.testBit (placeN x) = true := by
 constructor
 ·intro h
  refine ⟨srt_ok S 48 (Nat.le_refl _) x h, ?_⟩
  unfold srt.srt at h
  obtain ⟨p, hp, rfl⟩ := List.mem_map.1 h
  rw [List.mem_filter, List.mem_range] at hp
  rw [place_lit p hp.1]
  exact hp.2
 ·rintro ⟨h1, h2⟩
  unfold srt.srt
  refine List.mem_map.2 ⟨placeN x, ?_, lit_place h1⟩
  rw [List.mem_filter, List.mem_range]
  have := placeN_le h1
  exact ⟨by omega, h2⟩
theorem mem_set {c : List Int} (h : ∀ x ∈ c, okB x = true) {x : Int} : x ∈ srt (setOf c) 48 ↔ x ∈ c := by
 rw [srt_mem]
 constructor
 ·rintro ⟨h1, h2⟩
  rw [setOf_has c x h1] at h2
  exact of_decide_eq_true h2
 ·intro hx
  refine ⟨h x hx, ?_⟩
  rw [setOf_has c x (h x hx)]
  exact decide_eq_true hx
theorem good_mem {LL : List (List Int)} {x : List Int} : x ∈ good LL ↔ ∃ c ∈ LL, okTo (setOf c) 24 = true ∧ srt (setOf c) 48 = x := by
 unfold cs.good
 rw [List.mem_map]
 constructor
 ·rintro ⟨c, hc, e⟩
  rw [List.mem_filter] at hc
  exact ⟨c, hc.1, hc.2, e⟩
 ·rintro ⟨c, hc, h1, e⟩
  exact ⟨c, List.mem_filter.2 ⟨hc, h1⟩, e⟩
theorem cnfB_srt {n : Int} {LL : List (List Int)} (h : cnfB n LL = true) : cnfB n (cnfS LL) = true := by
 have f := fm.cnf_facts h
 have hl := cnfS_len LL
 unfold ok.cnfB
 rw [decide_eq_true (And.intro f.1 f.2.1), decide_eq_true (show (cnfS LL).length ≤ 120 by omega), Bool.true_and, Bool.true_and, List.all_eq_true]
 intro x hx
 have h24 := good_24 (cnfS_mem.1 hx)
 obtain ⟨c, hc, ho, rfl⟩ := good_mem.1 (cnfS_mem.1 hx)
 have hin := (f.2.2.2 c hc).2
 unfold ok.clB
 rw [Bool.and_eq_true, decide_eq_true_iff, List.all_eq_true]
 refine ⟨fun y hy => hin y ((mem_set (fun z hz => ?_)).1 hy), by omega⟩
 have := hin z hz
 unfold ok.litIn at this
 rw [Bool.and_eq_true] at this
 exact this.1
theorem ownS_at {lo hi : Nat} {w : World} {a : Option Addr} {cap : Nat} {LL : List (List Int)} (h : css.OwnS lo hi w (.slice a LL.length cap) LL) (q : Nat) (hq : q < LL.length) :
  ∃ g u, a = some ⟨g, 0, none⟩ ∧ w.cell? ⟨g, q, none⟩ = some u ∧ w.ownsRow 0 3 1 u (LL.getD q []).length (sl.ints (LL.getD q [])) := by
 obtain ⟨D, rfl, hw, hb, hin, hp⟩ := h
 rw [List.length_map] at hq
 have hw' := hw
 rcases hw.2 with ⟨_, h0⟩ | ⟨g, cap', cur, e, _⟩
 ·omega
 ·injection e with e1 e2 e3
  subst e1
  refine ⟨g, D[q].1, rfl, ?_, ?_⟩
  ·have hw2 : w.ownsRow lo 43 1 (.slice (some ⟨g, 0, none⟩) D.length cap) D.length (D.map (·.1)) := by
    rw [List.length_map] at hw'
    exact hw'
   rw [hw2.cellAt q (by omega)]
   simp [hq]
  ·rw [css.map2_getD hq]
   exact css.own_mono (hin D[q] (List.getElem_mem hq)).1 (Nat.zero_le _)
end Go.Proofs.YtcgiphcfjhbonaaGreatDoor.ms
namespace Go.Proofs.YtcgiphcfjhbonaaGreatDoor.ys
open lits (okB)
open bset (setOf setOf_lt setOf_has)
open ok (cnfB litIn)
open cs (good cnfS cnfS_mem cnfS_up cnfS_len same less_ord good_ok good_24)
open da (digT)
open tr (trueB)
open yb (Cr)
open yh (refL fnd)
open yi (issO digB bodyB satB markB)
open yv (vfC)
open lq (solveL)
set_option linter.unusedVariables false
def turnL (LL : List (List Int)) : List (List Int) := (LL.map List.reverse).reverse
theorem set_rev (L : List Int) : setOf L.reverse = setOf L := by
 refine xw.bits_eq (setOf_lt _) (setOf_lt _) fun x hx => ?_
 rw [setOf_has _ x hx, setOf_has _ x hx]
 unfold cls.hasB
 congr 1
 exact propext List.mem_reverse
theorem turn_mem {LL : List (List Int)} {K : List Int} : K ∈ turnL LL ↔ ∃ L ∈ LL, L.reverse = K := by
 unfold turnL
 rw [List.mem_reverse, List.mem_map]
theorem cnfS_turn (LL : List (List Int)) : cnfS (turnL LL) = cnfS LL := by
 refine same less_ord _ _ (cnfS_up _) (cnfS_up _) (fun x hx => good_ok (cnfS_mem.1 hx)) (fun x hx => good_ok (cnfS_mem.1 hx)) (fun x => ?_)
 rw [cnfS_mem, ms.good_mem, cnfS_mem, ms.good_mem]
 constructor
 ·rintro ⟨c, hc, h1, h2⟩
  obtain ⟨L, hL, rfl⟩ := turn_mem.1 hc
  rw [set_rev] at h1 h2
  exact ⟨L, hL, h1, h2⟩
 ·rintro ⟨L, hL, h1, h2⟩
  exact ⟨L.reverse, turn_mem.2 ⟨L, hL, rfl⟩, by rw [set_rev]; exact h1, by rw [set_rev]; exact h2⟩
theorem cl_rev (n : Int) (L : List Int) : ok.clB n L.reverse = ok.clB n L := by
 unfold ok.clB
 rw [List.all_reverse, List.length_reverse]
theorem cnfB_turn (n : Int) (LL : List (List Int)) : cnfB n (turnL LL) = cnfB n LL := by
 unfold ok.cnfB turnL
 rw [List.length_reverse, List.length_map, List.all_reverse, List.all_map]
 congr 2
 funext L
 exact cl_rev n L
theorem cnfT_turn (A : List Int) (LL : List (List Int)) : tr.cnfT A (turnL LL) = tr.cnfT A LL := by
 unfold tr.cnfT turnL
 rw [List.all_reverse, List.all_map]
 congr 1
 funext L
 show tr.clT A L.reverse = tr.clT A L
 unfold tr.clT
 rw [List.any_reverse]
theorem trueB_turn (n : Int) (LL : List (List Int)) (A : List Int) : trueB n (turnL LL) A = trueB n LL A := by
 unfold tr.trueB tr.assignB
 rw [cnfB_turn, cnfT_turn]
theorem digT_turn (n : Int) (LL : List (List Int)) : digT n (turnL LL) = digT n LL := by
 unfold da.digT da.txtL cso.srtN cso.srtR cso.srtB
 rw [cnfB_turn, cnfS_turn]
theorem dig_len {n : Int} {LL : List (List Int)} (hc : cnfB n LL = true) (hl : LL.length ≤ 40) : (digT n LL).length = 32 := by
 have hf := fm.cnf_facts hc
 have h24 : ∀ L ∈ cnfS LL, L.length ≤ 24 := fun L hL => good_24 (cnfS_mem.1 hL)
 have hs := xs.sum_short h24
 have hn := cnfS_len LL
 have ls := lines_short (cnfS LL)
 have hh := cx.hd_len (n := n) (c := ((cnfS LL).length : Int)) (by omega) (by omega)
 have hw : (cx.whole n (cnfS LL)).length ≤ 12000 := by
  unfold cx.whole
  rw [List.length_append, List.length_append, List.length_singleton]
  omega
 have et : da.txtL n LL = cx.whole n (cnfS LL) := by
  unfold da.txtL cso.srtN cso.srtR
  rw [hc, if_pos rfl, if_pos rfl]
  exact cx.cnfT_yes (ms.cnfB_srt hc) (by omega)
 unfold da.digT
 rw [et]
 have e0 : (cx.whole n (cnfS LL)).isEmpty = false := by
  unfold cx.whole cx.hd
  rfl
 rw [e0]
 unfold cso.srtB
 rw [hc]
 show (zo.sumT _).length = 32
 unfold zo.sumT
 rw [if_pos (by show (cx.whole n (cnfS LL)).toArray.size ≤ _; rw [List.size_toArray]; omega)]
 unfold zo.sumL
 rw [zo.out4_length]
def Few (n : Int) (LL : List (List Int)) : Prop := ∃ w : Nat, w ≤ 7 ∧ (w : Int) ≤ n ∧ ∀ L ∈ LL, ∀ x ∈ L, litIn (w : Int) x = true
theorem found_few {n : Int} {LL : List (List Int)} (hc : cnfB n LL = true) (h : Few n LL) : (fnd n LL).2 = true ∧ (bodyB (fnd n LL).1).size ≤ 59700 := by
 obtain ⟨w, h7, hwn, hw⟩ := h
 cases hs : solveL n LL [] with
 | some A =>
  have e : fnd n LL = (.inl A, true) := by unfold yh.fnd; rw [hs]
  rw [e]
  obtain ⟨t1, t2, t3, t4⟩ := solve_true hs
  refine ⟨rfl, ?_⟩
  show (as_.asText A).toArray.size ≤ _
  rw [List.size_toArray, as_.asText_yes t2 t4]
  exact Nat.le_trans (cx.text_len _) (by decide)
 | none =>
  have e : fnd n LL = (.inr (refL n LL).1, (refL n LL).2) := by unfold yh.fnd; rw [hs]
  have er : refL n LL = xw.wlk n LL 700 [] := by unfold yh.refL; rw [if_pos hc]
  rw [e, er]
  obtain ⟨r1, r2, r3⟩ := yw.refutes hc hw hwn (by omega) hs
  refine ⟨r1, ?_⟩
  show (pt.prf _).toArray.size ≤ _
  rw [List.size_toArray]
  have ls := lines_short (xw.wlk n LL 700 []).1
  have ss := xs.sum_short (m := 7) (fun L hL => Nat.le_trans (r3 L hL) h7)
  have p8 : 2 ^ (w + 1) ≤ 2 ^ 8 := Nat.pow_le_pow_right (by decide) (by omega)
  have e8 : (2 : Nat) ^ 8 = 256 := rfl
  unfold pt.prf
  split
  ·omega
  ·exact Nat.zero_le _
theorem issues_few {key : ByteArray} {n : Int} {LL : List (List Int)} (hk : key.size ≤ 64) (hc : cnfB n LL = true) (hl : LL.length ≤ 40) (h : Few n LL) : ∃ d sat b m, issO key n LL = some (d, sat, b, m) ∧ b.size ≤ 59700 := by
 have f := found_few hc h
 refine ⟨digB n LL, satB (fnd n LL).1, bodyB (fnd n LL).1, markB key (digB n LL) (satB (fnd n LL).1) (bodyB (fnd n LL).1), ?_, f.2⟩
 unfold yi.issO
 rw [if_neg]
 rintro (q | q | q)
 ·have := dig_len hc hl
  rw [q] at this
  cases this
 ·omega
 ·rw [f.1] at q
  cases q
theorem few_of {n : Int} {LL : List (List Int)} (hc : cnfB n LL = true) (h : n ≤ 7 ∨ ∀ L ∈ LL, ∀ x ∈ L, x ≠ 0 ∧ -7 ≤ x ∧ x ≤ 7) : Few n LL := by
 have ff := fm.cnf_facts hc
 by_cases h7 : n ≤ 7
 ·obtain ⟨w, rfl⟩ := Int.eq_ofNat_of_zero_le ff.1
  exact ⟨w, by omega, Int.le_refl _, fun L hL => (ff.2.2.2 L hL).2⟩
 ·rcases h with h | h
  ·exact absurd h h7
  ·refine ⟨7, Nat.le_refl _, by omega, fun L hL x hx => ?_⟩
   have q := h L hL x hx
   unfold ok.litIn
   have ok : okB x = true := lits.okB_iff.2 (by omega)
   rw [ok, Bool.true_and]
   apply decide_eq_true
   unfold lits.varI
   rw [ok]
   simp only [if_true]
   split <;> omega
theorem verifies_turn {key : ByteArray} {n : Int} {LL : List (List Int)} {d b m : ByteArray} {O P : Option (List (List Int))} (h : vfC key n LL d true b m O = 0) : vfC key n (turnL LL) d true b m P = 0 := by
 unfold yv.vfC at h ⊢
 rw [digT_turn, trueB_turn]
 rw [if_pos rfl] at h ⊢
 exact h
end Go.Proofs.YtcgiphcfjhbonaaGreatDoor.ys
namespace Go.Proofs.YtcgiphcfjhbonaaGreatDoor.ys
open Go.ChangeShapes Go.WideShapes Go.ChangeAt Go.RowKit
open css (Sls OwnS tot)
open yo (Env)
open dec (str)
open da (digT)
open yi (Tabs)
set_option linter.unusedVariables false
theorem good_cnf {n : Int} {LL : List (List Int)} (hn : 1 ≤ n ∧ n ≤ 6) (hl : (LL.length : Int) ≤ 4 * n + 2) (hg : LL.all (dcn.good n) = true) : ok.cnfB n LL = true := by
 unfold ok.cnfB
 simp only [Bool.and_eq_true, decide_eq_true_iff, List.all_eq_true]
 refine ⟨by omega, fun L hL => ?_⟩
 have := List.all_eq_true.1 hg L hL
 unfold dcn.good at this
 rw [Bool.and_eq_true, decide_eq_true_iff, List.all_eq_true] at this
 unfold ok.clB
 rw [Bool.and_eq_true, decide_eq_true_iff, List.all_eq_true]
 refine ⟨fun x hx => ?_, by omega⟩
 have q := of_decide_eq_true (this.2 x hx)
 unfold ok.litIn
 have ok : lits.okB x = true := lits.okB_iff.2 (by omega)
 rw [ok, Bool.true_and]
 apply decide_eq_true
 unfold lits.varI
 rw [ok]
 simp only [if_true]
 split <;> omega
theorem tot_turn (LL : List (List Int)) : tot (turnL LL) = tot LL := by
 unfold css.tot turnL
 rw [List.length_reverse, List.length_map, List.map_reverse, List.sum_reverse, List.map_map]
 congr 2
 apply List.map_congr_left
 intro L _
 exact List.length_reverse
theorem turn_step (LL : List (List Int)) (q : Nat) (h : q < LL.length) : turnL (LL.drop q) = turnL (LL.drop (q + 1)) ++ [(LL.getD q []).reverse] := by
 unfold turnL
 rw [List.drop_eq_getElem_cons h, List.map_cons, List.reverse_cons, show LL.getD q [] = LL[q] by simp [h]]
theorem order {n : Int} {LL : List (List Int)} (hn : 1 ≤ n ∧ n ≤ 6) (hl : (LL.length : Int) ≤ 4 * n + 2) (hg : LL.all (dcn.good n) = true) (ht : tot LL ≤ 1048576) : ∃ (d : ByteArray) (sat : Bool) (b m D : ByteArray),
  (D.size : Int) = 32 ∧
  (∀ v w, Tabs w → Sls w v LL → Calls Tryz.prog 17 #[.string ⟨#[107]⟩, .agg #[.int .i64 n, v]] w fun e w' => e = .returned (.tuple #[.agg #[.string d, .bool sat, .string b, .string m], .bool true]) ∧ w.grownBy w' none) ∧
  (∀ v w, Tabs w → Sls w v LL → Calls Tryz.prog 20 #[.agg #[.int .i64 n, v]] w fun e w' => e = .returned (.string D) ∧ w.grownBy w' none) ∧
  (∀ v w, Tabs w → Sls w v (turnL LL) → Calls Tryz.prog 20 #[.agg #[.int .i64 n, v]] w fun e w' => e = .returned (.string D) ∧ w.grownBy w' none) ∧
  (∀ v w, Sls w v LL → Calls Tryz.prog 26 #[.agg #[.int .i64 n, v]] w fun e w' => e = .returned (.string D) ∧ w.grownBy w' none) ∧
  (∀ v w, (∃ a1 a2 a3 a4, Env w a1 a2 a3 a4) → Sls w v LL → Calls Tryz.prog 19 #[.string ⟨#[107]⟩, .agg #[.int .i64 n, v], .agg #[.string d, .bool sat, .string b, .string m]] w fun e w' => e = .returned (.int .i64 0) ∧ w.grownBy w' none) ∧
  (sat = true → ∀ v w, (∃ a1 a2 a3 a4, Env w a1 a2 a3 a4) → Sls w v (turnL LL) → Calls Tryz.prog 19 #[.string ⟨#[107]⟩, .agg #[.int .i64 n, v], .agg #[.string d, .bool sat, .string b, .string m]] w fun e w' => e = .returned (.int .i64 0) ∧ w.grownBy w' none) := by
 have hc := good_cnf hn hl hg
 have hL : LL.length ≤ 40 := by omega
 obtain ⟨d, sat, b, m, hi, hb⟩ := issues_few (key := ⟨#[107]⟩) (by decide) hc hL (few_of hc (.inl (by omega)))
 have hd : d.size ≤ 1024 := by
  obtain ⟨_, _, _, h4⟩ := iss_parts hi
  simp only [Prod.mk.injEq] at h4
  rw [h4.1]
  exact yi.dig_size n LL
 obtain ⟨O, hO⟩ := yv.rp_ex b
 have hv := issued hi hb hO
 have hD := dig_len hc hL
 refine ⟨d, sat, b, m, ⟨(digT n LL).toArray⟩, ?_, fun v w hT hs => ?_, fun v w hT hs => ?_, fun v w hT hs => ?_, fun v w hs => ?_, fun v w hE hs => ?_, fun e v w hE hs => ?_⟩
 ·show ((digT n LL).toArray.size : Int) = 32
  rw [List.size_toArray, hD]
  rfl
 ·have := yi.implIssue ⟨#[107]⟩ v n LL w (by decide) hT ht hs
  unfold yb.CertE at this
  rw [hi] at this
  exact this
 ·exact da.implDigest v n LL w hT.tab hT.pow hT.k hT.s ht hs
 ·have := da.implDigest v n (turnL LL) w hT.tab hT.pow hT.k hT.s (by rw [tot_turn]; exact ht) hs
  rw [digT_turn] at this
  exact this
 ·exact da.specDigest v n LL w ht hs
 ·obtain ⟨a1, a2, a3, a4, hE⟩ := hE
  have := yo.implVerify ⟨#[107]⟩ v n LL d sat b m O w (by decide) hE ht hs hO (by omega) (by omega) (by omega)
  rw [hv] at this
  exact this
 ·obtain ⟨a1, a2, a3, a4, hE⟩ := hE
  subst e
  have := yo.implVerify ⟨#[107]⟩ v n (turnL LL) d true b m O w (by decide) hE (by rw [tot_turn]; exact ht) hs hO (by omega) (by omega) (by omega)
  rw [verifies_turn hv] at this
  exact this
end Go.Proofs.YtcgiphcfjhbonaaGreatDoor.ys
