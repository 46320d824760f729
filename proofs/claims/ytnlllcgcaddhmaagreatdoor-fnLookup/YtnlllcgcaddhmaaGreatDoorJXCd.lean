/- What FnLookup's calls answer at the formula that it draws: it is known, and is remembered then; no condition. -/
import Derived.Test.YtnlllcgcaddhmaaGreatDoorJLv
import Derived.Test.YtnlllcgcaddhmaaGreatDoorJXQn
import Derived.Test.YtnlllcgcaddhmaaGreatDoorJXMs
import Derived.Test.YtnlllcgcaddhmaaGreatDoorJXCa
namespace Go.Proofs.YtnlllcgcaddhmaaGreatDoor.cml
open Go.ChangeShapes Go.WideShapes Go.ChangeAt Go.RowKit
open ua (Kn kz okC putK putOk fndB fndK fndL fnd_parts rest putL costB inB newTo)
open ok (cnfB)
open cs (cnfS cnfS_mem cnfS_len good_24)
open an (askB askK dgA csA ask_some lkB lkK lkL)
open da (digT)
set_option linter.unusedVariables false
theorem lines_short : ∀ (C : List (List Int)), (cx.lines C).length ≤ 11 * (C.map List.length).sum + 2 * C.length := by
 intro C
 induction C with
 | nil => exact Nat.le_refl _
 | cons L C ih =>
  have e : cx.lines (L :: C) = txt.text L ++ [10] ++ cx.lines C := rfl
  have hb : (txt.text L).length ≤ 11 * L.length + 1 := by
   unfold txt.text
   split
   ·rename_i h
    have := txt.body_len L (by unfold cls.okAll at h; rw [Bool.and_eq_true] at h; first | exact h.1 | exact h.2)
    rw [List.length_append, List.length_singleton]
    omega
   ·exact Nat.zero_le _
  rw [e, List.length_append, List.length_append, List.length_singleton, List.map_cons, List.sum_cons, List.length_cons]
  omega
theorem sum_short {m : Nat} : ∀ {C : List (List Int)}, (∀ L ∈ C, L.length ≤ m) → (C.map List.length).sum ≤ m * C.length := by
 intro C
 induction C with
 | nil => intro _; exact Nat.zero_le _
 | cons L C ih =>
  intro h
  have h1 := h L (List.mem_cons_self ..)
  have h2 := ih (fun M hM => h M (List.mem_cons_of_mem _ hM))
  rw [List.map_cons, List.sum_cons, List.length_cons, Nat.mul_succ]
  omega
theorem dig_len {n : Int} {LL : List (List Int)} (hc : cnfB n LL = true) (hl : LL.length ≤ 40) : (digT n LL).length = 32 := by
 have hf := fm.cnf_facts hc
 have h24 : ∀ L ∈ cnfS LL, L.length ≤ 24 := fun L hL => good_24 (cnfS_mem.1 hL)
 have hs := sum_short h24
 have hn := cnfS_len LL
 have ls := lines_short (cnfS LL)
 have hh := cx.hd_len (n := n) (c := ((cnfS LL).length : Int)) (by omega) (by omega)
 have hw : (cx.whole n (cnfS LL)).length ≤ 12000 := by
  unfold cx.whole
  rw [List.length_append, List.length_append, List.length_singleton]
  omega
 have et : da.txtL n LL = cx.whole n (cnfS LL) := by
  unfold da.txtL cso.srtN cso.srtR
  rw [hc, if_pos rfl, if_pos rfl]
  exact cx.cnfT_yes (ms.cnfB_srt hc) (by omega)
 unfold da.digT
 rw [et]
 have e0 : (cx.whole n (cnfS LL)).isEmpty = false := by
  unfold cx.whole cx.hd
  rfl
 rw [e0]
 unfold cso.srtB
 rw [hc]
 show (zo.sumT _).length = 32
 unfold zo.sumT
 rw [if_pos (by show (cx.whole n (cnfS LL)).toArray.size ≤ _; rw [List.size_toArray]; omega)]
 unfold zo.sumL
 rw [zo.out4_length]
theorem ask_yes {n : Int} {LL : List (List Int)} (h1 : 1 ≤ n ∧ n ≤ 6) (hl : (LL.length : Int) ≤ 4 * n + 2) (hg : LL.all (dcn.good n) = true) : askB n LL = true ∧ costB (askK n LL).cost = true ∧ (askK n LL).dg = dgA n LL := by
 have hc := qh.good_cnf h1 hl hg
 obtain ⟨m, rfl⟩ := Int.eq_ofNat_of_zero_le (show (0 : Int) ≤ n by omega)
 have hd := dig_len hc (by omega)
 have hs := ms.cnfB_srt hc
 have hm6 : m ≤ 6 := by omega
 obtain ⟨A, s, k, out⟩ := qh.outcome hm6 hs rfl
 have hcs : csA (m : Int) LL = k := by
  unfold an.csA cso.srtN cso.srtR
  rw [hc, if_pos rfl, if_pos rfl]
  exact out.cost
 have hk0 : 0 ≤ k := by
  have := out.ok
  unfold qm.machB at this
  simp only [Bool.and_eq_true, decide_eq_true_iff] at this
  exact this.1.2.1
 have hk1 := out.lt
 have hp := (qh.pow6 hm6).2.1
 have hb : askB (m : Int) LL = true := by
  unfold an.askB
  rw [hcs, decide_eq_true hk0, Bool.and_true]
  cases e : digT (m : Int) LL with
  | nil => rw [e] at hd; cases hd
  | cons x l => rfl
 refine ⟨hb, ?_, ?_⟩
 ·rw [ask_some hb]
  show costB (csA (m : Int) LL) = true
  rw [hcs]
  unfold ua.costB
  rw [decide_eq_true hk0, decide_eq_true (by omega)]
  rfl
 ·rw [ask_some hb]
structure Told (room n : Int) (LL : List (List Int)) : Prop where
 b1 : lkB room [] n LL = true
 k1 : lkK room [] n LL = askK n LL
 l1 : lkL room [] n LL = [askK n LL]
 b2 : lkB room [askK n LL] n LL = true
 k2 : lkK room [askK n LL] n LL = askK n LL
 l2 : lkL room [askK n LL] n LL = [askK n LL]
 ok : okC room [askK n LL] = true
 ask : askB n LL = true
theorem told {room n : Int} {LL : List (List Int)} (hr : 1 ≤ room ∧ room ≤ 4) (h1 : 1 ≤ n ∧ n ≤ 6) (hl : (LL.length : Int) ≤ 4 * n + 2) (hg : LL.all (dcn.good n) = true) : Told room n LL := by
 obtain ⟨hb, hc, hd⟩ := ask_yes h1 hl hg
 have e0 : fndB room [] (dgA n LL) = false := by
  unfold ua.fndB ua.newTo
  simp
 have o0 : okC room [] = true := by
  rw [ua.okC_nil]
  unfold ua.inB
  rw [decide_eq_true (by omega), decide_eq_true (by omega)]
  rfl
 have hp : putOk room [] (askK n LL) = true := by
  unfold ua.putOk
  rw [o0, hc]
  rfl
 have e1 : putK room [] (askK n LL) = [askK n LL] := by
  rw [(cma.put_yes hp).1]
  unfold ua.putL ua.rest
  rw [List.filter_nil, if_neg (by show ¬ room < ((0 : Nat) : Int) + 1; omega)]
  rfl
 have f1 := (cma.put_find hp).1
 rw [e1, hd, decide_eq_true (by omega)] at f1
 obtain ⟨j, hj, g1, g2⟩ := fnd_parts f1
 obtain rfl : j = 0 := by simpa using hj
 have ok1 := (cma.put_ok hp).1
 rw [e1] at ok1
 refine ⟨?_, ?_, ?_, ?_, ?_, ?_, ok1, hb⟩
 ·unfold an.lkB; rw [e0, hb, o0]; rfl
 ·unfold an.lkK; rw [e0, hb, o0]; rfl
 ·unfold an.lkL; rw [e0, hb, o0]; exact e1
 ·unfold an.lkB; rw [f1]; rfl
 ·unfold an.lkK; rw [f1]; exact g1
 ·unfold an.lkL; rw [f1]; exact g2
end Go.Proofs.YtnlllcgcaddhmaaGreatDoor.cml
