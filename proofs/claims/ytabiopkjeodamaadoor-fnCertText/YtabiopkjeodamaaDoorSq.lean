/- What the model's l04Clause and l04Unit answer; no condition but that the clauses hold literals, and on the sizes. -/
import Derived.Test.YtabiopkjeodamaaDoorSp
import Derived.Test.YtabiopkjeodamaaDoorSlw
namespace Go.Proofs.YtabiopkjeodamaaDoor.sp
open Go.ChangeShapes Go.WideShapes Go.ChangeAt Go.RowKit
open Go.Proofs.YtabiopkjeodamaaDoor.lits (okB varI okB_iff)
open Go.Proofs.YtabiopkjeodamaaDoor.bset (placeN placeN_le placeN_inj setOf setOf_lt setOf_has setOf_bit)
open Go.Proofs.YtabiopkjeodamaaDoor.cls (hasB)
open Go.Proofs.YtabiopkjeodamaaDoor.css (Sls tot)
open Go.Proofs.YtabiopkjeodamaaDoor.cf (Box)
open Go.Proofs.YtabiopkjeodamaaDoor.ok (cnfB litIn all_hit all_step all_end)
open Go.Proofs.YtabiopkjeodamaaDoor.wo (Made)
open Go.Proofs.YtabiopkjeodamaaDoor.wm
open Go.Proofs.YtabiopkjeodamaaDoor.srt (woN fstI andN_lt)
open Go.Proofs.YtabiopkjeodamaaDoor.sl (Sl Own ints hide unhide ret_int ret_bool grown_refl grown_trans grown_drewN)
set_option linter.unusedVariables false

theorem closed_iff {c A : List Int} (hc : ∀ x ∈ c, okB x = true) : clsd (setOf c) (setOf A) = c.any (hasB A) := by
  rw [Bool.eq_iff_iff, List.any_eq_true]
  constructor
  · intro h
    apply Classical.byContradiction
    intro hn
    have : clsd (setOf c) (setOf A) = false := clsd_no.2 (fun b hb => by
      obtain ⟨h1, h2⟩ := hb
      rw [setOf_bit, List.any_eq_true] at h1
      obtain ⟨x, hx, e⟩ := h1
      rw [Bool.and_eq_true, decide_eq_true_iff] at e
      exact hn ⟨x, hx, by rw [← setOf_has A x e.1, e.2]; exact h2⟩)
    rw [h] at this
    cases this
  · rintro ⟨x, hx, hA⟩
    cases h : clsd (setOf c) (setOf A)
    · exfalso
      refine clsd_no.1 h (placeN x) ⟨?_, ?_⟩
      · rw [setOf_has c x (hc x hx)]
        exact decide_eq_true hx
      · rw [setOf_has A x (hc x hx)]
        exact hA
    · rfl
theorem open_iff {c A : List Int} {x : Int} (hx : okB x = true) : (opn (setOf c) (setOf A)).testBit (placeN x) = (hasB c x && !hasB A (-x)) := by
  rw [opn_bit _ _ _ (setOf_lt c), swp_place hx, setOf_has c x hx, setOf_has A (-x) (opp_ok hx)]
/-- a bit of the open ones is an open literal's -/
theorem open_lit {c A : List Int} {b : Nat} (hb : (opn (setOf c) (setOf A)).testBit b = true) : ∃ x, x ∈ c ∧ okB x = true ∧ hasB A (-x) = false ∧ placeN x = b := by
  obtain ⟨x, hx, e⟩ := bit_lit (andN_lt _ _ (setOf_lt c)) hb
  rw [← e, open_iff hx, Bool.and_eq_true, Bool.not_eq_true'] at hb
  exact ⟨x, of_decide_eq_true hb.1, hx, hb.2, e⟩
theorem cl_closed {c A : List Int} {x : Int} (hc : ∀ x ∈ c, okB x = true) (hx : x ∈ c) (hA : hasB A x = true) : clauseN (setOf c) (setOf A) = 0 :=
  clauseN_closed (by rw [closed_iff hc, List.any_eq_true]; exact ⟨x, hx, hA⟩)
theorem cl_two {c A : List Int} {x y : Int} (hc : ∀ x ∈ c, okB x = true) (hn : c.any (hasB A) = false) (hx : x ∈ c) (hy : y ∈ c) (ox : hasB A (-x) = false) (oy : hasB A (-y) = false) (hxy : x ≠ y) : clauseN (setOf c) (setOf A) = 0 := by
  have bx : (opn (setOf c) (setOf A)).testBit (placeN x) = true := by rw [open_iff (hc x hx), ox, show hasB c x = true from decide_eq_true hx]; rfl
  have by' : (opn (setOf c) (setOf A)).testBit (placeN y) = true := by rw [open_iff (hc y hy), oy, show hasB c y = true from decide_eq_true hy]; rfl
  have ho : opn (setOf c) (setOf A) ≠ 0 := fun e => by rw [e, Nat.zero_testBit] at bx; cases bx
  refine clauseN_two (by rw [closed_iff hc]; exact hn) ho (fun e => ?_)
  exact hxy (placeN_inj (hc x hx) (hc y hy) ((one_iff (andN_lt _ _ (setOf_lt c)) ho).1 e _ _ bx by'))
theorem cl_one {c A : List Int} {y : Int} (hc : ∀ x ∈ c, okB x = true) (hn : c.any (hasB A) = false) (hy : y ∈ c) (oy : hasB A (-y) = false) (hall : ∀ x ∈ c, hasB A (-x) = true ∨ x = y) : clauseN (setOf c) (setOf A) = y := by
  have by' : (opn (setOf c) (setOf A)).testBit (placeN y) = true := by rw [open_iff (hc y hy), oy, show hasB c y = true from decide_eq_true hy]; rfl
  have ho : opn (setOf c) (setOf A) ≠ 0 := fun e => by rw [e, Nat.zero_testBit] at by'; cases by'
  have on : ∀ b, (opn (setOf c) (setOf A)).testBit b = true → b = placeN y := by
    intro b hb
    obtain ⟨x, hx, okx, ox, e⟩ := open_lit hb
    rcases hall x hx with q | q
    · rw [ox] at q
      cases q
    · rw [← e, q]
  have hr := (one_iff (andN_lt _ _ (setOf_lt c)) ho).2 (fun a b ha hb => (on a ha).trans (on b hb).symm)
  rw [clauseN_one (by rw [closed_iff hc]; exact hn) ho hr]
  have fs := fst_spec (Nat.pos_of_ne_zero ho) (andN_lt _ _ (setOf_lt c))
  exact placeN_inj fs.1 (hc y hy) (on _ fs.2)
theorem cl_none {c A : List Int} (hc : ∀ x ∈ c, okB x = true) (hn : c.any (hasB A) = false) (hall : ∀ x ∈ c, hasB A (-x) = true) : clauseN (setOf c) (setOf A) = -100 := by
  refine clauseN_empty (by rw [closed_iff hc]; exact hn) (zero_of fun b => ?_)
  cases hb : (opn (setOf c) (setOf A)).testBit b
  · rfl
  · obtain ⟨x, hx, okx, ox, e⟩ := open_lit hb
    rw [hall x hx] at ox
    cases ox
/-- the one open literal so far -/
def Sofar (A c : List Int) (k : Nat) (o : Int) : Prop := (o = 0 ∧ ∀ x ∈ c.take k, hasB A (-x) = true) ∨ (o ∈ c.take k ∧ hasB A (-o) = false ∧ ∀ x ∈ c.take k, hasB A (-x) = true ∨ x = o)
theorem take_mem {c : List Int} {k : Nat} (h : k < c.length) {x : Int} : x ∈ c.take (k + 1) ↔ x ∈ c.take k ∨ x = c.getD k 0 := by
  rw [wm.take_snoc c k h, List.mem_append, List.mem_singleton]

set_option maxRecDepth 100000 in
set_option maxHeartbeats 4000000 in
theorem l04Clause (v u : Value) (c A : List Int) (w : World) (hC : c.length ≤ 1048576) (hA : A.length ≤ 2097152) (hc : ∀ x ∈ c, okB x = true) (hv : Sl w v c) (hu : Sl w u A) :
    Calls Tryd.prog 173 #[v, u] w fun e w' => e = .returned (.int .i64 (clauseN (setOf c) (setOf A))) ∧ w' = w := by
  have CH := hide (fun x => slw.specClauseHas u A x w hA hu)
  have HC := hide hc
  obtain ⟨a, cap, rfl, ha⟩ := hv
  have HV := hide ha
  clear ha hu hc
  go_enter Tryd.func173, Tryd.ntmps173
  go_wp2
  go_loop [6] (fun i => ∃ k : Nat, k ≤ c.length ∧ i = .int .i64 k ∧ Hid ((c.take k).any (hasB A) = false)) (fun i => c.length - (intOf i).toNat)
  case atStart => exact ⟨0, Nat.zero_le _, rfl, by show _ = _; simp⟩
  case round =>
    obtain ⟨k, hk, rfl, hall⟩ := hrel
    by_cases hlt : k < c.length
    · rcases unhide HV with h | ⟨b, off, rfl, hb, hcb⟩
      · rw [h] at hlt
        simp at hlt
      · have c1 := hcb k hlt
        have hi' : (k : Int) < (c.length : Int) := by omega
        have h2 := tr.any_step (hasB A) c k 0 hlt (unhide hall)
        have hm : c.getD k 0 ∈ c := by rw [show c.getD k 0 = c[k] by simp [hlt]]; exact List.getElem_mem hlt
        generalize c.getD k 0 = x at *
        have ch := unhide CH x
        cases hx : hasB A x
        · rw [hx] at ch
          have C2 := hide ch
          have H := hide (h2 hx)
          clear ch h2 hx hcb hall HV CH hm
          go_wp2_with (go_at_call 115; refine (unhide C2).mono ?_; rintro e w' ⟨rfl, rfl⟩)
          go_round
          case rel => exact ⟨k + 1, by omega, by go_num, H⟩
          case measure => simp [intOf]; omega
        · rw [hx] at ch
          have C2 := hide ch
          have H := hide (cl_closed (unhide HC) hm hx)
          clear ch h2 hx hcb hall HV CH hm
          go_wp2_with (go_at_call 115; refine (unhide C2).mono ?_; rintro e w' ⟨rfl, rfl⟩)
          go_ret
          exact ⟨ret_int (unhide H).symm, rfl⟩
    · have hi' : ¬ (k : Int) < (c.length : Int) := by omega
      have HN := hide (tr.any_end (hasB A) c k hlt (unhide hall))
      clear hall
      go_wp2
      clear hi' hlt hk
      go_loop [5, 7] (fun o i => ∃ (k : Nat) (y : Int), k ≤ c.length ∧ i = .int .i64 k ∧ o = .int .i64 y ∧ -24 ≤ y ∧ y ≤ 24 ∧ Hid (Sofar A c k y)) (fun _ i => c.length - (intOf i).toNat)
      case atStart => exact ⟨0, 0, Nat.zero_le _, rfl, rfl, by decide, by decide, .inl ⟨rfl, fun x hx => by simp at hx⟩⟩
      case round =>
        obtain ⟨k, y, hk, rfl, rfl, y1, y2, hall⟩ := hrel
        by_cases hlt : k < c.length
        · rcases unhide HV with h | ⟨b, off, rfl, hb, hcb⟩
          · rw [h] at hlt
            simp at hlt
          · have c1 := hcb k hlt
            have hi' : (k : Int) < (c.length : Int) := by omega
            have hm : c.getD k 0 ∈ c := by rw [show c.getD k 0 = c[k] by simp [hlt]]; exact List.getElem_mem hlt
            have tm := fun z => take_mem hlt (x := z)
            generalize c.getD k 0 = x at *
            have okx := unhide HC x hm
            have bd := okB_iff.1 okx
            have ch := unhide CH (-x)
            obtain ⟨b0, b1, b2⟩ := bd
            cases hx : hasB A (-x)
            · rw [hx] at ch
              have C2 := hide ch
              by_cases hxy : x = y
              · have H : Hid (Sofar A c (k + 1) y) := by
                  rcases unhide hall with ⟨q1, q2⟩ | ⟨q1, q2, q3⟩
                  · omega
                  · exact .inr ⟨(tm y).2 (.inl q1), q2, fun z hz => by
                      rcases (tm z).1 hz with e | e
                      · exact q3 z e
                      · exact .inr (e.trans hxy)⟩
                subst hxy
                have he : (x == x) = true := by simp
                clear ch hx hcb hall HV CH hm tm okx
                go_wp2_with (go_at_call 115; refine (unhide C2).mono ?_; rintro e w' ⟨rfl, rfl⟩)
                go_round
                case rel => exact ⟨k + 1, x, by omega, by go_num, rfl, y1, y2, H⟩
                case measure => simp [intOf]; omega
              · have he : (x == y) = false := by simpa using hxy
                by_cases hy0 : y = 0
                · subst hy0
                  have H : Hid (Sofar A c (k + 1) x) := by
                    rcases unhide hall with ⟨q1, q2⟩ | ⟨q1, q2, q3⟩
                    · exact .inr ⟨(tm x).2 (.inr rfl), hx, fun z hz => by
                        rcases (tm z).1 hz with e | e
                        · exact .inl (q2 z e)
                        · exact .inr e⟩
                    · have := okB_iff.1 (unhide HC 0 (List.mem_of_mem_take q1))
                      omega
                  clear ch hx hcb hall HV CH hm tm okx hxy
                  go_wp2_with (go_at_call 115; refine (unhide C2).mono ?_; rintro e w' ⟨rfl, rfl⟩)
                  go_round
                  case rel => exact ⟨k + 1, x, by omega, by go_num, rfl, b1, b2, H⟩
                  case measure => simp [intOf]; omega
                · have hy0' : (y != 0) = true := by simpa using hy0
                  have H : Hid (clauseN (setOf c) (setOf A) = 0) := by
                    rcases unhide hall with ⟨q1, q2⟩ | ⟨q1, q2, q3⟩
                    · exact absurd q1 hy0
                    · exact cl_two (unhide HC) (unhide HN) hm (List.mem_of_mem_take q1) hx q2 hxy
                  clear ch hx hcb hall HV CH hm tm okx hxy
                  go_wp2_with (go_at_call 115; refine (unhide C2).mono ?_; rintro e w' ⟨rfl, rfl⟩)
                  go_ret
                  exact ⟨ret_int (unhide H).symm, rfl⟩
            · rw [hx] at ch
              have C2 := hide ch
              have H : Hid (Sofar A c (k + 1) y) := by
                rcases unhide hall with ⟨q1, q2⟩ | ⟨q1, q2, q3⟩
                · exact .inl ⟨q1, fun z hz => by
                    rcases (tm z).1 hz with e | e
                    · exact q2 z e
                    · rw [e]; exact hx⟩
                · exact .inr ⟨(tm y).2 (.inl q1), q2, fun z hz => by
                    rcases (tm z).1 hz with e | e
                    · exact q3 z e
                    · rw [e]; exact .inl hx⟩
              clear ch hx hcb hall HV CH hm tm okx
              go_wp2_with (go_at_call 115; refine (unhide C2).mono ?_; rintro e w' ⟨rfl, rfl⟩)
              go_round
              case rel => exact ⟨k + 1, y, by omega, by go_num, rfl, y1, y2, H⟩
              case measure => simp [intOf]; omega
        · have hi' : ¬ (k : Int) < (c.length : Int) := by omega
          have et : c.take k = c := List.take_of_length_le (by omega)
          have hs := unhide hall
          unfold Sofar at hs
          rw [et] at hs
          by_cases hy0 : y = 0
          · subst hy0
            have H : Hid (clauseN (setOf c) (setOf A) = -100) := by
              rcases hs with ⟨q1, q2⟩ | ⟨q1, q2, q3⟩
              · exact cl_none (unhide HC) (unhide HN) q2
              · have := okB_iff.1 (unhide HC 0 q1)
                omega
            clear HV CH hall hs et
            go_wp2
            go_ret
            exact ⟨ret_int (unhide H).symm, rfl⟩
          · have hy0' : (y == 0) = false := by simpa using hy0
            have H : Hid (clauseN (setOf c) (setOf A) = y) := by
              rcases hs with ⟨q1, q2⟩ | ⟨q1, q2, q3⟩
              · exact absurd q1 hy0
              · exact cl_one (unhide HC) (unhide HN) q1 q2 q3
            clear HV CH hall hs et
            go_wp2
            go_ret
            exact ⟨ret_int (unhide H).symm, rfl⟩
end Go.Proofs.YtabiopkjeodamaaDoor.sp
