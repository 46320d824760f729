/- AndGate: what the program and its model answer at any number and any list of at most 2^20 numbers. -/
import Derived.Test.YtmmfhcfanbfniaaT5
import Derived.Test.YtmmfhcfanbfniaaOg
namespace Go.Proofs.Ytmmfhcfanbfniaa.t2
open Go.ChangeShapes Go.WideShapes Go.ChangeAt Go.RowKit
open Go.Proofs.Ytmmfhcfanbfniaa.lits (okB okB_iff)
open Go.Proofs.Ytmmfhcfanbfniaa.sl (Sl Own ints hide unhide ret_int ret_bool grown_refl grown_trans grown_drewN)
open Go.Proofs.Ytmmfhcfanbfniaa.css (Sls OwnS tot Apart own_ne own_ne' own_kind own_mono)
open Go.Proofs.Ytmmfhcfanbfniaa.cf (Box)
open Go.Proofs.Ytmmfhcfanbfniaa.wo (Made)
open Go.Proofs.Ytmmfhcfanbfniaa.sp (negL)
open Go.Proofs.Ytmmfhcfanbfniaa.ok (all_hit all_step all_end)
set_option linter.unusedVariables false

theorem l13List (v : Value) (L : List Int) (w : World) (hL : L.length ≤ 1048576) (hv : Sl w v L) :
    Calls Try.prog 63 #[v] w fun e w' => e = .returned (.bool (listB L)) ∧ w' = w := by
  obtain ⟨a, cap, rfl, ha⟩ := hv
  have HA := hide ha
  clear ha
  go_enter Try.func63, Try.ntmps63
  go_wp2
  go_loop [3] (fun i => ∃ k : Nat, k ≤ L.length ∧ i = .int .i64 k ∧ Hid ((L.take k).all okB = true)) (fun i => L.length - (intOf i).toNat)
  case atStart => exact ⟨0, Nat.zero_le _, rfl, by show _ = _; simp⟩
  case round =>
    obtain ⟨k, hk, rfl, hall⟩ := hrel
    by_cases hlt : k < L.length
    · rcases unhide HA with h | ⟨b, off, rfl, hb, hcb⟩
      · rw [h] at hlt
        simp at hlt
      · have c1 := hcb k hlt
        have hi' : (k : Int) < (L.length : Int) := by omega
        have h1 := all_hit okB L k 0 hlt
        have h2 := all_step okB L k 0 hlt (unhide hall)
        generalize L.getD k 0 = x at *
        have cx := lits.specLitOk x
        cases hx : okB x
        · rw [hx] at cx
          have CX := hide cx
          have H := hide (h1 hx)
          clear cx h1 h2 hx hcb HA hall
          go_wp2_with (go_at_call 76; refine (unhide CX _).mono ?_; rintro e w' ⟨rfl, rfl⟩)
          go_ret
          exact ⟨ret_bool (by simp [listB, unhide H]), rfl⟩
        · rw [hx] at cx
          have CX := hide cx
          have H := hide (h2 hx)
          clear cx h1 h2 hx hcb HA hall
          go_wp2_with (go_at_call 76; refine (unhide CX _).mono ?_; rintro e w' ⟨rfl, rfl⟩)
          go_round
          case rel => exact ⟨k + 1, by omega, by go_num, H⟩
          case measure => simp [intOf]; omega
    · have hi' : ¬ (k : Int) < (L.length : Int) := by omega
      have HR := hide (all_end okB L k hlt (unhide hall))
      clear HA hall
      go_wp2
      go_ret
      exact ⟨ret_bool (by unfold listB; rw [unhide HR, Bool.and_true]; exact decide_eq_decide.2 (by omega)), rfl⟩

theorem adds_snoc (C : List Int) (Cs : List (List Int)) : ∀ r CC, addsR r CC (Cs ++ [C]) = addR (addsR r CC Cs) (addsC r CC Cs) ∧ addsC r CC (Cs ++ [C]) = addC (addsR r CC Cs) (addsC r CC Cs) C := by
  induction Cs with
  | nil => exact fun r CC => ⟨rfl, rfl⟩
  | cons D Cs ih => exact fun r CC => ih _ _
theorem adds_len (Cs : List (List Int)) : ∀ r CC, CC.length ≤ 120 → (addsC r CC Cs).length ≤ 120 := by
  induction Cs with
  | nil => exact fun r CC h => h
  | cons D Cs ih => exact fun r CC h => ih _ _ (addC_len _ _ _ h)

def andP (nx : Int) (L : List Int) : List (List Int) := L.map fun y => [nx, y]
theorem andP_step (nx : Int) (L : List Int) (k : Nat) (h : k < L.length) : andP nx (L.take (k + 1)) = andP nx (L.take k) ++ [[nx, L.getD k 0]] := by
  unfold andP
  rw [List.take_succ_eq_append_getElem h, List.map_append, show L.getD k 0 = L[k] by simp [h]]
  rfl
def andC (nx x : Int) (L : List Int) : List (List Int) := andP nx L ++ [x :: negL L]
def AndI (W0 : World) (p : Nat) (v : Value) (w : World) (r : Bool) (CC P : List (List Int)) (wr : World) : Prop :=
  ∃ v', Bld W0 wr p v' (addsR r CC P) (addsC r CC P) ∧ Fr p v v' w wr
set_option maxRecDepth 10000 in
set_option maxHeartbeats 4000000 in
theorem andG (p : Nat) (v u : Value) (r : Bool) (CC : List (List Int)) (x : Int) (L : List Int) (lo hi : Nat) (W0 w : World) (hL : L.length ≤ 24) (hc : ∀ y ∈ L, okB y = true) (hl : CC.length ≤ 120) (hb : Bld W0 w p v r CC) (hu : Own lo hi w u L) (hh : hi ≤ w.heap.size) :
    Calls Try.prog 77 #[.pointer (some ⟨p, 0, none⟩), .int .i64 x, u] w fun e w' => MetF W0 p v w (addsR r CC (andC (wrap64 (-x)) x L)) (addsC r CC (andC (wrap64 (-x)) x L)) e w' := by
  obtain ⟨ua, uc, rfl, _⟩ := hu.sl
  have HB := hide hb
  have HU := hide hu
  have HC := hide hc
  have HL := hide hl
  have UF := hide (fun (wr : World) (v' : Value) (f : Fr p v v' w wr) => f.list hb hu hh)
  have VL := hide (v_lt hb)
  clear hb hu hc hl
  have ST : Hid (AndI W0 p v w r CC (andP (wrap64 (-x)) (L.take 0)) w) := ⟨v, unhide HB, Fr.refl ..⟩
  go_enter Try.func77, Try.ntmps77
  go_wp2
  go_loopw [10] (fun i wr => ∃ k : Nat, k ≤ L.length ∧ i = .int .i64 k ∧ Hid (AndI W0 p v w r CC (andP (wrap64 (-x)) (L.take k)) wr)) (fun i _ => L.length - (intOf i).toNat)
  case atStart => exact ⟨0, Nat.zero_le _, rfl, ST⟩
  case round =>
    obtain ⟨k, hk, rfl, hm⟩ := hrel
    clear ST HB
    by_cases hlt : k < L.length
    · obtain ⟨v1, b1, f1⟩ := unhide hm
      have hu1 := unhide UF wr v1 f1
      obtain ⟨b_, cap, e, cc⟩ := own_cell (n := L.length) hu1 rfl (by omega)
      cases e
      have c1 := cc k hlt
      have hi' : (k : Int) < (L.length : Int) := by omega
      have hts := andP_step (wrap64 (-x)) L k hlt
      have ln := adds_len (andP (wrap64 (-x)) (L.take k)) r CC (unhide HL)
      have ad := adds_snoc [wrap64 (-x), L.getD k 0] (andP (wrap64 (-x)) (L.take k)) r CC
      rw [← hts] at ad
      generalize L.getD k 0 = y at *
      obtain ⟨P2, hP2⟩ : ∃ P2, P2 = andP (wrap64 (-x)) (L.take (k + 1)) := ⟨_, rfl⟩
      rw [← hP2] at ad hts
      have HP := hide hP2
      clear hP2
      generalize andP (wrap64 (-x)) (L.take k) = P1 at *
      generalize addsR r CC P1 = r1 at *
      generalize addsC r CC P1 = C1 at *
      have gA := World.grownBy_alloc wr (.cells #[.int .i64 (wrap64 (-x)), .int .i64 y] 3) none
      have A1 := hide (add p v1 _ r1 C1 [wrap64 (-x), y] _ _ W0 _ (by simp) ln (b1.kept gA) (own_litN wr 2 [wrap64 (-x), y] #[.int .i64 (wrap64 (-x)), .int .i64 y] rfl rfl (by decide)))
      have AD := hide ad
      have F1 := hide f1
      have B1 := hide b1
      clear cc hu1 hts ln ad gA b1 f1 hm HU HC UF
      go_wp2_with fail
      refine (unhide A1).mono ?_; rintro e w2 ⟨rfl, v2, b2, f2⟩
      have R : Hid (AndI W0 p v w r CC P2 w2) := by
        refine ⟨v2, ?_, (unhide F1).trans (Fr.up (World.grownBy_alloc wr _ none) f2 (v_lt (unhide B1)))⟩
        rw [(unhide AD).1, (unhide AD).2]
        exact b2
      clear b2 f2 A1 AD F1 B1
      go_wp2_with fail
      go_roundw
      case rel => exact ⟨k + 1, by omega, by go_num, by rw [← unhide HP]; exact R⟩
      case measure => simp [intOf]; omega
    · have hi' : ¬ (k : Int) < (L.length : Int) := by omega
      have e : L.take k = L := List.take_of_length_le (by omega)
      rw [e] at hm
      obtain ⟨v1, b1, f1⟩ := unhide hm
      have hu1 := unhide UF wr v1 f1
      have ln := adds_len (andP (wrap64 (-x)) L) r CC (unhide HL)
      have ad := adds_snoc (x :: negL L) (andP (wrap64 (-x)) L) r CC
      have ad' : Hid (addsR r CC (andC (wrap64 (-x)) x L) = addR (addsR r CC (andP (wrap64 (-x)) L)) (addsC r CC (andP (wrap64 (-x)) L)) ∧ addsC r CC (andC (wrap64 (-x)) x L) = addC (addsR r CC (andP (wrap64 (-x)) L)) (addsC r CC (andP (wrap64 (-x)) L)) (x :: negL L)) := ad
      have gA := World.grownBy_alloc wr (.cells #[.int .i64 x] 3) none
      have OP := hide (sp.oppositesOf _ L _ (by omega) (unhide HC) ((hu1.kept gA).sl))
      have OX := hide (own_litN wr 1 [x] #[.int .i64 x] rfl rfl (by decide))
      have hn : (negL L).length ≤ 24 := by unfold negL; rw [List.length_map]; exact hL
      obtain ⟨P2, hP2⟩ : ∃ P2, P2 = andC (wrap64 (-x)) x L := ⟨_, rfl⟩
      rw [← hP2] at ad'
      have HP := hide hP2
      clear hP2 ad
      generalize negL L = N at *
      generalize andP (wrap64 (-x)) L = P1 at *
      generalize addsR r CC P1 = r1 at *
      generalize addsC r CC P1 = C1 at *
      have F1 := hide f1
      have B1 := hide b1
      have GA := hide gA
      clear hu1 e gA b1 f1 hm HU HC UF
      go_wp2_with fail
      refine (unhide OP).mono ?_; rintro e w2 ⟨q, rfl, m2⟩
      have O2 := hide (Own.of m2.1)
      have G2 := hide (grown_trans (r := none) (unhide GA) m2.2)
      have X2 := hide ((unhide OX).kept m2.2)
      clear m2 OP OX GA
      go_wp2_with (at_builtin; refine app.appendI (A := [x]) (unhide G2) (unhide X2).1 (unhide O2) (by show 1 + N.length ≤ 4194304; omega) rfl _ _ rfl rfl rfl ?_)
      intro y w3 m3 g3
      have m3' : Made wr w3 y (x :: N) := m3
      have A1 := hide (add p v1 y r1 C1 (x :: N) _ _ W0 w3 (by simp; omega) ln ((unhide B1).kept m3'.2) (Own.of m3'.1))
      have G3 := hide m3'.2
      clear m3 m3' g3 O2 X2 G2
      go_wp2_with fail
      refine (unhide A1).mono ?_; rintro e w4 ⟨rfl, v4, b4, f4⟩
      have R : Hid (∃ v', Bld W0 w4 p v' (addsR r CC P2) (addsC r CC P2) ∧ Fr p v v' w w4) := by
        refine ⟨v4, ?_, (unhide F1).trans (Fr.up (unhide G3) f4 (v_lt (unhide B1)))⟩
        rw [(unhide ad').1, (unhide ad').2]
        exact b4
      clear b4 f4 A1 ad' F1 B1 G3
      go_wp2_with fail
      exact end0 rfl rfl ⟨rfl, by rw [← unhide HP]; exact unhide R⟩
end Go.Proofs.Ytmmfhcfanbfniaa.t2
