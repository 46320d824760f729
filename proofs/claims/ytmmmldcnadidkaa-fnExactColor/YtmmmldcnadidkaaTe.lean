/- atMost, atLeast and exactly of the builder: what they do to it; conditions: literals that are some, and sizes. -/
import Derived.Test.YtmmmldcnadidkaaTd
import Derived.Test.YtmmmldcnadidkaaTh
namespace Go.Proofs.Ytmmmldcnadidkaa.t2
open Go.ChangeShapes Go.WideShapes Go.ChangeAt Go.RowKit
open Go.Proofs.Ytmmmldcnadidkaa.lits (okB okB_iff)
open Go.Proofs.Ytmmmldcnadidkaa.sl (Sl Own ints hide unhide ret_int ret_bool grown_refl grown_trans grown_drewN)
open Go.Proofs.Ytmmmldcnadidkaa.css (Sls OwnS tot Apart own_ne own_ne' own_kind own_mono)
open Go.Proofs.Ytmmmldcnadidkaa.cf (Box)
open Go.Proofs.Ytmmmldcnadidkaa.wo (Made)
open Go.Proofs.Ytmmmldcnadidkaa.sp (negL)
set_option linter.unusedVariables false

set_option maxRecDepth 10000 in
set_option maxHeartbeats 4000000 in
theorem atMost (p : Nat) (v u : Value) (r : Bool) (CC : List (List Int)) (k : Int) (L : List Int) (lo hi : Nat) (W0 w : World) (hL : L.length ≤ 24) (hk : 0 ≤ k) (hc : ∀ y ∈ L, okB y = true) (hl : CC.length ≤ 120) (hb : Bld W0 w p v r CC) (hu : Own lo hi w u L) :
    Calls Try.prog 19 #[.pointer (some ⟨p, 0, none⟩), .int .i64 k, u] w fun e w' => MetF W0 p v w (addsR r CC (mostC L k)) (addsC r CC (mostC L k)) e w' := by
  have OP := hide (sp.oppositesOf u L w (by omega) hc hu.sl)
  have E := hide (fun (w1 : World) (q : Value) (o : Made w w1 q (negL L)) (x : Int) (hx : x = min k (L.length : Int) + 1) => (show x = (((min k (L.length : Int)).toNat + 1 : Nat) : Int) by omega) ▸ eachSubset p ((min k (L.length : Int)).toNat + 1) v q r CC (negL L) _ _ W0 w1 (by omega) (by unfold negL; rw [List.length_map]; omega) hl (hb.kept o.2) (Own.of o.1))
  have VL := hide (v_lt hb)
  obtain ⟨ua, uc, rfl, _⟩ := hu.sl
  have hk' : ¬ k < 0 := by omega
  clear hb hu hc
  go_enter Try.func19, Try.ntmps19
  go_wp2_with fail
  refine (unhide OP).mono ?_; rintro e w1 ⟨q, rfl, m1⟩
  have E1 := hide (unhide E w1 q m1)
  have G1 := hide m1.2
  obtain ⟨qa, qc, rfl, _⟩ := (Own.of m1.1).sl
  clear m1 E OP
  go_wp2_with fail
  all_goals
    refine (unhide E1 _ (by omega)).mono ?_; rintro e w2 ⟨rfl, v2, b2, f2⟩
    have R := hide (And.intro b2 (Fr.up (unhide G1) f2 (unhide VL)))
    clear b2 f2 E1 VL G1
    go_wp2_with fail
    exact end0 rfl rfl ⟨rfl, v2, (unhide R).1, (unhide R).2⟩
theorem atMostX (p : Nat) (v u : Value) (r : Bool) (CC : List (List Int)) (k : Int) (L : List Int) (lo hi : Nat) (W0 w : World) (hk : k < 0) (hb : Bld W0 w p v r CC) (hu : Own lo hi w u L) :
    Calls Try.prog 19 #[.pointer (some ⟨p, 0, none⟩), .int .i64 k, u] w fun e w' => MetF W0 p v w true CC e w' := by
  have c1 := hb.b.c1
  have f1 := hb.b.f 1
  have R := hide (hb.flag true)
  obtain ⟨ua, uc, rfl, _⟩ := hu.sl
  clear hb hu
  go_enter Try.func19, Try.ntmps19
  go_wp2_with fail
  exact end0 rfl rfl ⟨rfl, v, unhide R, Fr.flag _⟩
set_option maxRecDepth 10000 in
set_option maxHeartbeats 4000000 in
theorem atLeast (p : Nat) (v u : Value) (r : Bool) (CC : List (List Int)) (k : Int) (L : List Int) (lo hi : Nat) (W0 w : World) (hL : L.length ≤ 24) (hk0 : -9223372036854775808 ≤ k) (hk1 : k ≤ 9223372036854775807) (hl : CC.length ≤ 120) (hb : Bld W0 w p v r CC) (hu : Own lo hi w u L) :
    Calls Try.prog 28 #[.pointer (some ⟨p, 0, none⟩), .int .i64 k, u] w fun e w' => MetF W0 p v w (addsR r CC (leastC L k)) (addsC r CC (leastC L k)) e w' := by
  have E := hide (fun (x : Int) (hx : x = (L.length : Int) + 1 - max 0 (min k ((L.length : Int) + 1))) => (show x = ((L.length + 1 - (max 0 (min k ((L.length : Int) + 1))).toNat : Nat) : Int) by omega) ▸ eachSubset p (L.length + 1 - (max 0 (min k ((L.length : Int) + 1))).toNat) v u r CC L _ _ W0 w (by omega) (by omega) hl hb hu)
  obtain ⟨ua, uc, rfl, _⟩ := hu.sl
  clear hb hu
  go_enter Try.func28, Try.ntmps28
  go_wp2_with fail
  all_goals
    refine (unhide E _ (by omega)).mono ?_; rintro e w2 ⟨rfl, v2, b2, f2⟩
    have R := hide (And.intro b2 f2)
    clear b2 f2 E
    go_wp2_with fail
    exact end0 rfl rfl ⟨rfl, v2, (unhide R).1, (unhide R).2⟩
set_option maxRecDepth 10000 in
set_option maxHeartbeats 4000000 in
theorem exactly (p : Nat) (v u : Value) (r : Bool) (CC : List (List Int)) (k : Int) (L : List Int) (lo hi : Nat) (W0 w : World) (hL : L.length ≤ 24) (hk0 : 0 ≤ k) (hk1 : k ≤ 9223372036854775807) (hc : ∀ y ∈ L, okB y = true) (hl : CC.length ≤ 120) (hb : Bld W0 w p v r CC) (hu : Own lo hi w u L) (hh : hi ≤ w.heap.size) :
    Calls Try.prog 17 #[.pointer (some ⟨p, 0, none⟩), .int .i64 k, u] w fun e w' => MetF W0 p v w (addsR r CC (leastC L k ++ mostC L k)) (addsC r CC (leastC L k ++ mostC L k)) e w' := by
  have A := hide (atLeast p v u r CC k L lo hi W0 w hL (by omega) hk1 hl hb hu)
  have B := hide (fun (w1 : World) (v1 : Value) (b1 : Bld W0 w1 p v1 (addsR r CC (leastC L k)) (addsC r CC (leastC L k))) (f1 : Fr p v v1 w w1) => atMost p v1 u _ _ k L lo hi W0 w1 hL hk0 hc (adds_len _ _ _ hl) b1 (f1.list hb hu hh))
  have E := adds_app (leastC L k) r CC (mostC L k)
  rw [E.1, E.2]
  obtain ⟨ua, uc, rfl, _⟩ := hu.sl
  clear hb hu E hc
  go_enter Try.func17, Try.ntmps17
  go_wp2_with fail
  refine (unhide A).mono ?_; rintro e w1 ⟨rfl, v1, b1, f1⟩
  have B1 := hide (unhide B w1 v1 b1 f1)
  have F1 := hide f1
  clear b1 f1 A B
  go_wp2_with fail
  refine (unhide B1).mono ?_; rintro e w2 ⟨rfl, v2, b2, f2⟩
  have R := hide (And.intro b2 ((unhide F1).trans f2))
  clear b2 f2 B1 F1
  go_wp2_with fail
  exact end0 rfl rfl ⟨rfl, v2, (unhide R).1, (unhide R).2⟩
set_option maxRecDepth 10000 in
set_option maxHeartbeats 4000000 in
theorem exactlyX (p : Nat) (v u : Value) (r : Bool) (CC : List (List Int)) (k : Int) (L : List Int) (lo hi : Nat) (W0 w : World) (hL : L.length ≤ 24) (hk0 : -9223372036854775808 ≤ k) (hk : k < 0) (hl : CC.length ≤ 120) (hb : Bld W0 w p v r CC) (hu : Own lo hi w u L) (hh : hi ≤ w.heap.size) :
    Calls Try.prog 17 #[.pointer (some ⟨p, 0, none⟩), .int .i64 k, u] w fun e w' => MetF W0 p v w true (addsC r CC (leastC L k)) e w' := by
  have A := hide (atLeast p v u r CC k L lo hi W0 w hL (by omega) (by omega) hl hb hu)
  have B := hide (fun (w1 : World) (v1 : Value) (b1 : Bld W0 w1 p v1 (addsR r CC (leastC L k)) (addsC r CC (leastC L k))) (f1 : Fr p v v1 w w1) => atMostX p v1 u _ _ k L lo hi W0 w1 hk b1 (f1.list hb hu hh))
  obtain ⟨ua, uc, rfl, _⟩ := hu.sl
  clear hb hu
  go_enter Try.func17, Try.ntmps17
  go_wp2_with fail
  refine (unhide A).mono ?_; rintro e w1 ⟨rfl, v1, b1, f1⟩
  have B1 := hide (unhide B w1 v1 b1 f1)
  have F1 := hide f1
  clear b1 f1 A B
  go_wp2_with fail
  refine (unhide B1).mono ?_; rintro e w2 ⟨rfl, v2, b2, f2⟩
  have R := hide (And.intro b2 ((unhide F1).trans f2))
  clear b2 f2 B1 F1
  go_wp2_with fail
  exact end0 rfl rfl ⟨rfl, v2, (unhide R).1, (unhide R).2⟩
end Go.Proofs.Ytmmmldcnadidkaa.t2
