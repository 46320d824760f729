/- What solverOf makes of a right formula: its solver; the sizes within the bounds. -/
import Derived.Test.YtlpgnaedhijdpaaDoorKw
namespace Go.Proofs.YtlpgnaedhijdpaaDoor.ks
open Go.ChangeShapes Go.WideShapes Go.ChangeAt Go.RowKit
open Go.Proofs.YtlpgnaedhijdpaaDoor.kd (SV Slv cells_len cells_at atH0 atH1 atE0 atE1)
open Go.Proofs.YtlpgnaedhijdpaaDoor.kc (cset lo hi)
open Go.Proofs.YtlpgnaedhijdpaaDoor.srt (Tab fstI litI)
open Go.Proofs.YtlpgnaedhijdpaaDoor.lits (okB)
open Go.Proofs.YtlpgnaedhijdpaaDoor.bset (setOf setOf_lt placeN)
open Go.Proofs.YtlpgnaedhijdpaaDoor.css (Sls tot)
open Go.Proofs.YtlpgnaedhijdpaaDoor.su (MadeU words)
open Go.Proofs.YtlpgnaedhijdpaaDoor.sl (hide unhide grown_refl grown_trans)
set_option linter.unusedVariables false
theorem row_nec {w : World} {b n z c : Nat} {e t : TypeId} {fz : Nat × Nat} {v : Value} {xs : List Value} {cs : Array Value} (h : w.ownsRow b e z v n xs) (hc : w.heap[c]? = some (.cells cs t fz)) (he : (e : Nat) ≠ t) : v.ownBlock = none ∨ v.ownBlock ≠ some c := by
  cases q : v.ownBlock with
  | none => exact .inl rfl
  | some g =>
    right
    intro q'
    cases q'
    obtain ⟨c', fz', hc'⟩ := css.own_kind h c q
    rw [hc'] at hc
    simp only [Option.some.injEq, Obj.cells.injEq] at hc
    exact he hc.2.1
theorem Slv.fz {w : World} {c : Nat} {s : SV} (h : Slv w c s) (k : Nat) : w.frozen? ⟨c, k, none⟩ = false := by
  simp [World.frozen?, h.blk]
theorem lit_place {t : Nat} (h : t < 48) : okB (litI t) = true ∧ placeN (litI t) = t ∧ (if litI t < 0 then -litI t else litI t) = ((t / 2 + 1 : Nat) : Int) := by
  rcases Nat.mod_two_eq_zero_or_one t with e | e
  · obtain ⟨k, rfl⟩ : ∃ k, t = 2 * k := ⟨t / 2, by omega⟩
    rw [srt.litI_even]
    have := srt.place_pos k (by omega)
    refine ⟨this.1, this.2, ?_⟩
    rw [if_neg (by omega)]
    omega
  · obtain ⟨k, rfl⟩ : ∃ k, t = 2 * k + 1 := ⟨t / 2, by omega⟩
    rw [srt.litI_odd]
    have := srt.place_neg k (by omega)
    refine ⟨this.1, this.2, ?_⟩
    rw [if_pos (by omega)]
    omega
theorem row_form {w : World} {b n z : Nat} {e : TypeId} {v : Value} {xs : List Value} (h : w.ownsRow b e z v n xs) : ∃ a cap, v = .slice a n cap := by
  rcases h.2 with ⟨hv, h0⟩ | ⟨g, cap, cur, hv, _⟩
  · exact ⟨none, 0, by rw [hv, h0]⟩
  · exact ⟨_, cap, hv⟩
/-- what solverOf has made -/
def Sof (n : Nat) (LL : List (List Int)) (w w' : World) (c : Nat) (s : SV) : Prop := Slv w' c s ∧ Right n LL s ∧ w.grownBy w' none
def zeroSV (n : Nat) (u : Value) (Ss : List Nat) : SV := ⟨n, u, Ss, fun _ => 0, fun _ => 0⟩
set_option maxRecDepth 100000 in
theorem zero_cells (n : Nat) (u : Value) (Ss : List Nat) : (Tryd.zeroCells115.setIfInBounds 0 (.int .i64 (n : Int))).setIfInBounds 1 u = (zeroSV n u Ss).cells.toArray := by kernel_rfl
/-- the solver on its way: k clauses laid out, of the next the places ahead of q -/
structure Way (n : Nat) (Ss : List Nat) (u : Value) (w wr : World) (c k q : Nat) (s : SV) : Prop where
  sl : Slv wr c s
  sn : s.n = n
  sv : s.V = u
  ss : s.Ss = Ss
  got : Got n Ss k q s
  g : w.grownBy wr none
  hc : w.heap.size ≤ c
theorem Way.start {n : Nat} {Ss : List Nat} {u : Value} {w w1 W0 : World} (hm : Ss.length ≤ 120) (g : w.grownBy w1 none) (ho : w1.ownsRow w.heap.size 133 1 u Ss.length (words Ss))
    (hW : W0 = w1.alloc (.cells ((Tryd.zeroCells115.setIfInBounds 0 (.int .i64 (n : Int))).setIfInBounds 1 u) 115)) : Way n Ss u w W0 w1.heap.size 0 0 (zeroSV n u Ss) := by
  rw [zero_cells n u Ss] at hW
  subst hW
  refine ⟨⟨?_, (css.own_mono ho (Nat.zero_le _)).alloc _, hm, fun _ => Nat.two_pow_pos _, fun _ => Nat.two_pow_pos _⟩, rfl, rfl, rfl, Got.start (fun _ => rfl) (fun _ => rfl), grown_trans g (World.grownBy_alloc _ _ _), g.size⟩
  show (w1.heap.push _)[w1.heap.size]? = _
  rw [Array.getElem?_push, if_pos rfl]
theorem Way.own {n : Nat} {Ss : List Nat} {u : Value} {w wr : World} {c k q : Nat} {s : SV} (h : Way n Ss u w wr c k q s) : s.V.ownBlock ≠ some c := by
  rcases row_nec h.sl.cl h.sl.blk (by decide) with e | e
  · rw [e]; exact fun z => by cases z
  · exact e
theorem or_lt {X i m : Nat} (h : X < 2 ^ m) (hi : i < m) : X ||| 2 ^ i < 2 ^ m := Nat.or_lt_two_pow h (Nat.pow_lt_pow_right (by decide) hi)
theorem Way.kept {n : Nat} {Ss : List Nat} {u : Value} {w wr w' : World} {c k q : Nat} {s : SV} (h : Way n Ss u w wr c k q s) (g : wr.grownBy w' none) : Way n Ss u w w' c k q s :=
  ⟨h.sl.kept g, h.sn, h.sv, h.ss, h.got, grown_trans h.g g, h.hc⟩
theorem Way.put {n : Nat} {Ss : List Nat} {u : Value} {w wr : World} {c k q t : Nat} {s : SV} (h : Way n Ss u w wr c k q s) (hk : k < Ss.length) (ht : t < 48) (hq : q ≤ t) (hn : ∀ b, q ≤ b → b < t → (Ss.getD k 0).testBit b = false) (hb : (Ss.getD k 0).testBit t = true) :
    Way n Ss u w ((wr.setCell ⟨c, 2 + t * 2, none⟩ (.int .u64 (lo (s.H t ||| 2 ^ k) : Int))).setCell ⟨c, 2 + t * 2 + 1, none⟩ (.int .u64 (hi (s.H t ||| 2 ^ k) : Int))) c k (t + 1) (setH s t (s.H t ||| 2 ^ k)) := by
  have h1 := h.ss
  rw [Nat.mul_comm t 2]
  exact ⟨Slv.setH h.sl ht (or_lt (h.sl.h t) (by rw [h1]; exact hk)) h.own, h.sn, h.sv, h1, h.got.step hq hn hb, grow1 h.g (grown_set2 _ _ _ _ _) h.hc, h.hc⟩
theorem Way.fin {n : Nat} {Ss : List Nat} {u : Value} {w wr : World} {c k q v : Nat} {s : SV} (h : Way n Ss u w wr c k q s) (hk : k < Ss.length) (hv : v < 25) (hq : ∀ b, (Ss.getD k 0).testBit b = true → b < q) (hu : ∀ b, (Ss.getD k 0).testBit b = true → b / 2 < v) (hn : v ≤ n) (h3 : v = 0 ∨ ∃ b, (Ss.getD k 0).testBit b = true ∧ b / 2 + 1 = v) :
    Way n Ss u w ((wr.setCell ⟨c, 98 + v * 2, none⟩ (.int .u64 (lo (s.E v ||| 2 ^ k) : Int))).setCell ⟨c, 98 + v * 2 + 1, none⟩ (.int .u64 (hi (s.E v ||| 2 ^ k) : Int))) c (k + 1) 0 (setE s v (s.E v ||| 2 ^ k)) := by
  have h1 := h.ss
  rw [Nat.mul_comm v 2]
  exact ⟨Slv.setE h.sl hv (or_lt (h.sl.e v) (by rw [h1]; exact hk)) h.own, h.sn, h.sv, h1, h.got.fin hq hu hn h3, grow1 h.g (grown_set2 _ _ _ _ _) h.hc, h.hc⟩
/-- what is left of a clause's word -/
structure Rst (n S T q e : Nat) : Prop where
  b : ∀ i, T.testBit i = (S.testBit i && decide (q ≤ i))
  lt : T < 2 ^ 48
  q48 : q ≤ 48
  e1 : ∀ i, i < q → S.testBit i = true → i / 2 < e
  en : e ≤ n
  e3 : e = 0 ∨ ∃ b, S.testBit b = true ∧ b / 2 + 1 = e
theorem Rst.next {n S T q e : Nat} (h : Rst n S T q e) (h0 : 0 < T) (hn : ∀ b, S.testBit b = true → b / 2 < n) :
    ∃ t, t = Lib.ctz 64 T ∧ t < 48 ∧ q ≤ t ∧ (∀ b, q ≤ b → b < t → S.testBit b = false) ∧ S.testBit t = true ∧ Rst n S (T &&& (T - 1)) (t + 1) (t / 2 + 1) := by
  obtain ⟨t, m, et, ht, es⟩ := srt.low h0 h.lt
  have hbt : S.testBit t = true ∧ q ≤ t := by
    have h1 := h.b t
    rw [es, srt.low_bit, if_pos (by omega), decide_eq_true rfl] at h1
    have h2 := Bool.and_eq_true_iff.1 h1.symm
    exact ⟨h2.1, of_decide_eq_true h2.2⟩
  refine ⟨t, et, ht, hbt.2, fun i h1 h2 => ?_, hbt.1, fun i => ?_, ?_, ht, fun i h1 h2 => by omega, ?_, .inr ⟨t, hbt.1, rfl⟩⟩
  · have h3 := h.b i
    rw [es, srt.low_bit, if_pos (by omega), decide_eq_false (by omega), decide_eq_true h1, Bool.and_true] at h3
    exact h3.symm
  · rw [srt.next_bit es, h.b i]
    by_cases h1 : t + 1 ≤ i
    · rw [decide_eq_true h1, decide_eq_true (p := q ≤ i) (by omega), Bool.and_true]
    · rw [decide_eq_false h1, Bool.and_false, Bool.and_false]
  · exact Nat.lt_of_le_of_lt Nat.and_le_left h.lt
  · have := hn t hbt.1
    omega
theorem Rst.done {n S q e : Nat} (h : Rst n S 0 q e) : (∀ b, S.testBit b = true → b < q) ∧ ∀ b, S.testBit b = true → b / 2 < e := by
  have a : ∀ b, S.testBit b = true → b < q := fun b hb => by
    have := h.b b
    rw [Nat.zero_testBit, hb, Bool.true_and] at this
    have := of_decide_eq_false this.symm
    omega
  exact ⟨a, fun b hb => h.e1 b (a b hb) hb⟩
set_option maxRecDepth 100000 in
set_option maxHeartbeats 8000000 in
theorem solverOf (v : Value) (n : Nat) (LL : List (List Int)) (w : World) (hT : Tab w) (h24 : n ≤ 24) (hm : LL.length ≤ 120) (ht : tot LL ≤ 1048576) (hl : ∀ c ∈ LL, ∀ x ∈ c, ok.litIn (n : Int) x = true) (hv : Sls w v LL) :
    Calls Tryd.prog 97 #[.agg #[.int .i64 (n : Int), v]] w fun e w' => ∃ c s, e = .returned (.pointer (some ⟨c, 0, none⟩)) ∧ Sof n LL w w' c s := by
  have gA := World.grownBy_alloc w (.cells #[.int .i64 (n : Int), v] 34) none
  have CS := hide (fun (w1 : World) (g : w.grownBy w1 none) => su.setsOf v LL w1 ht (hv.kept g))
  have HT := hide hT
  obtain ⟨va, vc, rfl, _⟩ := hv
  have GX := hide (grown_trans (r := none) gA (cf.grown_drew (w.alloc (.cells #[.int .i64 (n : Int), .slice va LL.length vc] 34)) none))
  clear hT
  go_enter Tryd.func97, Tryd.ntmps97
  go_wp2_with fail
  have q0 : (w.alloc (.cells #[.int .i64 (n : Int), .slice va LL.length vc] 34)).cell? ⟨w.heap.size, 0, none⟩ = some (.int .i64 (n : Int)) := by simp
  have q1 : (w.alloc (.cells #[.int .i64 (n : Int), .slice va LL.length vc] 34)).cell? ⟨w.heap.size, 1, none⟩ = some (.slice va LL.length vc) := by simp
  go_region_held3 (fun w' => w'.cell? ⟨w.heap.size, 0, none⟩ = some (.int .i64 (n : Int)) ∧ w'.cell? ⟨w.heap.size, 1, none⟩ = some (.slice va LL.length vc)) (go_keep) (first | (go_at_call 124; refine (unhide CS _ (unhide GX)).mono ?_; rintro e w1 ⟨u, rfl, m1⟩; obtain ⟨ua, uc, rfl⟩ := row_form m1.1; have M1 := hide m1; have c2 := m1.2.cell q0 (fun e => by cases e); have c3 := m1.2.cell q1 (fun e => by cases e); clear m1))
  have wy : Way n (LL.map setOf) (.slice ua LL.length uc) w (w1.alloc (.cells ((Tryd.zeroCells115.setIfInBounds 0 (.int .i64 (n : Int))).setIfInBounds 1 (.slice ua LL.length uc)) 115)) w1.heap.size 0 0 (zeroSV n (.slice ua LL.length uc) (LL.map setOf)) := by
    have m := unhide M1
    have e : (LL.map setOf).length = LL.length := List.length_map ..
    rw [e] at m
    refine Way.start (by rw [e]; exact hm) (grown_trans (unhide GX) m.2) ?_ rfl
    rw [e]
    exact css.own_mono (by have := m.1; rw [e] at this; exact this) (unhide GX).size
  generalize hcW : w1.heap.size = c at *
  generalize hW0 : w1.alloc (.cells ((Tryd.zeroCells115.setIfInBounds 0 (.int .i64 (n : Int))).setIfInBounds 1 (.slice ua LL.length uc)) 115) = W0 at *
  clear hcW hW0 M1 c2 c3 q0 q1 gA GX CS
  have x1 : W0.cell? ⟨c, 1, none⟩ = some (.slice ua LL.length uc) := wy.sl.cell (k := 1) (by decide)
  have st := hide wy
  clear wy
  have HL : Hid (∀ k, k < LL.length → ∀ b, ((LL.map setOf).getD k 0).testBit b = true → b / 2 < n) := by
    intro k hk b hb
    have e : (LL.map setOf).getD k 0 = setOf LL[k] := by simp [hk]
    rw [e] at hb
    obtain ⟨x, hx, ho, rfl⟩ := km.set_lit hb
    exact km.place_div h24 (hl _ (List.getElem_mem hk) x hx)
  have HS : Hid (∀ k, k < LL.length → (LL.map setOf).getD k 0 < 2 ^ 48) := by
    intro k hk
    have e : (LL.map setOf).getD k 0 = setOf LL[k] := by simp [hk]
    rw [e]
    exact setOf_lt _
  have HR := hide (fun (wr : World) (s : SV) (h : Way n (LL.map setOf) (.slice ua LL.length uc) w wr c LL.length 0 s) => (⟨h.sl, Got.right (LL := LL) h24 h.sn h.ss (by have g := h.got; rw [← h.ss] at g; rw [h.ss, List.length_map, ← h.ss]; exact g) hl, h.g⟩ : Sof n LL w wr c s))
  have HLE : Hid ((LL.map setOf).length = LL.length) := List.length_map ..
  clear hl ht
  generalize LL.map setOf = Ss at *
  go_wp2_with fail
  clear x1
  go_loopw [20] (fun iv wr => ∃ (k : Nat) (s : SV), k ≤ LL.length ∧ iv = .int .i64 (k : Int) ∧ Hid (Way n Ss (.slice ua LL.length uc) w wr c k 0 s)) (fun iv _ => LL.length - (intOf iv).toNat)
  case atStart => exact ⟨0, _, Nat.zero_le _, rfl, st⟩
  case round =>
    obtain ⟨k, s, hk, rfl, hw⟩ := hrel
    clear st
    by_cases hlt : k < LL.length
    · have ww := unhide hw
      have e1 := ww.ss
      have e2 := unhide HLE
      obtain ⟨g, cap, hV, hcl⟩ := kd.row_at ww.sl (i := k) (by rw [e1, e2]; exact hlt)
      rw [ww.sv] at hV
      rw [Value.slice.injEq] at hV
      obtain ⟨rfl, hz, rfl⟩ := hV
      clear hz
      rw [e1] at hcl
      have hi' : (k : Int) < (LL.length : Int) := by omega
      have hSl := unhide HS k hlt
      have hSn := unhide HL k hlt
      have hkS : k < Ss.length := by rw [e2]; exact hlt
      have r0 : Hid (Rst n (Ss.getD k 0) (Ss.getD k 0) 0 0) := ⟨fun i => by simp, hSl, by omega, fun i h => by omega, Nat.zero_le _, .inl rfl⟩
      have HSN := hide hSn
      clear hSn ww e1 e2
      generalize hS : Ss.getD k 0 = S at *
      go_wp2_with fail
      go_loopw [5, 6] (fun cv ev w2 => ∃ (T q e : Nat) (s2 : SV), cv = .int .u64 (T : Int) ∧ ev = .int .i64 (e : Int) ∧ Hid (Rst n S T q e) ∧ Hid (Way n Ss (.slice (some ⟨g, 0, none⟩) LL.length uc) w w2 c k q s2)) (fun cv _ _ => (intOf cv).toNat)
      case atStart => exact ⟨S, 0, 0, s, rfl, rfl, r0, hw⟩
      case round =>
        obtain ⟨T, q, e, s2, rfl, rfl, hr, hw2⟩ := hrel
        clear r0 hcl hw
        by_cases h0 : T = 0
        · subst h0
          have rr := unhide hr
          have w2' := unhide hw2
          have he : e < 25 := by have := rr.en; omega
          have hc0 := w2'.sl.cell (k := 98 + e * 2) (by omega)
          have hc1 := w2'.sl.cell (k := 98 + e * 2 + 1) (by omega)
          rw [Nat.mul_comm, atE0 _ he] at hc0
          rw [Nat.mul_comm, atE1 _ he] at hc1
          rw [Nat.mul_comm] at hc0 hc1
          have hf0 := Slv.fz w2'.sl (98 + e * 2)
          have hf1 := Slv.fz w2'.sl (98 + e * 2 + 1)
          have hElt := kd.lt128 (w2'.sl.e e) w2'.sl.m
          have FIN := hide (fun (w3 : World) (gg : wr.grownBy w3 none) => (w2'.kept gg).fin hkS he (by rw [hS]; exact rr.done.1) (by rw [hS]; exact rr.done.2) rr.en (by rw [hS]; exact rr.e3))
          have CK := hide (fun (w3 : World) (gg : wr.grownBy w3 none) => And.intro (gg.cell hc0 (fun e => by cases e)) (And.intro (gg.cell hc1 (fun e => by cases e)) (And.intro (Slv.fz (w2'.kept gg).sl (98 + e * 2)) (Slv.fz (w2'.kept gg).sl (98 + e * 2 + 1)))))
          have CW := hide (fun w3 => kc.with_ (s2.E e) k w3 hElt (by omega))
          have hei : (e : Int) < 25 := by omega
          unfold kc.cset at CW
          clear rr w2'
          go_wp2_with fail
          have GX := hide (cf.grown_drew wr none)
          go_region_with (first
            | (go_at_call 127; refine (unhide CW _).mono ?_; rintro e w8 ⟨rfl, g8⟩; replace GX := hide (grown_trans (r := none) (unhide GX) g8); obtain ⟨k1, k2, k3, k4⟩ := unhide CK _ (unhide GX); have F8 := hide (unhide FIN _ (unhide GX)); clear g8))
          all_goals
            go_wp2_with fail
            go_roundw
            case rel => exact ⟨k + 1, _, by omega, by go_num, unhide F8⟩
            case measure => simp [intOf]; omega
        · have rr := unhide hr
          have w2' := unhide hw2
          obtain ⟨t, et, ht, hqt, hnb, hbt, hnx⟩ := rr.next (by omega) (unhide HSN)
          have cfi := srt.first T wr ((unhide HT).kept w2'.g) (by omega) rr.lt
          unfold fstI at cfi
          rw [← et] at cfi
          obtain ⟨l1, l2, l3⟩ := lit_place ht
          have lb := srt.litI_bd t ht
          have CP := (fun w3 => bset.placeC (litI t) w3 l1)
          rw [l2] at CP
          have CV := (fun w3 => lits.litVariable (litI t) w3 lb.1 lb.2)
          rw [l3] at CV
          have hc0 := w2'.sl.cell (k := 2 + t * 2) (by omega)
          have hc1 := w2'.sl.cell (k := 2 + t * 2 + 1) (by omega)
          rw [Nat.mul_comm, atH0 _ ht] at hc0
          rw [Nat.mul_comm, atH1 _ ht] at hc1
          rw [Nat.mul_comm] at hc0 hc1
          have hHlt := kd.lt128 (w2'.sl.h t) w2'.sl.m
          have FIN := hide (fun (w3 : World) (gg : wr.grownBy w3 none) => (w2'.kept gg).put hkS ht hqt (by rw [hS]; exact hnb) (by rw [hS]; exact hbt))
          have CK := hide (fun (w3 : World) (gg : wr.grownBy w3 none) => And.intro (gg.cell hc0 (fun e => by cases e)) (And.intro (gg.cell hc1 (fun e => by cases e)) (And.intro (Slv.fz (w2'.kept gg).sl (2 + t * 2)) (Slv.fz (w2'.kept gg).sl (2 + t * 2 + 1)))))
          have CW := hide (fun w3 => kc.with_ (s2.H t) k w3 hHlt (by omega))
          unfold kc.cset at CW
          have hti : (t : Int) < 48 := by omega
          have EA := hide (srt.and_pred T (by omega) rr.lt)
          have NS := hide (srt.next_lt (s := T) (by omega))
          have hne : ((T : Int) != 0) = true := by simp; omega
          have hT1 : 1 ≤ T := by omega
          have CF := hide cfi
          have CP' := hide (fun w3 => toGrown (CP w3))
          have CV' := hide CV
          have HNX := hide hnx
          have hT64 : (T : Int) < 18446744073709551616 := by have := rr.lt; omega
          clear cfi CP CV hnx hbt hnb l1 l2 l3 lb rr w2' et h0 hqt hr
          generalize litI t = y at *
          go_wp2_with fail
          refine (unhide CF).mono ?_
          rintro e w3 ⟨rfl, hw⟩
          have hw' := hw.symm
          clear hw
          subst hw'
          go_wp2_with fail
          have GX := hide (cf.grown_drew wr none)
          go_region_with (first
            | (go_at_call 126; refine (unhide CP' _).mono ?_; rintro e w8 ⟨rfl, g8⟩; replace GX := hide (grown_trans (r := none) (unhide GX) g8); obtain ⟨k1, k2, k3, k4⟩ := unhide CK _ (unhide GX); clear g8)
            | (go_at_call 127; refine (unhide CW _).mono ?_; rintro e w8 ⟨rfl, g8⟩; replace GX := hide (grown_trans (r := none) (unhide GX) g8); obtain ⟨k1, k2, k3, k4⟩ := unhide CK _ (unhide GX); have F8 := hide (unhide FIN _ (unhide GX)); clear g8))
          all_goals
            go_wp2_with fail
            refine (unhide CV' _).mono ?_
            rintro e w9 ⟨rfl, hw⟩
            have hw' := hw.symm
            clear hw
            subst hw'
            go_wp2_with fail
            go_roundw
            case rel => exact ⟨T &&& (T - 1), t + 1, t / 2 + 1, _, by rw [unhide EA], rfl, unhide HNX, unhide F8⟩
            case measure => rw [unhide EA]; have := unhide NS; simp [intOf]; omega
    · have hk' : k = LL.length := by omega
      subst hk'
      have R := hide (unhide HR _ _ (unhide hw))
      clear hw HR HL HS HLE
      go_wp2_with fail
      go_ret
      exact ⟨c, s, rfl, unhide R⟩
end Go.Proofs.YtlpgnaedhijdpaaDoor.ks
