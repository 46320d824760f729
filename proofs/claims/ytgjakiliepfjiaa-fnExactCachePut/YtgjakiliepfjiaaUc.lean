/- What the small helpers on lists of what is known, and on caches, do: a size, an equality, copies of caches; no condition but on sizes. -/
import Derived.Test.YtgjakiliepfjiaaUb
namespace Go.Proofs.Ytgjakiliepfjiaa.ua
open Go.ChangeShapes Go.WideShapes Go.ChangeAt Go.RowKit
open Go.Proofs.Ytgjakiliepfjiaa.sl (Sl Own ints marks hide unhide ret_int ret_bool grown_refl grown_trans grown_drewN below_of of_below)
open Go.Proofs.Ytgjakiliepfjiaa.css (Outs outs_trans outs_none outs_by outs_refl own_mono own_sub own_outs own_kind)
open Go.Proofs.Ytgjakiliepfjiaa.yb (Box4)
open Go.Proofs.Ytgjakiliepfjiaa.cf (Box)
set_option linter.unusedVariables false
/-- how much one holds -/
def wt (k : Kn) : Nat := k.dg.size + k.vals.length
/-- how much a list holds, each one counted too -/
def tot (KK : List Kn) : Nat := KK.length + (KK.map wt).sum
def used (KK : List Kn) (k : Nat) : Nat := KK.length + ((KK.take k).map wt).sum
theorem used_step (KK : List Kn) (k : Nat) (h : k < KK.length) : used KK (k + 1) = used KK k + wt (KK.getD k kz) := by
  unfold used
  rw [take_snoc KK k h]
  simp [Nat.add_assoc]
theorem used_all (KK : List Kn) (k : Nat) (h : ¬ k < KK.length) : used KK k = tot KK := by
  unfold used tot
  rw [List.take_of_length_le (by omega)]
theorem tot_len (KK : List Kn) : KK.length ≤ tot KK := Nat.le_add_right _ _
theorem sum_in (l : List Kn) (i : Nat) : wt (l.getD i kz) ≤ (l.map wt).sum := by
  induction l generalizing i with
  | nil => exact Nat.le_refl _
  | cons x l ih =>
    cases i with
    | zero => simp
    | succ i =>
      have := ih i
      simp at *
      omega
theorem tot_in (KK : List Kn) (i : Nat) : wt (KK.getD i kz) ≤ tot KK := Nat.le_trans (sum_in KK i) (Nat.le_add_left _ _)
theorem tot_vals (KK : List Kn) (i : Nat) : (KK.getD i kz).vals.length ≤ tot KK := Nat.le_trans (Nat.le_add_left _ _) (tot_in KK i)
theorem tot_dg (KK : List Kn) (i : Nat) : (KK.getD i kz).dg.size ≤ tot KK := Nat.le_trans (Nat.le_add_right _ _) (tot_in KK i)
set_option maxHeartbeats 800000 in
theorem szKnown (a : Option Addr) (n cap : Nat) (d : ByteArray) (sat : Bool) (cost : Int) (left : Int) (w : World) (h0 : 0 ≤ left) (h1 : left ≤ 1048576) (hd : d.size ≤ 9223372036854775807) (hn : n ≤ 9223372036854775807) :
    Calls Try.prog 22 #[.agg #[.string d, .bool sat, .slice a n cap, .int .i64 cost], .int .i64 left] w fun e w' => e = .returned (.int .i64 (if left < (d.size : Int) + (n : Int) then -1 else left - ((d.size : Int) + (n : Int)))) ∧ w.grownBy w' none := by
  have G := hide (World.grownBy_alloc w (.cells #[.string d, .bool sat, .slice a n cap, .int .i64 cost] 46) none)
  by_cases c1 : left - (d.size : Int) < 0
  · rw [if_pos (by omega)]
    go_enter Try.func22, Try.ntmps22
    go_wp2
    go_ret
    exact ⟨rfl, unhide G⟩
  have C := css.szIntS a n cap (left - (d.size : Int)) (w.alloc (.cells #[.string d, .bool sat, .slice a n cap, .int .i64 cost] 46)) (by omega) (by omega) hn
  by_cases c2 : left - (d.size : Int) < (n : Int)
  · rw [if_pos c2] at C
    rw [if_pos (by omega)]
    have C' := hide C
    clear C
    go_enter Try.func22, Try.ntmps22
    go_wp2_with fail
    refine (unhide C').mono ?_; rintro e w' ⟨rfl, rfl⟩
    go_wp2_with fail
    go_ret
    exact ⟨rfl, unhide G⟩
  · rw [if_neg c2] at C
    rw [if_neg (by omega)]
    have C' := hide C
    have EE : Hid (left - (d.size : Int) - (n : Int) = left - ((d.size : Int) + (n : Int))) := by show _ = _; omega
    have hq : ¬ left - (d.size : Int) - (n : Int) < 0 := by omega
    clear C
    go_enter Try.func22, Try.ntmps22
    go_wp2_with fail
    refine (unhide C').mono ?_; rintro e w' ⟨rfl, rfl⟩
    go_wp2_with fail
    go_ret
    exact ⟨ret_int (unhide EE), unhide G⟩
set_option maxHeartbeats 800000 in
theorem szKnownS (v : Value) (KK : List Kn) (left : Int) (w : World) (h0 : 0 ≤ left) (h1 : left ≤ 1048576) (hn : KK.length ≤ 9223372036854775807) (hin : ∀ i, (KK.getD i kz).vals.length ≤ 9223372036854775807 ∧ (KK.getD i kz).dg.size ≤ 9223372036854775807) (hv : Kns w v KK) :
    Calls Try.prog 38 #[v, .int .i64 left] w fun e w' => ∃ r : Int, e = .returned (.int .i64 r) ∧ w.grownBy w' none ∧ (r = -1 ∨ 0 ≤ r ∧ r + (tot KK : Int) = left) := by
  obtain ⟨a, cap, rfl, ha⟩ := hv
  by_cases hl : left < (KK.length : Int)
  · have h2 : left - (KK.length : Int) < 0 := by omega
    clear ha
    go_enter Try.func38, Try.ntmps38
    go_wp2
    go_ret
    exact ⟨_, rfl, grown_refl _, .inl rfl⟩
  · have h2 : ¬ left - (KK.length : Int) < 0 := by omega
    have HA := hide ha
    clear ha
    go_enter Try.func38, Try.ntmps38
    go_wp2
    go_loopw [1, 5] (fun q i wr => ∃ k : Nat, k ≤ KK.length ∧ i = .int .i64 k ∧ ∃ r : Int, q = .int .i64 r ∧ 0 ≤ r ∧ Hid (r + (used KK k : Int) = left) ∧ Hid (w.grownBy wr none)) (fun _ i _ => KK.length - (intOf i).toNat)
    case atStart => exact ⟨0, Nat.zero_le _, rfl, _, rfl, by omega, by show _ = _; simp [used], grown_refl _⟩
    case round =>
      obtain ⟨k, hk, rfl, r, rfl, hr, hu, hg⟩ := hrel
      by_cases hlt : k < KK.length
      · rcases unhide HA with h | ⟨b, off, rfl, hb, hcb⟩
        · rw [h] at hlt
          simp at hlt
        · obtain ⟨u, hu4⟩ := hcb k hlt
          obtain ⟨c0, c1, c2, c3, hs⟩ := hu4.kept (unhide hg)
          have us := used_step KK k hlt
          unfold wt at us
          have hl' := hin k
          generalize KK.getD k kz = x at *
          obtain ⟨dg, sat, vals, cost⟩ := x
          dsimp only at *
          obtain ⟨a', cap', rfl, _⟩ := hs
          have hi' : (k : Int) < (KK.length : Int) := by omega
          have hr1 : r ≤ 1048576 := by have := unhide hu; omega
          have C := szKnown a' vals.length cap' dg sat cost r wr hr hr1 hl'.2 hl'.1
          by_cases hq : r < (dg.size : Int) + (vals.length : Int)
          · rw [if_pos hq] at C
            have C' := hide C
            clear C hq hcb HA us hu hu4 hl'
            go_wp2_with fail
            refine (unhide C').mono ?_; rintro e w' ⟨rfl, g'⟩
            have GG := hide (grown_trans (r := none) (unhide hg) g')
            clear g' hg
            go_wp2_with fail
            go_ret
            exact ⟨_, rfl, unhide GG, .inl rfl⟩
          · rw [if_neg hq] at C
            have C' := hide C
            have hu' : Hid (r - ((dg.size : Int) + (vals.length : Int)) + (used KK (k + 1) : Int) = left) := by show _ = _; have := unhide hu; omega
            have hq' : ¬ r - ((dg.size : Int) + (vals.length : Int)) < 0 := by omega
            have hq2 : 0 ≤ r - ((dg.size : Int) + (vals.length : Int)) := by omega
            generalize r - ((dg.size : Int) + (vals.length : Int)) = r2 at *
            clear C hq hcb HA us hu hu4 hl'
            go_wp2_with fail
            refine (unhide C').mono ?_; rintro e w' ⟨rfl, g'⟩
            have GG := hide (grown_trans (r := none) (unhide hg) g')
            clear g' hg
            go_wp2_with fail
            go_roundw
            case rel => exact ⟨k + 1, by omega, by go_num, _, rfl, hq2, hu', GG⟩
            case measure => simp [intOf]; omega
      · have hi' : ¬ (k : Int) < (KK.length : Int) := by omega
        have hu' : Hid (r + (tot KK : Int) = left) := by show _ = _; rw [← used_all KK k hlt]; exact unhide hu
        clear HA hu
        go_wp2
        go_ret
        exact ⟨_, rfl, unhide hg, .inr ⟨hr, unhide hu'⟩⟩
theorem szCache (v : Value) (room : Int) (KK : List Kn) (left : Int) (w : World) (h0 : 0 ≤ left) (h1 : left ≤ 1048576) (hn : KK.length ≤ 9223372036854775807) (hin : ∀ i, (KK.getD i kz).vals.length ≤ 9223372036854775807 ∧ (KK.getD i kz).dg.size ≤ 9223372036854775807) (hv : Kns w v KK) :
    Calls Try.prog 13 #[.agg #[.int .i64 room, v], .int .i64 left] w fun e w' => ∃ r : Int, e = .returned (.int .i64 r) ∧ w.grownBy w' none ∧ (r = -1 ∨ 0 ≤ r ∧ r + (tot KK : Int) = left) := by
  have ga := World.grownBy_alloc w (.cells #[.int .i64 room, v] 38) none
  have C := hide (szKnownS v KK left _ h0 h1 hn hin (hv.kept ga))
  have G := hide ga
  clear hv ga
  go_enter Try.func13, Try.ntmps13
  go_wp2_with fail
  refine (unhide C).mono ?_; rintro e w' ⟨r, rfl, g', hr⟩
  have GG := hide (grown_trans (r := none) (unhide G) g')
  clear g' G C
  rcases hr with rfl | ⟨hr0, hr1⟩
  · go_wp2_with fail
    go_ret
    exact ⟨_, rfl, unhide GG, .inl rfl⟩
  · have hq : ¬ r < 0 := by omega
    go_wp2_with fail
    go_ret
    exact ⟨_, rfl, unhide GG, .inr ⟨hr0, hr1⟩⟩
theorem sizeC : (Try.prog.info? 26).map (·.size) = some 2 := by kernel_rfl
theorem ret_cache {fn : Func} {p : Tmp} {tmps : Array Value} {w : World} {c : Nat} {x y : Value} (h : fn.results = #[.cell p 26]) (hp : tmps.getD p undef = .pointer (some ⟨c, 0, none⟩)) (hb : Box 26 w c x y) :
    (results fn tmps).run Try.prog w = .ok (.agg #[x, y]) w :=
  results_cell_row h tmps w c 26 #[x, y] (0, 0) _ hp hb Try.underlying26 rfl sizeC
theorem ret_cache2 {fn : Func} {p u : Tmp} {tmps : Array Value} {w : World} {c : Nat} {x y : Value} (h : fn.results = #[.cell p 26, .tmp u]) (hp : tmps.getD p undef = .pointer (some ⟨c, 0, none⟩)) (hb : Box 26 w c x y) :
    (results fn tmps).run Try.prog w = .ok (.tuple #[.agg #[x, y], tmps.getD u undef]) w := by
  rw [results_cell_tmp h, hp]
  simp only [asAddr, Sem.run_pure, Result.andThen_ok]
  rw [run_loadVar_row w c 26 26 #[x, y] (0, 0) _ hb Try.underlying26 rfl sizeC]
  rfl
theorem ownK_set {lo hi : Nat} {w : World} {v : Value} {KK : List Kn} {c i : Nat} {u : Value} (h : OwnK lo hi w v KK) (hc : c < lo ∨ hi ≤ c) : OwnK lo hi (w.setCell ⟨c, i, none⟩ u) v KK :=
  h.outs (css.outs_by (lo := c) (hi := c + 1) (sl.grown_setCell w c i u) (fun k e => by cases e; omega)) (by omega)
set_option maxHeartbeats 400000 in
theorem toCache (v : Value) (n : Int) (KK : List Kn) (w : World) (hn : tot KK ≤ 1048576) (hv : Kns w v KK) :
    Calls Try.prog 15 #[.agg #[.int .i64 n, v]] w fun e w' => ∃ u, e = .returned (.agg #[.int .i64 n, u]) ∧ OwnK w.heap.size w'.heap.size w' u KK ∧ w.grownBy w' none := by
  have h1 := Nat.le_trans (tot_len KK) hn
  have h2 := fun i => Nat.le_trans (tot_vals KK i) hn
  have C := hide (fun w1 (g : w.grownBy w1 none) => toKnownS v KK w1 h1 h2 (hv.kept g))
  clear hv h1 h2
  go_enter Try.func15, Try.ntmps15
  go_wp2_with fail
  have g0 : w.grownBy (((w.alloc (.cells #[.int .i64 n, v] 38)).alloc (.cells #[.int .i64 0, .slice none 0 0] 26)).alloc (.cells #[.int .i64 n, .slice none 0 0] 26)) none :=
    grown_trans (grown_trans (World.grownBy_alloc _ _ _) (World.grownBy_alloc _ _ _)) (World.grownBy_alloc _ _ _)
  have b2 := (Box.new 26 (w.alloc (.cells #[.int .i64 n, v] 38)) (.int .i64 0) (.slice none 0 0)).kept (World.grownBy_alloc _ (.cells #[.int .i64 n, .slice none 0 0] 26) none)
  have b3 := Box.new 26 ((w.alloc (.cells #[.int .i64 n, v] 38)).alloc (.cells #[.int .i64 0, .slice none 0 0] 26)) (.int .i64 n) (.slice none 0 0)
  refine (unhide C _ g0).mono ?_; rintro e w1 ⟨u, rfl, o1, g1⟩
  obtain ⟨ua, uc, rfl⟩ := o1.len
  have b2' := b2.kept g1
  have b3' := b3.kept g1
  have R := hide (And.intro o1 (grown_trans (r := none) g0 g1))
  have B2 := hide b2'
  have x0 := b2'.c0
  have x1 := b2'.c1
  have x2 := b2'.f 0
  have x3 := b2'.f 1
  have y0 := b3'.c0
  have y1 := b3'.c1
  have y2 := b3'.f 0
  have y3 := b3'.f 1
  clear b2 b3 b2' b3' g0 g1 o1 C
  simp only [World.size_alloc] at x0 x1 x2 x3 y0 y1 y2 y3
  go_wp2_with fail
  obtain ⟨o1, g1⟩ := unhide R
  have b := ((unhide B2).setO (d := w.heap.size + 1 + 1) (i := 1) (u := .slice ua KK.length uc) (by simp)).set0 (.int .i64 n) |>.set1 (.slice ua KK.length uc)
  simp only [World.size_alloc] at b o1
  (try simp only [Exit.inBlock, Exit.then])
  refine bodyPost_ret (ret_cache rfl rfl b) rfl ⟨_, rfl, ?_, ?_⟩
  · rw [cf.size_set, cf.size_set, cf.size_set]
    exact (ownK_set (ownK_set (ownK_set o1 (by omega)) (by omega)) (by omega)).sub (by omega) (Nat.le_refl _)
  · exact cf.grown_set (cf.grown_set (cf.grown_set g1 (by omega)) (by omega)) (by omega)
/-- equal ones: eqKnown says yes -/
theorem eqKnown (u v : Value) (k : Kn) (w : World) (hL : k.vals.length ≤ 1048576) (hu : Sl w u k.vals) (hv : Sl w v k.vals) :
    Calls Try.prog 17 #[.agg #[.string k.dg, .bool k.sat, u, .int .i64 k.cost], .agg #[.string k.dg, .bool k.sat, v, .int .i64 k.cost]] w fun e w' => e = .returned (.bool true) ∧ w.grownBy w' none := by
  have g0 : w.grownBy ((w.alloc (.cells #[.string k.dg, .bool k.sat, u, .int .i64 k.cost] 29)).alloc (.cells #[.string k.dg, .bool k.sat, v, .int .i64 k.cost] 29)) none := grown_trans (World.grownBy_alloc _ _ _) (World.grownBy_alloc _ _ _)
  have C := hide (sl.eqIntS u v k.vals _ hL (hu.kept g0 (.inl rfl)) (hv.kept g0 (.inl rfl)))
  have G := hide g0
  clear hu hv g0
  go_enter Try.func17, Try.ntmps17
  go_wp2_with fail
  refine (unhide C).mono ?_; rintro e w1 ⟨rfl, g1⟩
  have R := hide (grown_trans (r := none) (unhide G) g1)
  have b0 := ((Box4.new 29 w (.string k.dg) (.bool k.sat) u (.int .i64 k.cost)).kept (World.grownBy_alloc _ (.cells #[.string k.dg, .bool k.sat, v, .int .i64 k.cost] 29) none)).kept g1
  have b1 := (Box4.new 29 (w.alloc (.cells #[.string k.dg, .bool k.sat, u, .int .i64 k.cost] 29)) (.string k.dg) (.bool k.sat) v (.int .i64 k.cost)).kept g1
  have x3 := b0.c3
  have y3 := b1.c3
  simp only [World.size_alloc] at y3
  clear g1 G C b0 b1
  go_wp2_with fail
  go_ret
  exact ⟨rfl, unhide R⟩
set_option maxHeartbeats 1600000 in
/-- equal lists: eqKnownS says yes -/
theorem eqKnownS (v u : Value) (KK : List Kn) (w : World) (hn : KK.length ≤ 1048576) (hin : ∀ i, (KK.getD i kz).vals.length ≤ 1048576) (hv : Kns w v KK) (hu : Kns w u KK) :
    Calls Try.prog 40 #[v, u] w fun e w' => e = .returned (.bool true) ∧ w.grownBy w' none := by
  obtain ⟨a, cap, rfl, ha⟩ := hv
  obtain ⟨c, cap', rfl, hc⟩ := hu
  have HA := hide ha
  have HC := hide hc
  clear ha hc
  go_enter Try.func40, Try.ntmps40
  go_wp2
  go_loopw [5] (fun i wr => ∃ k : Nat, k ≤ KK.length ∧ i = .int .i64 k ∧ w.grownBy wr none) (fun i _ => KK.length - (intOf i).toNat)
  case atStart => exact ⟨0, Nat.zero_le _, rfl, grown_refl _⟩
  case round =>
    obtain ⟨k, hk, rfl, hg⟩ := hrel
    by_cases hlt : k < KK.length
    · rcases unhide HA with h | ⟨b, off, rfl, hb, hcb⟩
      · rw [h] at hlt
        simp at hlt
      · rcases unhide HC with h | ⟨d, off', rfl, hd, hcd⟩
        · rw [h] at hlt
          simp at hlt
        · obtain ⟨x, hx⟩ := hcb k hlt
          obtain ⟨y, hy⟩ := hcd k hlt
          have hL := hin k
          have X := hide (hx.kept hg)
          have Y := hide (hy.kept hg)
          generalize KK.getD k kz = z at *
          obtain ⟨dg, sat, vals, cost⟩ := z
          dsimp only at hL
          have C := hide (fun w1 (g : wr.grownBy w1 none) => eqKnown x y ⟨dg, sat, vals, cost⟩ w1 hL (((unhide X).kept g).2.2.2.2) (((unhide Y).kept g).2.2.2.2))
          have hi : (k : Int) < (KK.length : Int) := by omega
          have G := hide hg
          obtain ⟨x0, x1, x2, x3, _⟩ := unhide X
          obtain ⟨y0, y1, y2, y3, _⟩ := unhide Y
          obtain ⟨xa, xc, rfl, _⟩ := hx.2.2.2.2
          obtain ⟨ya, yc, rfl, _⟩ := hy.2.2.2.2
          dsimp only at x0 x1 x2 x3 y0 y1 y2 y3 C
          have CK : Hid (∀ w', wr.grownBy w' none → w'.cell? ⟨b, off + k * 4, none⟩ = some (.string dg) ∧ w'.cell? ⟨b, off + k * 4 + 1, none⟩ = some (.bool sat) ∧ w'.cell? ⟨b, off + k * 4 + 2, none⟩ = some (.slice xa vals.length xc) ∧ w'.cell? ⟨b, off + k * 4 + 3, none⟩ = some (.int .i64 cost) ∧ w'.cell? ⟨d, off' + k * 4, none⟩ = some (.string dg) ∧ w'.cell? ⟨d, off' + k * 4 + 1, none⟩ = some (.bool sat) ∧ w'.cell? ⟨d, off' + k * 4 + 2, none⟩ = some (.slice ya vals.length yc) ∧ w'.cell? ⟨d, off' + k * 4 + 3, none⟩ = some (.int .i64 cost)) := fun w' g => ⟨g.cell x0 (fun e => by cases e), g.cell x1 (fun e => by cases e), g.cell x2 (fun e => by cases e), g.cell x3 (fun e => by cases e), g.cell y0 (fun e => by cases e), g.cell y1 (fun e => by cases e), g.cell y2 (fun e => by cases e), g.cell y3 (fun e => by cases e)⟩
          clear hg hcb hcd HA HC hx hy X Y
          go_wp2_with fail
          have GX := hide (cf.grown_drew wr none)
          go_region_held3 (fun w' => w'.cell? ⟨b, off + k * 4, none⟩ = some (.string dg) ∧ w'.cell? ⟨b, off + k * 4 + 1, none⟩ = some (.bool sat) ∧ w'.cell? ⟨b, off + k * 4 + 2, none⟩ = some (.slice xa vals.length xc) ∧ w'.cell? ⟨b, off + k * 4 + 3, none⟩ = some (.int .i64 cost) ∧ w'.cell? ⟨d, off' + k * 4, none⟩ = some (.string dg) ∧ w'.cell? ⟨d, off' + k * 4 + 1, none⟩ = some (.bool sat) ∧ w'.cell? ⟨d, off' + k * 4 + 2, none⟩ = some (.slice ya vals.length yc) ∧ w'.cell? ⟨d, off' + k * 4 + 3, none⟩ = some (.int .i64 cost)) (go_keep) (first
            | (go_at_call 17; refine (unhide C _ (unhide GX)).mono ?_; rintro e w9 ⟨rfl, g9⟩; replace GX := hide (grown_trans (r := none) (unhide GX) g9); obtain ⟨k1, k2, k3, k4, k5, k6, k7, k8⟩ := unhide CK _ (unhide GX); clear g9))
          all_goals
            go_wp2_with fail
            go_roundw
            case rel => exact ⟨k + 1, by omega, by go_num, grown_trans (unhide G) (unhide GX)⟩
            case measure => simp [intOf]; omega
    · have hi : ¬ (k : Int) < (KK.length : Int) := by omega
      have G := hide hg
      clear hg HA HC
      go_wp2
      go_ret
      exact ⟨rfl, unhide G⟩
theorem eqCache (v u : Value) (n : Int) (KK : List Kn) (w : World) (hn : tot KK ≤ 1048576) (hv : Kns w v KK) (hu : Kns w u KK) :
    Calls Try.prog 16 #[.agg #[.int .i64 n, v], .agg #[.int .i64 n, u]] w fun e w' => e = .returned (.bool true) ∧ w.grownBy w' none := by
  have h1 := Nat.le_trans (tot_len KK) hn
  have h2 := fun i => Nat.le_trans (tot_vals KK i) hn
  have g0 : w.grownBy ((w.alloc (.cells #[.int .i64 n, v] 26)).alloc (.cells #[.int .i64 n, u] 26)) none := grown_trans (World.grownBy_alloc _ _ _) (World.grownBy_alloc _ _ _)
  have C := hide (eqKnownS v u KK _ h1 h2 (hv.kept g0) (hu.kept g0))
  have G := hide g0
  clear hv hu h1 h2 g0
  go_enter Try.func16, Try.ntmps16
  go_wp2_with fail
  refine (unhide C).mono ?_; rintro e w1 ⟨rfl, g1⟩
  have R := hide (grown_trans (r := none) (unhide G) g1)
  clear g1 G C
  go_wp2_with fail
  go_ret
  exact ⟨rfl, unhide R⟩
end Go.Proofs.Ytgjakiliepfjiaa.ua
