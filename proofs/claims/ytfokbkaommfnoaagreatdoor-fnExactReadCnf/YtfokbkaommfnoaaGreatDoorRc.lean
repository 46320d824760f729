/- What the model's ReadCnf answers at every text of at most 2^20 bytes. -/
import Derived.Test.YtfokbkaommfnoaaGreatDoorHs
import Derived.Test.YtfokbkaommfnoaaGreatDoorIc
namespace Go.Proofs.YtfokbkaommfnoaaGreatDoor.ln
open Go.ChangeShapes Go.WideShapes Go.ChangeAt Go.RowKit
open Go.Proofs.YtfokbkaommfnoaaGreatDoor.rd (MadeS words num strs)
open Go.Proofs.YtfokbkaommfnoaaGreatDoor.wo (Made)
open Go.Proofs.YtfokbkaommfnoaaGreatDoor.sl (hide unhide grown_refl grown_trans of_below below_of Own)
open Go.Proofs.YtfokbkaommfnoaaGreatDoor.cf (Box)
open Go.Proofs.YtfokbkaommfnoaaGreatDoor.css (OwnS)
open Go.Proofs.YtfokbkaommfnoaaGreatDoor.gr (MidF)
set_option linter.unusedVariables false
theorem ret_threeS {tmps : Array Value} {w : World} {c : Nat} {x y : Value} (hp : tmps.getD 2 undef = .pointer (some ⟨c, 0, none⟩)) (hb : Box 26 w c x y) :
    (results Tryz.f12 tmps).run Tryz.prog w = .ok (.tuple #[.agg #[x, y], tmps.getD 3 undef, tmps.getD 4 undef]) w := by
  have hr : Tryz.f12.results = #[.cell 2 26, .tmp 3, .tmp 4] := rfl
  have h1 := run_loadVar_row (P := Tryz.prog) w c 26 26 #[x, y] (0, 0) _ hb Tryz.underlying26 rfl cf.sizeCnf
  have h3 : (results Tryz.f12 tmps).run Tryz.prog w = ((asAddr (tmps.getD 2 undef)).run Tryz.prog w).andThen fun a w₁ => ((loadVar 26 a).run Tryz.prog w₁).andThen fun v w₂ => .ok (.tuple #[v, tmps.getD 3 undef, tmps.getD 4 undef]) w₂ := by
    simp only [results, hr]
    simp [Sem.run_bind, Result.andThen]
  rw [h3, hp]
  simp only [asAddr, Sem.run_pure, Result.andThen_ok, h1]
theorem ownS_nil (lo hi : Nat) (w : World) : OwnS lo hi w (.slice none 0 0) [] := ⟨[], rfl, World.ownsRow_nil _ _ _ _, (fun k e => by cases e), (fun p hp => by cases hp), .nil⟩
/-- a refusal: the result's box, filled with nothing -/
theorem refuse_post {w wr : World} {c i : Int} {b : Nat} {x y : Value} {tmps : Array Value} (hg : w.grownBy wr none) (hb : Box 26 wr w.heap.size x y) (A : Ans) (hA : A = ⟨0, [], c, i⟩)
    (hp : tmps.getD 2 undef = .pointer (some ⟨w.heap.size, 0, none⟩)) (h3 : tmps.getD 3 undef = .int .i64 c) (h4 : tmps.getD 4 undef = .int .i64 i) {d : List Deferred} (hd : d = []) :
    bodyPost Tryz.prog Tryz.f12 (fun e w' => ReadPost w A e w') .ret ⟨tmps, d⟩ ((wr.setCell ⟨w.heap.size, 0, none⟩ (.int .i64 0)).setCell ⟨w.heap.size, 1, none⟩ (.slice none 0 0)) := by
  subst hd hA
  refine bodyPost_ret (ret_threeS hp ((hb.set0 (.int .i64 0)).set1 (.slice none 0 0))) rfl ?_
  rw [h3, h4]
  exact ⟨.slice none 0 0, rfl, ownS_nil _ _ _, cf.grown_set (cf.grown_set hg (Nat.le_refl _)) (Nat.le_refl _)⟩
theorem last_ne {s : ByteArray} (h : 0 < s.size) (hr : (rd.bytes s).getLast? ≠ some 10) : ((s[s.size - 1].toNat : Int) != 10) = true := by
  rw [bne_iff_ne]
  intro e
  refine hr ?_
  have h1 : s[s.size - 1] = 10 := of_decide_eq_true ((byte10 _).symm.trans (beq_iff_eq.2 e))
  rw [List.getLast?_eq_getElem?, rd.bytes_len, ← h1]
  unfold rd.bytes
  simp [ByteArray.getElem_eq_getElem_data]
theorem last_eq {s : ByteArray} (h : 0 < s.size) (hr : (rd.bytes s).getLast? = some 10) : ((s[s.size - 1].toNat : Int) != 10) = false := by
  have e := last_ne (s := s) h
  cases hb : ((s[s.size - 1].toNat : Int) != 10) with
  | false => rfl
  | true =>
    rw [bne_iff_ne] at hb
    refine absurd ?_ hb
    have h2 : (rd.bytes s)[s.size - 1]? = some 10 := by rw [← rd.bytes_len, ← List.getLast?_eq_getElem?]; exact hr
    have h3 : s[s.size - 1] = 10 := by
      unfold rd.bytes at h2
      rw [Array.getElem?_toList] at h2
      have h4 := (Array.getElem?_eq_some_iff.1 h2).2
      exact h4
    exact of_decide_eq_true (show decide _ = true by rw [h3]; rfl)
set_option maxHeartbeats 3200000 in
set_option maxRecDepth 100000 in
theorem readS_long (s : ByteArray) (w : World) (hs : s.size ≤ 1048576) (hr : 12000 < s.size ∨ (0 < s.size ∧ (rd.bytes s).getLast? ≠ some 10)) :
    Calls Tryz.prog 12 #[.string s] w fun e w' => ReadPost w (readC (rd.bytes s)) e w' := by
  have gA : w.grownBy ((w.alloc (.cells #[.int .i64 0, .slice none 0 0] 26)).alloc (.cells #[.int .i64 0, .slice none 0 0] 26)) none := grown_trans (World.grownBy_alloc _ _ _) (World.grownBy_alloc _ _ _)
  have E : readC (rd.bytes s) = ⟨0, [], 1, 0⟩ := readC_long (by
    rw [rd.bytes_len]
    rcases hr with h | ⟨h, h2⟩
    · exact .inl h
    · exact .inr ⟨fun e => by rw [← rd.bytes_len, e] at h; exact absurd h (by decide), h2⟩)
  have bA := (Box.new 26 w (.int .i64 0) (.slice none 0 0)).kept (World.grownBy_alloc _ (.cells #[.int .i64 0, .slice none 0 0] 26) none)
  have GA := hide gA
  have BA := hide bA
  have EE := hide E
  clear gA bA E
  by_cases hl : 12000 < s.size
  · have hi : (12000 : Int) < (s.size : Int) := by omega
    go_enter Tryz.func12, Tryz.ntmps12
    go_wp2_with fail
    refine bodyPost_ret (ret_threeS rfl (unhide BA)) rfl ?_
    rw [unhide EE]
    exact ⟨.slice none 0 0, rfl, ownS_nil _ _ _, unhide GA⟩
  · have hi : ¬ (12000 : Int) < (s.size : Int) := by omega
    obtain ⟨h0', h1'⟩ : 0 < s.size ∧ (rd.bytes s).getLast? ≠ some 10 := by rcases hr with h | h; exact absurd h hl; exact h
    have h0 : (0 : Int) < (s.size : Int) := by omega
    have hb := last_ne h0' h1'
    clear hr h1'
    go_enter Tryz.func12, Tryz.ntmps12
    go_wp2_with fail
    refine bodyPost_ret (ret_threeS rfl (unhide BA)) rfl ?_
    rw [unhide EE]
    exact ⟨.slice none 0 0, rfl, ownS_nil _ _ _, unhide GA⟩

/-! ### the lines, one by one -/
/-- where the reader stands ahead of line k -/
structure St (ls : List (List UInt8)) (k : Nat) (h : Bool) (n m : Int) (M : List (List Int)) : Prop where
  yes : h = true → front ls 0 = body n m (ls.drop k) k M ∧ 0 ≤ m ∧ m ≤ 120 ∧ (M.length : Int) ≤ m
  no : h = false → front ls 0 = front (ls.drop k) k ∧ n = 0 ∧ m = 0 ∧ M = []
theorem St.start (ls : List (List UInt8)) : St ls 0 false 0 0 [] := ⟨fun h => (by cases h), fun _ => ⟨rfl, rfl, rfl, rfl⟩⟩
theorem St.pass {ls r : List (List UInt8)} {l : List UInt8} {k : Nat} {h : Bool} {n m : Int} {M : List (List Int)} (s : St ls k h n m M) (hl : ls.drop k = l :: r) (hr : ls.drop (k + 1) = r) (hp : passed l = true) : St ls (k + 1) h n m M := by
  refine ⟨fun e => ?_, fun e => ?_⟩
  · obtain ⟨a, b⟩ := s.yes e
    rw [hl, body, if_pos hp] at a
    exact ⟨by rw [hr]; exact a, b⟩
  · obtain ⟨a, b⟩ := s.no e
    rw [hl, front, if_pos hp] at a
    exact ⟨by rw [hr]; exact a, b⟩
theorem St.head {ls r : List (List UInt8)} {l : List UInt8} {k : Nat} {n m n' m' : Int} {M : List (List Int)} (s : St ls k false n m M) (hl : ls.drop k = l :: r) (hr : ls.drop (k + 1) = r) (hp : passed l = false) (hh : headOf l = some (n', m')) : M = [] ∧ St ls (k + 1) true n' m' [] := by
  obtain ⟨a, _, _, b⟩ := s.no rfl
  obtain ⟨_, _, c⟩ := (head_iff _ _ _).1 hh
  refine ⟨b, fun _ => ⟨?_, c.1, c.2, c.1⟩, fun e => (by cases e)⟩
  rw [hl, front, if_neg (by rw [hp]; decide), hh] at a
  rw [hr]
  exact a
theorem St.nohead {ls r : List (List UInt8)} {l : List UInt8} {k : Nat} {n m : Int} {M : List (List Int)} (s : St ls k false n m M) (hl : ls.drop k = l :: r) (hp : passed l = false) (hh : headOf l = none) : front ls 0 = ⟨0, [], 2, (k : Int) + 1⟩ := by
  obtain ⟨a, _⟩ := s.no rfl
  rw [hl, front, if_neg (by rw [hp]; decide), hh] at a
  exact a
theorem St.bad {ls r : List (List UInt8)} {l : List UInt8} {k : Nat} {n m : Int} {M : List (List Int)} (s : St ls k true n m M) (hl : ls.drop k = l :: r) (hp : passed l = false) (hf : fine n l = false) : front ls 0 = ⟨0, [], 3, (k : Int) + 1⟩ := by
  obtain ⟨a, _⟩ := s.yes rfl
  rw [hl, body, if_neg (by rw [hp]; decide), if_neg (by rw [hf]; decide)] at a
  exact a
theorem St.full {ls r : List (List UInt8)} {l : List UInt8} {k : Nat} {n m : Int} {M : List (List Int)} (s : St ls k true n m M) (hl : ls.drop k = l :: r) (hp : passed l = false) (hf : fine n l = true) (hm : (M.length : Int) = m) : front ls 0 = ⟨0, [], 4, (k : Int) + 1⟩ := by
  obtain ⟨a, _⟩ := s.yes rfl
  rw [hl, body, if_neg (by rw [hp]; decide), if_pos hf, if_pos hm] at a
  exact a
theorem St.more {ls r : List (List UInt8)} {l : List UInt8} {k : Nat} {n m : Int} {M : List (List Int)} (s : St ls k true n m M) (hl : ls.drop k = l :: r) (hr : ls.drop (k + 1) = r) (hp : passed l = false) (hf : fine n l = true) (hm : ¬ (M.length : Int) = m) : St ls (k + 1) true n m (M ++ [rd.readL l]) := by
  obtain ⟨a, b, c, d⟩ := s.yes rfl
  refine ⟨fun _ => ⟨?_, b, c, by rw [List.length_append, List.length_singleton]; omega⟩, fun e => (by cases e)⟩
  rw [hl, body, if_neg (by rw [hp]; decide), if_pos hf, if_neg hm] at a
  rw [hr]
  exact a
theorem St.none {ls : List (List UInt8)} {n m : Int} {M : List (List Int)} (s : St ls ls.length false n m M) : front ls 0 = ⟨0, [], 2, (ls.length : Int) + 1⟩ := by
  obtain ⟨a, _⟩ := s.no rfl
  rw [List.drop_length, front] at a
  exact a
theorem St.few {ls : List (List UInt8)} {n m : Int} {M : List (List Int)} (s : St ls ls.length true n m M) (h : (M.length : Int) < m) : front ls 0 = ⟨0, [], 5, (ls.length : Int) + 1⟩ := by
  obtain ⟨a, _⟩ := s.yes rfl
  rw [List.drop_length, body, if_pos h] at a
  exact a
theorem St.done {ls : List (List UInt8)} {n m : Int} {M : List (List Int)} (s : St ls ls.length true n m M) (h : ¬ (M.length : Int) < m) : front ls 0 = ⟨n, M, 0, 0⟩ := by
  obtain ⟨a, _⟩ := s.yes rfl
  rw [List.drop_length, body, if_neg h] at a
  exact a
theorem fine_of {n : Int} {l : List UInt8} (h : rd.readB l = true) : fine n l = ok.clB n (rd.readL l) := by
  unfold fine ok.clB
  have hl : (rd.readL l).length ≤ 48 := by
    unfold rd.readB at h
    unfold rd.readL
    cases e : rd.read l with
    | none => exact Nat.zero_le _
    | some L => exact mn.okAll_len (rd.read_sound e).1
  rw [h, decide_eq_true hl, Bool.true_and, Bool.and_true]
theorem fine_no {n : Int} {l : List UInt8} (h : rd.readB l = false) : fine n l = false := by
  unfold fine
  rw [h]
  rfl
theorem ty9 : (26 : Nat) ≠ 9 := by decide
theorem ty10 : (49 : Nat) ≠ 9 := by decide
theorem mid_set0 {w wr : World} {c : Nat} {n n' : Int} {M : List (List Int)} {Bs : List (Nat × Value × Value)} (h : MidF w wr c n M Bs) : MidF w (wr.setCell ⟨c, 0, none⟩ (.int .i64 n')) c n' M Bs := by
  obtain ⟨hc, hg, hB, a, cap, hb, ho⟩ := h
  refine ⟨hc, cf.grown_set hg hc, fun b hb' => ⟨(hB b hb').1, (hB b hb').2.setO (fun e => (hB b hb').1 e.symm)⟩, a, cap, hb.set0 _, ?_⟩
  rw [cf.size_set]
  exact gr.ownS_set ho hb
theorem lines_row {wr : World} {bD : Nat} {ad : Option Addr} {cap : Nat} {D : List ByteArray} (h : wr.ownsRow bD 9 1 (.slice ad D.length cap) D.length (strs D)) {k : Nat} (hk : k < D.length) : ∃ g, ad = some ⟨g, 0, none⟩ ∧ wr.cell? ⟨g, k, none⟩ = some (.string D[k]) := by
  rcases h.2 with ⟨hv, h0⟩ | ⟨g, cap', cur, hv, _⟩
  · omega
  · injection hv with h1 h2 h3
    subst h1 h3
    refine ⟨g, rfl, ?_⟩
    rw [h.cellAt k (by omega)]
    simp [rd.strs, hk]
end Go.Proofs.YtfokbkaommfnoaaGreatDoor.ln
