/- Lists of ops (a kind, a tenant's number, a number, a text) in memory, as the walks here speak of them, and what the small helpers on them do; no condition but on sizes. -/
import Derived.Test.YtofbngeeiompcaaCss
import Derived.Test.YtofbngeeiompcaaYb
import Derived.Test.YtofbngeeiompcaaMt
import Derived.Deep.AppendLies
namespace Go.Proofs.Ytofbngeeiompcaa.va
open Go.ChangeShapes Go.WideShapes Go.ChangeAt Go.RowKit
open Go.Proofs.Ytofbngeeiompcaa.sl (hide unhide ret_int ret_bool grown_refl grown_trans grown_drewN below_of of_below)
open Go.Proofs.Ytofbngeeiompcaa.css (Outs outs_trans outs_none outs_by outs_refl own_mono own_kind)
open Go.Proofs.Ytofbngeeiompcaa.yb (Box4)
set_option linter.unusedVariables false
theorem grown_drew (w : World) (r : Option Nat) : w.grownBy w.drew r := ⟨rfl, rfl, rfl, Nat.le_refl _, fun _ _ _ => rfl⟩
/-- an op: a kind, a tenant's number, a number, a text -/
structure Op where
  kind : Int
  who : Int
  num : Int
  text : ByteArray
def oz : Op := ⟨0, 0, 0, ⟨#[]⟩⟩
def four (k : Op) : List Value := [.int .i64 k.kind, .int .i64 k.who, .int .i64 k.num, .string k.text]
/-- the cells of a list -/
def cellsO (D : List Op) : List Value := D.flatMap four
theorem cellsO_cons (p : Op) (D : List Op) : cellsO (p :: D) = .int .i64 p.kind :: .int .i64 p.who :: .int .i64 p.num :: .string p.text :: cellsO D := rfl
theorem cellsO_append (A B : List Op) : cellsO (A ++ B) = cellsO A ++ cellsO B := by
  unfold cellsO
  rw [List.flatMap_append]
theorem cellsO_len (D : List Op) : (cellsO D).length = D.length * 4 := by
  induction D with
  | nil => rfl
  | cons p D ih =>
    rw [cellsO_cons]
    simp only [List.length_cons, ih]
    omega
theorem cellsO_at {D : List Op} {i : Nat} (h : i < D.length) : (cellsO D)[i * 4]? = some (.int .i64 D[i].kind) ∧ (cellsO D)[i * 4 + 1]? = some (.int .i64 D[i].who) ∧ (cellsO D)[i * 4 + 2]? = some (.int .i64 D[i].num) ∧ (cellsO D)[i * 4 + 3]? = some (.string D[i].text) := by
  induction D generalizing i with
  | nil => exact absurd h (by simp)
  | cons p D ih =>
    rw [cellsO_cons]
    cases i with
    | zero => exact ⟨rfl, rfl, rfl, rfl⟩
    | succ i =>
      have q := ih (i := i) (by simpa using h)
      have e : (i + 1) * 4 = i * 4 + 4 := by omega
      rw [e]
      exact q
theorem cellsO_set (A B : List Op) (q p : Op) (n : Nat) (hn : A.length = n) : ((((cellsO (A ++ q :: B)).set (n * 4) (.int .i64 p.kind)).set (n * 4 + 1) (.int .i64 p.who)).set (n * 4 + 2) (.int .i64 p.num)).set (n * 4 + 3) (.string p.text) = cellsO (A ++ p :: B) := by
  have l := cellsO_len A
  rw [hn] at l
  rw [cellsO_append, cellsO_append, cellsO_cons, cellsO_cons]
  rw [List.set_append_right _ _ (by omega), List.set_append_right _ _ (by omega), List.set_append_right _ _ (by omega), List.set_append_right _ _ (by omega), l]
  rw [show n * 4 - n * 4 = 0 by omega, show n * 4 + 1 - n * 4 = 1 by omega, show n * 4 + 2 - n * 4 = 2 by omega, show n * 4 + 3 - n * 4 = 3 by omega]
  rfl
/-- one that lies from cell o of block b on -/
def At (w : World) (b o : Nat) (k : Op) : Prop :=
  w.cell? ⟨b, o, none⟩ = some (.int .i64 k.kind) ∧ w.cell? ⟨b, o + 1, none⟩ = some (.int .i64 k.who) ∧ w.cell? ⟨b, o + 2, none⟩ = some (.int .i64 k.num) ∧ w.cell? ⟨b, o + 3, none⟩ = some (.string k.text)
theorem At.kept {w w' : World} {b o : Nat} {k : Op} (h : At w b o k) (g : w.grownBy w' none) : At w' b o k :=
  ⟨g.cell h.1 (fun e => by cases e), g.cell h.2.1 (fun e => by cases e), g.cell h.2.2.1 (fun e => by cases e), g.cell h.2.2.2 (fun e => by cases e)⟩
/-- the slice value v reads as the list OO -/
def Ops (w : World) (v : Value) (OO : List Op) : Prop :=
  ∃ a cap, v = .slice a OO.length cap ∧ (OO = [] ∨ ∃ b off, a = some ⟨b, off, none⟩ ∧ b < w.heap.size ∧ ∀ i, i < OO.length → At w b (off + i * 4) (OO.getD i oz))
theorem Ops.kept {w w' : World} {v : Value} {OO : List Op} (h : Ops w v OO) (g : w.grownBy w' none) : Ops w' v OO := by
  obtain ⟨a, cap, rfl, h⟩ := h
  refine ⟨a, cap, rfl, ?_⟩
  rcases h with h | ⟨b, off, rfl, hb, hc⟩
  · exact .inl h
  · exact .inr ⟨b, off, rfl, Nat.lt_of_lt_of_le hb g.size, fun i hi => (hc i hi).kept g⟩
theorem Ops.below {w w' : World} {v : Value} {OO : List Op} (h : Ops w v OO) (b : Below w.heap.size w w') : Ops w' v OO := h.kept (of_below b)
theorem Ops.len {w : World} {v : Value} {OO : List Op} (h : Ops w v OO) : ∃ a cap, v = .slice a OO.length cap := by
  obtain ⟨a, cap, e, _⟩ := h
  exact ⟨a, cap, e⟩
theorem Ops.nil (w : World) (a : Option Addr) (cap : Nat) : Ops w (.slice a 0 cap) [] := ⟨a, cap, rfl, .inl rfl⟩
/-- v is a list of the call's own that reads as OO; its block lies from lo on, below hi -/
def OwnO (lo hi : Nat) (w : World) (v : Value) (OO : List Op) : Prop := w.ownsRow lo 39 4 v OO.length (cellsO OO) ∧ ∀ k, v.ownBlock = some k → k < hi
theorem OwnO.sub {lo lo' hi hi' : Nat} {w : World} {v : Value} {OO : List Op} (h : OwnO lo hi w v OO) (a : lo' ≤ lo) (b : hi ≤ hi') : OwnO lo' hi' w v OO := ⟨own_mono h.1 a, fun k e => Nat.lt_of_lt_of_le (h.2 k e) b⟩
theorem row_kept {w w' : World} {lo n z : Nat} {t : TypeId} {v : Value} {xs : List Value} (h : w.ownsRow lo t z v n xs) (g : w.grownBy w' none) : w'.ownsRow lo t z v n xs := h.kept g (by
  cases hv : v.ownBlock
  · exact .inl rfl
  · exact .inr (fun e => by cases e))
theorem row_outs {lo hi lo' hi' n z : Nat} {t : TypeId} {w w' : World} {v : Value} {xs : List Value} (h : w.ownsRow lo t z v n xs) (hb : ∀ k, v.ownBlock = some k → k < hi) (g : Outs lo' hi' w w') (d : hi ≤ lo' ∨ hi' ≤ lo) : w'.ownsRow lo t z v n xs := by
  have h' := h
  obtain ⟨h1, h2⟩ := h
  refine ⟨h1, ?_⟩
  rcases h2 with h2 | ⟨b, cap, cur, rfl, hg, hh, r⟩
  · exact .inl h2
  · refine .inr ⟨b, cap, cur, rfl, hg, ?_, r⟩
    have l1 := h'.lt b rfl
    have l2 := hb b rfl
    rw [g.block b l1.2 (by omega)]
    exact hh
theorem OwnO.kept {lo hi : Nat} {w w' : World} {v : Value} {OO : List Op} (h : OwnO lo hi w v OO) (g : w.grownBy w' none) : OwnO lo hi w' v OO := ⟨row_kept h.1 g, h.2⟩
theorem OwnO.outs {lo hi lo' hi' : Nat} {w w' : World} {v : Value} {OO : List Op} (h : OwnO lo hi w v OO) (g : Outs lo' hi' w w') (d : hi ≤ lo' ∨ hi' ≤ lo) : OwnO lo hi w' v OO := ⟨row_outs h.1 h.2 g d, h.2⟩
theorem own_at {lo n cap g i : Nat} {w : World} {D : List Op} (h : w.ownsRow lo 39 4 (.slice (some ⟨g, 0, none⟩) n cap) n (cellsO D)) (hn : D.length = n) (hi : i < D.length) : At w g (i * 4) D[i] := by
  have q := cellsO_at hi
  refine ⟨?_, ?_, ?_, ?_⟩
  · rw [h.cellAt _ (by omega)]; exact q.1
  · rw [h.cellAt _ (by omega)]; exact q.2.1
  · rw [h.cellAt _ (by omega)]; exact q.2.2.1
  · rw [h.cellAt _ (by omega)]; exact q.2.2.2
theorem OwnO.ops {lo hi : Nat} {w : World} {v : Value} {OO : List Op} (h : OwnO lo hi w v OO) : Ops w v OO := by
  obtain ⟨ho, _⟩ := h
  have ho' := ho
  obtain ⟨_, h2⟩ := ho
  rcases h2 with ⟨rfl, h0⟩ | ⟨g, cap, cur, rfl, hg, hh, _⟩
  · have : OO = [] := List.eq_nil_of_length_eq_zero h0
    subst this
    exact ⟨none, 0, rfl, .inl rfl⟩
  · refine ⟨some ⟨g, 0, none⟩, cap, rfl, .inr ⟨g, 0, rfl, (Array.getElem?_eq_some_iff.1 hh).1, fun i hi' => ?_⟩⟩
    have q := own_at ho' rfl hi'
    rw [Nat.zero_add, show OO.getD i oz = OO[i] by simp [hi']]
    exact q
theorem OwnO.len {lo hi : Nat} {w : World} {v : Value} {OO : List Op} (h : OwnO lo hi w v OO) : ∃ a cap, v = .slice a OO.length cap := h.ops.len
theorem OwnO.of {lo : Nat} {w : World} {v : Value} {OO : List Op} (h : w.ownsRow lo 39 4 v OO.length (cellsO OO)) : OwnO lo w.heap.size w v OO := ⟨h, fun k e => (h.lt k e).2⟩
theorem infoO : (Try.prog.info? 39).map (fun i => (i.zero, i.size, i.bytes)) = some (some (.agg #[.int .i64 0, .int .i64 0, .int .i64 0, .string ⟨#[]⟩]), 4, 40) := by kernel_rfl
theorem sizeO : (Try.prog.info? 39).map (·.size) = some 4 := by kernel_rfl
theorem ret_op {fn : Func} {p : Tmp} {tmps : Array Value} {w : World} {c : Nat} {a b q x : Value} (h : fn.results = #[.cell p 39]) (hp : tmps.getD p undef = .pointer (some ⟨c, 0, none⟩)) (hb : Box4 39 w c a b q x) :
    (results fn tmps).run Try.prog w = .ok (.agg #[a, b, q, x]) w :=
  results_cell_row h tmps w c 39 #[a, b, q, x] (0, 0) _ hp hb Try.underlying39 rfl sizeO
set_option maxHeartbeats 800000 in
/-- a copy of one -/
theorem toHallOp (k : Op) (w : World) :
    Calls Try.prog 20 #[.agg #[.int .i64 k.kind, .int .i64 k.who, .int .i64 k.num, .string k.text]] w fun e w' => e = .returned (.agg #[.int .i64 k.kind, .int .i64 k.who, .int .i64 k.num, .string k.text]) ∧ w.grownBy w' none := by
  obtain ⟨kind, who, num, text⟩ := k
  dsimp only
  have g0 : w.grownBy (((w.alloc (.cells #[.int .i64 kind, .int .i64 who, .int .i64 num, .string text] 38)).alloc (.cells #[.int .i64 kind, .int .i64 who, .int .i64 num, .string text] 39)).alloc (.cells #[.int .i64 kind, .int .i64 who, .int .i64 num, .string text] 39)) none := grown_trans (grown_trans (World.grownBy_alloc _ _ _) (World.grownBy_alloc _ _ _)) (World.grownBy_alloc _ _ _)
  have G := hide g0
  clear g0
  go_enter Try.func20, Try.ntmps20
  go_wp2_with fail
  (try simp only [Exit.inBlock, Exit.then])
  have b1 := (Box4.new 39 (w.alloc (.cells #[.int .i64 kind, .int .i64 who, .int .i64 num, .string text] 38)) (.int .i64 kind) (.int .i64 who) (.int .i64 num) (.string text)).kept (World.grownBy_alloc _ (.cells #[.int .i64 kind, .int .i64 who, .int .i64 num, .string text] 39) none)
  rw [World.size_alloc] at b1
  exact bodyPost_ret (ret_op rfl rfl b1) rfl ⟨rfl, unhide G⟩
/-- as many zero values -/
def zs (n : Nat) : List Op := List.replicate n oz
theorem made4 (n : Nat) : (madeCells #[.int .i64 0, .int .i64 0, .int .i64 0, .string ⟨#[]⟩] (n * 4)).toList = cellsO (zs n) := by
  apply List.ext_getElem?
  intro j
  have l := cellsO_len (zs n)
  have lz : (zs n).length = n := by simp [zs]
  rw [lz] at l
  by_cases hj : j < n * 4
  · have hd : j / 4 < (zs n).length := by rw [lz]; omega
    have q := cellsO_at hd
    have zi : (zs n)[j / 4] = oz := by simp [zs]
    rw [zi] at q
    have e1 : (madeCells #[.int .i64 0, .int .i64 0, .int .i64 0, .string ⟨#[]⟩] (n * 4)).toList[j]? = some ((#[.int .i64 0, .int .i64 0, .int .i64 0, .string ⟨#[]⟩] : Array Value)[j % 4]!) := by
      simp [madeCells, hj]
    rw [e1]
    have hm : j % 4 < 4 := Nat.mod_lt _ (by decide)
    have hjj : j / 4 * 4 + j % 4 = j := by omega
    rcases (show j % 4 = 0 ∨ j % 4 = 1 ∨ j % 4 = 2 ∨ j % 4 = 3 by omega) with h | h | h | h
    · rw [h] at hjj ⊢; rw [← hjj]; exact q.1.symm
    · rw [h] at hjj ⊢; rw [← hjj]; exact q.2.1.symm
    · rw [h] at hjj ⊢; rw [← hjj]; exact q.2.2.1.symm
    · rw [h] at hjj ⊢; rw [← hjj]; exact q.2.2.2.symm
  · rw [List.getElem?_eq_none (by simp [madeCells]; omega), List.getElem?_eq_none (by omega)]
/-- a copy of a list in the making -/
def MidO (w wr : World) (n : Nat) (OO : List Op) : Prop :=
  OO.length ≤ n ∧ wr.ownsRow w.heap.size 39 4 (.slice (some ⟨w.heap.size, 0, none⟩) n n) n (cellsO (OO ++ zs (n - OO.length))) ∧ w.grownBy wr none
theorem MidO.start {w w1 : World} {n : Nat} (ho : w1.ownsRow w.heap.size 39 4 (.slice (some ⟨w.heap.size, 0, none⟩) n n) n (madeCells #[.int .i64 0, .int .i64 0, .int .i64 0, .string ⟨#[]⟩] (n * 4)).toList) (g : w.grownBy w1 none) : MidO w w1 n [] := by
  rw [made4] at ho
  exact ⟨Nat.zero_le _, ho, g⟩
theorem MidO.cell {w wr w1 : World} {n : Nat} {OO : List Op} (h : MidO w wr n OO) (hk : OO.length < n) (g : wr.grownBy w1 none) (j : Nat) (hj : j < 4) :
    (∃ x, w1.cell? ⟨w.heap.size, OO.length * 4 + j, none⟩ = some x) ∧ w1.frozen? ⟨w.heap.size, OO.length * 4 + j, none⟩ = false := by
  obtain ⟨hD, ho, hg⟩ := h
  have ho1 := row_kept ho g
  refine ⟨?_, ho1.frozenAt _⟩
  rw [ho1.cellAt _ (by omega)]
  refine ⟨_, List.getElem?_eq_getElem ?_⟩
  rw [cellsO_len, List.length_append]
  simp only [zs, List.length_replicate]
  omega
theorem MidO.step {w wr w1 : World} {n : Nat} {OO : List Op} {k : Op} (h : MidO w wr n OO) (hk : OO.length < n) (g : wr.grownBy w1 none) :
    MidO w ((((w1.setCell ⟨w.heap.size, OO.length * 4, none⟩ (.int .i64 k.kind)).setCell ⟨w.heap.size, OO.length * 4 + 1, none⟩ (.int .i64 k.who)).setCell ⟨w.heap.size, OO.length * 4 + 2, none⟩ (.int .i64 k.num)).setCell ⟨w.heap.size, OO.length * 4 + 3, none⟩ (.string k.text)) n (OO ++ [k]) := by
  obtain ⟨hD, ho, hg⟩ := h
  have ho1 := row_kept ho g
  refine ⟨by simp; omega, ?_, ?_⟩
  · have e1 : n - OO.length = (n - (OO ++ [k]).length) + 1 := by simp; omega
    have e2 : zs (n - OO.length) = oz :: zs (n - (OO ++ [k]).length) := by rw [e1]; rfl
    rw [e2] at ho1
    have e3 := cellsO_set OO (zs (n - (OO ++ [k]).length)) oz k OO.length rfl
    rw [List.append_assoc, List.singleton_append, ← e3]
    exact ((((ho1.stored _ _).1.stored _ _).1.stored _ _).1.stored _ _).1
  · exact yb.grown_set (yb.grown_set (yb.grown_set (yb.grown_set (grown_trans (r := none) hg g) (Nat.le_refl _)) (Nat.le_refl _)) (Nat.le_refl _)) (Nat.le_refl _)
theorem MidO.done {w wr : World} {n : Nat} {OO : List Op} (h : MidO w wr n OO) (hn : OO.length = n) : OwnO w.heap.size wr.heap.size wr (.slice (some ⟨w.heap.size, 0, none⟩) n n) OO ∧ w.grownBy wr none := by
  obtain ⟨hD, ho, hg⟩ := h
  subst hn
  refine ⟨⟨?_, fun k e => (ho.lt k e).2⟩, hg⟩
  simpa [zs] using ho
theorem take_snoc (OO : List Op) (k : Nat) (h : k < OO.length) : OO.take (k + 1) = OO.take k ++ [OO.getD k oz] := by
  rw [List.take_succ_eq_append_getElem h]
  simp [h]
set_option maxHeartbeats 800000 in
/-- a copy of a list, in a block of its own -/
theorem toHallOpS (v : Value) (OO : List Op) (w : World) (hn : OO.length ≤ 1048576) (hv : Ops w v OO) :
    Calls Try.prog 7 #[v] w fun e w' => ∃ u, e = .returned u ∧ OwnO w.heap.size w'.heap.size w' u OO ∧ w.grownBy w' none := by
  obtain ⟨a, cap, rfl, ha⟩ := hv
  obtain ⟨i0, hi, hz0, hz1, hz2⟩ := info_parts infoO
  have HA := hide ha
  clear ha
  go_enter Try.func7, Try.ntmps7
  go_wp2_with (first | (at_make; refine wpList_make_full _ rfl _ _ 24 rfl w.heap.size 39 i0 (.agg #[.int .i64 0, .int .i64 0, .int .i64 0, .string ⟨#[]⟩]) 4 Try.underlying24 hi hz0 hz1 _ _ _ _ OO.length rfl rfl (by rfl) (by rfl) ?b1 ?b2 ?b3 ?_) | go_in)
  case b1 => rw [hz2]; omega
  case b2 => unfold maxLen; omega
  case b3 => exact Nat.le_refl _
  intro w1 hown hgrow
  have O := hide (MidO.start hown hgrow)
  clear hown hgrow
  go_wp2
  go_loopw [4] (fun i wr => ∃ k : Nat, k ≤ OO.length ∧ i = .int .i64 k ∧ Hid (MidO w wr OO.length (OO.take k))) (fun i _ => OO.length - (intOf i).toNat)
  case atStart => exact ⟨0, Nat.zero_le _, rfl, O⟩
  case round =>
    obtain ⟨k, hk, rfl, hmid⟩ := hrel
    by_cases hlt : k < OO.length
    · rcases unhide HA with h | ⟨b, off, rfl, hb, hcb⟩
      · rw [h] at hlt
        simp at hlt
      · have hu := hcb k hlt
        have hg := (unhide hmid).2.2
        obtain ⟨c0, c1, c2, c3⟩ := hu.kept hg
        have hts := take_snoc OO k hlt
        have htl : (OO.take k).length = k := by rw [List.length_take]; omega
        generalize OO.getD k oz = x at *
        have CT := hide (toHallOp x wr)
        have HT := hide hts
        have HL := hide htl
        have hi' : (k : Int) < (OO.length : Int) := by omega
        obtain ⟨kind, who, num, text⟩ := x
        dsimp only at c0 c1 c2 c3 CT
        clear hcb hu hg O hts htl HA
        go_wp2_with fail
        refine (unhide CT).mono ?_; rintro e w2 ⟨rfl, g2⟩
        have cc := fun j hj => (unhide hmid).cell (by rw [unhide HL]; exact hlt) g2 j hj
        rw [unhide HL] at cc
        obtain ⟨⟨x0, hx0⟩, hf0⟩ := cc 0 (by decide)
        obtain ⟨⟨x1, hx1⟩, hf1⟩ := cc 1 (by decide)
        obtain ⟨⟨x2, hx2⟩, hf2⟩ := cc 2 (by decide)
        obtain ⟨⟨x3, hx3⟩, hf3⟩ := cc 3 (by decide)
        rw [Nat.add_zero] at hx0 hf0
        have M2 := hide ((unhide hmid).step (k := ⟨kind, who, num, text⟩) (by rw [unhide HL]; exact hlt) g2)
        rw [unhide HL, ← unhide HT] at M2
        clear g2 hmid CT cc
        go_wp2
        go_roundw
        case rel => exact ⟨k + 1, by omega, by go_num, M2⟩
        case measure => simp [intOf]; omega
    · have hi' : ¬ (k : Int) < (OO.length : Int) := by omega
      have e : OO.take k = OO := List.take_of_length_le (by omega)
      rw [e] at hmid
      have R := hide ((unhide hmid).done rfl)
      clear HA hmid O e
      go_wp2
      go_ret
      exact ⟨_, rfl, unhide R⟩
/-- how much a list holds -/
def tot (OO : List Op) : Nat := OO.length + (OO.map (·.text.size)).sum
def used (OO : List Op) (k : Nat) : Nat := OO.length + ((OO.take k).map (·.text.size)).sum
theorem used_step (OO : List Op) (k : Nat) (h : k < OO.length) : used OO (k + 1) = used OO k + (OO.getD k oz).text.size := by
  unfold used
  rw [take_snoc OO k h]
  simp [Nat.add_assoc]
theorem used_all (OO : List Op) (k : Nat) (h : ¬ k < OO.length) : used OO k = tot OO := by
  unfold used tot
  rw [List.take_of_length_le (by omega)]
theorem tot_len (OO : List Op) : OO.length ≤ tot OO := Nat.le_add_right _ _
set_option maxHeartbeats 800000 in
theorem szHallOp (k : Op) (left : Int) (w : World) (h0 : 0 ≤ left) (h1 : left ≤ 1048576) (hd : k.text.size ≤ 9223372036854775807) :
    Calls Try.prog 19 #[.agg #[.int .i64 k.kind, .int .i64 k.who, .int .i64 k.num, .string k.text], .int .i64 left] w fun e w' => e = .returned (.int .i64 (if left < (k.text.size : Int) then -1 else left - (k.text.size : Int))) ∧ w.grownBy w' none := by
  obtain ⟨kind, who, num, d⟩ := k
  dsimp only at *
  have G := hide (World.grownBy_alloc w (.cells #[.int .i64 kind, .int .i64 who, .int .i64 num, .string d] 38) none)
  by_cases c1 : left - (d.size : Int) < 0
  · rw [if_pos (by omega)]
    go_enter Try.func19, Try.ntmps19
    go_wp2
    go_ret
    exact ⟨rfl, unhide G⟩
  · rw [if_neg (by omega)]
    go_enter Try.func19, Try.ntmps19
    go_wp2
    go_ret
    exact ⟨rfl, unhide G⟩
set_option maxHeartbeats 800000 in
theorem szHallOpS (v : Value) (OO : List Op) (left : Int) (w : World) (h0 : 0 ≤ left) (h1 : left ≤ 1048576) (hn : OO.length ≤ 9223372036854775807) (hin : ∀ i, (OO.getD i oz).text.size ≤ 9223372036854775807) (hv : Ops w v OO) :
    Calls Try.prog 5 #[v, .int .i64 left] w fun e w' => ∃ r : Int, e = .returned (.int .i64 r) ∧ w.grownBy w' none ∧ (r = -1 ∨ 0 ≤ r ∧ r + (tot OO : Int) = left) := by
  obtain ⟨a, cap, rfl, ha⟩ := hv
  by_cases hl : left < (OO.length : Int)
  · have h2 : left - (OO.length : Int) < 0 := by omega
    clear ha
    go_enter Try.func5, Try.ntmps5
    go_wp2
    go_ret
    exact ⟨_, rfl, grown_refl _, .inl rfl⟩
  · have h2 : ¬ left - (OO.length : Int) < 0 := by omega
    have HA := hide ha
    clear ha
    go_enter Try.func5, Try.ntmps5
    go_wp2
    go_loopw [1, 5] (fun q i wr => ∃ k : Nat, k ≤ OO.length ∧ i = .int .i64 k ∧ ∃ r : Int, q = .int .i64 r ∧ 0 ≤ r ∧ Hid (r + (used OO k : Int) = left) ∧ Hid (w.grownBy wr none)) (fun _ i _ => OO.length - (intOf i).toNat)
    case atStart => exact ⟨0, Nat.zero_le _, rfl, _, rfl, by omega, by show _ = _; simp [used], grown_refl _⟩
    case round =>
      obtain ⟨k, hk, rfl, r, rfl, hr, hu, hg⟩ := hrel
      by_cases hlt : k < OO.length
      · rcases unhide HA with h | ⟨b, off, rfl, hb, hcb⟩
        · rw [h] at hlt
          simp at hlt
        · obtain ⟨c0, c1, c2, c3⟩ := (hcb k hlt).kept (unhide hg)
          have us := used_step OO k hlt
          have hl' := hin k
          generalize OO.getD k oz = x at *
          obtain ⟨kind, who, num, d⟩ := x
          dsimp only at *
          have hi' : (k : Int) < (OO.length : Int) := by omega
          have hr1 : r ≤ 1048576 := by have := unhide hu; omega
          have C := szHallOp ⟨kind, who, num, d⟩ r wr hr hr1 hl'
          dsimp only at C
          by_cases hq : r < (d.size : Int)
          · rw [if_pos hq] at C
            have C' := hide C
            clear C hq hcb HA us hu hl'
            go_wp2_with fail
            refine (unhide C').mono ?_; rintro e w' ⟨rfl, g'⟩
            have GG := hide (grown_trans (r := none) (unhide hg) g')
            clear g' hg
            go_wp2_with fail
            go_ret
            exact ⟨_, rfl, unhide GG, .inl rfl⟩
          · rw [if_neg hq] at C
            have C' := hide C
            have hu' : Hid (r - (d.size : Int) + (used OO (k + 1) : Int) = left) := by show _ = _; have := unhide hu; omega
            have hq' : ¬ r - (d.size : Int) < 0 := by omega
            have hq2 : 0 ≤ r - (d.size : Int) := by omega
            generalize r - (d.size : Int) = r2 at *
            clear C hq hcb HA us hu hl'
            go_wp2_with fail
            refine (unhide C').mono ?_; rintro e w' ⟨rfl, g'⟩
            have GG := hide (grown_trans (r := none) (unhide hg) g')
            clear g' hg
            go_wp2_with fail
            go_roundw
            case rel => exact ⟨k + 1, by omega, by go_num, _, rfl, hq2, hu', GG⟩
            case measure => simp [intOf]; omega
      · have hi' : ¬ (k : Int) < (OO.length : Int) := by omega
        have hu' : Hid (r + (tot OO : Int) = left) := by show _ = _; rw [← used_all OO k hlt]; exact unhide hu
        clear HA hu
        go_wp2
        go_ret
        exact ⟨_, rfl, unhide hg, .inr ⟨hr, unhide hu'⟩⟩
/-- equal ones: eqHallOp says yes -/
theorem eqHallOp (k : Op) (w : World) :
    Calls Try.prog 21 #[.agg #[.int .i64 k.kind, .int .i64 k.who, .int .i64 k.num, .string k.text], .agg #[.int .i64 k.kind, .int .i64 k.who, .int .i64 k.num, .string k.text]] w fun e w' => e = .returned (.bool true) ∧ w.grownBy w' none := by
  obtain ⟨kind, who, num, d⟩ := k
  have g0 : w.grownBy ((w.alloc (.cells #[.int .i64 kind, .int .i64 who, .int .i64 num, .string d] 39)).alloc (.cells #[.int .i64 kind, .int .i64 who, .int .i64 num, .string d] 39)) none := grown_trans (World.grownBy_alloc _ _ _) (World.grownBy_alloc _ _ _)
  have G := hide g0
  clear g0
  go_enter Try.func21, Try.ntmps21
  go_wp2
  go_ret
  exact ⟨rfl, unhide G⟩
set_option maxHeartbeats 1600000 in
/-- equal lists: eqHallOpS says yes -/
theorem eqHallOpS (v u : Value) (OO : List Op) (w : World) (hn : OO.length ≤ 1048576) (hv : Ops w v OO) (hu : Ops w u OO) :
    Calls Try.prog 9 #[v, u] w fun e w' => e = .returned (.bool true) ∧ w.grownBy w' none := by
  obtain ⟨a, cap, rfl, ha⟩ := hv
  obtain ⟨c, cap', rfl, hc⟩ := hu
  have HA := hide ha
  have HC := hide hc
  clear ha hc
  go_enter Try.func9, Try.ntmps9
  go_wp2
  go_loopw [5] (fun i wr => ∃ k : Nat, k ≤ OO.length ∧ i = .int .i64 k ∧ w.grownBy wr none) (fun i _ => OO.length - (intOf i).toNat)
  case atStart => exact ⟨0, Nat.zero_le _, rfl, grown_refl _⟩
  case round =>
    obtain ⟨k, hk, rfl, hg⟩ := hrel
    by_cases hlt : k < OO.length
    · rcases unhide HA with h | ⟨b, off, rfl, hb, hcb⟩
      · rw [h] at hlt
        simp at hlt
      · rcases unhide HC with h | ⟨d, off', rfl, hd, hcd⟩
        · rw [h] at hlt
          simp at hlt
        · obtain ⟨x0, x1, x2, x3⟩ := (hcb k hlt).kept hg
          obtain ⟨y0, y1, y2, y3⟩ := (hcd k hlt).kept hg
          have C := hide (fun w1 => eqHallOp (OO.getD k oz) w1)
          generalize OO.getD k oz = z at *
          obtain ⟨kind, who, num, text⟩ := z
          dsimp only at *
          have hi : (k : Int) < (OO.length : Int) := by omega
          have G := hide hg
          have CK : Hid (∀ w', wr.grownBy w' none → w'.cell? ⟨b, off + k * 4, none⟩ = some (.int .i64 kind) ∧ w'.cell? ⟨b, off + k * 4 + 1, none⟩ = some (.int .i64 who) ∧ w'.cell? ⟨b, off + k * 4 + 2, none⟩ = some (.int .i64 num) ∧ w'.cell? ⟨b, off + k * 4 + 3, none⟩ = some (.string text) ∧ w'.cell? ⟨d, off' + k * 4, none⟩ = some (.int .i64 kind) ∧ w'.cell? ⟨d, off' + k * 4 + 1, none⟩ = some (.int .i64 who) ∧ w'.cell? ⟨d, off' + k * 4 + 2, none⟩ = some (.int .i64 num) ∧ w'.cell? ⟨d, off' + k * 4 + 3, none⟩ = some (.string text)) := fun w' g => ⟨g.cell x0 (fun e => by cases e), g.cell x1 (fun e => by cases e), g.cell x2 (fun e => by cases e), g.cell x3 (fun e => by cases e), g.cell y0 (fun e => by cases e), g.cell y1 (fun e => by cases e), g.cell y2 (fun e => by cases e), g.cell y3 (fun e => by cases e)⟩
          clear hg hcb hcd HA HC
          go_wp2_with fail
          have GX := hide (grown_drew wr none)
          go_region_held3 (fun w' => w'.cell? ⟨b, off + k * 4, none⟩ = some (.int .i64 kind) ∧ w'.cell? ⟨b, off + k * 4 + 1, none⟩ = some (.int .i64 who) ∧ w'.cell? ⟨b, off + k * 4 + 2, none⟩ = some (.int .i64 num) ∧ w'.cell? ⟨b, off + k * 4 + 3, none⟩ = some (.string text) ∧ w'.cell? ⟨d, off' + k * 4, none⟩ = some (.int .i64 kind) ∧ w'.cell? ⟨d, off' + k * 4 + 1, none⟩ = some (.int .i64 who) ∧ w'.cell? ⟨d, off' + k * 4 + 2, none⟩ = some (.int .i64 num) ∧ w'.cell? ⟨d, off' + k * 4 + 3, none⟩ = some (.string text)) (go_keep) (first
            | (go_at_call 21; refine (unhide C _).mono ?_; rintro e w9 ⟨rfl, g9⟩; replace GX := hide (grown_trans (r := none) (unhide GX) g9); obtain ⟨k1, k2, k3, k4, k5, k6, k7, k8⟩ := unhide CK _ (unhide GX); clear g9))
          all_goals
            go_wp2_with fail
            go_roundw
            case rel => exact ⟨k + 1, by omega, by go_num, grown_trans (unhide G) (unhide GX)⟩
            case measure => simp [intOf]; omega
    · have hi : ¬ (k : Int) < (OO.length : Int) := by omega
      have G := hide hg
      clear hg HA HC
      go_wp2
      go_ret
      exact ⟨rfl, unhide G⟩
end Go.Proofs.Ytofbngeeiompcaa.va
