/- The program's passedOver and (*textReader).next. -/
import Derived.Test.YtfokbkaommfnoaaGreatDoorLs
import Derived.Test.YtfokbkaommfnoaaGreatDoorReadW
import Derived.Test.YtfokbkaommfnoaaGreatDoorSht
import Derived.Test.YtfokbkaommfnoaaGreatDoorTt
namespace Go.Proofs.YtfokbkaommfnoaaGreatDoor.ln
open Go.ChangeShapes Go.WideShapes Go.ChangeAt Go.RowKit
open Go.Proofs.YtfokbkaommfnoaaGreatDoor.sl (hide unhide grown_refl grown_trans of_below below_of)
open Go.Proofs.YtfokbkaommfnoaaGreatDoor.rd (Env strLen)
open Go.Proofs.YtfokbkaommfnoaaGreatDoor.cf (Box)
set_option linter.unusedVariables false
theorem passed_pre (l : List UInt8) (h0 : ¬ l = []) (h1 : ¬ l = [99]) : Lib.hasPrefix l [99, 32] = passed l := by
  rcases l with _ | ⟨c, _ | ⟨d, l⟩⟩
  · exact absurd rfl h0
  · have h : ¬ c = 99 := fun e => h1 (by rw [e])
    simp [Lib.hasPrefix, passed, List.isPrefixOf, h]
  · rw [Bool.eq_iff_iff]
    simp only [Lib.hasPrefix, passed, List.isPrefixOf, Bool.and_eq_true, beq_iff_eq, decide_eq_true_iff, and_true]
    exact ⟨fun h => ⟨h.1.symm, h.2.symm⟩, fun h => ⟨h.1.symm, h.2.symm⟩⟩
theorem passedOver (s : ByteArray) (w : World) :
    Calls Tryz.prog 86 #[.string s] w fun e w' => e = .returned (.bool (passed (rd.bytes s))) ∧ w' = w := by
  have hE : ∀ t : List UInt8, (rd.bytes s = t) → (s.toList == t) = true := fun t h => by rw [rd.toList_bytes, h]; exact beq_self_eq_true t
  have hN : ∀ t : List UInt8, (¬ rd.bytes s = t) → (s.toList == t) = false := fun t h => by rw [rd.toList_bytes]; exact beq_eq_false_iff_ne.2 h
  by_cases h0 : rd.bytes s = []
  · have e0 := hE _ h0
    rw [h0] at *
    clear hE hN h0
    go_enter Tryz.func86, Tryz.ntmps86
    go_wp2
    go_ret
    exact ⟨rfl, rfl⟩
  have n0 := hN _ h0
  by_cases h1 : rd.bytes s = [99]
  · have e1 := hE _ h1
    rw [h1]
    clear hE hN h0 h1
    go_enter Tryz.func86, Tryz.ntmps86
    go_wp2
    go_ret
    exact ⟨rfl, rfl⟩
  have n1 := hN _ h1
  have C := hide (Tryz.strings_HasPrefix s ⟨#[99, 32]⟩ w)
  rw [show Lib.hasPrefix s.data.toList (⟨#[99, 32]⟩ : ByteArray).data.toList = passed (rd.bytes s) from passed_pre _ h0 h1] at C
  clear hE hN h0 h1
  go_enter Tryz.func86, Tryz.ntmps86
  go_wp2_with fail
  refine (unhide C).mono ?_; rintro e w' ⟨rfl, rfl⟩
  go_wp2
  go_ret
  exact ⟨rfl, rfl⟩
theorem cutN (t : ByteArray) (w : World) (hE : Env w) (ht : t.size ≤ 1048576) (wd rs : List UInt8) (fd : Bool) (hc : cutL (rd.bytes t) = (wd, rs, fd)) :
    Calls Tryz.prog 85 #[.string t, .string ⟨#[10]⟩] w fun e w' => e = .returned (.tuple #[.string ⟨wd.toArray⟩, .string ⟨rs.toArray⟩, .bool fd]) ∧ w.grownBy w' none := by
  obtain ⟨m, hm⟩ := hE.most
  refine (Tryz.strings_Cut t ⟨#[10]⟩ m w (by omega) hm).mono ?_
  rintro e w' ⟨rfl, n, rfl⟩
  have e1 : Lib.cut t.data.toList (⟨#[10]⟩ : ByteArray).data.toList = (wd, rs, fd) := hc
  rw [e1]
  exact ⟨rfl, sl.grown_drewN w n⟩

/-- the reader of the lines: what is left, and the number of the line -/
abbrev Rdr (w : World) (r : Nat) (t : ByteArray) (i : Nat) : Prop := Box 87 w r (.string t) (.int .i64 (i : Int))
/-- the next line that is not passed over -/
def skip : List (List UInt8) → Nat → Option (List UInt8) × List (List UInt8) × Nat
  | [], i => (none, [], i + 1)
  | l :: r, i => if passed l then skip r (i + 1) else (some l, r, i + 1)
/-- what next answers -/
structure Next (w : World) (r : Nat) (t : ByteArray) (i : Nat) (ln : ByteArray) (fd : Bool) (w' : World) : Prop where
  grown : w.grownBy w' (some r)
  yes : fd = true → ∃ t' i', Rdr w' r t' i' ∧ skip (linesOf (rd.bytes t)) i = (some (rd.bytes ln), linesOf (rd.bytes t'), i') ∧ Ends (rd.bytes t') ∧ i' + t'.size ≤ i + t.size ∧ t'.size < t.size ∧ ln.size ≤ t.size
  none : fd = false → ∃ t' i', Rdr w' r t' i' ∧ skip (linesOf (rd.bytes t)) i = (none, [], i') ∧ i' ≤ i + t.size + 1 ∧ ln = ⟨#[]⟩ ∧ t' = ⟨#[]⟩
theorem below_by {B r : Nat} {w0 w w' : World} (h : Below B w0 w) (hB : B ≤ w0.heap.size) (g : w.grownBy w' (some r)) (hr : B ≤ r) : Below B w0 w' := by
  refine ⟨g.os.trans h.os, g.tape.trans h.tape, g.output.trans h.output, Nat.le_trans h.size g.size, fun k hk => ?_⟩
  have := h.size
  exact (g.block k (by omega) (fun e => by have := Option.some.inj e; omega)).trans (h.block k hk)
theorem same_by (w : World) (r : Option Nat) : w.grownBy w r := ⟨rfl, rfl, rfl, Nat.le_refl _, fun _ _ _ => rfl⟩
theorem more_by {w w' : World} (h : w.grownBy w' none) (r : Option Nat) : w.grownBy w' r := ⟨h.os, h.tape, h.output, h.size, fun k hk _ => h.block k hk (fun e => by cases e)⟩
theorem skip_pass {l : List UInt8} (r : List (List UInt8)) (i : Nat) (h : passed l = true) : skip (l :: r) i = skip r (i + 1) := by rw [skip, if_pos h]
theorem skip_stop {l : List UInt8} (r : List (List UInt8)) (i : Nat) (h : passed l = false) : skip (l :: r) i = (some l, r, i + 1) := by rw [skip, h]; rfl
set_option maxHeartbeats 1600000 in
theorem next (w0 : World) (r : Nat) (t : ByteArray) (i : Nat) (w : World) (hE : Env w0) (hb : Below w0.heap.size w0 w) (hr : w0.heap.size ≤ r) (hR : Rdr w r t i) (hends : Ends (rd.bytes t)) (hsz : t.size ≤ 1048576) (hi : i + t.size ≤ 1048576) :
    Calls Tryz.prog 77 #[.pointer (some ⟨r, 0, none⟩)] w fun e w' => ∃ ln fd, e = .returned (.tuple #[.string ln, .bool fd]) ∧ Next w r t i ln fd w' := by
  have HE := hide hE
  have HB := hide hb
  clear hE hb
  go_enter Tryz.func77, Tryz.ntmps77
  go_wp2
  go_loopw [4, 5, 6] (fun _ _ _ wr => ∃ (t1 : ByteArray) (i1 : Nat), Rdr wr r t1 i1 ∧ w.grownBy wr (some r) ∧ Ends (rd.bytes t1) ∧ t1.size ≤ t.size ∧ i1 + t1.size ≤ i + t.size ∧ skip (linesOf (rd.bytes t)) i = skip (linesOf (rd.bytes t1)) i1) (fun _ _ _ wr => strLen ((wr.cell? ⟨r, 0, none⟩).getD undef))
  case atStart => exact ⟨t, i, hR, same_by _ _, hends, Nat.le_refl _, Nat.le_refl _, rfl⟩
  case round =>
    obtain ⟨t1, i1, hR1, g1, he1, hs1, hi1, hk1⟩ := hrel
    have y0 := hR1.c0
    have y1 := hR1.c1
    have f0 := hR1.f 0
    have f1 := hR1.f 1
    have hb0 : (t1.toList == []) = decide (rd.bytes t1 = []) := by rw [Bool.eq_iff_iff, beq_iff_eq, decide_eq_true_iff, rd.toList_bytes]
    by_cases h0 : rd.bytes t1 = []
    · rw [decide_eq_true h0] at hb0
      have E := hide hk1
      rw [h0] at E
      have HR := hide hR1
      have G := hide g1
      have z1 : t1 = ⟨#[]⟩ := by
        obtain ⟨⟨l⟩⟩ := t1
        have : l = [] := h0
        rw [this]
      have Z1 := hide z1
      clear hk1 hR1 g1 he1 z1 h0
      go_wp2
      go_ret2
      refine ⟨⟨#[]⟩, false, rfl, ⟨sl.grown_trans' (unhide G) (sl.grown_setCell wr r 1 _), (fun e => by cases e), fun _ => ⟨⟨#[]⟩, i1 + 1, ?_, (unhide E).trans rfl, by omega, rfl, rfl⟩⟩⟩
      have B := (unhide HR).set1 (.int .i64 ((i1 : Int) + 1))
      rw [unhide Z1] at B
      unfold Rdr
      rw [show ((i1 + 1 : Nat) : Int) = (i1 : Int) + 1 from by omega]
      exact B
    · rw [decide_eq_false h0] at hb0
      obtain ⟨a, rs, hc, hsp, hna, her, hln, hlr, hla⟩ := cut_line he1 h0
      rw [rd.bytes_len] at hlr hla
      have HB1 : Hid (Below w0.heap.size w0 wr) := hide (below_by (unhide HB) (Nat.le_refl _) g1 hr)
      have CC := hide (cutN t1 wr ((unhide HE).below (unhide HB1)) (by omega) a rs true hc)
      have HR := hide hR1
      have G := hide g1
      have KK := hide (hk1.trans (by rw [hln]))
      have PP := hide (fun w2 => passedOver ⟨a.toArray⟩ w2)
      rw [rd.bytes_mk] at PP
      have her' := hide her
      clear hk1 hR1 g1 he1 h0 hc hsp hna hln her y0 y1 f0 f1
      have y0 := (unhide HR).c0
      go_wp2_with fail
      refine (unhide CC).mono ?_; rintro e w2 ⟨rfl, g2⟩
      have R2 := hide ((unhide HR).kept g2)
      have G2 := hide (sl.grown_trans' (unhide G) (more_by g2 _))
      clear g2 CC y0
      have y0 := (unhide R2).c0
      have y1 := (unhide R2).c1
      have f0 := (unhide R2).f 0
      have f1 := (unhide R2).f 1
      have T2 : Hid (Rdr ((w2.setCell ⟨r, 0, none⟩ (.string ⟨rs.toArray⟩)).setCell ⟨r, 1, none⟩ (.int .i64 ((i1 : Int) + 1))) r ⟨rs.toArray⟩ (i1 + 1)) := by
        refine hide ?_
        unfold Rdr
        rw [show ((i1 + 1 : Nat) : Int) = (i1 : Int) + 1 from by omega]
        exact ((unhide R2).set0 _).set1 _
      have G3 := hide (sl.grown_trans' (unhide G2) (sl.grown_trans' (sl.grown_setCell w2 r 0 (.string ⟨rs.toArray⟩)) (sl.grown_setCell (w2.setCell ⟨r, 0, none⟩ (.string ⟨rs.toArray⟩)) r 1 (.int .i64 ((i1 : Int) + 1)))))
      have srs := rd.size_mk rs
      have sa := rd.size_mk a
      have SRS := hide srs
      have SA := hide sa
      clear srs sa
      cases hp : passed a
      · rw [hp] at PP
        have HP := hide hp
        clear hp
        go_wp2_with fail
        refine (unhide PP _).mono ?_; rintro e w3 ⟨rfl, rfl⟩
        go_wp2
        go_ret2
        have e1 := unhide SRS
        have e2 := unhide SA
        exact ⟨⟨a.toArray⟩, true, rfl, ⟨unhide G3, fun _ => ⟨⟨rs.toArray⟩, i1 + 1, unhide T2, (unhide KK).trans (skip_stop _ _ (unhide HP)), unhide her', by omega, by omega, by omega⟩, fun e => by cases e⟩⟩
      · rw [hp] at PP
        have HP := hide hp
        clear hp
        go_wp2_with fail
        refine (unhide PP _).mono ?_; rintro e w3 ⟨rfl, rfl⟩
        go_wp2
        go_roundw
        case rel =>
          have e1 := unhide SRS
          exact ⟨⟨rs.toArray⟩, i1 + 1, unhide T2, unhide G3, unhide her', by omega, by omega, (unhide KK).trans (skip_pass _ _ (unhide HP))⟩
        case measure =>
          have e1 := unhide SRS
          rw [(unhide T2).c0, (unhide HR).c0]
          show (⟨rs.toArray⟩ : ByteArray).size < t1.size
          omega
end Go.Proofs.YtfokbkaommfnoaaGreatDoor.ln
