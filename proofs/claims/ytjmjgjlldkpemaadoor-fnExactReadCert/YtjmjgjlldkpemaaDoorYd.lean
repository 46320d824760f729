/- What ReadCert of the program answers at every text of at most 2^20 bytes; no condition but that a number of the library lies at its place. -/
import Derived.Test.YtjmjgjlldkpemaaDoorYc
import Derived.Test.YtjmjgjlldkpemaaDoorYb
import Derived.Test.YtjmjgjlldkpemaaDoorZh
import Derived.Test.YtjmjgjlldkpemaaDoorShq
namespace Go.Proofs.YtjmjgjlldkpemaaDoor.yd
open Go.ChangeShapes Go.WideShapes Go.ChangeAt Go.RowKit
open Go.Proofs.YtjmjgjlldkpemaaDoor.rd (words)
open Go.Proofs.YtjmjgjlldkpemaaDoor.ya (partB wordB certB)
open Go.Proofs.YtjmjgjlldkpemaaDoor.zg (hexOk hexB)
open Go.Proofs.YtjmjgjlldkpemaaDoor.yb (Box4)
open Go.Proofs.YtjmjgjlldkpemaaDoor.yc (Cr RC got)
open Go.Proofs.YtjmjgjlldkpemaaDoor.sl (hide unhide grown_refl grown_trans grown_drewN)
set_option linter.unusedVariables false
/-- a number of the library lies at its place -/
def Most (w : World) : Prop := ∃ m, w.cell? ⟨0, 0, none⟩ = some (.int .i64 m)
theorem Most.kept {w w' : World} (h : Most w) (g : w.grownBy w' none) : Most w' := by
  obtain ⟨m, hm⟩ := h
  exact ⟨m, g.cell hm (fun e => by cases e)⟩
theorem cutT (t : ByteArray) (w : World) (hE : Most w) (ht : t.size ≤ 1048576) (wd rs : List UInt8) (fd : Bool) (hc : ln.cutL (rd.bytes t) = (wd, rs, fd)) :
    Calls Tryd.prog 37 #[.string t, .string ⟨#[10]⟩] w fun e w' => e = .returned (.tuple #[.string ⟨wd.toArray⟩, .string ⟨rs.toArray⟩, .bool fd]) ∧ w.grownBy w' none := by
  obtain ⟨m, hm⟩ := hE
  refine (Tryd.strings_Cut t ⟨#[10]⟩ m w (by omega) hm).mono ?_
  rintro e w' ⟨rfl, n, rfl⟩
  have e1 : Lib.cut t.data.toList (⟨#[10]⟩ : ByteArray).data.toList = (wd, rs, fd) := hc
  rw [e1]
  exact ⟨rfl, sl.grown_drewN w n⟩
theorem splitT (s : ByteArray) (w : World) (hE : Most w) (hs : s.size ≤ 1048576) :
    Calls Tryd.prog 38 #[.string s, .string ⟨#[32]⟩] w fun e w' => e = .returned (.slice (some ⟨w.heap.size, 0, none⟩) (ln.pieces s).length (ln.pieces s).length) ∧ w' = w.alloc (.cells ((ln.pieces s).map Value.string).toArray 9) := by
  obtain ⟨m, hm⟩ := hE
  have hl : (ln.pieces s).length = Lib.countB s ⟨#[32]⟩ + 1 := Lib.splitB_all ⟨#[32]⟩ (by decide) 0 _ s rfl
  rw [hl]
  exact Tryd.strings_Split s ⟨#[32]⟩ m w (by omega) hm (by decide)
/-- a certificate's cells -/
def cellsC : Option Cr → Array Value
  | some c => #[.string c.1, .bool c.2.1, .string c.2.2.1, .string c.2.2.2]
  | none => #[.string ⟨#[]⟩, .bool false, .string ⟨#[]⟩, .string ⟨#[]⟩]
/-- what ReadCert answers -/
def CertE (w : World) (O : Option Cr) (e : Ending) (w' : World) : Prop := e = .returned (.tuple #[.agg (cellsC O), .bool O.isSome]) ∧ w.grownBy w' none
def ReadE (s : ByteArray) (w : World) (e : Ending) (w' : World) : Prop := ∃ O, RC s O ∧ CertE w O e w'
theorem cut_rc (s : ByteArray) : ∃ wd rs fd, ln.cutL (rd.bytes s) = (wd, rs, fd) ∧ wd.length ≤ s.size ∧ rs.length ≤ s.size ∧ ((words wd).length ≠ 3 → RC s none) ∧
    ∀ x y z, words wd = [x, y, z] → certB (got x y z rs).1 (got x y z rs).2.1 (got x y z rs).2.2.1 (got x y z rs).2.2.2 ≠ s → RC s none := by
  rcases ln.cut_spec (rd.bytes s) with ⟨a, r, e, ha, hi⟩ | ⟨h, hi⟩
  · refine ⟨a, r, true, ?_, ?_, ?_, fun h => yc.rc_short e ha h, fun x y z hw h => yc.rc_no e ha hw h⟩
    · unfold ln.cutL Lib.cut
      rw [hi, if_pos (by omega), e]
      simp
    · rw [← rd.bytes_len, e]
      simp
    · rw [← rd.bytes_len, e]
      simp
      omega
  · refine ⟨rd.bytes s, [], false, ?_, by rw [rd.bytes_len]; exact Nat.le_refl _, Nat.zero_le _, fun _ => yc.rc_line h, fun _ _ _ _ _ => yc.rc_line h⟩
    unfold ln.cutL Lib.cut
    rw [hi, if_neg (by omega)]
theorem three {α : Type} {D : List α} (h : D.length = 3) : ∃ a b c, D = [a, b, c] := by
  match D, h with
  | [a, b, c], _ => exact ⟨a, b, c, rfl⟩
theorem pieces_le (s : ByteArray) : ∀ d ∈ ln.pieces s, d.size ≤ s.size := by
  intro d hd
  have h1 : rd.bytes d ∈ rd.words (rd.bytes s) := by rw [← ln.pieces_words]; exact List.mem_map_of_mem hd
  have h2 := rd.words_len _ _ h1
  rw [rd.bytes_len, rd.bytes_len] at h2
  exact h2
theorem cell_new (w : World) (cs : Array Value) (t : TypeId) (i : Nat) (x : Value) (h : cs[i]? = some x) : (w.alloc (.cells cs t)).cell? ⟨w.heap.size, i, none⟩ = some x := by
  have e : (w.alloc (.cells cs t)).heap[w.heap.size]? = some (.cells cs t) := by
    show (w.heap.push _)[w.heap.size]? = _
    simp
  simp only [World.cell?, e]
  simpa using h
set_option maxRecDepth 100000 in
set_option maxHeartbeats 4000000 in
theorem implReadCert (s : ByteArray) (w : World) (hE : Most w) (hs : s.size ≤ 1048576) :
    Calls Tryd.prog 18 #[.string s] w fun e w' => ReadE s w e w' := by
  obtain ⟨wd, rs, fd, hc, hl1, hl2, K3, KN⟩ := cut_rc s
  have g0 := World.grownBy_alloc w (.cells #[.string ⟨#[]⟩, .bool false, .string ⟨#[]⟩, .string ⟨#[]⟩] 38) none
  have B0 := hide (Box4.new 38 w (.string ⟨#[]⟩) (.bool false) (.string ⟨#[]⟩) (.string ⟨#[]⟩))
  have CC := hide (cutT s _ (hE.kept g0) hs wd rs fd hc)
  have hwd : (⟨wd.toArray⟩ : ByteArray).size ≤ 1048576 := by show wd.toArray.size ≤ _; rw [List.size_toArray]; omega
  have CP := hide (fun w1 (g : w.grownBy w1 none) => splitT ⟨wd.toArray⟩ w1 (hE.kept g) hwd)
  have hrs : (⟨rs.toArray⟩ : ByteArray).size ≤ 1048576 := by show rs.toArray.size ≤ _; rw [List.size_toArray]; omega
  have hpw := ln.pieces_words ⟨wd.toArray⟩
  have hpl := pieces_le ⟨wd.toArray⟩
  have e0 : rd.bytes ⟨wd.toArray⟩ = wd := rfl
  rw [e0] at hpw
  generalize ln.pieces ⟨wd.toArray⟩ = D at *
  have er : rd.bytes ⟨rs.toArray⟩ = rs := rfl
  generalize (⟨wd.toArray⟩ : ByteArray) = WD at *
  have hgr : ∀ x y z, got x y z rs = (⟨(hexB ⟨x.toArray⟩).toArray⟩, decide (y = [115, 97, 116]), ⟨rs.toArray⟩, ⟨(hexB ⟨z.toArray⟩).toArray⟩) := fun _ _ _ => rfl
  have G0 := hide g0
  clear g0 hE hc
  by_cases h3 : D.length = 3
  · obtain ⟨x, y, z, rfl⟩ := three h3
    have hsx := hpl x (by simp)
    have hsz := hpl z (by simp)
    have KN' := hide (KN _ _ _ hpw.symm)
    have CX := hide (fun w1 => zh.implHexBytes x w1 (by omega))
    have CZ := hide (fun w1 => zh.implHexBytes z w1 (by omega))
    unfold dec.str at CX CZ
    have hy : (y.toList == [115, 97, 116]) = decide (rd.bytes y = [115, 97, 116]) := by rw [Bool.eq_iff_iff, beq_iff_eq, decide_eq_true_iff, rd.toList_bytes]
    have CT := hide (fun w1 => ya.implCertText ⟨(hexB x).toArray⟩ (decide (rd.bytes y = [115, 97, 116])) ⟨rs.toArray⟩ ⟨(hexB z).toArray⟩ w1 (Nat.le_trans (yc.hexB_size x) (by decide)) hrs (Nat.le_trans (yc.hexB_size z) (by decide)))
    have EQ : got (rd.bytes x) (rd.bytes y) (rd.bytes z) rs = (⟨(hexB x).toArray⟩, decide (rd.bytes y = [115, 97, 116]), ⟨rs.toArray⟩, ⟨(hexB z).toArray⟩) := by rw [hgr, yc.mk_bytes, yc.mk_bytes]
    have KY := hide (fun h => yc.rc_yes (s := s) (x := rd.bytes x) (y := rd.bytes y) (z := rd.bytes z) (r := rs) h)
    rw [EQ] at KN' KY
    clear hpl hpw hsx hsz h3 K3 KN EQ hgr hwd hrs hl1 hl2 er e0
    generalize decide (rd.bytes y = [115, 97, 116]) = sat at *
    generalize (⟨rs.toArray⟩ : ByteArray) = b at *
    generalize (⟨(hexB x).toArray⟩ : ByteArray) = d at *
    generalize (⟨(hexB z).toArray⟩ : ByteArray) = m at *
    generalize hexOk x = okx at *
    generalize hexOk z = okz at *
    simp only at KN' KY
    generalize certB d sat b m = T at *
    go_enter Tryd.func18, Tryd.ntmps18
    go_wp2_with fail
    refine (unhide CC).mono ?_; rintro e w1 ⟨rfl, g1⟩
    have G1 := hide (grown_trans (r := none) (unhide G0) g1)
    have B1 := hide ((unhide B0).kept g1)
    clear g1 CC G0 B0
    go_wp2_with fail
    refine (unhide CP w1 (unhide G1)).mono ?_; rintro e w2 ⟨rfl, hw⟩
    have y0 : w2.cell? ⟨w1.heap.size, 0, none⟩ = some (.string x) := by rw [hw]; exact cell_new w1 _ _ _ _ rfl
    have y1 : w2.cell? ⟨w1.heap.size, 1, none⟩ = some (.string y) := by rw [hw]; exact cell_new w1 _ _ _ _ rfl
    have y2 : w2.cell? ⟨w1.heap.size, 2, none⟩ = some (.string z) := by rw [hw]; exact cell_new w1 _ _ _ _ rfl
    have g2 : w1.grownBy w2 none := by rw [hw]; exact World.grownBy_alloc _ _ none
    have G2 := hide (grown_trans (r := none) (unhide G1) g2)
    have B2 := hide ((unhide B1).kept g2)
    have Y1 := hide y1
    have Y2 := hide y2
    clear g2 hw G1 B1 CP y1 y2
    go_wp2_with fail
    refine (unhide CX w2).mono ?_; rintro e w3 ⟨rfl, g3⟩
    have y2 : w3.cell? ⟨w1.heap.size, 2, none⟩ = some (.string z) := g3.cell (unhide Y2) (fun e => by cases e)
    replace Y1 := hide (g3.cell (unhide Y1) (fun e => by cases e))
    have G3 := hide (grown_trans (r := none) (unhide G2) g3)
    have B3 := hide ((unhide B2).kept g3)
    clear g3 G2 B2 y0 Y2 CX
    go_wp2_with fail
    refine (unhide CZ w3).mono ?_; rintro e w4 ⟨rfl, g4⟩
    have y1 : w4.cell? ⟨w1.heap.size, 1, none⟩ = some (.string y) := g4.cell (unhide Y1) (fun e => by cases e)
    have G4 := hide (grown_trans (r := none) (unhide G3) g4)
    have B4 := hide ((unhide B3).kept g4)
    clear g4 G3 B3 y2 Y1 CZ
    have ga := World.grownBy_alloc w4 (.cells #[.string d, .bool sat, .string b, .string m] 38) none
    have GA := hide (grown_trans (r := none) (unhide G4) ga)
    have BA := hide ((unhide B4).kept ga)
    have BC := hide (Box4.new 38 w4 (.string d) (.bool sat) (.string b) (.string m))
    clear ga G4 B4
    go_wp2_with fail
    refine (unhide CT _).mono ?_; rintro e w5 ⟨rfl, g5⟩
    have G5 := hide (grown_trans (r := none) (unhide GA) g5)
    have B5 := hide ((unhide BA).kept g5)
    have D5 := hide ((unhide BC).kept g5)
    have p0 := (unhide B5).c0
    have p1 := (unhide B5).c1
    have p2 := (unhide B5).c2
    have p3 := (unhide B5).c3
    have f0 := (unhide B5).f 0
    have f1 := (unhide B5).f 1
    have f2 := (unhide B5).f 2
    have f3 := (unhide B5).f 3
    have q0 := (unhide D5).c0
    have q1 := (unhide D5).c1
    have q2 := (unhide D5).c2
    have q3 := (unhide D5).c3
    clear g5 GA BA BC CT
    cases ht : (T.toList == s.toList)
    · have R := hide (unhide KN' (fun e => by rw [e] at ht; simp at ht))
      clear KN' KY
      go_wp2_with fail
      (try simp only [Exit.inBlock, Exit.then])
      exact bodyPost_ret (yb.ret_box2 rfl rfl ((unhide B5).setA _ _ _ _)) rfl ⟨none, unhide R, rfl, yb.grown_setA (unhide G5) (Nat.le_refl _)⟩
    · have R := hide (unhide KY (yc.eq_of_bytes (by rw [← rd.toList_bytes, ← rd.toList_bytes]; exact beq_iff_eq.1 ht)))
      clear KN' KY
      go_wp2_with fail
      (try simp only [Exit.inBlock, Exit.then])
      exact bodyPost_ret (yb.ret_box2 rfl rfl ((unhide B5).setA _ _ _ _)) rfl ⟨some (d, sat, b, m), unhide R, rfl, yb.grown_setA (unhide G5) (Nat.le_refl _)⟩
  · have R := hide (K3 (by rw [← hpw, List.length_map]; exact h3))
    have hi : ((D.length : Int) != 3) = true := by rw [bne_iff_ne]; omega
    clear hpl hpw h3 K3 KN hgr hwd hrs hl1 hl2
    go_enter Tryd.func18, Tryd.ntmps18
    go_wp2_with fail
    refine (unhide CC).mono ?_; rintro e w1 ⟨rfl, g1⟩
    have G1 := hide (grown_trans (r := none) (unhide G0) g1)
    have B1 := hide ((unhide B0).kept g1)
    clear g1 CC G0 B0
    go_wp2_with fail
    refine (unhide CP w1 (unhide G1)).mono ?_; rintro e w2 ⟨rfl, hw⟩
    have g2 : w1.grownBy w2 none := by rw [hw]; exact World.grownBy_alloc _ _ none
    have G5 := hide (grown_trans (r := none) (unhide G1) g2)
    have B5 := hide ((unhide B1).kept g2)
    have p0 := (unhide B5).c0
    have p1 := (unhide B5).c1
    have p2 := (unhide B5).c2
    have p3 := (unhide B5).c3
    have f0 := (unhide B5).f 0
    have f1 := (unhide B5).f 1
    have f2 := (unhide B5).f 2
    have f3 := (unhide B5).f 3
    clear g2 hw G1 B1 CP
    go_wp2_with fail
    (try simp only [Exit.inBlock, Exit.then])
    exact bodyPost_ret (yb.ret_box2 rfl rfl ((unhide B5).setA _ _ _ _)) rfl ⟨none, unhide R, rfl, yb.grown_setA (unhide G5) (Nat.le_refl _)⟩
end Go.Proofs.YtjmjgjlldkpemaaDoor.yd
