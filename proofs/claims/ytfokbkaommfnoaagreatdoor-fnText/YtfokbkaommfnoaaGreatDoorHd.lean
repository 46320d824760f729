/- The program's (*textReader).head and clause. -/
import Derived.Test.YtfokbkaommfnoaaGreatDoorHp
namespace Go.Proofs.YtfokbkaommfnoaaGreatDoor.ln
open Go.ChangeShapes Go.WideShapes Go.ChangeAt Go.RowKit
open Go.Proofs.YtfokbkaommfnoaaGreatDoor.sl (hide unhide grown_refl grown_trans of_below below_of)
open Go.Proofs.YtfokbkaommfnoaaGreatDoor.rd (Env)
open Go.Proofs.YtfokbkaommfnoaaGreatDoor.tt (fail)
open Go.Proofs.YtfokbkaommfnoaaGreatDoor.wo (Made)
set_option linter.unusedVariables false
/-- a refusal's ending -/
def refused (c : Int) (i : Nat) : Ending := .panicked [{ v := fail c (i : Int), recovered := false }]
/-- what head answers -/
def HeadPost (w : World) (r : Nat) (t : ByteArray) (i : Nat) (e : Ending) (w' : World) : Prop :=
  ∃ i', w.grownBy w' (some r) ∧ ((∃ l t' n c, skip (linesOf (rd.bytes t)) i = (some l, linesOf (rd.bytes t'), i') ∧ headOf l = some (n, c) ∧ e = .returned (.tuple #[.int .i64 n, .int .i64 c]) ∧ Rdr w' r t' i' ∧ Ends (rd.bytes t') ∧ i' + t'.size ≤ i + t.size ∧ t'.size < t.size)
    ∨ (((∃ r', skip (linesOf (rd.bytes t)) i = (none, r', i')) ∨ ∃ l r', skip (linesOf (rd.bytes t)) i = (some l, r', i') ∧ headOf l = none) ∧ e = refused 2 i'))
set_option maxHeartbeats 1600000 in
theorem head (w0 : World) (r : Nat) (t : ByteArray) (i : Nat) (w : World) (hE : Env w0) (hb : Below w0.heap.size w0 w) (hr : w0.heap.size ≤ r) (hR : Rdr w r t i) (hends : Ends (rd.bytes t)) (hsz : t.size ≤ 1048576) (hi : i + t.size ≤ 1048576) :
    Calls Tryz.prog 76 #[.pointer (some ⟨r, 0, none⟩)] w fun e w' => HeadPost w r t i e w' := by
  have C := hide (next w0 r t i w hE hb hr hR hends hsz hi)
  have CH := hide (fun ln w1 (h : Env w1) hs => readHead ln w1 h hs)
  have HE := hide hE
  have HB := hide hb
  clear hE hb hR hends
  go_enter Tryz.func76, Tryz.ntmps76
  go_wp2_with fail
  refine (unhide C).mono ?_; rintro e w1 ⟨ln, fd, rfl, N⟩
  have HB1 : Hid (Below w0.heap.size w0 w1) := hide (below_by (unhide HB) (Nat.le_refl _) N.grown hr)
  have NN := hide N
  have hln : ln.size ≤ 1048576 := by
    cases fd
    · obtain ⟨_, _, _, _, _, rfl, _⟩ := N.none rfl
      exact Nat.zero_le _
    · obtain ⟨_, _, _, _, _, _, _, h⟩ := N.yes rfl
      omega
  clear N C
  have C2 := hide (unhide CH ln w1 ((unhide HE).below (unhide HB1)) hln)
  clear CH hln
  go_wp2_with fail
  refine (unhide C2).mono ?_; rintro e w2 ⟨n, c, ok, rfl, H, g2⟩
  have HH := hide H
  have G2 := hide (sl.grown_trans' (unhide NN).grown (more_by g2 _))
  have g2' := hide g2
  clear H g2 C2
  cases fd
  · obtain ⟨t', i', hR', hk, hi', rfl, ht'⟩ := (unhide NN).none rfl
    have C3 := hide (tt.refuse r 2 (i' : Int) w2 (hR'.kept (unhide g2')).c1)
    have K := hide hk
    clear hk hR' ht'
    go_wp2_with fail
    refine (unhide C3).mono ?_; rintro e w3 ⟨rfl, hw⟩
    subst hw
    exact ⟨rfl, i', unhide G2, .inr ⟨.inl ⟨_, unhide K⟩, rfl⟩⟩
  · obtain ⟨t', i', hR', hk, he', hi', ht', hl'⟩ := (unhide NN).yes rfl
    have hR2 := hR'.kept (unhide g2')
    cases ok
    · have C3 := hide (tt.refuse r 2 (i' : Int) w2 hR2.c1)
      have K := hide hk
      have K2 := hide ((unhide HH).2 rfl)
      clear hk hR' ht' he' hi' hR2 hl'
      go_wp2_with fail
      refine (unhide C3).mono ?_; rintro e w3 ⟨rfl, hw⟩
      subst hw
      exact ⟨rfl, i', unhide G2, .inr ⟨.inr ⟨_, _, unhide K, unhide K2⟩, rfl⟩⟩
    · have K := hide hk
      have K2 := hide ((unhide HH).1 rfl)
      have R2 := hide hR2
      have E2 := hide he'
      clear hk hR' he' hR2 hl'
      go_wp2_with fail
      go_ret2
      exact ⟨i', unhide G2, .inl ⟨_, t', n, c, unhide K, unhide K2, rfl, unhide R2, unhide E2, hi', ht'⟩⟩
/-- what clause answers -/
def ClausePost (w : World) (l : List UInt8) (n : Int) (full : Bool) (i : Nat) (e : Ending) (w' : World) : Prop :=
  (fine n l = false ∧ e = refused 3 i ∧ w.grownBy w' none) ∨ (fine n l = true ∧ full = true ∧ e = refused 4 i ∧ w.grownBy w' none) ∨ (fine n l = true ∧ full = false ∧ ∃ u, e = .returned u ∧ Made w w' u (rd.readL l))
set_option maxHeartbeats 1600000 in
theorem clause (r : Nat) (t s : ByteArray) (n : Int) (full : Bool) (i : Nat) (w : World) (hE : Env w) (hR : Rdr w r t i) (hs : s.size ≤ 1048576) :
    Calls Tryz.prog 78 #[.pointer (some ⟨r, 0, none⟩), .string s, .int .i64 n, .bool full] w fun e w' => ClausePost w (rd.bytes s) n full i e w' := by
  have C := hide (rd.implReadClause s w hE hs)
  have HR := hide hR
  clear hE hR
  go_enter Tryz.func78, Tryz.ntmps78
  go_wp2_with fail
  refine (unhide C).mono ?_; rintro e w1 ⟨u, rfl, M⟩
  have MM := hide M
  have hl := rd.read_len (rd.bytes s)
  have C2 := hide (ok.literalsOf u (rd.readL (rd.bytes s)) n w1 (by omega) (sl.Sl.of_own M.1))
  have R1 := hide ((unhide HR).kept M.2)
  have C3 := hide (tt.refuse r 3 (i : Int) w1 (unhide R1).c1)
  have C4 := hide (tt.refuse r 4 (i : Int) w1 (unhide R1).c1)
  obtain ⟨F, hF⟩ : ∃ F, fine n (rd.bytes s) = F := ⟨_, rfl⟩
  have FF := hide hF
  unfold fine at hF
  generalize rd.readB (rd.bytes s) = B at *
  clear M hl
  cases B
  · have hF' : F = false := hF.symm
    subst hF'
    clear hF C2
    go_wp2_with fail
    refine (unhide C3).mono ?_; rintro e w2 ⟨rfl, hw⟩
    subst hw
    exact ⟨rfl, .inl ⟨unhide FF, rfl, (unhide MM).2⟩⟩
  · rw [Bool.true_and] at hF
    rw [hF] at C2
    clear hF
    go_wp2_with fail
    refine (unhide C2).mono ?_; rintro e w2 ⟨rfl, hw⟩
    have hw' := hw.symm; clear hw; subst hw'
    cases F
    · go_wp2_with fail
      refine (unhide C3).mono ?_; rintro e w2 ⟨rfl, hw⟩
      subst hw
      exact ⟨rfl, .inl ⟨unhide FF, rfl, (unhide MM).2⟩⟩
    · cases full
      · go_wp2_with fail
        go_ret
        exact .inr (.inr ⟨unhide FF, rfl, u, rfl, unhide MM⟩)
      · go_wp2_with fail
        refine (unhide C4).mono ?_; rintro e w2 ⟨rfl, hw⟩
        subst hw
        exact ⟨rfl, .inr (.inl ⟨unhide FF, rfl, rfl, (unhide MM).2⟩)⟩
end Go.Proofs.YtfokbkaommfnoaaGreatDoor.ln
