/- The program's readHead at every text of at most 2^20 bytes. -/
import Derived.Test.YtfokbkaommfnoaaGreatDoorHm
import Derived.Test.YtfokbkaommfnoaaGreatDoorLp
import Derived.Test.YtfokbkaommfnoaaGreatDoorReadS
import Derived.Lib.SplitLaws
namespace Go.Proofs.YtfokbkaommfnoaaGreatDoor.ln
open Go.ChangeShapes Go.WideShapes Go.ChangeAt Go.RowKit
open Go.Proofs.YtfokbkaommfnoaaGreatDoor.sl (hide unhide grown_refl grown_trans of_below below_of)
open Go.Proofs.YtfokbkaommfnoaaGreatDoor.rd (Env strLen)
open Go.Proofs.YtfokbkaommfnoaaGreatDoor.cx (hd)
open Go.Proofs.YtfokbkaommfnoaaGreatDoor.dec (str)
set_option linter.unusedVariables false
theorem splitC (s : ByteArray) (w : World) (hE : Env w) (hs : s.size ≤ 1048576) :
    Calls Tryz.prog 93 #[.string s, .string ⟨#[32]⟩] w fun e w' => e = .returned (.slice (some ⟨w.heap.size, 0, none⟩) (pieces s).length (pieces s).length) ∧ w' = w.alloc (.cells ((pieces s).map Value.string).toArray 9) := by
  obtain ⟨m, hm⟩ := hE.most
  have hl : (pieces s).length = Lib.countB s ⟨#[32]⟩ + 1 := Lib.splitB_all ⟨#[32]⟩ (by decide) 0 _ s rfl
  rw [hl]
  exact Any.strings_Split { Tryz.laysM146 with } Tryz.laysM146.i9 s ⟨#[32]⟩ m w (by omega) hm (by decide)
/-- what readHead answers -/
def HeadR (l : List UInt8) (n c : Int) (ok : Bool) : Prop := (ok = true → headOf l = some (n, c)) ∧ (ok = false → headOf l = none)
theorem headR_no {l : List UInt8} (h : headOf l = none) : HeadR l 0 0 false := ⟨(fun e => by cases e), fun _ => h⟩
theorem pieces_le (s : ByteArray) : ∀ d ∈ pieces s, d.size ≤ s.size := by
  intro d hd
  have h1 : rd.bytes d ∈ rd.words (rd.bytes s) := by rw [← pieces_words]; exact List.mem_map_of_mem hd
  have h2 := rd.words_len _ _ h1
  rw [rd.bytes_len, rd.bytes_len] at h2
  exact h2
theorem cell_new (w : World) (cs : Array Value) (t : TypeId) (i : Nat) (x : Value) (h : cs[i]? = some x) : (w.alloc (.cells cs t)).cell? ⟨w.heap.size, i, none⟩ = some x := by
  have e : (w.alloc (.cells cs t)).heap[w.heap.size]? = some (.cells cs t) := by
    show (w.heap.push _)[w.heap.size]? = _
    simp
  simp only [World.cell?, e]
  simpa using h
/-- what Atoi tells of a text -/
def Told (s : ByteArray) (n : Int) (er : Value) : Prop := (er = .nilIface ∧ Lib.atoiAll (rd.bytes s) = .ok n) ∨ ((∃ N, er = .iface 157 (.pointer (some ⟨N, 0, none⟩))) ∧ ∀ v, Lib.atoiAll (rd.bytes s) ≠ .ok v)
theorem atoiC (s : ByteArray) (w : World) (hE : Env w) (hs : s.size ≤ 1048576) :
    Calls Tryz.prog 94 #[.string s] w fun e w' => ∃ n er, e = .returned (.tuple #[.int .i64 n, er]) ∧ Told s n er ∧ w.grownBy w' none := by
  by_cases h : ∃ v, Lib.atoiAll (rd.bytes s) = .ok v
  · obtain ⟨v, hv⟩ := h
    exact (rd.atoiOk s v w hs hv).mono fun e w' ⟨he, g⟩ => ⟨v, _, he, .inl ⟨rfl, hv⟩, g⟩
  · have hno : ∀ v, Lib.atoiAll (rd.bytes s) ≠ .ok v := fun v hv => h ⟨v, hv⟩
    exact (rd.atoiBad s w hE hs hno).mono fun e w' ⟨n, N, he, g⟩ => ⟨n, _, he, .inr ⟨⟨N, rfl⟩, hno⟩, g⟩
theorem no2 {s d0 d1 d2 d3 : ByteArray} (hq : pieces s = [d0, d1, d2, d3]) (h : ∀ v, Lib.atoiAll (rd.bytes d2) ≠ .ok v) : headOf (rd.bytes s) = none := by
  cases hh : headOf (rd.bytes s) with
  | none => rfl
  | some p =>
    obtain ⟨a0, a1, a2, a3, e, h2, h3⟩ := head_pieces (n := p.1) (c := p.2) hh
    rw [hq] at e
    simp only [List.cons.injEq, and_true] at e
    rw [← e.2.2.1] at h2
    exact absurd h2 (h _)
theorem no3 {s d0 d1 d2 d3 : ByteArray} (hq : pieces s = [d0, d1, d2, d3]) (h : ∀ v, Lib.atoiAll (rd.bytes d3) ≠ .ok v) : headOf (rd.bytes s) = none := by
  cases hh : headOf (rd.bytes s) with
  | none => rfl
  | some p =>
    obtain ⟨a0, a1, a2, a3, e, h2, h3⟩ := head_pieces (n := p.1) (c := p.2) hh
    rw [hq] at e
    simp only [List.cons.injEq, and_true] at e
    rw [← e.2.2.2] at h3
    exact absurd h3 (h _)
theorem both {s d0 d1 d2 d3 : ByteArray} {n c : Int} (hq : pieces s = [d0, d1, d2, d3]) (h2 : Lib.atoiAll (rd.bytes d2) = .ok n) (h3 : Lib.atoiAll (rd.bytes d3) = .ok c) (hn : ¬ (hd n c = rd.bytes s ∧ (0 ≤ n ∧ n ≤ 24) ∧ (0 ≤ c ∧ c ≤ 120))) : headOf (rd.bytes s) = none := by
  cases hh : headOf (rd.bytes s) with
  | none => rfl
  | some p =>
    obtain ⟨a0, a1, a2, a3, e, k2, k3⟩ := head_pieces (n := p.1) (c := p.2) hh
    rw [hq] at e
    simp only [List.cons.injEq, and_true] at e
    rw [← e.2.2.1, h2] at k2
    rw [← e.2.2.2, h3] at k3
    have e2 := Lib.NumEnd.ok.inj k2
    have e3 := Lib.NumEnd.ok.inj k3
    obtain ⟨i1, i2, i3⟩ := (head_iff _ p.1 p.2).1 hh
    rw [← e2, ← e3] at i1
    rw [← e2] at i2
    rw [← e3] at i3
    exact absurd ⟨i1.symm, i2, i3⟩ hn
set_option maxHeartbeats 1600000 in
theorem readHead (s : ByteArray) (w : World) (hE : Env w) (hs : s.size ≤ 1048576) :
    Calls Tryz.prog 84 #[.string s] w fun e w' => ∃ n c ok, e = .returned (.tuple #[.int .i64 n, .int .i64 c, .bool ok]) ∧ HeadR (rd.bytes s) n c ok ∧ w.grownBy w' none := by
  have CS := hide (splitC s w hE hs)
  have HE := hide hE
  have g0 := World.grownBy_alloc w (.cells ((pieces s).map Value.string).toArray 9) none
  have HE1 := hide (hE.kept g0)
  have G0 := hide g0
  clear hE g0
  by_cases h4 : (pieces s).length = 4
  · obtain ⟨d0, d1, d2, d3, hq⟩ := four h4
    have hle := pieces_le s
    have s2 := hle d2 (by rw [hq]; simp)
    have s3 := hle d3 (by rw [hq]; simp)
    clear hle h4
    rw [hq] at CS HE1 G0
    have HQ := hide hq
    clear hq
    have A2 := hide (fun w1 h => atoiC d2 w1 h (by omega))
    have A3 := hide (fun w1 h => atoiC d3 w1 h (by omega))
    clear s2 s3
    go_enter Tryz.func84, Tryz.ntmps84
    go_wp2_with fail
    refine (unhide CS).mono ?_; rintro e w1 ⟨rfl, hw⟩
    have y2 : w1.cell? ⟨w.heap.size, 2, none⟩ = some (.string d2) := by rw [hw]; exact cell_new w _ _ _ _ rfl
    have y3 : w1.cell? ⟨w.heap.size, 3, none⟩ = some (.string d3) := by rw [hw]; exact cell_new w _ _ _ _ rfl
    have hlt : w.heap.size < w1.heap.size := by rw [hw, World.size_alloc]; omega
    rw [← hw] at HE1 G0
    clear hw CS
    go_wp2_with fail
    refine (unhide A2 w1 (unhide HE1)).mono ?_; rintro e w2 ⟨n, er, rfl, T2, g2⟩
    have z3 : w2.cell? ⟨w.heap.size, 3, none⟩ = some (.string d3) := (World.cell?_of_block (g2.block _ hlt (fun e => by cases e))).trans y3
    have HE2 := hide ((unhide HE1).kept g2)
    have G2 := hide (grown_trans (r := none) (unhide G0) g2)
    have T2' := hide T2
    clear g2 y2 y3 T2 hlt A2
    go_wp2_with fail
    refine (unhide A3 w2 (unhide HE2)).mono ?_; rintro e w3 ⟨c, es, rfl, T3, g3⟩
    have HE3 := hide ((unhide HE2).kept g3)
    have G3 := hide (grown_trans (r := none) (unhide G2) g3)
    clear g3 z3 A3
    have T2 := unhide T2'
    clear T2'
    rcases T2 with ⟨rfl, k2⟩ | ⟨⟨N, rfl⟩, k2⟩
    · rcases T3 with ⟨rfl, k3⟩ | ⟨⟨M, rfl⟩, k3⟩
      · have bn := Lib.atoiAll_bounds k2
        have bc := Lib.atoiAll_bounds k3
        have CH := hide (cx.headText n c w3 (unhide HE3).pow bn bc)
        obtain ⟨n0, n1⟩ := bn
        obtain ⟨c0, c1⟩ := bc
        by_cases hh : hd n c = rd.bytes s
        · have hq : (hd n c == s.toList) = true := by rw [rd.toList_bytes, hh]; exact beq_self_eq_true _
          by_cases hr : (0 ≤ n ∧ n ≤ 24) ∧ (0 ≤ c ∧ c ≤ 120)
          · have K := hide ((head_iff _ n c).2 ⟨hh.symm, hr.1, hr.2⟩)
            obtain ⟨⟨r0, r1⟩, r2, r3⟩ := hr
            clear k2 k3 hh
            generalize hd n c = q at *
            go_wp2_with fail
            refine (unhide CH).mono ?_; rintro e w4 ⟨rfl, g4⟩
            have G4 := hide (grown_trans (r := none) (unhide G3) g4)
            clear g4
            unfold str
            go_wp2_with fail
            go_ret3
            exact ⟨n, c, true, rfl, ⟨fun _ => unhide K, (fun e => by cases e)⟩, unhide G4⟩
          · have K := hide (both (unhide HQ) k2 k3 (fun h => hr h.2))
            have hr' := hide hr
            clear hr
            clear k2 k3 hh
            generalize hd n c = q at *
            go_wp2_with fail
            refine (unhide CH).mono ?_; rintro e w4 ⟨rfl, g4⟩
            have G4 := hide (grown_trans (r := none) (unhide G3) g4)
            clear g4
            unfold str
            have hr := unhide hr'
            clear hr'
            by_cases r0 : 0 ≤ n
            · by_cases r1 : n ≤ 24
              · by_cases r2 : 0 ≤ c
                · have r3 : ¬ c ≤ 120 := fun r3 => hr ⟨⟨r0, r1⟩, r2, r3⟩
                  clear hr
                  go_wp2_with fail
                  go_ret3
                  exact ⟨n, c, decide (c ≤ 120), rfl, by rw [decide_eq_false (show ¬ c ≤ 120 by omega)]; exact ⟨(fun e => by cases e), fun _ => unhide K⟩, unhide G4⟩
                · clear hr
                  go_wp2_with fail
                  go_ret3
                  exact ⟨n, c, .inl ⟨rfl, ⟨(fun e => by cases e), fun _ => unhide K⟩, unhide G4⟩⟩
              · clear hr
                go_wp2_with fail
                go_ret3
                exact ⟨n, c, .inl ⟨rfl, ⟨(fun e => by cases e), fun _ => unhide K⟩, unhide G4⟩⟩
            · clear hr
              go_wp2_with fail
              go_ret3
              exact ⟨n, c, .inl ⟨rfl, ⟨(fun e => by cases e), fun _ => unhide K⟩, unhide G4⟩⟩
        · have hq : (hd n c == s.toList) = false := by rw [rd.toList_bytes]; exact beq_eq_false_iff_ne.2 hh
          have K := hide (both (unhide HQ) k2 k3 (fun h => hh h.1))
          clear k2 k3 hh
          generalize hd n c = q at *
          go_wp2_with fail
          refine (unhide CH).mono ?_; rintro e w4 ⟨rfl, g4⟩
          have G4 := hide (grown_trans (r := none) (unhide G3) g4)
          clear g4
          unfold str
          go_wp2_with fail
          go_ret3
          exact ⟨0, 0, false, rfl, headR_no (unhide K), unhide G4⟩
      · have K := hide (no3 (unhide HQ) k3)
        clear k3 k2
        go_wp2_with fail
        go_ret3
        exact ⟨0, 0, false, rfl, headR_no (unhide K), unhide G3⟩
    · have K := hide (no2 (unhide HQ) k2)
      clear k2 T3
      go_wp2_with fail
      go_ret3
      exact ⟨0, 0, false, rfl, headR_no (unhide K), unhide G3⟩
  · have hno : headOf (rd.bytes s) = none := by
      cases hh : headOf (rd.bytes s) with
      | none => rfl
      | some p =>
        obtain ⟨_, _, _, _, e, _⟩ := head_pieces (n := p.1) (c := p.2) hh
        exact absurd (by rw [e]; rfl) h4
    have HN := hide hno
    have l4 : (((pieces s).length : Int) == 4) = false := by rw [beq_eq_false_iff_ne]; omega
    clear hno h4
    go_enter Tryz.func84, Tryz.ntmps84
    go_wp2_with fail
    refine (unhide CS).mono ?_; rintro e w1 ⟨rfl, hw⟩
    subst hw
    go_wp2
    go_ret3
    exact ⟨0, 0, false, rfl, headR_no (unhide HN), unhide G0⟩
end Go.Proofs.YtfokbkaommfnoaaGreatDoor.ln
