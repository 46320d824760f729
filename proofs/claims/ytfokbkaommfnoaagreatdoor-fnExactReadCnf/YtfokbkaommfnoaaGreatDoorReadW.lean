/- What ReadClause of the program answers at every text of at most 2^20 bytes, where the library's table of powers and its two errors lie as their text lays them. -/
import Derived.Test.YtfokbkaommfnoaaGreatDoorWordsW
import Derived.Test.YtfokbkaommfnoaaGreatDoorTxtW
import Derived.Test.YtfokbkaommfnoaaGreatDoorShr
import Derived.Test.YtfokbkaommfnoaaGreatDoorMn
import Derived.Lib.ConvBytes
import Derived.Lib.SmallJoins
namespace Go.Proofs.YtfokbkaommfnoaaGreatDoor.rd
open Go.ChangeShapes Go.WideShapes Go.ChangeAt Go.RowKit
open Go.Proofs.YtfokbkaommfnoaaGreatDoor.lits (okB okB_iff okB_yes)
open Go.Proofs.YtfokbkaommfnoaaGreatDoor.dec (str)
open Go.Proofs.YtfokbkaommfnoaaGreatDoor.txt (Pow)
open Go.Proofs.YtfokbkaommfnoaaGreatDoor.wo (Made)
open Go.Proofs.YtfokbkaommfnoaaGreatDoor.mn (made_nil made_trans)
open Go.Proofs.YtfokbkaommfnoaaGreatDoor.sl (hide unhide grown_refl grown_trans of_below below_of ints)
set_option linter.unusedVariables false

/-- what is taken of the library's variables -/
structure Env (w : World) : Prop where
  pow : Pow w
  size : 6 < w.heap.size ∧ 5 < w.heap.size ∧ 2 < w.heap.size
  synt : ∃ tp p, w.var? Tryz.prog "strconv.ErrSyntax" = some #[.iface tp p]
  rang : ∃ tp p, w.var? Tryz.prog "strconv.ErrRange" = some #[.iface tp p]
  most : ∃ m, w.cell? ⟨2, 0, none⟩ = some (.int .i64 m)
theorem gSynt : Tryz.prog.globalNamed "strconv.ErrSyntax" = some 5 := by kernel_rfl
theorem gRang : Tryz.prog.globalNamed "strconv.ErrRange" = some 6 := by kernel_rfl
theorem Env.below {w w' : World} (h : Env w) (b : Below w.heap.size w w') : Env w' := by
  have hz := h.size
  have hbz := b.size
  refine ⟨h.pow.below b, ⟨by omega, by omega, by omega⟩, ?_, ?_, ?_⟩
  · obtain ⟨tp, p, hv⟩ := h.synt
    exact ⟨tp, p, var?_below b gSynt (by omega) hv⟩
  · obtain ⟨tp, p, hv⟩ := h.rang
    exact ⟨tp, p, var?_below b gRang (by omega) hv⟩
  · obtain ⟨m, hm⟩ := h.most
    exact ⟨m, (b.cell (p := ⟨2, 0, none⟩) (by show 2 < w.heap.size; omega)).trans hm⟩
theorem Env.kept {w w' : World} (h : Env w) (g : w.grownBy w' none) : Env w' := h.below (below_of g)

theorem grown_bytes (w : World) (e : TypeId) (t : ByteArray) : w.grownBy (Lib.bytesWorld w e t) none := of_below (Joins.below_bytesWorld w.heap.size w e t (Nat.le_refl _))

theorem atoiOk (s : ByteArray) (v : Int) (w : World) (hs : s.size ≤ 1048576) (h : Lib.atoiAll (bytes s) = .ok v) :
    Calls Tryz.prog 94 #[.string s] w fun e w' => e = .returned (.tuple #[.int .i64 v, .nilIface]) ∧ w.grownBy w' none := by
  refine (Tryz.strconv_Atoi_ok s (by omega) v h w).mono ?_
  rintro e w' ⟨rfl, hw⟩
  refine ⟨rfl, ?_⟩
  rcases hw with rfl | ⟨t, rfl⟩
  · exact grown_refl _
  · exact grown_bytes w _ t
theorem atoiBad (s : ByteArray) (w : World) (hE : Env w) (hs : s.size ≤ 1048576) (h : ∀ v, Lib.atoiAll (bytes s) ≠ .ok v) :
    Calls Tryz.prog 94 #[.string s] w fun e w' => ∃ (n : Int) (N : Nat), e = .returned (.tuple #[.int .i64 n, .iface 157 (.pointer (some ⟨N, 0, none⟩))]) ∧ w.grownBy w' none := by
  obtain ⟨tp, p, hv⟩ := hE.synt
  obtain ⟨tq, q, hq⟩ := hE.rang
  cases hx : Lib.atoiAll s.data.toList
  · exact absurd hx (h _)
  · exact Calls.mono (Any.strconv_Atoi_syntax_var Tryz.laysC172 s (by omega) hx tp p w hv) (fun e w' ⟨N, he, _, _, hb⟩ => ⟨_, N, he, of_below hb⟩)
  · exact Calls.mono (Any.strconv_Atoi_range_var Tryz.laysC172 s (by omega) hx tq q w hq) (fun e w' ⟨N, he, _, _, hb⟩ => ⟨_, N, he, of_below hb⟩)

theorem lit_bad {s : List UInt8} (h : ∀ v, Lib.atoiAll s ≠ .ok v) : lit s = none := by
  unfold lit
  split
  · exact absurd ‹_› (h _)
  · rfl
theorem lit_ok {s : List UInt8} {v : Int} (h : Lib.atoiAll s = .ok v) : lit s = if okB v && decide (Lib.itoa v = s) then some v else none := by
  unfold lit
  rw [h]

set_option maxHeartbeats 800000 in
theorem readLit (s : ByteArray) (w : World) (hE : Env w) (hs : s.size ≤ 1048576) :
    Calls Tryz.prog 97 #[.string s] w fun e w' => e = .returned (.tuple #[.int .i8 ((lit (bytes s)).getD 0), .bool (lit (bytes s)).isSome]) ∧ w.grownBy w' none := by
  by_cases hok : ∃ v, Lib.atoiAll (bytes s) = .ok v
  · obtain ⟨v, hv⟩ := hok
    have C1 := hide (atoiOk s v w hs hv)
    have hl := lit_ok hv
    clear hv
    cases hlit : okB v
    · rw [hlit] at hl
      have E : Hid (lit (bytes s) = none) := hl
      have C2 := hide (fun w => lits.litOf_no v w (fun h => by rw [okB_yes h] at hlit; cases hlit))
      clear hl hlit hE
      go_enter Tryz.func97, Tryz.ntmps97
      go_wp2_with fail
      refine (unhide C1).mono ?_; rintro e w1 ⟨rfl, g1⟩
      have G1 := hide g1
      clear g1
      go_wp2_with fail
      refine (unhide C2 w1).mono ?_; rintro e w2 ⟨rfl, hw⟩; have hw' := hw.symm; clear hw; subst hw'
      go_wp2_with fail
      go_ret2
      exact ⟨by rw [unhide E]; rfl, unhide G1⟩
    · rw [hlit] at hl
      have a := okB_iff.1 hlit
      have C2 := hide (fun w => lits.litOf_yes v w a)
      have C3 := hide (fun w h => txt.litText v w a.2 h)
      obtain ⟨_, v0, v1⟩ := a
      by_cases hi : Lib.itoa v = bytes s
      · have E : Hid (lit (bytes s) = some v) := by rw [decide_eq_true hi] at hl; exact hl
        have hq : (Lib.itoa v == s.toList) = true := by rw [toList_bytes, hi]; simp
        have HE := hide hE
        clear hl hlit hE hi
        generalize Lib.itoa v = q at *
        go_enter Tryz.func97, Tryz.ntmps97
        go_wp2_with fail
        refine (unhide C1).mono ?_; rintro e w1 ⟨rfl, g1⟩
        have G1 := hide g1
        clear g1
        go_wp2_with fail
        refine (unhide C2 w1).mono ?_; rintro e w2 ⟨rfl, hw⟩; have hw' := hw.symm; clear hw; subst hw'
        go_wp2_with fail
        refine (unhide C3 w1 ((unhide HE).kept (unhide G1)).pow).mono ?_; rintro e w3 ⟨rfl, g3⟩
        have G3 := hide (grown_trans (r := none) (unhide G1) g3)
        clear g3
        unfold str
        go_wp2_with fail
        go_ret2
        exact ⟨by rw [unhide E]; rfl, unhide G3⟩
      · have E : Hid (lit (bytes s) = none) := by rw [decide_eq_false hi] at hl; exact hl
        have hq : (Lib.itoa v == s.toList) = false := by rw [toList_bytes]; simpa using hi
        have HE := hide hE
        clear hl hlit hE hi
        generalize Lib.itoa v = q at *
        go_enter Tryz.func97, Tryz.ntmps97
        go_wp2_with fail
        refine (unhide C1).mono ?_; rintro e w1 ⟨rfl, g1⟩
        have G1 := hide g1
        clear g1
        go_wp2_with fail
        refine (unhide C2 w1).mono ?_; rintro e w2 ⟨rfl, hw⟩; have hw' := hw.symm; clear hw; subst hw'
        go_wp2_with fail
        refine (unhide C3 w1 ((unhide HE).kept (unhide G1)).pow).mono ?_; rintro e w3 ⟨rfl, g3⟩
        have G3 := hide (grown_trans (r := none) (unhide G1) g3)
        clear g3
        unfold str
        go_wp2_with fail
        go_ret2
        exact ⟨by rw [unhide E]; rfl, unhide G3⟩
  · have hno : ∀ v, Lib.atoiAll (bytes s) ≠ .ok v := fun v h => hok ⟨v, h⟩
    have C1 := hide (atoiBad s w hE hs hno)
    have E := hide (lit_bad hno)
    clear hno hok hE
    go_enter Tryz.func97, Tryz.ntmps97
    go_wp2_with fail
    refine (unhide C1).mono ?_; rintro e w1 ⟨n, N, rfl, g1⟩
    have G1 := hide g1
    clear g1
    go_wp2_with fail
    go_ret2
    exact ⟨by rw [unhide E]; rfl, unhide G1⟩

/-- the length of a text in a slot -/
def strLen : Value → Nat
  | .string t => t.size
  | _ => 0
theorem clause_end {n : Nat} {s : List UInt8} (h : s = [48]) : clause n s = some [] := by
  cases n <;> (unfold clause; rw [if_pos h])
theorem clause_zero {s : List UInt8} (h : ¬ s = [48]) : clause 0 s = none := by unfold clause; rw [if_neg h]
theorem clause_uncut {n : Nat} {s : List UInt8} (h : ¬ s = [48]) (hc : (cutW s).2.2 = false) : clause n s = none := by
  cases n with
  | zero => exact clause_zero h
  | succ n => unfold clause; rw [if_neg h, hc]; rfl
theorem clause_nolit {n : Nat} {s : List UInt8} (h : ¬ s = [48]) (hl : lit (cutW s).1 = none) : clause n s = none := by
  cases n with
  | zero => exact clause_zero h
  | succ n => unfold clause; rw [if_neg h, hl]; simp
theorem clause_more {n : Nat} {s : List UInt8} {x : Int} (h : ¬ s = [48]) (hc : (cutW s).2.2 = true) (hl : lit (cutW s).1 = some x) : clause (n + 1) s = (clause n (cutW s).2.1).map (x :: ·) := by
  conv => lhs; unfold clause
  rw [if_neg h, hc, hl]
  rfl
/-- what is left to read, behind M -/
def LeftC (s t : List UInt8) (M : List Int) : Prop := read s = (clause (48 - M.length) t).map (M ++ ·)
theorem leftC_start (s : List UInt8) : LeftC s s [] := by
  unfold LeftC read
  cases clause 48 s <;> rfl
theorem leftC_end {s t : List UInt8} {M : List Int} (h : LeftC s t M) (ht : t = [48]) : readL s = M ∧ readB s = true := by
  unfold LeftC at h
  rw [clause_end ht] at h
  unfold readL readB
  rw [h]
  simp
theorem leftC_none {s t : List UInt8} {M : List Int} (h : LeftC s t M) (hn : clause (48 - M.length) t = none) : readL s = [] ∧ readB s = false := by
  unfold LeftC at h
  rw [hn] at h
  unfold readL readB
  rw [h]
  exact ⟨rfl, rfl⟩
theorem leftC_more {s t : List UInt8} {M : List Int} {x : Int} (h : LeftC s t M) (hM : M.length < 48) (h0 : ¬ t = [48]) (hc : (cutW t).2.2 = true) (hl : lit (cutW t).1 = some x) : LeftC s (cutW t).2.1 (M ++ [x]) := by
  unfold LeftC at *
  rw [h, show 48 - M.length = (48 - (M ++ [x]).length) + 1 from by simp; omega, clause_more h0 hc hl, Option.map_map]
  congr 1
  funext l
  simp
theorem cut_len (s : List UInt8) : (cutW s).1.length ≤ s.length := by
  rcases cut_spec s with ⟨b, t, e, hb, hi⟩ | ⟨_, hi⟩
  · rw [e, cut_word t hb]
    simp
  · unfold cutW Lib.cut
    rw [hi]
    simp
theorem is48 (t : ByteArray) : (t.toList == [48]) = decide (bytes t = [48]) := by
  rw [Bool.eq_iff_iff, beq_iff_eq, decide_eq_true_iff, toList_bytes]
theorem bytes_mk (l : List UInt8) : bytes ⟨l.toArray⟩ = l := rfl
theorem size_mk (l : List UInt8) : (⟨l.toArray⟩ : ByteArray).size = l.length := by rw [← bytes_len, bytes_mk]
theorem cutC (t : ByteArray) (w : World) (hE : Env w) (ht : t.size ≤ 1048576) (wd rs : List UInt8) (fd : Bool) (hc : cutW (bytes t) = (wd, rs, fd)) :
    Calls Tryz.prog 85 #[.string t, .string ⟨#[32]⟩] w fun e w' => e = .returned (.tuple #[.string ⟨wd.toArray⟩, .string ⟨rs.toArray⟩, .bool fd]) ∧ w.grownBy w' none := by
  obtain ⟨m, hm⟩ := hE.most
  refine (Tryz.strings_Cut t ⟨#[32]⟩ m w (by omega) hm).mono ?_
  rintro e w' ⟨rfl, n, rfl⟩
  have e1 : Lib.cut t.data.toList (⟨#[32]⟩ : ByteArray).data.toList = (wd, rs, fd) := hc
  rw [e1]
  exact ⟨rfl, sl.grown_drewN w n⟩

set_option maxHeartbeats 1600000 in
theorem implReadClause (s : ByteArray) (w : World) (hE : Env w) (hs : s.size ≤ 1048576) :
    Calls Tryz.prog 87 #[.string s] w fun e w' => ∃ u, e = .returned (.tuple #[u, .bool (readB (bytes s))]) ∧ Made w w' u (readL (bytes s)) := by
  have HE := hide hE
  clear hE
  have START := made_nil w
  go_enter Tryz.func87, Tryz.ntmps87
  go_wp2
  go_loopw [0, 4] (fun sv c wr => ∃ (t : ByteArray) (M : List Int), sv = .string t ∧ t.size ≤ s.size ∧ M.length ≤ 48 ∧ LeftC (bytes s) (bytes t) M ∧ Made w wr c M) (fun sv _ _ => strLen sv)
  case atStart => exact ⟨s, [], rfl, Nat.le_refl _, Nat.zero_le _, leftC_start _, START⟩
  case round =>
    obtain ⟨t, M, rfl, hts, hM, hleft, hmade⟩ := hrel
    clear START
    obtain ⟨a, cap, rfl, _⟩ := sl.Sl.of_own hmade.1
    have h48 := is48 t
    by_cases h0 : bytes t = [48]
    · rw [decide_eq_true h0] at h48
      have E := leftC_end hleft h0
      clear hleft h0
      go_wp2
      go_ret2
      exact ⟨_, by rw [E.2]; rfl, by rw [E.1]; exact hmade⟩
    · rw [decide_eq_false h0] at h48
      obtain ⟨wd, rs, fd, hc⟩ : ∃ wd rs fd, cutW (bytes t) = (wd, rs, fd) := ⟨_, _, _, rfl⟩
      have CC := hide (cutC t wr ((unhide HE).kept hmade.2) (by omega) wd rs fd hc)
      have hwd : wd.length ≤ 1048576 := by
        have h1 : wd.length ≤ (bytes t).length := by
          have := cut_len (bytes t)
          rw [hc] at this
          exact this
        rw [bytes_len] at h1
        omega
      have CL := hide (fun w1 (g : wr.grownBy w1 none) => readLit ⟨wd.toArray⟩ w1 (((unhide HE).kept hmade.2).kept g) (by rw [size_mk]; exact hwd))
      rw [bytes_mk] at CL
      cases hfd : fd
      · have E := leftC_none hleft (clause_uncut h0 (by rw [hc, hfd]))
        subst hfd
        obtain ⟨lv, hlv⟩ : ∃ lv, lit wd = lv := ⟨_, rfl⟩
        have LT := hide hlv
        clear hlv hleft h0 hc hwd
        go_wp2_with fail
        refine (unhide CC).mono ?_; rintro e w1 ⟨rfl, g1⟩
        have G1 := hide g1
        clear g1
        go_wp2_with fail
        refine (unhide CL w1 (unhide G1)).mono ?_; rintro e w2 ⟨rfl, g2⟩
        have G2 := hide (grown_trans (r := none) hmade.2 (grown_trans (r := none) (unhide G1) g2))
        clear g2 CC CL
        rw [unhide LT]
        go_wp2_with fail
        go_ret2
        exact ⟨_, by rw [E.2]; rfl, by rw [E.1]; exact made_trans (made_nil _) (unhide G2)⟩
      · subst hfd
        cases hlv : lit wd with
        | none =>
          have E := leftC_none hleft (clause_nolit h0 (by rw [hc]; exact hlv))
          have LT := hide hlv
          clear hlv hleft h0 hc hwd
          go_wp2_with fail
          refine (unhide CC).mono ?_; rintro e w1 ⟨rfl, g1⟩
          have G1 := hide g1
          clear g1
          go_wp2_with fail
          refine (unhide CL w1 (unhide G1)).mono ?_; rintro e w2 ⟨rfl, g2⟩
          have G2 := hide (grown_trans (r := none) hmade.2 (grown_trans (r := none) (unhide G1) g2))
          clear g2 CC CL
          rw [unhide LT]
          go_wp2_with fail
          go_ret2
          exact ⟨_, by rw [E.2]; rfl, by rw [E.1]; exact made_trans (made_nil _) (unhide G2)⟩
        | some x =>
          have hx := okB_iff.1 (lit_sound hlv).1
          obtain ⟨_, x0, x1⟩ := hx
          by_cases hm48 : M.length = 48
          · have E := leftC_none hleft (by rw [hm48]; exact clause_zero h0)
            have LT := hide hlv
            have hl : (((M.length : Nat) : Int) == 48) = true := by rw [beq_iff_eq]; omega
            clear hlv hleft h0 hc hwd
            go_wp2_with fail
            refine (unhide CC).mono ?_; rintro e w1 ⟨rfl, g1⟩
            have G1 := hide g1
            clear g1
            go_wp2_with fail
            refine (unhide CL w1 (unhide G1)).mono ?_; rintro e w2 ⟨rfl, g2⟩
            have G2 := hide (grown_trans (r := none) hmade.2 (grown_trans (r := none) (unhide G1) g2))
            clear g2 CC CL
            rw [unhide LT]
            go_wp2_with fail
            go_ret2
            exact ⟨_, by rw [E.2]; rfl, by rw [E.1]; exact made_trans (made_nil _) (unhide G2)⟩
          · have L := leftC_more hleft (by omega) h0 (by rw [hc]) (by rw [hc]; exact hlv)
            have cs := cut_sound (s := bytes t) (by rw [hc])
            rw [hc] at L cs
            have LT := hide hlv
            have HC := hide cs.2
            have hl : (((M.length : Nat) : Int) == 48) = false := by rw [beq_eq_false_iff_ne]; omega
            clear hlv hleft h0 hc hwd cs
            go_wp2_with fail
            refine (unhide CC).mono ?_; rintro e w1 ⟨rfl, g1⟩
            have G1 := hide g1
            clear g1
            go_wp2_with fail
            refine (unhide CL w1 (unhide G1)).mono ?_; rintro e w2 ⟨rfl, g2⟩
            have g02 := grown_trans (r := none) (unhide G1) g2
            have hm2 : Made w w2 (.slice a M.length cap) M := ⟨(sl.Own.kept (sl.Own.of hmade.1) g02).1, grown_trans (r := none) hmade.2 g02⟩
            clear g2 g02 G1 CC CL hmade
            rw [unhide LT]
            go_wp2_with (at_builtin; refine wo.append1 hm2.2 hm2.1 (by omega) rfl _ _ rfl rfl rfl ?_)
            intro v' w3 R
            clear hm2
            go_wp2
            go_roundw
            case rel => exact ⟨⟨rs.toArray⟩, M ++ [x], rfl, by rw [size_mk]; have := unhide HC; rw [bytes_len] at this; omega, by simp; omega, L, R⟩
            case measure =>
              show (⟨rs.toArray⟩ : ByteArray).size < t.size
              rw [size_mk]
              have := unhide HC
              rw [bytes_len] at this
              exact this
end Go.Proofs.YtfokbkaommfnoaaGreatDoor.rd
