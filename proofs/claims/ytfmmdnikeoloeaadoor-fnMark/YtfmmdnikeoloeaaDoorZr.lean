/- Mac and MacOk, of the program and of their model; no condition but on sizes and that the tables lie as they should. -/
import Derived.Test.YtfmmdnikeoloeaaDoorZp
import Derived.Test.YtfmmdnikeoloeaaDoorZq
namespace Go.Proofs.YtfmmdnikeoloeaaDoor.zr
open Go.ChangeShapes Go.WideShapes Go.ChangeAt Go.RowKit
open Go.Proofs.YtfmmdnikeoloeaaDoor.sl (hide unhide ret_int ret_bool grown_refl grown_trans grown_drewN)
open Go.Proofs.YtfmmdnikeoloeaaDoor.zk (TabK TabS)
open Go.Proofs.YtfmmdnikeoloeaaDoor.ze (bts bts_length)
open Go.Proofs.YtfmmdnikeoloeaaDoor.zo (sumT sumL out4_length implSum)
open Go.Proofs.YtfmmdnikeoloeaaDoor.zp (specSum)
open Go.Proofs.YtfmmdnikeoloeaaDoor.zq (kb kb_length implKey specKey)
open Go.Proofs.YtfmmdnikeoloeaaDoor.dec (str)
set_option linter.unusedVariables false

def in1 (key s : ByteArray) : ByteArray := ByteArray.mk (kb key 54 64).toArray ++ s
def in2 (key s : ByteArray) : ByteArray := ByteArray.mk (kb key 92 64).toArray ++ ByteArray.mk (sumT (in1 key s)).toArray
theorem mk_size (l : List UInt8) : (ByteArray.mk l.toArray).size = l.length := by simp [ByteArray.size]
theorem sumT_len (s : ByteArray) : (sumT s).length ≤ 32 := by
  unfold zo.sumT
  split
  · unfold zo.sumL
    rw [out4_length]
    omega
  · simp
theorem in1_size (key s : ByteArray) : (in1 key s).size = 64 + s.size := by
  unfold in1
  rw [ByteArray.size_append, mk_size, kb_length]
theorem in2_size (key s : ByteArray) : (in2 key s).size ≤ 96 := by
  unfold in2
  rw [ByteArray.size_append, mk_size, mk_size, kb_length]
  have := sumT_len (in1 key s)
  omega
/-- what Mac answers -/
def macT (key s : ByteArray) : List UInt8 := if key.size ≤ 64 ∧ s.size ≤ 59800 then sumT (in2 key s) else []

set_option maxRecDepth 100000 in
set_option maxHeartbeats 2000000 in
theorem implMac (key s : ByteArray) (w : World) (h1 : key.size ≤ 1048576) (h2 : s.size ≤ 1048576) (hK : TabK w) (hS : TabS w) :
    Calls Tryd.prog 19 #[.string key, .string s] w fun r w' => r = .returned (str (macT key s)) ∧ w.grownBy w' none := by
  by_cases k1 : key.size ≤ 64
  · by_cases k2 : s.size ≤ 59800
    · have i1 : ¬ (64 : Int) < (key.size : Int) := by omega
      have i2 : ¬ (59800 : Int) < (s.size : Int) := by omega
      rw [show macT key s = sumT (in2 key s) by unfold macT; rw [if_pos ⟨k1, k2⟩]]
      have C1 := hide (fun w => implKey key 92 w k1 (by decide))
      have C2 := hide (fun w => implKey key 54 w k1 (by decide))
      have S1 := hide (fun w a b => implSum (in1 key s) w (by rw [in1_size]; omega) a b)
      have S2 := hide (fun w a b => implSum (in2 key s) w (by have := in2_size key s; omega) a b)
      have HK := hide hK
      have HS := hide hS
      have l1 : (kb key 92 64).length ≤ 64 := by rw [kb_length]; omega
      have l2 : (kb key 54 64).length ≤ 64 := by rw [kb_length]; omega
      have l3 : (sumT (in1 key s)).length ≤ 32 := sumT_len _
      generalize hX : sumT (in2 key s) = X at *
      clear hX
      unfold in2 at S2
      generalize hY : sumT (in1 key s) = Y at *
      clear hY
      unfold in1 at S1
      generalize kb key 92 64 = A at *
      generalize kb key 54 64 = B at *
      unfold dec.str at C1 C2 S1 S2
      clear hK hS k1
      go_enter Tryd.func19, Tryd.ntmps19
      go_wp2_with fail
      refine (unhide C1 _).mono ?_; rintro r w1 ⟨rfl, g1⟩
      have G1 := hide g1
      clear g1 C1
      go_wp2_with fail
      refine (unhide C2 _).mono ?_; rintro r w2 ⟨rfl, g2⟩
      have G2 := hide (grown_trans (r := none) (unhide G1) g2)
      clear g2 C2 G1
      go_wp2_with fail
      refine (unhide S1 _ ((unhide HK).kept (unhide G2)) ((unhide HS).kept (unhide G2))).mono ?_; rintro r w3 ⟨rfl, g3⟩
      have G3 := hide (grown_trans (r := none) (unhide G2) g3)
      clear g3 S1 G2
      go_wp2_with fail
      refine (unhide S2 _ ((unhide HK).kept (unhide G3)) ((unhide HS).kept (unhide G3))).mono ?_; rintro r w4 ⟨rfl, g4⟩
      have G4 := hide (grown_trans (r := none) (unhide G3) g4)
      clear g4 S2 G3
      go_wp2_with fail
      go_ret
      exact ⟨rfl, unhide G4⟩
    · have i1 : ¬ (64 : Int) < (key.size : Int) := by omega
      have i2 : (59800 : Int) < (s.size : Int) := by omega
      rw [show macT key s = [] by unfold macT; rw [if_neg (fun h => k2 h.2)]]
      clear hK hS k1 k2
      go_enter Tryd.func19, Tryd.ntmps19
      go_wp2
      go_ret
      exact ⟨rfl, grown_refl _⟩
  · have i1 : (64 : Int) < (key.size : Int) := by omega
    rw [show macT key s = [] by unfold macT; rw [if_neg (fun h => k1 h.1)]]
    clear hK hS k1
    go_enter Tryd.func19, Tryd.ntmps19
    go_wp2
    go_ret
    exact ⟨rfl, grown_refl _⟩

set_option maxRecDepth 100000 in
set_option maxHeartbeats 2000000 in
theorem specMac (key s : ByteArray) (w : World) (h1 : key.size ≤ 1048576) (h2 : s.size ≤ 1048576) :
    Calls Tryd.prog 20 #[.string key, .string s] w fun r w' => r = .returned (str (macT key s)) ∧ w.grownBy w' none := by
  by_cases k1 : key.size ≤ 64
  · by_cases k2 : s.size ≤ 59800
    · have i1 : ¬ (64 : Int) < (key.size : Int) := by omega
      have i2 : ¬ (59800 : Int) < (s.size : Int) := by omega
      rw [show macT key s = sumT (in2 key s) by unfold macT; rw [if_pos ⟨k1, k2⟩]]
      have C1 := hide (fun w => specKey key 92 w k1 (by decide))
      have C2 := hide (fun w => specKey key 54 w k1 (by decide))
      have S1 := hide (fun w => specSum (in1 key s) w (by rw [in1_size]; omega))
      have S2 := hide (fun w => specSum (in2 key s) w (by have := in2_size key s; omega))
      have l1 : (kb key 92 64).length ≤ 64 := by rw [kb_length]; omega
      have l2 : (kb key 54 64).length ≤ 64 := by rw [kb_length]; omega
      have l3 : (sumT (in1 key s)).length ≤ 32 := sumT_len _
      generalize hX : sumT (in2 key s) = X at *
      clear hX
      unfold in2 at S2
      generalize hY : sumT (in1 key s) = Y at *
      clear hY
      unfold in1 at S1
      generalize kb key 92 64 = A at *
      generalize kb key 54 64 = B at *
      unfold dec.str at C1 C2 S1 S2
      clear k1
      go_enter Tryd.func20, Tryd.ntmps20
      go_wp2_with fail
      refine (unhide C1 _).mono ?_; rintro r w1 ⟨rfl, g1⟩
      have G1 := hide g1
      clear g1 C1
      go_wp2_with fail
      refine (unhide C2 _).mono ?_; rintro r w2 ⟨rfl, g2⟩
      have G2 := hide (grown_trans (r := none) (unhide G1) g2)
      clear g2 C2 G1
      go_wp2_with fail
      refine (unhide S1 _).mono ?_; rintro r w3 ⟨rfl, g3⟩
      have G3 := hide (grown_trans (r := none) (unhide G2) g3)
      clear g3 S1 G2
      go_wp2_with fail
      refine (unhide S2 _).mono ?_; rintro r w4 ⟨rfl, g4⟩
      have G4 := hide (grown_trans (r := none) (unhide G3) g4)
      clear g4 S2 G3
      go_wp2_with fail
      go_ret
      exact ⟨rfl, unhide G4⟩
    · have i1 : ¬ (64 : Int) < (key.size : Int) := by omega
      have i2 : (59800 : Int) < (s.size : Int) := by omega
      rw [show macT key s = [] by unfold macT; rw [if_neg (fun h => k2 h.2)]]
      clear k1 k2
      go_enter Tryd.func20, Tryd.ntmps20
      go_wp2
      go_ret
      exact ⟨rfl, grown_refl _⟩
  · have i1 : (64 : Int) < (key.size : Int) := by omega
    rw [show macT key s = [] by unfold macT; rw [if_neg (fun h => k1 h.1)]]
    clear k1
    go_enter Tryd.func20, Tryd.ntmps20
    go_wp2
    go_ret
    exact ⟨rfl, grown_refl _⟩

/-- whether a mark is right -/
def okM (key s mark : ByteArray) : Bool := decide (macT key s ≠ [] ∧ bts mark = macT key s)

set_option maxRecDepth 100000 in
set_option maxHeartbeats 2000000 in
theorem implMacOk (key s mark : ByteArray) (w : World) (h1 : key.size ≤ 1048576) (h2 : s.size ≤ 1048576) (hK : TabK w) (hS : TabS w) :
    Calls Tryd.prog 21 #[.string key, .string s, .string mark] w fun r w' => r = .returned (.bool (okM key s mark)) ∧ w.grownBy w' none := by
  have C := hide (implMac key s w h1 h2 hK hS)
  unfold okM
  generalize macT key s = X at *
  unfold dec.str at C
  clear hK hS
  go_enter Tryd.func21, Tryd.ntmps21
  go_wp2_with fail
  refine (unhide C).mono ?_; rintro r w1 ⟨rfl, g1⟩
  have G1 := hide g1
  clear g1 C
  go_wp2_with fail
  · rename_i hX
    go_ret
    exact ⟨ret_bool (by rw [hX]; simp), unhide G1⟩
  · rename_i hX
    go_ret
    refine ⟨ret_bool ?_, unhide G1⟩
    rw [show mark.toList = bts mark from ByteArray.toList_eq mark, Bool.eq_iff_iff]
    simp [hX]

set_option maxRecDepth 100000 in
set_option maxHeartbeats 2000000 in
theorem specMacOk (key s mark : ByteArray) (w : World) (h1 : key.size ≤ 1048576) (h2 : s.size ≤ 1048576) :
    Calls Tryd.prog 25 #[.string key, .string s, .string mark] w fun r w' => r = .returned (.bool (okM key s mark)) ∧ w.grownBy w' none := by
  have C := hide (specMac key s w h1 h2)
  unfold okM
  generalize macT key s = X at *
  unfold dec.str at C
  have tl : mark.toList = bts mark := ByteArray.toList_eq mark
  by_cases h0 : bts mark = []
  · have hb : (!mark.toList.isEmpty) = false := by rw [tl, h0]; rfl
    have HD : Hid (decide (X ≠ [] ∧ bts mark = X) = false) := by
      apply decide_eq_false
      rintro ⟨a, b⟩
      exact a (by rw [← b, h0])
    clear tl h0 C
    go_enter Tryd.func25, Tryd.ntmps25
    go_wp2_with fail
    go_ret
    rw [unhide HD]
    exact ⟨rfl, grown_refl _⟩
  · have hb : (!mark.toList.isEmpty) = true := by
      rw [tl]
      cases hm : bts mark with
      | nil => exact absurd hm h0
      | cons _ _ => rfl
    have HD : Hid (decide (X ≠ [] ∧ bts mark = X) = (X == mark.toList)) := by
      show _ = _
      rw [tl, Bool.eq_iff_iff, decide_eq_true_iff, beq_iff_eq]
      constructor
      · rintro ⟨a, b⟩
        exact b.symm
      · intro e
        rw [e]
        exact ⟨h0, rfl⟩
    clear tl h0
    go_enter Tryd.func25, Tryd.ntmps25
    go_wp2_with fail
    refine (unhide C).mono ?_; rintro r w1 ⟨rfl, g1⟩
    have G1 := hide g1
    clear g1 C
    go_wp2_with fail
    go_ret
    rw [unhide HD]
    exact ⟨rfl, unhide G1⟩
end Go.Proofs.YtfmmdnikeoloeaaDoor.zr
