/- What CertText (of the program and of its model) answers; no condition but on the sizes. -/
import Derived.Test.YtjmjgjlldkpemaaDoorZf
namespace Go.Proofs.YtjmjgjlldkpemaaDoor.ya
open Go.ChangeShapes Go.WideShapes Go.ChangeAt Go.RowKit
open Go.Proofs.YtjmjgjlldkpemaaDoor.sl (hide unhide grown_refl grown_trans grown_drewN)
open Go.Proofs.YtjmjgjlldkpemaaDoor.ze (hexT)
open Go.Proofs.YtjmjgjlldkpemaaDoor.dec (str)
set_option linter.unusedVariables false
/-- a part: '-' for none -/
def partB (s : ByteArray) : ByteArray := if s.toList == [] then ⟨#[45]⟩ else ⟨(hexT s).toArray⟩
def wordB (sat : Bool) : ByteArray := if sat then ⟨#[115, 97, 116]⟩ else ⟨#[117, 110, 115, 97, 116]⟩
/-- the text of a certificate -/
def certB (d : ByteArray) (sat : Bool) (b m : ByteArray) : ByteArray := partB d ++ ⟨#[32]⟩ ++ wordB sat ++ ⟨#[32]⟩ ++ partB m ++ ⟨#[10]⟩ ++ b
theorem part_size (s : ByteArray) : (partB s).size ≤ 120000 := by
  unfold partB
  split
  · decide
  · show (hexT s).toArray.size ≤ _
    rw [List.size_toArray]
    unfold ze.hexT
    split
    · rw [ze.hexL_length, ze.bts_length]
      omega
    · exact Nat.zero_le _
theorem implPart (s : ByteArray) (w : World) (hs : s.size ≤ 1048576) :
    Calls Tryd.prog 36 #[.string s] w fun e w' => e = .returned (.string (partB s)) ∧ w.grownBy w' none := by
  have C := hide (zf.implHexText s w hs)
  unfold dec.str at C
  unfold partB
  cases hb : (s.toList == [])
  · go_enter Tryd.func36, Tryd.ntmps36
    go_wp2_with fail
    refine (unhide C).mono ?_; rintro e w1 ⟨rfl, g1⟩
    go_wp2
    go_ret
    exact ⟨rfl, g1⟩
  · go_enter Tryd.func36, Tryd.ntmps36
    go_wp2
    go_ret
    exact ⟨rfl, grown_refl _⟩
theorem specPart (s : ByteArray) (w : World) (hs : s.size ≤ 1048576) :
    Calls Tryd.prog 44 #[.string s] w fun e w' => e = .returned (.string (partB s)) ∧ w.grownBy w' none := by
  have C := hide (ze.specHexText s w hs)
  unfold dec.str at C
  unfold partB
  cases hb : (s.toList == [])
  · go_enter Tryd.func44, Tryd.ntmps44
    go_wp2_with fail
    refine (unhide C).mono ?_; rintro e w1 ⟨rfl, g1⟩
    go_wp2
    go_ret
    exact ⟨rfl, g1⟩
  · go_enter Tryd.func44, Tryd.ntmps44
    go_wp2
    go_ret
    exact ⟨rfl, grown_refl _⟩
set_option maxRecDepth 100000 in
set_option maxHeartbeats 4000000 in
theorem implCertText (d : ByteArray) (sat : Bool) (b m : ByteArray) (w : World) (hd : d.size ≤ 1048576) (hb : b.size ≤ 1048576) (hm : m.size ≤ 1048576) :
    Calls Tryd.prog 17 #[.agg #[.string d, .bool sat, .string b, .string m]] w fun e w' => e = .returned (.string (certB d sat b m)) ∧ w.grownBy w' none := by
  have g0 := World.grownBy_alloc w (.cells #[.string d, .bool sat, .string b, .string m] 38) none
  have CD := hide (fun w => implPart d w hd)
  have CM := hide (fun w => implPart m w hm)
  have G0 := hide g0
  have GX := hide (grown_drewN (w.alloc (.cells #[.string d, .bool sat, .string b, .string m] 38)) 1)
  have CK : Hid (∀ w', (w.alloc (.cells #[.string d, .bool sat, .string b, .string m] 38)).grownBy w' none → w'.cell? ⟨w.heap.size, 0, none⟩ = some (.string d) ∧ w'.cell? ⟨w.heap.size, 2, none⟩ = some (.string b) ∧ w'.cell? ⟨w.heap.size, 3, none⟩ = some (.string m)) := by
    intro w' g
    refine ⟨g.cell ?_ (fun e => by cases e), g.cell ?_ (fun e => by cases e), g.cell ?_ (fun e => by cases e)⟩
    · exact ze.cell_new w _ _ 0
    · exact (congrArg _ (by rw [Addr.add_lit])).trans (ze.cell_new w _ _ 2)
    · exact (congrArg _ (by rw [Addr.add_lit])).trans (ze.cell_new w _ _ 3)
  have hX := part_size d
  have hY := part_size m
  unfold certB wordB
  generalize partB d = X at *
  generalize partB m = Y at *
  clear g0 hd hm
  cases sat
  · simp only [Bool.false_eq_true, if_false]
    have n0 : ¬ 9223372036854775807 < X.size + 1 := by omega
    have n1 : ¬ 9223372036854775807 < X.size + 1 + 5 := by omega
    have n2 : ¬ 9223372036854775807 < X.size + 1 + 5 + 1 := by omega
    have n3 : ¬ 9223372036854775807 < X.size + 1 + 5 + 1 + Y.size := by omega
    have n4 : ¬ 9223372036854775807 < X.size + 1 + 5 + 1 + Y.size + 1 := by omega
    have n5 : ¬ 9223372036854775807 < X.size + 1 + 5 + 1 + Y.size + 1 + b.size := by omega
    clear hX hY hb
    go_enter Tryd.func17, Tryd.ntmps17
    go_wp2_with fail
    go_region_held3 (fun w' => w'.cell? ⟨w.heap.size, 0, none⟩ = some (.string d) ∧ w'.cell? ⟨w.heap.size, 2, none⟩ = some (.string b) ∧ w'.cell? ⟨w.heap.size, 3, none⟩ = some (.string m)) (go_keep) (first
      | (go_at_call_of 36 (Value.string d); refine (unhide CD _).mono ?_; rintro e w8 ⟨rfl, g8⟩; replace GX := hide (grown_trans (r := none) (unhide GX) g8); obtain ⟨k0, k2, k3⟩ := unhide CK _ (unhide GX); clear g8)
      | (go_at_call_of 36 (Value.string m); refine (unhide CM _).mono ?_; rintro e w8 ⟨rfl, g8⟩; replace GX := hide (grown_trans (r := none) (unhide GX) g8); obtain ⟨k0, k2, k3⟩ := unhide CK _ (unhide GX); clear g8))
    all_goals
      go_wp2_with fail
      go_ret
      exact ⟨rfl, grown_trans (r := none) (unhide G0) (unhide GX)⟩
  · simp only [if_true]
    have n0 : ¬ 9223372036854775807 < X.size + 1 := by omega
    have n1 : ¬ 9223372036854775807 < X.size + 1 + 3 := by omega
    have n2 : ¬ 9223372036854775807 < X.size + 1 + 3 + 1 := by omega
    have n3 : ¬ 9223372036854775807 < X.size + 1 + 3 + 1 + Y.size := by omega
    have n4 : ¬ 9223372036854775807 < X.size + 1 + 3 + 1 + Y.size + 1 := by omega
    have n5 : ¬ 9223372036854775807 < X.size + 1 + 3 + 1 + Y.size + 1 + b.size := by omega
    clear hX hY hb
    go_enter Tryd.func17, Tryd.ntmps17
    go_wp2_with fail
    go_region_held3 (fun w' => w'.cell? ⟨w.heap.size, 0, none⟩ = some (.string d) ∧ w'.cell? ⟨w.heap.size, 2, none⟩ = some (.string b) ∧ w'.cell? ⟨w.heap.size, 3, none⟩ = some (.string m)) (go_keep) (first
      | (go_at_call_of 36 (Value.string d); refine (unhide CD _).mono ?_; rintro e w8 ⟨rfl, g8⟩; replace GX := hide (grown_trans (r := none) (unhide GX) g8); obtain ⟨k0, k2, k3⟩ := unhide CK _ (unhide GX); clear g8)
      | (go_at_call_of 36 (Value.string m); refine (unhide CM _).mono ?_; rintro e w8 ⟨rfl, g8⟩; replace GX := hide (grown_trans (r := none) (unhide GX) g8); obtain ⟨k0, k2, k3⟩ := unhide CK _ (unhide GX); clear g8))
    all_goals
      go_wp2_with fail
      go_ret
      exact ⟨rfl, grown_trans (r := none) (unhide G0) (unhide GX)⟩
set_option maxRecDepth 100000 in
set_option maxHeartbeats 4000000 in
theorem specCertText (d : ByteArray) (sat : Bool) (b m : ByteArray) (w : World) (hd : d.size ≤ 1048576) (hb : b.size ≤ 1048576) (hm : m.size ≤ 1048576) :
    Calls Tryd.prog 21 #[.agg #[.string d, .bool sat, .string b, .string m]] w fun e w' => e = .returned (.string (certB d sat b m)) ∧ w.grownBy w' none := by
  have g0 := World.grownBy_alloc w (.cells #[.string d, .bool sat, .string b, .string m] 38) none
  have CD := hide (fun w => specPart d w hd)
  have CM := hide (fun w => specPart m w hm)
  have G0 := hide g0
  have GX := hide (grown_drewN (w.alloc (.cells #[.string d, .bool sat, .string b, .string m] 38)) 1)
  have CK : Hid (∀ w', (w.alloc (.cells #[.string d, .bool sat, .string b, .string m] 38)).grownBy w' none → w'.cell? ⟨w.heap.size, 0, none⟩ = some (.string d) ∧ w'.cell? ⟨w.heap.size, 2, none⟩ = some (.string b) ∧ w'.cell? ⟨w.heap.size, 3, none⟩ = some (.string m)) := by
    intro w' g
    refine ⟨g.cell ?_ (fun e => by cases e), g.cell ?_ (fun e => by cases e), g.cell ?_ (fun e => by cases e)⟩
    · exact ze.cell_new w _ _ 0
    · exact (congrArg _ (by rw [Addr.add_lit])).trans (ze.cell_new w _ _ 2)
    · exact (congrArg _ (by rw [Addr.add_lit])).trans (ze.cell_new w _ _ 3)
  have hX := part_size d
  have hY := part_size m
  unfold certB wordB
  generalize partB d = X at *
  generalize partB m = Y at *
  clear g0 hd hm
  cases sat
  · simp only [Bool.false_eq_true, if_false]
    have n0 : ¬ 9223372036854775807 < X.size + 1 := by omega
    have n1 : ¬ 9223372036854775807 < X.size + 1 + 5 := by omega
    have n2 : ¬ 9223372036854775807 < X.size + 1 + 5 + 1 := by omega
    have n3 : ¬ 9223372036854775807 < X.size + 1 + 5 + 1 + Y.size := by omega
    have n4 : ¬ 9223372036854775807 < X.size + 1 + 5 + 1 + Y.size + 1 := by omega
    have n5 : ¬ 9223372036854775807 < X.size + 1 + 5 + 1 + Y.size + 1 + b.size := by omega
    clear hX hY hb
    go_enter Tryd.func21, Tryd.ntmps21
    go_wp2_with fail
    go_region_held3 (fun w' => w'.cell? ⟨w.heap.size, 0, none⟩ = some (.string d) ∧ w'.cell? ⟨w.heap.size, 2, none⟩ = some (.string b) ∧ w'.cell? ⟨w.heap.size, 3, none⟩ = some (.string m)) (go_keep) (first
      | (go_at_call_of 44 (Value.string d); refine (unhide CD _).mono ?_; rintro e w8 ⟨rfl, g8⟩; replace GX := hide (grown_trans (r := none) (unhide GX) g8); obtain ⟨k0, k2, k3⟩ := unhide CK _ (unhide GX); clear g8)
      | (go_at_call_of 44 (Value.string m); refine (unhide CM _).mono ?_; rintro e w8 ⟨rfl, g8⟩; replace GX := hide (grown_trans (r := none) (unhide GX) g8); obtain ⟨k0, k2, k3⟩ := unhide CK _ (unhide GX); clear g8))
    all_goals
      go_wp2_with fail
      go_ret
      exact ⟨rfl, grown_trans (r := none) (unhide G0) (unhide GX)⟩
  · simp only [if_true]
    have n0 : ¬ 9223372036854775807 < X.size + 1 := by omega
    have n1 : ¬ 9223372036854775807 < X.size + 1 + 3 := by omega
    have n2 : ¬ 9223372036854775807 < X.size + 1 + 3 + 1 := by omega
    have n3 : ¬ 9223372036854775807 < X.size + 1 + 3 + 1 + Y.size := by omega
    have n4 : ¬ 9223372036854775807 < X.size + 1 + 3 + 1 + Y.size + 1 := by omega
    have n5 : ¬ 9223372036854775807 < X.size + 1 + 3 + 1 + Y.size + 1 + b.size := by omega
    clear hX hY hb
    go_enter Tryd.func21, Tryd.ntmps21
    go_wp2_with fail
    go_region_held3 (fun w' => w'.cell? ⟨w.heap.size, 0, none⟩ = some (.string d) ∧ w'.cell? ⟨w.heap.size, 2, none⟩ = some (.string b) ∧ w'.cell? ⟨w.heap.size, 3, none⟩ = some (.string m)) (go_keep) (first
      | (go_at_call_of 44 (Value.string d); refine (unhide CD _).mono ?_; rintro e w8 ⟨rfl, g8⟩; replace GX := hide (grown_trans (r := none) (unhide GX) g8); obtain ⟨k0, k2, k3⟩ := unhide CK _ (unhide GX); clear g8)
      | (go_at_call_of 44 (Value.string m); refine (unhide CM _).mono ?_; rintro e w8 ⟨rfl, g8⟩; replace GX := hide (grown_trans (r := none) (unhide GX) g8); obtain ⟨k0, k2, k3⟩ := unhide CK _ (unhide GX); clear g8))
    all_goals
      go_wp2_with fail
      go_ret
      exact ⟨rfl, grown_trans (r := none) (unhide G0) (unhide GX)⟩
end Go.Proofs.YtjmjgjlldkpemaaDoor.ya
