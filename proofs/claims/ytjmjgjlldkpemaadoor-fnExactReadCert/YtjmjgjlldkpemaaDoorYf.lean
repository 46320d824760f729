/- ReadCert of the program answers as that of the model; certificates that are equal are told to be; no condition but that a number of the library lies at its place. -/
import Derived.Test.YtjmjgjlldkpemaaDoorYe
namespace Go.Proofs.YtjmjgjlldkpemaaDoor.yd
open Go.ChangeShapes Go.WideShapes Go.ChangeAt Go.RowKit
open Go.Proofs.YtjmjgjlldkpemaaDoor.ya (certB)
open Go.Proofs.YtjmjgjlldkpemaaDoor.yc (Cr RC got)
open Go.Proofs.YtjmjgjlldkpemaaDoor.sl (hide unhide grown_refl grown_trans grown_drewN)
set_option linter.unusedVariables false
theorem rc_ex (s : ByteArray) : ∃ O, RC s O := by
  by_cases h : ∃ c : Cr, (c.1.size ≤ 60000 ∧ c.2.2.2.size ≤ 60000) ∧ certB c.1 c.2.1 c.2.2.1 c.2.2.2 = s
  · obtain ⟨c, hc⟩ := h
    exact ⟨some c, hc⟩
  · exact ⟨none, fun d sat b m hd hm e => h ⟨(d, sat, b, m), ⟨hd, hm⟩, e⟩⟩
theorem bothO (s : ByteArray) (hs : s.size ≤ 1048576) : ∃ O, RC s O ∧ (∀ w, Calls Tryd.prog 20 #[.string s] w fun e w' => CertE w O e w') ∧ (∀ w, Most w → Calls Tryd.prog 18 #[.string s] w fun e w' => CertE w O e w') := by
  obtain ⟨O, h⟩ := rc_ex s
  refine ⟨O, h, fun w => (specReadCert s w hs).mono ?_, fun w hE => (implReadCert s w hE hs).mono ?_⟩
  · rintro e w' ⟨O', h', c⟩
    rw [h.one h']
    exact c
  · rintro e w' ⟨O', h', c⟩
    rw [h.one h']
    exact c
theorem both (s : ByteArray) (hs : s.size ≤ 1048576) : ∃ (d : ByteArray) (sat : Bool) (b m : ByteArray) (ok : Bool),
    (∀ w, Calls Tryd.prog 20 #[.string s] w fun e w' => e = .returned (.tuple #[.agg #[.string d, .bool sat, .string b, .string m], .bool ok]) ∧ w.grownBy w' none) ∧
    (∀ w, Most w → Calls Tryd.prog 18 #[.string s] w fun e w' => e = .returned (.tuple #[.agg #[.string d, .bool sat, .string b, .string m], .bool ok]) ∧ w.grownBy w' none) := by
  obtain ⟨O, _, h1, h2⟩ := bothO s hs
  cases O with
  | none => exact ⟨_, _, _, _, _, h1, h2⟩
  | some c => exact ⟨_, _, _, _, _, h1, h2⟩
theorem eqSame (d : ByteArray) (sat : Bool) (b m : ByteArray) (w : World) :
    Calls Tryd.prog 22 #[.agg #[.string d, .bool sat, .string b, .string m], .agg #[.string d, .bool sat, .string b, .string m]] w fun e w' => e = .returned (.bool true) ∧ w.grownBy w' none := by
  go_enter Tryd.func22, Tryd.ntmps22
  go_wp2
  go_ret
  exact ⟨rfl, grown_trans (World.grownBy_alloc _ _ none) (World.grownBy_alloc _ _ none)⟩
end Go.Proofs.YtjmjgjlldkpemaaDoor.yd
