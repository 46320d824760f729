/- Lookup: how many entries there are then; no condition. -/
import Derived.Test.YtnlllcgcaddhmaaGreatDoorJXAw
import Derived.Test.YtnlllcgcaddhmaaGreatDoorJXAx
namespace Go.Proofs.YtnlllcgcaddhmaaGreatDoor.an
open ua (Kn)
theorem lk_len (room : Int) (KK : List Kn) (n : Int) (LL : List (List Int)) (h : ua.tot KK ≤ 1048576) : (lkL room KK n LL).length ≤ 1048576 := by
 have h0 := Nat.le_trans (ua.tot_len KK) h
 unfold lkL
 split
 ·exact Nat.le_trans (ua.tot_len _) (Nat.le_trans (ua.tot_fnd room KK (dgA n LL)) h)
 ·split
  ·exact ua.len_put room KK (askK n LL) h0
  ·exact h0
end Go.Proofs.YtnlllcgcaddhmaaGreatDoor.an
