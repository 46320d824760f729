/- How long a cache is in which one was put; no condition. -/
import Derived.Test.YtgjakiliepfjiaaUz
namespace Go.Proofs.Ytgjakiliepfjiaa.ua
set_option linter.unusedVariables false
theorem len_put (room : Int) (KK : List Kn) (k : Kn) (h : KK.length ≤ 1048576) : (putK room KK k).length ≤ 1048576 := by
  unfold putK
  split
  · rename_i hp
    have hok : okC room KK = true := by unfold putOk at hp; rw [Bool.and_eq_true] at hp; exact hp.1
    obtain ⟨h0, h1, h2, _⟩ := okC_parts hok
    have h3 := rest_le KK k.dg
    have h4 : (rest KK k.dg ++ [k]).length ≤ 1048576 := by rw [List.length_append, List.length_singleton]; omega
    unfold putL
    split
    · rw [List.length_drop]; omega
    · exact h4
  · exact h
end Go.Proofs.Ytgjakiliepfjiaa.ua
