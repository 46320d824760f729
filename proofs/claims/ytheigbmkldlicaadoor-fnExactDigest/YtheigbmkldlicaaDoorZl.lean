/- One round of a sum, of the program; no condition but that words are words. -/
import Derived.Test.YtheigbmkldlicaaDoorZd
import Derived.Test.YtheigbmkldlicaaDoorZk
namespace Go.Proofs.YtheigbmkldlicaaDoor.zl
open Go.ChangeShapes Go.WideShapes Go.ChangeAt Go.RowKit
open Go.Proofs.YtheigbmkldlicaaDoor.sl (hide unhide ret_int ret_bool grown_refl grown_trans grown_drewN)
open Go.Proofs.YtheigbmkldlicaaDoor.za (Wd rotI g4)
set_option linter.unusedVariables false

def s1 (e : Int) : Int := bits .xor .u32 (bits .xor .u32 (rotI e 6) (rotI e 11)) (rotI e 25)
def s0 (a : Int) : Int := bits .xor .u32 (bits .xor .u32 (rotI a 2) (rotI a 13)) (rotI a 22)
def ch (e f g : Int) : Int := bits .xor .u32 (bits .and .u32 e f) (bits .and .u32 (bits .xor .u32 IntKind.u32.max e) g)
def mj (a b c : Int) : Int := bits .xor .u32 (bits .xor .u32 (bits .and .u32 a b) (bits .and .u32 a c)) (bits .and .u32 b c)
def na (a b c e f g h k : Int) : Int := (h + s1 e + ch e f g + k + (s0 a + mj a b c)) % 4294967296
def ne (d e f g h k : Int) : Int := (d + (h + s1 e + ch e f g + k)) % 4294967296
theorem not_max (e : Int) : bits .xor .u32 e 4294967295 = bits .xor .u32 IntKind.u32.max e := by
  have h : IntKind.u32.max = 4294967295 := by decide
  rw [h]
  simp only [bits, BitVec.xor_comm]
/-- eight words as a value -/
def v8 (L : List Int) : Value := .agg (L.map (Value.int .u32)).toArray
/-- one round -/
def rnd (L : List Int) (k : Int) : List Int := match L with
  | [a, b, c, d, e, f, g, h] => [na a b c e f g h k, a, b, c, ne d e f g h k, e, f, g]
  | L => L
theorem set_new {w W : World} (g : w.grownBy W none) {b : Nat} (hb : w.heap.size ≤ b) (j : Nat) (v : Value) : w.grownBy (W.setCell ⟨b, j, none⟩ v) none :=
  ⟨g.os, g.tape, g.output, by simpa [World.setCell] using g.size, fun k hk _ => (Below.heap_setCell _ _ _ _ (by show k ≠ b; omega)).trans (g.block k hk (fun e => by cases e))⟩
def Wd8 (L : List Int) : Prop := L.length = 8 ∧ ∀ x ∈ L, Wd x
theorem wd8_parts {L : List Int} (h : Wd8 L) : ∃ a b c d e f g i, L = [a, b, c, d, e, f, g, i] ∧ Wd a ∧ Wd b ∧ Wd c ∧ Wd d ∧ Wd e ∧ Wd f ∧ Wd g ∧ Wd i := by
  obtain ⟨hl, hw⟩ := h
  match L, hl with
  | [a, b, c, d, e, f, g, i], _ => exact ⟨a, b, c, d, e, f, g, i, rfl, hw _ (by simp), hw _ (by simp), hw _ (by simp), hw _ (by simp), hw _ (by simp), hw _ (by simp), hw _ (by simp), hw _ (by simp)⟩
theorem wd8_of {a b c d e f g i : Int} (h1 : Wd a) (h2 : Wd b) (h3 : Wd c) (h4 : Wd d) (h5 : Wd e) (h6 : Wd f) (h7 : Wd g) (h8 : Wd i) : Wd8 [a, b, c, d, e, f, g, i] :=
  ⟨rfl, fun x hx => by
    simp only [List.mem_cons, List.not_mem_nil, or_false] at hx
    rcases hx with rfl | rfl | rfl | rfl | rfl | rfl | rfl | rfl <;> assumption⟩
theorem rnd_wd {L : List Int} (h : Wd8 L) (k : Int) : Wd8 (rnd L k) := by
  obtain ⟨a, b, c, d, e, f, g, i, rfl, h1, h2, h3, h4, h5, h6, h7, h8⟩ := wd8_parts h
  exact wd8_of (za.mod_wd _) h1 h2 h3 (za.mod_wd _) h5 h6 h7

set_option maxRecDepth 100000 in
set_option maxHeartbeats 2000000 in
theorem implRound (L : List Int) (k : Int) (w : World) (hL : Wd8 L) :
    Calls Tryd.prog 177 #[v8 L, .int .u32 k] w fun r w' => r = .returned (v8 (rnd L k)) ∧ w.grownBy w' none := by
  obtain ⟨a, b, c, d, e, f, g, i, rfl, ha, hb, hc, hd, he, hf, hg, hh⟩ := wd8_parts hL
  show Calls Tryd.prog 177 #[.agg #[.int .u32 a, .int .u32 b, .int .u32 c, .int .u32 d, .int .u32 e, .int .u32 f, .int .u32 g, .int .u32 i], .int .u32 k] w fun r w' => r = .returned (.agg #[.int .u32 (na a b c e f g i k), .int .u32 a, .int .u32 b, .int .u32 c, .int .u32 (ne d e f g i k), .int .u32 e, .int .u32 f, .int .u32 g]) ∧ w.grownBy w' none
  have R6 : Hid (∀ w, Calls Tryd.prog 198 #[.int .u32 e, .int .i64 6] w fun r w' => r = .returned (.int .u32 (rotI e 6)) ∧ w' = w) := fun w => zb.rot e 6 w he (by decide) (by decide)
  have R11 : Hid (∀ w, Calls Tryd.prog 198 #[.int .u32 e, .int .i64 11] w fun r w' => r = .returned (.int .u32 (rotI e 11)) ∧ w' = w) := fun w => zb.rot e 11 w he (by decide) (by decide)
  have R25 : Hid (∀ w, Calls Tryd.prog 198 #[.int .u32 e, .int .i64 25] w fun r w' => r = .returned (.int .u32 (rotI e 25)) ∧ w' = w) := fun w => zb.rot e 25 w he (by decide) (by decide)
  have R2 : Hid (∀ w, Calls Tryd.prog 198 #[.int .u32 a, .int .i64 2] w fun r w' => r = .returned (.int .u32 (rotI a 2)) ∧ w' = w) := fun w => zb.rot a 2 w ha (by decide) (by decide)
  have R13 : Hid (∀ w, Calls Tryd.prog 198 #[.int .u32 a, .int .i64 13] w fun r w' => r = .returned (.int .u32 (rotI a 13)) ∧ w' = w) := fun w => zb.rot a 13 w ha (by decide) (by decide)
  have R22 : Hid (∀ w, Calls Tryd.prog 198 #[.int .u32 a, .int .i64 22] w fun r w' => r = .returned (.int .u32 (rotI a 22)) ∧ w' = w) := fun w => zb.rot a 22 w ha (by decide) (by decide)
  clear ha hb hc hd he hf hg hh hL
  go_enter Tryd.func177, Tryd.ntmps177
  go_wp2
  go_quiet (fail)
  go_wp2
  go_quiet (fail)
  go_wp2_with fail
  refine (unhide R6 _).mono ?_; rintro r w' ⟨rfl, rfl⟩
  go_wp2_with fail
  refine (unhide R11 _).mono ?_; rintro r w' ⟨rfl, rfl⟩
  go_wp2_with fail
  refine (unhide R25 _).mono ?_; rintro r w' ⟨rfl, rfl⟩
  go_wp2_with fail
  refine (unhide R2 _).mono ?_; rintro r w' ⟨rfl, rfl⟩
  go_wp2_with fail
  refine (unhide R13 _).mono ?_; rintro r w' ⟨rfl, rfl⟩
  go_wp2_with fail
  refine (unhide R22 _).mono ?_; rintro r w' ⟨rfl, rfl⟩
  go_wp2_with fail
  refine bodyPost_ret (v := .agg #[.int .u32 (na a b c e f g i k), .int .u32 a, .int .u32 b, .int .u32 c, .int .u32 (ne d e f g i k), .int .u32 e, .int .u32 f, .int .u32 g]) (by simp [results, Tryd.results177, go_sem, na, ne, s1, s0, ch, mj]) rfl ⟨rfl, ?_⟩
  refine set_new (set_new (set_new (set_new (set_new (set_new (set_new (set_new ?_ (by omega) _ _) (by omega) _ _) (by omega) _ _) (by omega) _ _) (by omega) _ _) (by omega) _ _) (by omega) _ _) (by omega) _ _
  exact grown_trans (grown_trans (r := none) (World.grownBy_alloc _ _ none) (World.grownBy_alloc _ _ none)) (grown_drewN _ _)
end Go.Proofs.YtheigbmkldlicaaDoor.zl
