/- What Lookup (of the program and of its model) answers; no condition but on the sizes and that the tables of the library and of the program lie as their texts lay them. -/
import Derived.Test.YtnlllcgcaddhmaaGreatDoorJXAn
import Derived.Test.YtnlllcgcaddhmaaGreatDoorJUp
namespace Go.Proofs.YtnlllcgcaddhmaaGreatDoor.an
open Go.ChangeShapes Go.WideShapes Go.ChangeAt Go.RowKit
open srt (Tab)
open css (tot Sls OwnS Outs)
open cf (Box)
open yb (Box4)
open txt (Pow)
open zk (TabK TabS)
open ua (Kn kz fndB fndK fndL putK okC VKns Vl OwnK FindE FindS)
open sl (Sl ints hide unhide grown_refl grown_trans)
set_option linter.unusedVariables false
def lkB (room : Int) (KK : List Kn) (n : Int) (LL : List (List Int)) : Bool := fndB room KK (dgA n LL) || (askB n LL && okC room KK)
def lkK (room : Int) (KK : List Kn) (n : Int) (LL : List (List Int)) : Kn := if fndB room KK (dgA n LL) then fndK room KK (dgA n LL) else if askB n LL && okC room KK then askK n LL else kz
def lkL (room : Int) (KK : List Kn) (n : Int) (LL : List (List Int)) : List Kn := if fndB room KK (dgA n LL) then fndL room KK (dgA n LL) else if askB n LL && okC room KK then putK room KK (askK n LL) else KK
def ini (w : World) (room : Int) (v : Value) (n : Int) (u : Value) : World := (((w.alloc (.cells #[.int .i64 room, v] 30)).alloc (.cells #[.int .i64 n, u] 26)).alloc (.cells #[.int .i64 0, .slice none 0 0] 30)).alloc (.cells #[.string ⟨#[]⟩, .bool false, .slice none 0 0, .int .i64 0] 36)
structure Ini (w W : World) (room : Int) (v : Value) (n : Int) (u : Value) : Prop where
 g : w.grownBy W none
 s : w.heap.size + 4 ≤ W.heap.size
 b : Box 30 W w.heap.size (.int .i64 room) v
 f : Box 26 W (w.heap.size + 1) (.int .i64 n) u
 r : Box 30 W (w.heap.size + 1 + 1) (.int .i64 0) (.slice none 0 0)
 q : Box4 36 W (w.heap.size + 1 + 1 + 1) (.string ⟨#[]⟩) (.bool false) (.slice none 0 0) (.int .i64 0)
theorem Ini.kept {w W W' : World} {room n : Int} {v u : Value} (h : Ini w W room v n u) (g : W.grownBy W' none) : Ini w W' room v n u :=
 ⟨grown_trans h.g g, Nat.le_trans h.s g.size, h.b.kept g, h.f.kept g, h.r.kept g, h.q.kept g⟩
theorem Ini.start (w : World) (room : Int) (v : Value) (n : Int) (u : Value) : Ini w (ini w room v n u) room v n u := by
 have a := fun (W : World) o => World.grownBy_alloc W o none
 refine ⟨?_, ?_, ?_, ?_, ?_, ?_⟩
 ·exact grown_trans (grown_trans (grown_trans (a _ _) (a _ _)) (a _ _)) (a _ _)
 ·simp only [ini, World.size_alloc]; omega
 ·exact (((Box.new _ _ _ _).kept (a _ _)).kept (a _ _)).kept (a _ _)
 ·have q := ((Box.new 26 (w.alloc (.cells #[.int .i64 room, v] 30)) (.int .i64 n) u).kept (a _ (.cells #[.int .i64 0, .slice none 0 0] 30))).kept (a _ (.cells #[.string ⟨#[]⟩, .bool false, .slice none 0 0, .int .i64 0] 36))
  rw [World.size_alloc] at q
  exact q
 ·have q := (Box.new 30 ((w.alloc (.cells #[.int .i64 room, v] 30)).alloc (.cells #[.int .i64 n, u] 26)) (.int .i64 0) (.slice none 0 0)).kept (a _ (.cells #[.string ⟨#[]⟩, .bool false, .slice none 0 0, .int .i64 0] 36))
  rw [World.size_alloc, World.size_alloc] at q
  exact q
 ·have q := Box4.new 36 (((w.alloc (.cells #[.int .i64 room, v] 30)).alloc (.cells #[.int .i64 n, u] 26)).alloc (.cells #[.int .i64 0, .slice none 0 0] 30)) (.string ⟨#[]⟩) (.bool false) (.slice none 0 0) (.int .i64 0)
  rw [World.size_alloc, World.size_alloc, World.size_alloc] at q
  exact q
end Go.Proofs.YtnlllcgcaddhmaaGreatDoor.an
namespace Go.Proofs.YtnlllcgcaddhmaaGreatDoor.an
open Go.ChangeShapes Go.WideShapes Go.ChangeAt Go.RowKit
open css (Outs outs_by)
open cf (Box)
open yb (Box4)
open ua (Kn Vl OwnK RwK)
open sl (hide unhide grown_refl grown_trans)
set_option linter.unusedVariables false
structure Cl (P : World → Prop) (lo hi : Nat) : Prop where
 al : ∀ w w', P w → w.grownBy w' none → P w'
 st : ∀ w c i u cs t fz, P w → w.heap[c]? = some (.cells cs t fz) → (3 : Nat) ≠ t → (c < lo ∨ hi ≤ c) → P (w.setCell ⟨c, i, none⟩ u)
def PS (L : List Kn) (vals : List Int) (lo hi : Nat) (w : World) (y z : Value) : Prop := RwK lo w y L ∧ (∀ k, y.ownBlock = some k → k < hi) ∧ Vl w z vals
def PI (L : List Kn) (vals : List Int) (lo hi : Nat) (w : World) (y z : Value) : Prop := ∃ mid, lo ≤ mid ∧ mid ≤ hi ∧ sl.Own lo mid w z vals ∧ OwnK mid hi w y L
theorem outs_one (w : World) (c i : Nat) (u : Value) : Outs c (c + 1) w (w.setCell ⟨c, i, none⟩ u) := outs_by (sl.grown_setCell w c i u) (fun k e => by cases e; omega)
theorem kind_one {w : World} {c : Nat} {cs : Array Value} {t : TypeId} {fz : Nat × Nat} (h : w.heap[c]? = some (.cells cs t fz)) (ht : (3 : Nat) ≠ t) : ∀ k, c ≤ k → k < c + 1 → ∃ cs t fz, w.heap[k]? = some (.cells cs t fz) ∧ (3 : Nat) ≠ t := by
 intro k h1 h2
 obtain rfl : k = c := by omega
 exact ⟨_, _, _, h, ht⟩
theorem clS (L : List Kn) (vals : List Int) (lo hi : Nat) (y z : Value) : Cl (fun w => PS L vals lo hi w y z) lo hi := by
 refine ⟨fun w w' h g => ⟨h.1.kept g, h.2.1, h.2.2.kept g⟩, fun w c i u cs t fz h hc ht d => ?_⟩
 obtain ⟨⟨D, e, ho, hv⟩, hb, hz⟩ := h
 have o := outs_one w c i u
 exact ⟨⟨D, e, ua.row_outs ho hb o (by omega), fun p hp => (hv p hp).outs o (kind_one hc ht)⟩, hb, hz.outs o (kind_one hc ht)⟩
theorem clI (L : List Kn) (vals : List Int) (lo hi : Nat) (y z : Value) : Cl (fun w => PI L vals lo hi w y z) lo hi := by
 refine ⟨fun w w' h g => ?_, fun w c i u cs t fz h hc ht d => ?_⟩
 ·obtain ⟨mid, h1, h2, h3, h4⟩ := h
  exact ⟨mid, h1, h2, h3.kept g, h4.kept g⟩
 ·obtain ⟨mid, h1, h2, h3, h4⟩ := h
  have o := outs_one w c i u
  exact ⟨mid, h1, h2, css.own_outs h3 o (by omega), h4.outs o (by omega)⟩
theorem int_ne : (3 : Nat) ≠ 30 ∧ (3 : Nat) ≠ 36 := by decide
theorem Cl.setC {P : World → Prop} {lo hi : Nat} (h : Cl P lo hi) {w : World} {c i : Nat} {x y u : Value} (hp : P w) (b : Box 30 w c x y) (d : c < lo ∨ hi ≤ c) : P (w.setCell ⟨c, i, none⟩ u) := h.st w c i u _ _ _ hp b int_ne.1 d
theorem Cl.setK {P : World → Prop} {lo hi : Nat} (h : Cl P lo hi) {w : World} {c i : Nat} {x y z q u : Value} (hp : P w) (b : Box4 36 w c x y z q) (d : c < lo ∨ hi ≤ c) : P (w.setCell ⟨c, i, none⟩ u) := h.st w c i u _ _ _ hp b int_ne.2 d
def Cc (P : Nat → Nat → World → Value → Value → Prop) (W1 wx : World) (p q : Value) (room : Int) (dg : ByteArray) (sat : Bool) (cost : Int) : Prop :=
 ∃ c k y z lo hi, p = .pointer (some ⟨c, 0, none⟩) ∧ q = .pointer (some ⟨k, 0, none⟩) ∧ Box 30 wx c (.int .i64 room) y ∧ Box4 36 wx k (.string dg) (.bool sat) z (.int .i64 cost) ∧ P lo hi wx y z ∧ W1.grownBy wx none ∧ W1.heap.size ≤ c ∧ W1.heap.size ≤ k ∧ W1.heap.size ≤ lo ∧ hi ≤ wx.heap.size ∧ (∀ lo hi y z, Cl (fun w => P lo hi w y z) lo hi)
section
variable {P : Nat → Nat → World → Value → Value → Prop} {W1 w3 : World} {room : Int} {dg : ByteArray} {sat : Bool} {cost : Int} {lo hi : Nat} {y z : Value}
theorem cc_ck (cl : ∀ lo hi y z, Cl (fun w => P lo hi w y z) lo hi) (hp : P lo hi w3 y z) (g : W1.grownBy w3 none) (hlo : W1.heap.size ≤ lo) (hhi : hi ≤ w3.heap.size) :
  Cc P W1 ((w3.alloc (.cells #[.int .i64 room, y] 30)).alloc (.cells #[.string dg, .bool sat, z, .int .i64 cost] 36)) (.pointer (some ⟨w3.heap.size, 0, none⟩)) (.pointer (some ⟨w3.heap.size + 1, 0, none⟩)) room dg sat cost := by
 have a := fun (W : World) o => World.grownBy_alloc W o none
 have q := Box4.new 36 (w3.alloc (.cells #[.int .i64 room, y] 30)) (.string dg) (.bool sat) z (.int .i64 cost)
 rw [World.size_alloc] at q
 have s := g.size
 refine ⟨_, _, y, z, lo, hi, rfl, rfl, (Box.new _ _ _ _).kept (a _ _), q, (cl _ _ _ _).al _ _ hp (grown_trans (a _ _) (a _ _)), grown_trans g (grown_trans (a _ _) (a _ _)), s, by omega, hlo, ?_, cl⟩
 simp only [World.size_alloc]
 omega
theorem cc_kc (cl : ∀ lo hi y z, Cl (fun w => P lo hi w y z) lo hi) (hp : P lo hi w3 y z) (g : W1.grownBy w3 none) (hlo : W1.heap.size ≤ lo) (hhi : hi ≤ w3.heap.size) :
  Cc P W1 ((w3.alloc (.cells #[.string dg, .bool sat, z, .int .i64 cost] 36)).alloc (.cells #[.int .i64 room, y] 30)) (.pointer (some ⟨w3.heap.size + 1, 0, none⟩)) (.pointer (some ⟨w3.heap.size, 0, none⟩)) room dg sat cost := by
 have a := fun (W : World) o => World.grownBy_alloc W o none
 have q := Box.new 30 (w3.alloc (.cells #[.string dg, .bool sat, z, .int .i64 cost] 36)) (.int .i64 room) y
 rw [World.size_alloc] at q
 have s := g.size
 refine ⟨_, _, y, z, lo, hi, rfl, rfl, q, (Box4.new _ _ _ _ _ _).kept (a _ _), (cl _ _ _ _).al _ _ hp (grown_trans (a _ _) (a _ _)), grown_trans g (grown_trans (a _ _) (a _ _)), by omega, s, hlo, ?_, cl⟩
 simp only [World.size_alloc]
 omega
theorem cc_set (cl : ∀ lo hi y z, Cl (fun w => P lo hi w y z) lo hi) {c k : Nat} {x0 y0 a0 b0 p0 q0 : Value} (bc : Box 30 w3 c x0 y0) (bk : Box4 36 w3 k a0 b0 p0 q0) (hp : P lo hi w3 y z) (g : W1.grownBy w3 none) (hlo : W1.heap.size ≤ lo) (hhi : hi ≤ w3.heap.size)
  (hc : c < lo ∨ hi ≤ c) (hk : k < lo ∨ hi ≤ k) (h1 : W1.heap.size ≤ c) (h2 : W1.heap.size ≤ k) (n : c ≠ k) :
  Cc P W1 ((((((w3.setCell ⟨c, 0, none⟩ (.int .i64 room)).setCell ⟨c, 1, none⟩ y).setCell ⟨k, 0, none⟩ (.string dg)).setCell ⟨k, 1, none⟩ (.bool sat)).setCell ⟨k, 2, none⟩ z).setCell ⟨k, 3, none⟩ (.int .i64 cost)) (.pointer (some ⟨c, 0, none⟩)) (.pointer (some ⟨k, 0, none⟩)) room dg sat cost := by
 have c1 := (bc.set0 (.int .i64 room)).set1 y
 have n' : k ≠ c := fun e => n e.symm
 have k0 := (bk.setO (i := 0) (u := .int .i64 room) n).setO (i := 1) (u := y) n
 have p1 := (cl lo hi y z).setC (i := 1) (u := y) ((cl lo hi y z).setC (i := 0) (u := .int .i64 room) hp bc hc) (bc.set0 _) hc
 have k1 := k0.set0 (.string dg)
 have k2 := k1.set1 (.bool sat)
 have k3 := k2.set2 z
 have p5 := (cl lo hi y z).setK (i := 3) (u := .int .i64 cost) ((cl lo hi y z).setK (i := 2) (u := z) ((cl lo hi y z).setK (i := 1) (u := .bool sat) ((cl lo hi y z).setK (i := 0) (u := .string dg) p1 k0 hk) k1 hk) k2 hk) k3 hk
 refine ⟨_, _, y, z, lo, hi, rfl, rfl, (((c1.setO n').setO n').setO n').setO n', k3.set3 _, p5, yb.grown_setA (cf.grown_set (cf.grown_set g h1) h1) h2, h1, h2, hlo, ?_, cl⟩
 simp only [cf.size_set]
 exact hhi
theorem cc_cn (cl : ∀ lo hi y z, Cl (fun w => P lo hi w y z) lo hi) {c : Nat} {x0 y0 a0 b0 p0 q0 : Value} (bc : Box 30 w3 c x0 y0) (hp : P lo hi w3 y z) (g : W1.grownBy w3 none) (hlo : W1.heap.size ≤ lo) (hhi : hi ≤ w3.heap.size)
  (hc : c < lo ∨ hi ≤ c) (h1 : W1.heap.size ≤ c) :
  Cc P W1 (((((((w3.alloc (.cells #[a0, b0, p0, q0] 36)).setCell ⟨c, 0, none⟩ (.int .i64 room)).setCell ⟨c, 1, none⟩ y).setCell ⟨w3.heap.size, 0, none⟩ (.string dg)).setCell ⟨w3.heap.size, 1, none⟩ (.bool sat)).setCell ⟨w3.heap.size, 2, none⟩ z).setCell ⟨w3.heap.size, 3, none⟩ (.int .i64 cost)) (.pointer (some ⟨c, 0, none⟩)) (.pointer (some ⟨w3.heap.size, 0, none⟩)) room dg sat cost := by
 have a := World.grownBy_alloc w3 (.cells #[a0, b0, p0, q0] 36) none
 have s := g.size
 have l := bc.lt
 exact cc_set cl (bc.kept a) (Box4.new _ _ _ _ _ _) ((cl _ _ _ _).al _ _ hp a) (grown_trans g a) hlo (Nat.le_trans hhi a.size) hc (.inr hhi) h1 s (by omega)
theorem cc_nk (cl : ∀ lo hi y z, Cl (fun w => P lo hi w y z) lo hi) {k : Nat} {a0 b0 p0 q0 : Value} (bk : Box4 36 w3 k a0 b0 p0 q0) (hp : P lo hi w3 y z) (g : W1.grownBy w3 none) (hlo : W1.heap.size ≤ lo) (hhi : hi ≤ w3.heap.size)
  (hk : k < lo ∨ hi ≤ k) (h2 : W1.heap.size ≤ k) :
  Cc P W1 (((((w3.alloc (.cells #[.int .i64 room, y] 30)).setCell ⟨k, 0, none⟩ (.string dg)).setCell ⟨k, 1, none⟩ (.bool sat)).setCell ⟨k, 2, none⟩ z).setCell ⟨k, 3, none⟩ (.int .i64 cost)) (.pointer (some ⟨w3.heap.size, 0, none⟩)) (.pointer (some ⟨k, 0, none⟩)) room dg sat cost := by
 have a := World.grownBy_alloc w3 (.cells #[.int .i64 room, y] 30) none
 have s := g.size
 have l := bk.lt
 have n' : k ≠ w3.heap.size := by omega
 have c1 := Box.new 30 w3 (.int .i64 room) y
 have k0 := bk.kept a
 have k1 := k0.set0 (.string dg)
 have k2 := k1.set1 (.bool sat)
 have k3 := k2.set2 z
 have p5 := (cl lo hi y z).setK (i := 3) (u := .int .i64 cost) ((cl lo hi y z).setK (i := 2) (u := z) ((cl lo hi y z).setK (i := 1) (u := .bool sat) ((cl lo hi y z).setK (i := 0) (u := .string dg) ((cl lo hi y z).al _ _ hp a) k0 hk) k1 hk) k2 hk) k3 hk
 refine ⟨_, _, y, z, lo, hi, rfl, rfl, (((c1.setO n').setO n').setO n').setO n', k3.set3 _, p5, yb.grown_setA (grown_trans g a) h2, s, h2, hlo, ?_, cl⟩
 simp only [cf.size_set]
 exact Nat.le_trans hhi a.size
end
def FndP (P : Nat → Nat → World → Value → Value → Prop) (room : Int) (dg : ByteArray) (sat : Bool) (cost : Int) (nl nv : Nat) (b : Bool) (w : World) (e : Ending) (w' : World) : Prop :=
 ∃ ua uc va vc, e = .returned (.tuple #[.agg #[.int .i64 room, .slice ua nl uc], .agg #[.string dg, .bool sat, .slice va nv vc, .int .i64 cost], .bool b]) ∧ P w.heap.size w'.heap.size w' (.slice ua nl uc) (.slice va nv vc) ∧ w.grownBy w' none
theorem fndS {w w' : World} {room : Int} {KK : List Kn} {d : ByteArray} {e : Ending} (h : ua.FindS w room KK d e w') : FndP (PS (ua.fndL room KK d) (ua.fndK room KK d).vals) room (ua.fndK room KK d).dg (ua.fndK room KK d).sat (ua.fndK room KK d).cost (ua.fndL room KK d).length (ua.fndK room KK d).vals.length (ua.fndB room KK d) w e w' := by
 obtain ⟨u, v, he, hv, hu, g⟩ := h
 obtain ⟨a, c, rfl⟩ := hu.len
 obtain ⟨a2, c2, rfl, _⟩ := hv.sl
 exact ⟨a, c, a2, c2, he, ⟨hu, fun k e => (hu.lo k e).2, hv⟩, g⟩
theorem fndI {w w' : World} {room : Int} {KK : List Kn} {d : ByteArray} {e : Ending} (h : ua.FindE w room KK d e w') : FndP (PI (ua.fndL room KK d) (ua.fndK room KK d).vals) room (ua.fndK room KK d).dg (ua.fndK room KK d).sat (ua.fndK room KK d).cost (ua.fndL room KK d).length (ua.fndK room KK d).vals.length (ua.fndB room KK d) w e w' := by
 obtain ⟨u, v, mid, he, h1, h2, hv, hu, g⟩ := h
 obtain ⟨a, c, rfl⟩ := hu.len
 obtain ⟨a2, c2, rfl, _⟩ := hv.sl
 exact ⟨a, c, a2, c2, he, ⟨mid, h1, h2, hv, hu⟩, g⟩
def LkS (w : World) (room : Int) (K : Kn) (L : List Kn) (b : Bool) (e : Ending) (w' : World) : Prop := ∃ u v, e = .returned (.tuple #[.agg #[.int .i64 room, u], .agg #[.string K.dg, .bool K.sat, v, .int .i64 K.cost], .bool b]) ∧ Vl w' v K.vals ∧ RwK w.heap.size w' u L ∧ w.grownBy w' none
def LkE (w : World) (room : Int) (K : Kn) (L : List Kn) (b : Bool) (e : Ending) (w' : World) : Prop := ∃ u v mid, e = .returned (.tuple #[.agg #[.int .i64 room, u], .agg #[.string K.dg, .bool K.sat, v, .int .i64 K.cost], .bool b]) ∧ w.heap.size ≤ mid ∧ mid ≤ w'.heap.size ∧ sl.Own w.heap.size mid w' v K.vals ∧ OwnK mid w'.heap.size w' u L ∧ w.grownBy w' none
theorem lkS_P {w w' : World} {room : Int} {K : Kn} {L : List Kn} {b : Bool} {e : Ending} (h : LkS w room K L b e w') : FndP (PS L K.vals) room K.dg K.sat K.cost L.length K.vals.length b w e w' := by
 obtain ⟨u, v, he, hv, hu, g⟩ := h
 obtain ⟨a, c, rfl⟩ := hu.len
 obtain ⟨a2, c2, rfl, _⟩ := hv.sl
 exact ⟨a, c, a2, c2, he, ⟨hu, fun k e => (hu.lo k e).2, hv⟩, g⟩
theorem lkE_P {w w' : World} {room : Int} {K : Kn} {L : List Kn} {b : Bool} {e : Ending} (h : LkE w room K L b e w') : FndP (PS L K.vals) room K.dg K.sat K.cost L.length K.vals.length b w e w' := by
 obtain ⟨u, v, mid, he, h1, h2, hv, hu, g⟩ := h
 obtain ⟨a, c, rfl⟩ := hu.len
 obtain ⟨a2, c2, rfl, _⟩ := hv.sl
 exact ⟨a, c, a2, c2, he, ⟨hu.rwk.sub h1, hu.hi, ⟨_, _, hv⟩⟩, g⟩
theorem sum_len (s : ByteArray) : (zo.sumT s).length = 32 ∨ (zo.sumT s).length = 0 := by
 unfold zo.sumT
 split
 ·unfold zo.sumL
  rw [zo.out4_length]
  exact .inl rfl
 ·exact .inr rfl
theorem dig_size (n : Int) (LL : List (List Int)) : (dgA n LL).size = 32 ∨ (dgA n LL).size = 0 := by
 have e : (dgA n LL).size = (da.digT n LL).length := by
  unfold dgA
  simp [ByteArray.size]
 rw [e]
 unfold da.digT
 split
 ·exact sum_len _
 ·exact .inr rfl
theorem dg_max (n : Int) (LL : List (List Int)) : (dgA n LL).size ≤ maxLen := by
 have h := dig_size n LL
 unfold maxLen
 omega
theorem ask_dg (n : Int) (LL : List (List Int)) : (askK n LL).dg.size ≤ maxLen := by
 unfold askK
 split
 ·exact dg_max n LL
 ·exact Nat.zero_le _
theorem lk_tot (room : Int) (KK : List Kn) (n : Int) (LL : List (List Int)) (h : ua.tot KK ≤ 1048576) : ua.tot (lkL room KK n LL) ≤ 1048640 ∧ (∀ i, ((lkL room KK n LL).getD i ua.kz).vals.length ≤ 1048576) ∧ (lkK room KK n LL).vals.length ≤ 1048576 := by
 have hv := ask_vals n LL
 have hd : (askK n LL).dg.size ≤ 32 := by
  unfold askK
  split
  ·have := dig_size n LL
   show (dgA n LL).size ≤ 32
   omega
  ·exact Nat.zero_le _
 unfold lkL lkK
 split
 ·have h1 := ua.tot_fnd room KK (dgA n LL)
  have h2 := ua.vals_fnd room KK (dgA n LL)
  refine ⟨by omega, fun i => ?_, by omega⟩
  have h3 := ua.tot_vals (ua.fndL room KK (dgA n LL)) i
  omega
 ·split
  ·have h1 := ua.tot_put room KK (askK n LL)
   unfold ua.wt at h1
   refine ⟨by omega, fun i => ?_, by omega⟩
   rename_i q1 q2
   by_cases hi : i < (ua.putK room KK (askK n LL)).length
   ·rw [show (ua.putK room KK (askK n LL)).getD i ua.kz = (ua.putK room KK (askK n LL))[i] by simp [hi]]
    rcases ua.mem_put (List.getElem_mem hi) with e | e
    ·rw [e]; omega
    ·have := ua.vals_mem e; omega
   ·rw [ua.getD_out _ _ (by omega)]
    exact Nat.zero_le _
  ·refine ⟨by omega, fun i => ?_, Nat.zero_le _⟩
   have h3 := ua.tot_vals KK i
   omega
end Go.Proofs.YtnlllcgcaddhmaaGreatDoor.an
