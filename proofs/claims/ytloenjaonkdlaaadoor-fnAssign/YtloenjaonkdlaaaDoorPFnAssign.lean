/- Whatever the bytes that a list of values is drawn from, the law FnAssign returns true: an assignment comes back from its text, of which each literal is true there, and from no other number of variables; the library's tables and errors lie as their text lays them (tied). -/
import Derived.Test.YtloenjaonkdlaaaDoorCards
import Derived.Test.YtloenjaonkdlaaaDoorTie
import Derived.Test.YtloenjaonkdlaaaDoorDv
import Derived.WalkKit
import Derived.ProofKit
import Derived.OpenShut
import Derived.ShutString
import Derived.ChangeOld
import Derived.Below
import Derived.Deep.DeepHandedRow
import Derived.Lib.LaidTab
import Derived.Lib.TrailingZeros
import Derived.Stop.LaidErr
import Derived.LaidHandle
import Derived.LaidSub
namespace Go.Proofs.YtloenjaonkdlaaaDoor.fnAssign
open Go.ChangeShapes Go.WideShapes Go.ChangeAt Go.RowKit
open Go.ChangeMaps (open_string shut_string)
set_option linter.unusedVariables false

theorem own : ownKnob Tryd.prog.godebug = none := by kernel_rfl
theorem laidOut : laidOutB Tryd.prog = true := by kernel_rfl

/-- what the walk is told of a slice of integers that came in -/
def IsRow (k : IntKind) (w : World) (a : Option Addr) (len cap : Nat) (zs : List Int) : Prop :=
  (a = none ∧ len = 0 ∧ cap = 0 ∧ zs = []) ∨
  ∃ x, a = some x ∧ len ≤ cap ∧ cap ≤ maxLen ∧ zs.length = cap ∧ (∀ i, i < zs.length → w.cell? (x.add i) = some (.int k (zs.getD i 0))) ∧ ∀ n ∈ zs, (Lit.int k n).wf = true

theorem gPowType : (Tryd.prog.globals[4]?).map (·.type) = some 196 := by kernel_rfl
theorem cellsPow : Tryd.prog.cellsOf 196 = 20 := by kernel_rfl
theorem cellsU64 : Tryd.prog.cellsOf 88 = 1 := by kernel_rfl
theorem laid_tail {P : Program} {W : World} {x : String × DataW Unit} {rest : List (String × DataW Unit)} (h : laidMet P (x :: rest) W) : laidMet P rest W := by
  obtain ⟨ps, hv, hn, hc⟩ := h
  obtain ⟨n, d⟩ := x
  obtain ⟨g, t, cs, fuel, p, q, _, _, _, _, hr, rfl⟩ := hv
  exact ⟨q, hr, (List.nodup_append.1 hn).2.1, fun b off hm => hc b off (List.mem_append_right _ hm)⟩
theorem powData : (Rows.laid_internal_strconv_uint64pow10 : DataW Unit) = Lib.tabData .u64 Lib.pow10Tab := by kernel_rfl
theorem star : "*" ++ "errors.errorString" = "*errors.errorString" := by decide
theorem rowErr (u : TypeId) (h : Tryd.prog.typeName? 3 u = some "*errors.errorString") : u = 192 :=
  typeName_ptr_named (nm := "errors.errorString") (by rw [star]; kernel_rfl) (by kernel_rfl) (by decide) u (by rw [star]; exact h)
theorem gSyntType : (Tryd.prog.globals[2]?).map (·.type) = some 116 := by kernel_rfl
theorem gRangType : (Tryd.prog.globals[3]?).map (·.type) = some 116 := by kernel_rfl
theorem cellsErr : Tryd.prog.cellsOf 194 = 1 := by kernel_rfl
theorem cellsStr : Tryd.prog.cellsOf 9 = 1 := by kernel_rfl
theorem var_lt {W : World} {n : String} {g : Nat} {cs : Array Value} (hg : Tryd.prog.globalNamed n = some g) (hv : W.var? Tryd.prog n = some cs) : g < W.heap.size := by
  unfold World.var? at hv
  rw [hg] at hv
  rcases Nat.lt_or_ge g W.heap.size with h' | h'
  · exact h'
  · simp [Array.getElem?_eq_none h'] at hv
/-- what the row's list, and the world's shape, give -/
theorem table {W : World} (h : laidMetH Tryd.prog Rows.fnAssignRow.laid W) (hSh : W.ShapedOpen Tryd.prog) : rd.Env W := by
  have h1 : laidMet Tryd.prog Rows.fnAssignRow.laid W := h
  have h2 := laid_tail (laid_tail h1)
  have h3 := laid_tail h2
  have h4 := laid_tail h3
  rw [powData] at h2
  have t : Lib.TabIs Tryd.prog W "internal/strconv.uint64pow10" .u64 Lib.pow10Tab :=
    Lib.tabIs_of_head txt.gPow gPowType Tryd.underlying196 Tryd.underlying88 cellsU64 cellsPow h2
  obtain ⟨a1, s1, hv1, _, _, _⟩ := laid_sentinel h3 rd.gRang gRangType Tryd.underlying116 rowErr Tryd.underlying192 Tryd.underlying194 rfl rfl Tryd.underlying9 cellsErr cellsStr
  obtain ⟨a2, s2, hv2, _, _, _⟩ := laid_sentinel h4 rd.gSynt gSyntType Tryd.underlying116 rowErr Tryd.underlying192 Tryd.underlying194 rfl rfl Tryd.underlying9 cellsErr cellsStr
  have hM := Tryd.laysM145.s1_3 W hSh
  have hMl : 0 < W.heap.size := by obtain ⟨m, hm⟩ := hM; exact World.block_lt_of_cell? W _ hm
  exact ⟨⟨World.block_lt_of_cell? W _ (t.cell txt.gPow 0 (by decide)), t⟩, ⟨var_lt rd.gRang hv1, var_lt rd.gSynt hv2, hMl⟩, ⟨_, _, hv2⟩, ⟨_, _, hv1⟩, hM⟩

theorem read_text {t : ByteArray} (h : rd.readB (rd.bytes t) = true) : dec.str (txt.text (rd.readL (rd.bytes t))) = .string t := by
  unfold rd.readB at h
  obtain ⟨L, hL⟩ := Option.isSome_iff_exists.1 h
  have e : rd.readL (rd.bytes t) = L := by unfold rd.readL; rw [hL]; rfl
  rw [e, (rd.read_sound hL).2]
  rfl
theorem text_read {L : List Int} (h : cls.okAll L = true) : rd.readB (rd.bytes ⟨(txt.text L).toArray⟩) = true ∧ rd.readL (rd.bytes ⟨(txt.text L).toArray⟩) = L := by
  have e : rd.bytes ⟨(txt.text L).toArray⟩ = txt.text L := rfl
  rw [e]
  unfold rd.readB rd.readL
  rw [rd.read_full h]
  exact ⟨rfl, rfl⟩
theorem text_ne {L : List Int} (h : cls.okAll L = true) : ((⟨(txt.text L).toArray⟩ : ByteArray).toList == []) = false := by
  have e : rd.bytes ⟨(txt.text L).toArray⟩ = txt.text L := rfl
  rw [rd.toList_bytes, e, txt.text_yes h]
  simp
theorem text_em {L : List Int} (h : cls.okAll L = false) : (⟨(txt.text L).toArray⟩ : ByteArray) = ⟨#[]⟩ := by
  rw [txt.text_no h]

/-! ### the walk -/
theorem walk (a0 : Option Addr) (len0 cap0 : Nat) (z0 : List Int) (w : World) (w0 : IsRow .u8 w a0 len0 cap0 z0) (hT : rd.Env w) :
    Calls Tryd.prog 3 #[.slice a0 len0 cap0] w fun e w' => e = .returned (.bool true) ∧ Below w.heap.size w w' := by
  have hB := draw.of_rowB w0
  have hm : len0 ≤ 9223372036854775807 := by
    rcases w0 with ⟨_, h, _, _⟩ | ⟨_, _, h1, h2, _⟩
    · omega
    · unfold maxLen at h2
      omega
  clear w0
  by_cases hbig : 1048576 < len0
  · have C := sl.hide (draw.big a0 len0 cap0 w hm)
    rw [decide_eq_true hbig] at C
    clear hT
    go_enter Tryd.func3, Tryd.ntmps3
    go_wp2_with fail
    refine (sl.unhide C).mono ?_; rintro e w' ⟨rfl, rfl⟩
    go_wp2_with fail
    go_ret
    exact ⟨rfl, Below.refl _ _⟩
  have C := sl.hide (draw.big a0 len0 cap0 w hm)
  rw [decide_eq_false hbig] at C
  have HB := sl.hide hB
  have TT := sl.hide hT
  have hlen : len0 ≤ 1048576 := by omega
  clear hB hT hbig
  go_enter Tryd.func3, Tryd.ntmps3
  go_wp2_with fail
  refine (sl.unhide C).mono ?_; rintro e w' ⟨rfl, hw⟩; have hw' := hw.symm; clear hw; subst hw'
  clear C hm
  go_wp2_with fail
  refine (dv.drawAssignText a0 len0 cap0 _ hlen (sl.unhide HB)).mono ?_; rintro e w1 ⟨v, X, rfl, hX26, m1⟩
  obtain ⟨xa, xc, rfl⟩ : ∃ xa xc, v = .slice xa X.length xc := by
    obtain ⟨xa, xc, e, _⟩ := sl.Sl.of_own m1.1
    exact ⟨xa, xc, e⟩
  have hX : X.length ≤ 1048576 := by omega
  have A1 := sl.hide (sl.Own.of m1.1)
  have G1 := sl.hide m1.2
  have way := dv.asText_nil X
  have hsz := dv.asText_size X
  have bk := fun h1 h2 => dv.back (A := X) h1 h2
  have CI := sl.hide (fun w1' (g : w1.grownBy w1' none) => as_.implAssignText (.slice xa X.length xc) X w1' (((sl.unhide TT).kept (sl.grown_trans (r := none) (sl.unhide G1) g)).1) hX ((sl.unhide A1).kept g).sl)
  have CS := sl.hide (fun w1' (g : w1.grownBy w1' none) => as_.specAssignText (.slice xa X.length xc) X w1' hX ((sl.unhide A1).kept g).sl)
  have CR := sl.hide (fun (t : List UInt8) (n : Int) w1' (g : w1.grownBy w1' none) (ht : t.length ≤ 1048576) => ra.implReadAssign ⟨t.toArray⟩ n w1' ((sl.unhide TT).kept (sl.grown_trans (r := none) (sl.unhide G1) g)) (by rw [rd.size_mk]; exact ht))
  have CC := sl.hide (fun (t : List UInt8) w1' (g : w1.grownBy w1' none) (ht : t.length ≤ 1048576) => rd.implReadClause ⟨t.toArray⟩ w1' ((sl.unhide TT).kept (sl.grown_trans (r := none) (sl.unhide G1) g)) (by rw [rd.size_mk]; exact ht))
  have CL := sl.hide (fun w1' (g : w1.grownBy w1' none) => dv.lawsLits (.slice xa X.length xc) X w1' hX ((sl.unhide A1).kept g).sl)
  clear m1
  generalize hT : as_.asText X = t at *
  clear hT
  have HSZ := sl.hide hsz
  have BK := sl.hide bk
  clear hsz bk
  unfold dec.str at CI CS
  rcases way with rfl | ⟨h24, hbits, hne⟩
  · go_wp2_with fail
    refine (sl.unhide CI w1 (sl.grown_refl _)).mono ?_; rintro e w2 ⟨rfl, g2⟩
    have G2 := sl.hide g2
    clear g2
    go_wp2_with fail
    refine (sl.unhide CS w2 (sl.unhide G2)).mono ?_; rintro e w3 ⟨rfl, g3⟩
    have G3 := sl.hide (sl.below_of (sl.grown_trans (r := none) (sl.unhide G1) (sl.grown_trans (r := none) (sl.unhide G2) g3)))
    clear g3
    go_wp2_with fail
    go_ret
    exact ⟨rfl, sl.unhide G3⟩
  · obtain ⟨b1, b2, b3, b4, b5⟩ := sl.unhide BK h24 hbits
    have r1 := fun w1' g => sl.unhide CR t (X.length : Int) w1' g (sl.unhide HSZ)
    have r2 := fun w1' g => sl.unhide CR t ((X.length : Int) + 1) w1' g (sl.unhide HSZ)
    have r3 := fun w1' g => sl.unhide CC t w1' g (sl.unhide HSZ)
    rw [rd.bytes_mk, b3, b4] at r1
    rw [rd.bytes_mk, b5, ra.ra_no b5] at r2
    rw [rd.bytes_mk, b1, b2] at r3
    have hnil : (t == ([] : List UInt8)) = false := by simpa using hne
    have R1 := sl.hide r1
    have R2 := sl.hide r2
    have R3 := sl.hide r3
    have hTl : (as_.tl 0 X).length ≤ 1048576 := by rw [as_.tl_len]; exact hX
    clear r1 r2 r3 b1 b2 b3 b4 b5 CR CC BK hne hbits
    generalize as_.tl 0 X = L at *
    go_wp2_with fail
    refine (sl.unhide CI w1 (sl.grown_refl _)).mono ?_; rintro e w2 ⟨rfl, g2⟩
    have G2 := sl.hide g2
    clear g2 CI
    go_wp2_with fail
    refine (sl.unhide CS w2 (sl.unhide G2)).mono ?_; rintro e w3 ⟨rfl, g3⟩
    have G3 := sl.hide (sl.grown_trans (r := none) (sl.unhide G2) g3)
    clear g3 G2 CS
    go_wp2_with fail
    refine (sl.unhide R1 w3 (sl.unhide G3)).mono ?_; rintro e w4 ⟨u4, rfl, m4⟩
    obtain ⟨ya, yc, rfl⟩ : ∃ ya yc, u4 = .slice ya X.length yc := by
      obtain ⟨ya, yc, e, _⟩ := sl.Sl.of_own m4.1
      exact ⟨ya, yc, e⟩
    have B4 := sl.hide (sl.Own.of m4.1)
    have G4 := sl.hide (sl.grown_trans (r := none) (sl.unhide G3) m4.2)
    clear m4 G3 R1
    go_wp2_with fail
    refine (sl.unhide R3 w4 (sl.unhide G4)).mono ?_; rintro e w5 ⟨u5, rfl, m5⟩
    obtain ⟨za, zc, rfl⟩ : ∃ za zc, u5 = .slice za L.length zc := by
      obtain ⟨ya, yc, e, _⟩ := sl.Sl.of_own m5.1
      exact ⟨ya, yc, e⟩
    have D5 := sl.hide (sl.Own.of m5.1)
    have B5 := sl.hide ((sl.unhide B4).kept m5.2)
    have G5 := sl.hide (sl.grown_trans (r := none) (sl.unhide G4) m5.2)
    clear m5 G4 B4 R3
    go_wp2_with fail
    refine (sl.unhide R2 w5 (sl.unhide G5)).mono ?_; rintro e w6 ⟨u6, rfl, m6⟩
    obtain ⟨qa, qc, rfl⟩ : ∃ ya yc, u6 = .slice ya 0 yc := by
      obtain ⟨ya, yc, e, _⟩ := sl.Sl.of_own m6.1
      exact ⟨ya, yc, e⟩
    have D6 := sl.hide ((sl.unhide D5).kept m6.2)
    have B6 := sl.hide ((sl.unhide B5).kept m6.2)
    have G6 := sl.hide (sl.grown_trans (r := none) (sl.unhide G5) m6.2)
    clear m6 G5 B5 D5 R2
    go_wp2_with fail
    refine (dcls.sameC _ _ X _ hX (sl.unhide B6).sl ((sl.unhide A1).kept (sl.unhide G6)).sl).mono ?_; rintro e w7 ⟨rfl, g7⟩
    have D7 := sl.hide ((sl.unhide D6).kept g7)
    have G7 := sl.hide (sl.grown_trans (r := none) (sl.unhide G6) g7)
    clear g7 G6 B6 D6
    go_wp2_with fail
    refine (sl.unhide CL w7 (sl.unhide G7)).mono ?_; rintro e w8 ⟨u8, rfl, m8⟩
    have D8 := sl.hide ((sl.unhide D7).kept m8.2)
    have E8 := sl.hide (sl.Own.of m8.1)
    have G8 := sl.hide (sl.grown_trans (r := none) (sl.unhide G7) m8.2)
    clear m8 G7 D7 CL
    go_wp2_with fail
    refine (dcls.sameC _ _ L _ hTl (sl.unhide D8).sl (sl.unhide E8).sl).mono ?_; rintro e w9 ⟨rfl, g9⟩
    have G9 := sl.hide (sl.below_of (sl.grown_trans (r := none) (sl.unhide G1) (sl.grown_trans (r := none) (sl.unhide G8) g9)))
    clear g9 G8 D8 E8
    go_wp2_with fail
    go_ret
    exact ⟨rfl, sl.unhide G9⟩

/-! ### the row's step (the guide's own frame) -/
set_option maxRecDepth 100000 in
theorem contract (H : Type) (enc : TypeId × Value → H) (W : World) (base : Nat) (args : Array Value) (ds gs : List (DataW H)) (before : List MemPlace)
    (hval : ∀ (j : Nat) t v, Tryd.f3.params[j]? = some t → args[j]? = some v → Value.okWide Tryd.prog W .any base t v)
    (hW : DataW.Whole enc Tryd.prog Tryd.f3.params.toList Rows.fnAssignSpec.vars false W args.toList ds gs before) (hL : laidMetH Tryd.prog Rows.fnAssignRow.laid W) (hSh : W.ShapedOpen Tryd.prog) :
    Calls Tryd.prog 3 args W fun e W' => ∃ v, e = .returned v ∧ Rows.fnAssignSpec.post enc Tryd.prog Tryd.f3 false true false false W args v W' := by
  have hW' := hW
  obtain ⟨p, q, hA0, hV, rfl, hfz, hnd⟩ := hW
  have hA : DataW.TrodAll enc Tryd.prog W 0 (fun _ => true) true Tryd.f3.params.toList args.toList ds p := hA0
  rw [Tryd.params3] at hA hval
  obtain ⟨v0, vs0, d0, ds0, p0, q0, hargs, rfl, rfl, h0, r0⟩ := trodAll_cons hA
  obtain ⟨rfl, rfl, rfl⟩ := trodAll_nil r0
  obtain rfl : args = #[v0] := by cases args; simp_all
  obtain ⟨rfl, rfl⟩ := trodVars_none hV
  obtain ⟨a0, len0, cap0, rfl⟩ := okWide_slice Tryd.underlying22 (hval 0 22 v0 rfl rfl)
  have k0 := h0
  have lt0 : ∀ x ∈ p0, x.block < W.heap.size := by obtain ⟨m, hm⟩ := k0; exact DataW.trod_lt m _ _ _ hm
  obtain ⟨z0, w0⟩ : ∃ zs, IsRow .u8 W a0 len0 cap0 zs := by
    obtain ⟨fuel, hf⟩ := h0
    rcases open_ints Tryd.underlying22 Tryd.underlying5 (by kernel_rfl) hf with ⟨hcs, _⟩ | ⟨x, l, c, zs, hcs, _, hl, hm, hz, _, hcell, hwz⟩
    · simp [Value.cells] at hcs
      obtain ⟨rfl, rfl, rfl⟩ := hcs
      exact ⟨[], .inl ⟨rfl, rfl, rfl, rfl⟩⟩
    · simp [Value.cells] at hcs
      obtain ⟨rfl, rfl, rfl⟩ := hcs
      exact ⟨zs, .inr ⟨_, rfl, hl, hm, by simpa using hz, hcell, hwz⟩⟩
  clear hA0
  refine (walk a0 len0 cap0 z0 W w0 (table hL hSh)).mono fun e W' ⟨he, bel⟩ => ?_
  subst he
  exact ⟨_, rfl, _, _, _, [], _, [], hW', trodAll_mk1 (shut_bool Tryd.underlying4 _), (trodAll_cons_mk (Below.trod laidOut (by kernel_rfl) (of_decide_eq_true (by kernel_rfl)) k0 bel lt0) trodAll_mk0), rfl, bel.frame _, fun h => by cases h⟩

set_option maxRecDepth 100000 in
theorem lifted (os : Os) (started : os.Started) (H : Type) (enc : TypeId × Value → H) (F : Stop.Interp) :
    ReturnsInHanded {} Tryd.checked os 3 .any ((OpenSpec.ofChange Rows.fnAssignSpec).preRow enc Tryd.prog Tryd.f3 Rows.fnAssignRow.domain false Rows.fnAssignRow.laid) (((OpenSpec.ofChange Rows.fnAssignSpec).at F).post enc Tryd.prog Tryd.f3 false true false false) := by
  refine returnsInHanded_of_row (C := Tryd.checked) (s := OpenSpec.ofChange Rows.fnAssignSpec) own started (by kernel_rfl) Tryd.func3
    (witness_row_at (enc := enc) (C := Tryd.checked) false ({ (World.holding Tryd.prog os ⟨#[.cells #[.string ⟨#[118, 97, 108, 117, 101, 32, 111, 117, 116, 32, 111, 102, 32, 114, 97, 110, 103, 101]⟩] 194, .cells #[.string ⟨#[105, 110, 118, 97, 108, 105, 100, 32, 115, 121, 110, 116, 97, 120]⟩] 194], #[], []⟩) with heap := ((((((World.holding Tryd.prog os ⟨#[.cells #[.string ⟨#[118, 97, 108, 117, 101, 32, 111, 117, 116, 32, 111, 102, 32, 114, 97, 110, 103, 101]⟩] 194, .cells #[.string ⟨#[105, 110, 118, 97, 108, 105, 100, 32, 115, 121, 110, 116, 97, 120]⟩] 194], #[], []⟩).heap.modify 5 fun | .cells _ t frozen => .cells (Lib.deBruijn32tab.map fun (n : Nat) => Value.int .u8 n).toArray t frozen | o => o).modify 1 fun | .cells _ t frozen => .cells (Lib.deBruijn64tab.map fun (n : Nat) => Value.int .u8 n).toArray t frozen | o => o).modify 4 fun | .cells _ t frozen => .cells (Lib.pow10Tab.map fun n => Value.int .u64 n).toArray t frozen | o => o).modify 3 fun | .cells _ t frozen => .cells #[.iface 192 (.pointer (some ⟨(World.holding Tryd.prog default ⟨#[], #[], []⟩).heap.size, 0, none⟩))] t frozen | o => o).modify 2 fun | .cells _ t frozen => .cells #[.iface 192 (.pointer (some ⟨(World.holding Tryd.prog default ⟨#[], #[], []⟩).heap.size + 1, 0, none⟩))] t frozen | o => o) } : World) #[.slice none 0 0] rfl (by kernel_rfl) (by kernel_rfl) (by kernel_rfl)
      (OpenSpec.preRow_of_cond 8 (x := ([.nil], [], [])) (by kernel_rfl) (by kernel_rfl) (fun k hk => by cases hk) (by kernel_rfl) (laidMet_of_run' 8 (by kernel_rfl) (by kernel_rfl)))) ?_
  intro W base args ds gs before hval hW _ _ _ hL hSh _
  exact contract H enc W base args ds gs before hval hW hL hSh

theorem said : Rows.FnAssignSaid :=
  OpenClaim.holds_of_cond 3 Tryd.f3 rfl rfl rfl rfl rfl rfl rfl ⟨rfl, rfl, rfl, rfl, rfl⟩ rfl rfl rfl rfl rfl (by kernel_rfl) Tryd.func3 (by kernel_rfl)
    (of_decide_eq_true (by kernel_rfl)) (by unfold Func.isWrapper; first | (rw [if_pos (by decide +kernel)]; kernel_rfl) | (rw [if_neg (by decide +kernel)]; exact ⟨rfl, rfl⟩))
    (fun os started H enc _ F => by rw [OpenClaim.pre_eq_preRow]; exact lifted os started H enc F)

theorem plain (f : FuncId) (fn : Func) (hf : Tryd.pinned.checked.prog.funcNamed "loop.example/g00123/laws.FnAssign" = some f) (hfn : Tryd.pinned.checked.prog.funcs[f]? = some fn) :
    true = Tryd.pinned.checked.prog.looks [] ∧ ∀ (j : Nat) t, fn.params[j]? = some t → Tryd.pinned.checked.prog.wantsStandIn t = false := by
  obtain rfl : f = 3 := Option.some.inj ((show Tryd.prog.funcNamed "loop.example/g00123/laws.FnAssign" = some 3 by kernel_rfl).symm.trans hf) |>.symm
  obtain rfl : fn = Tryd.f3 := (Option.some.inj (Tryd.func3.symm.trans hfn)).symm
  refine ⟨by kernel_rfl, fun j t ht => ?_⟩
  rw [Tryd.params3] at ht
  obtain rfl : t = 22 := by simpa using Array.mem_of_getElem? ht
  exact (show Tryd.prog.wantsStandIn 22 = false by kernel_rfl)

/-- the statement: the row's tied card -/
theorem proved : Rows.FnAssignCardSaid :=
  Claim7.holds_tied_plain_at .later [] _ _ _ _ said (fun _ h => by cases h) (by kernel_rfl) (fun _ h => by cases h) fnAssign_row_tie rfl ⟨rfl, rfl⟩ (by kernel_rfl) rfl plain (by kernel_rfl)
#print axioms proved
end Go.Proofs.YtloenjaonkdlaaaDoor.fnAssign
