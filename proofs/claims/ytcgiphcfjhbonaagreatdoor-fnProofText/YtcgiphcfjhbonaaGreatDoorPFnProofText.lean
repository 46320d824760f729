/- At every code the law FnProofText returns true: a proof that is drawn comes back from its text, and a text that is drawn is read just where it is the text of a proof, which is the one that is read; no condition. -/
import Derived.Test.YtcgiphcfjhbonaaGreatDoorCards
import Derived.Test.YtcgiphcfjhbonaaGreatDoorTie
import Derived.Test.YtcgiphcfjhbonaaGreatDoorJPd
import Derived.Test.YtcgiphcfjhbonaaGreatDoorJPr
import Derived.WalkKit
import Derived.ProofKit
import Derived.OpenShut
import Derived.ShutString
import Derived.ChangeOld
import Derived.Below
import Derived.Deep.DeepHandedRow
import Derived.Lib.LaidTab
import Derived.Lib.TrailingZeros
import Derived.Stop.LaidErr
import Derived.Stop.LaidTwo
import Derived.LaidHandle
import Derived.LaidSub
namespace Go.Proofs.YtcgiphcfjhbonaaGreatDoor.fnProofText
open Go.ChangeShapes Go.WideShapes Go.ChangeAt Go.RowKit
open Go.ChangeMaps (open_string shut_string)
set_option linter.unusedVariables false

theorem own : ownKnob Tryz.prog.godebug = none := by kernel_rfl
theorem laidOut : laidOutB Tryz.prog = true := by kernel_rfl

/-- what the walk is told of a slice of integers that came in -/
def IsRow (k : IntKind) (w : World) (a : Option Addr) (len cap : Nat) (zs : List Int) : Prop :=
  (a = none ∧ len = 0 ∧ cap = 0 ∧ zs = []) ∨
  ∃ x, a = some x ∧ len ≤ cap ∧ cap ≤ maxLen ∧ zs.length = cap ∧ (∀ i, i < zs.length → w.cell? (x.add i) = some (.int k (zs.getD i 0))) ∧ ∀ n ∈ zs, (Lit.int k n).wf = true

theorem gPowType : (Tryz.prog.globals[10]?).map (·.type) = some 266 := by kernel_rfl
theorem cellsPow : Tryz.prog.cellsOf 266 = 20 := by kernel_rfl
theorem cellsU64 : Tryz.prog.cellsOf 156 = 1 := by kernel_rfl
theorem laid_tail {P : Program} {W : World} {x : String × DataW Unit} {rest : List (String × DataW Unit)} (h : laidMet P (x :: rest) W) : laidMet P rest W := by
  obtain ⟨ps, hv, hn, hc⟩ := h
  obtain ⟨n, d⟩ := x
  obtain ⟨g, t, cs, fuel, p, q, _, _, _, _, hr, rfl⟩ := hv
  exact ⟨q, hr, (List.nodup_append.1 hn).2.1, fun b off hm => hc b off (List.mem_append_right _ hm)⟩
theorem powData : (Rows.laid_internal_strconv_uint64pow10 : DataW Unit) = Lib.tabData .u64 Lib.pow10Tab := by kernel_rfl
theorem star : "*" ++ "errors.errorString" = "*errors.errorString" := by decide
theorem rowErr (u : TypeId) (h : Tryz.prog.typeName? 3 u = some "*errors.errorString") : u = 271 :=
  typeName_ptr_named (nm := "errors.errorString") (by rw [star]; kernel_rfl) (by kernel_rfl) (by decide) u (by rw [star]; exact h)
theorem gSyntType : (Tryz.prog.globals[7]?).map (·.type) = some 68 := by kernel_rfl
theorem gRangType : (Tryz.prog.globals[8]?).map (·.type) = some 68 := by kernel_rfl
theorem cellsErr : Tryz.prog.cellsOf 273 = 1 := by kernel_rfl
theorem cellsStr : Tryz.prog.cellsOf 9 = 1 := by kernel_rfl
theorem var_lt {W : World} {n : String} {g : Nat} {cs : Array Value} (hg : Tryz.prog.globalNamed n = some g) (hv : W.var? Tryz.prog n = some cs) : g < W.heap.size := by
  unfold World.var? at hv
  rw [hg] at hv
  rcases Nat.lt_or_ge g W.heap.size with h' | h'
  · exact h'
  · simp [Array.getElem?_eq_none h'] at hv
/-- what the row's list, and the world's shape, give -/
theorem table {W : World} (h : laidMetH Tryz.prog Rows.fnProofTextRow.laid W) (hSh : W.ShapedOpen Tryz.prog) : rd.Env W := by
  have h1 : laidMet Tryz.prog Rows.fnProofTextRow.laid W := h
  have h2 := laid_tail (laid_tail h1)
  have h3 := laid_tail h2
  have h4 := laid_tail h3
  rw [powData] at h2
  have t : Lib.TabIs Tryz.prog W "internal/strconv.uint64pow10" .u64 Lib.pow10Tab :=
    Lib.tabIs_of_head txt.gPow gPowType Tryz.underlying266 Tryz.underlying156 cellsU64 cellsPow h2
  obtain ⟨a1, s1, hv1, _, _, _⟩ := laid_sentinel h3 rd.gRang gRangType Tryz.underlying68 rowErr Tryz.underlying271 Tryz.underlying273 rfl rfl Tryz.underlying9 cellsErr cellsStr
  obtain ⟨a2, s2, hv2, _, _, _⟩ := laid_sentinel h4 rd.gSynt gSyntType Tryz.underlying68 rowErr Tryz.underlying271 Tryz.underlying273 rfl rfl Tryz.underlying9 cellsErr cellsStr
  have hM := Tryz.laysM145.s1_3 W hSh
  have hMl : 5 < W.heap.size := by obtain ⟨m, hm⟩ := hM; exact World.block_lt_of_cell? W _ hm
  exact ⟨⟨World.block_lt_of_cell? W _ (t.cell txt.gPow 0 (by decide)), t⟩, ⟨var_lt rd.gRang hv1, var_lt rd.gSynt hv2, hMl⟩, ⟨_, _, hv2⟩, ⟨_, _, hv1⟩, hM⟩

/-! ### the walk -/
theorem walk (a0 : Option Addr) (len0 cap0 : Nat) (z0 : List Int) (w : World) (w0 : IsRow .u8 w a0 len0 cap0 z0) (hT : rd.Env w) :
    Calls Tryz.prog 3 #[.slice a0 len0 cap0] w fun e w' => e = .returned (.bool true) ∧ Below w.heap.size w w' := by
  have hB := draw.of_rowB w0
  have hm : len0 ≤ 9223372036854775807 := by
    rcases w0 with ⟨_, h, _, _⟩ | ⟨_, _, h1, h2, _⟩
    · omega
    · unfold maxLen at h2
      omega
  clear w0
  by_cases hbig : 1048576 < len0
  · have C := sl.hide (draw.big a0 len0 cap0 w hm)
    rw [decide_eq_true hbig] at C
    clear hT
    go_enter Tryz.func3, Tryz.ntmps3
    go_wp2_with fail
    refine (sl.unhide C).mono ?_; rintro e w' ⟨rfl, rfl⟩
    go_wp2_with fail
    go_ret
    exact ⟨rfl, Below.refl _ _⟩
  have C := sl.hide (draw.big a0 len0 cap0 w hm)
  rw [decide_eq_false hbig] at C
  have HB := sl.hide hB
  have TT := sl.hide hT
  have hlen : len0 ≤ 1048576 := by omega
  clear hB hT hbig
  go_enter Tryz.func3, Tryz.ntmps3
  go_wp2_with fail
  refine (sl.unhide C).mono ?_; rintro e w' ⟨rfl, hw⟩; have hw' := hw.symm; clear hw; subst hw'
  clear C hm
  go_wp2_with fail
  refine (dr.drawProofText a0 len0 cap0 _ hlen (sl.unhide HB)).mono ?_; rintro e w1 ⟨u1, P, rfl, htP, o1, g1⟩
  obtain ⟨pa, pc, rfl⟩ := o1.len
  have G1 := sl.hide g1
  have O1 := sl.hide o1
  clear g1 o1
  have TI := sl.hide (fun PP (h : css.tot PP ≤ 1048576) u w2 (g : w.grownBy w2 none) (hu : css.Sls w2 u PP) => pt.implProofText u PP w2 ((sl.unhide TT).kept g).pow h hu)
  have TS := sl.hide (fun u w2 (hu : css.Sls w2 u P) => pt.specProofText u P w2 htP hu)
  have hps := dr.prf_size P
  have hbs : rd.bytes ⟨(pt.prf P).toArray⟩ = pt.prf P := rfl
  obtain ⟨O, hO⟩ := yu.rp_ex ⟨(pt.prf P).toArray⟩
  have CR := sl.hide (fun w2 (g : w.grownBy w2 none) => yu.implRead hO (by omega) w2 ((sl.unhide TT).kept g))
  have KO : Hid (pt.prf P ≠ [] → O = some P) := fun h => by
    refine hO.one ?_
    rw [hbs]
    unfold pt.prf at h ⊢
    split at h
    · rename_i q
      rw [if_pos q]
      rw [Bool.and_eq_true, decide_eq_true_iff] at q
      exact .inl ⟨P, rfl, q.2, q.1, rfl⟩
    · exact absurd rfl h
  have hem := yu.empty_list (pt.prf P)
  unfold rq.ListE at CR
  unfold dec.str at TS
  have TI1 := sl.hide (fun u w2 (g : w.grownBy w2 none) (hu : css.Sls w2 u P) => sl.unhide TI P htP u w2 g hu)
  unfold dec.str at TI1
  have hne : ∀ q : Bool, (pt.prf P).isEmpty = q → (q = false → pt.prf P ≠ []) := fun q e h e' => by rw [e'] at e; subst h; cases e
  generalize (⟨(pt.prf P).toArray⟩ : ByteArray) = s at *
  generalize pt.prf P = pp at *
  clear hbs hO
  go_wp2_with fail
  refine (sl.unhide TI1 _ _ (sl.unhide G1) (sl.unhide O1).sls).mono ?_; rintro e w2 ⟨rfl, g2⟩
  have G2 := sl.hide (sl.grown_trans (r := none) (sl.unhide G1) g2)
  have O2 := sl.hide ((sl.unhide O1).kept g2)
  clear g2 G1 O1 TI1
  go_wp2_with fail
  refine (sl.unhide TS _ _ (sl.unhide O2).sls).mono ?_; rintro e w3 ⟨rfl, g3⟩
  have G3 := sl.hide (sl.grown_trans (r := none) (sl.unhide G2) g3)
  have O3 := sl.hide ((sl.unhide O2).kept g3)
  clear g3 G2 O2 TS
  go_wp2_with fail
  refine (sl.unhide CR _ (sl.unhide G3)).mono ?_; rintro e w4 ⟨r4, rfl, o4, g4⟩
  obtain ⟨ra, rc, rfl⟩ := o4.len
  have G4 := sl.hide (sl.grown_trans (r := none) (sl.unhide G3) g4)
  have O4 := sl.hide ((sl.unhide O3).kept g4)
  have R4 := sl.hide o4
  clear g4 o4 G3 O3 CR
  have HEM := sl.hide hem
  have NE := sl.hide hne
  clear hem hne
  have D2 := sl.hide (fun w2 (g : w.grownBy w2 none) => dr.drawReadProof a0 len0 cap0 w2 hlen ((sl.unhide HB).below (sl.below_of g)))
  go_upto_region 8 with fail
  go_cut [38] (fun q wx => q = .bool false ∧ Hid (w.grownBy wx none))
  case first =>
    have hem := sl.unhide HEM
    cases hE : pp.isEmpty
    · have hO := sl.unhide KO (sl.unhide NE _ hE rfl)
      subst hO
      rw [hE] at hem
      have hem' : (!s.toList.isEmpty) = true := by
        have : (s.toList == []) = s.toList.isEmpty := by cases s.toList <;> rfl
        rw [← this, hem]
        rfl
      have CL := sl.hide (df.sameList (.slice ra P.length rc) (.slice pa P.length pc) P w4 (Nat.le_trans (css.tot_len P) htP) (fun i => Nat.le_trans (css.tot_in P i) htP) (sl.unhide R4).sls (sl.unhide O4).sls)
      clear R4 O4 HEM NE KO D2 TI
      go_wp2_with fail
      refine (sl.unhide CL).mono ?_; rintro e w5 ⟨rfl, g5⟩
      have G5 := sl.hide (sl.grown_trans (r := none) (sl.unhide G4) g5)
      clear g5 CL G4
      go_wp2_with fail
      go_meet
      exact ⟨rfl, G5⟩
    · rw [hE] at hem
      have hem' : (!s.toList.isEmpty) = false := by
        have : (s.toList == []) = s.toList.isEmpty := by cases s.toList <;> rfl
        rw [← this, hem]
        rfl
      clear R4 O4 HEM NE KO D2 TI
      go_wp2_with fail
      go_meet
      exact ⟨rfl, G4⟩
  case rest =>
    obtain ⟨rfl, hg⟩ := hcut
    have G5 := sl.hide (sl.unhide hg)
    clear hg G4 O4 R4 HEM NE KO hps
    go_wp2_with fail
    refine (sl.unhide D2 _ (sl.unhide G5)).mono ?_; rintro e w6 ⟨t, rfl, ht, g6⟩
    have G6 := sl.hide (sl.grown_trans (r := none) (sl.unhide G5) g6)
    clear g6 G5 D2
    obtain ⟨Q, hQ⟩ := yu.rp_ex t
    have CI := sl.hide (fun w2 (g : w.grownBy w2 none) => yu.implRead hQ ht w2 ((sl.unhide TT).kept g))
    have CS := sl.hide (fun w2 => yu.specRead hQ ht w2)
    unfold rq.ListE at CI CS
    have hqt := yu.rp_tot hQ
    go_wp2_with fail
    refine (sl.unhide CI _ (sl.unhide G6)).mono ?_; rintro e w7 ⟨r7, rfl, o7, g7⟩
    obtain ⟨qa, qc, rfl⟩ := o7.len
    have G7 := sl.hide (sl.grown_trans (r := none) (sl.unhide G6) g7)
    have O7 := sl.hide o7
    clear g7 o7 G6 CI
    go_wp2_with fail
    refine (sl.unhide CS _).mono ?_; rintro e w8 ⟨r8, rfl, o8, g8⟩
    obtain ⟨sa, sc, rfl⟩ := o8.len
    have G8 := sl.hide (sl.grown_trans (r := none) (sl.unhide G7) g8)
    have O8 := sl.hide ((sl.unhide O7).kept g8)
    clear g8 o8 G7 O7 CS
    rcases hQ with ⟨A, rfl, q1, q2, q3⟩ | ⟨rfl, q⟩
    · have ep : pt.prf A = rd.bytes t := by
        unfold pt.prf
        rw [decide_eq_true q2, q1]
        exact q3
      have CP := sl.hide (sl.unhide TI A hqt (.slice qa A.length qc) w8 (sl.unhide G8) (sl.unhide O8).sls)
      rw [ep] at CP
      unfold dec.str at CP
      have et : (⟨(rd.bytes t).toArray⟩ : ByteArray) = t := by cases t; rfl
      rw [et] at CP
      have ett : (t.toList == t.toList) = true := beq_self_eq_true _
      clear q1 q2 q3 ep et O8 TI hqt
      simp only [Option.isSome_some]
      go_wp2_with fail
      refine (sl.unhide CP).mono ?_; rintro e w9 ⟨rfl, g9⟩
      have G9 := sl.hide (sl.grown_trans (r := none) (sl.unhide G8) g9)
      clear g9 CP G8
      go_wp2_with fail
      go_ret
      exact ⟨rfl, sl.below_of (sl.unhide G9)⟩
    · clear O8 TI hqt q
      simp only [Option.isSome_none]
      go_wp2_with fail
      go_ret
      exact ⟨rfl, sl.below_of (sl.unhide G8)⟩

/-! ### the row's step (the guide's own frame) -/
set_option maxRecDepth 100000 in
theorem contract (H : Type) (enc : TypeId × Value → H) (W : World) (base : Nat) (args : Array Value) (ds gs : List (DataW H)) (before : List MemPlace)
    (hval : ∀ (j : Nat) t v, Tryz.f3.params[j]? = some t → args[j]? = some v → Value.okWide Tryz.prog W .any base t v)
    (hW : DataW.Whole enc Tryz.prog Tryz.f3.params.toList Rows.fnProofTextSpec.vars false W args.toList ds gs before) (hL : laidMetH Tryz.prog Rows.fnProofTextRow.laid W) (hSh : W.ShapedOpen Tryz.prog) :
    Calls Tryz.prog 3 args W fun e W' => ∃ v, e = .returned v ∧ Rows.fnProofTextSpec.post enc Tryz.prog Tryz.f3 false true false false W args v W' := by
  have hW' := hW
  obtain ⟨p, q, hA0, hV, rfl, hfz, hnd⟩ := hW
  have hA : DataW.TrodAll enc Tryz.prog W 0 (fun _ => true) true Tryz.f3.params.toList args.toList ds p := hA0
  rw [Tryz.params3] at hA hval
  obtain ⟨v0, vs0, d0, ds0, p0, q0, hargs, rfl, rfl, h0, r0⟩ := trodAll_cons hA
  obtain ⟨rfl, rfl, rfl⟩ := trodAll_nil r0
  obtain rfl : args = #[v0] := by cases args; simp_all
  obtain ⟨rfl, rfl⟩ := trodVars_none hV
  obtain ⟨a0, len0, cap0, rfl⟩ := okWide_slice Tryz.underlying22 (hval 0 22 v0 rfl rfl)
  have k0 := h0
  have lt0 : ∀ x ∈ p0, x.block < W.heap.size := by obtain ⟨m, hm⟩ := k0; exact DataW.trod_lt m _ _ _ hm
  obtain ⟨z0, w0⟩ : ∃ zs, IsRow .u8 W a0 len0 cap0 zs := by
    obtain ⟨fuel, hf⟩ := h0
    rcases open_ints Tryz.underlying22 Tryz.underlying5 (by kernel_rfl) hf with ⟨hcs, _⟩ | ⟨x, l, c, zs, hcs, _, hl, hm, hz, _, hcell, hwz⟩
    · simp [Value.cells] at hcs
      obtain ⟨rfl, rfl, rfl⟩ := hcs
      exact ⟨[], .inl ⟨rfl, rfl, rfl, rfl⟩⟩
    · simp [Value.cells] at hcs
      obtain ⟨rfl, rfl, rfl⟩ := hcs
      exact ⟨zs, .inr ⟨_, rfl, hl, hm, by simpa using hz, hcell, hwz⟩⟩
  clear hA0
  refine (walk a0 len0 cap0 z0 W w0 (table hL hSh)).mono fun e W' ⟨he, bel⟩ => ?_
  subst he
  exact ⟨_, rfl, _, _, _, [], _, [], hW', trodAll_mk1 (shut_bool Tryz.underlying4 _), (trodAll_cons_mk (Below.trod laidOut (by kernel_rfl) (of_decide_eq_true (by kernel_rfl)) k0 bel lt0) trodAll_mk0), rfl, bel.frame _, fun h => by cases h⟩

set_option maxRecDepth 100000 in
theorem lifted (os : Os) (started : os.Started) (H : Type) (enc : TypeId × Value → H) (F : Stop.Interp) :
    ReturnsInHanded {} Tryz.checked os 3 .any ((OpenSpec.ofChange Rows.fnProofTextSpec).preRow enc Tryz.prog Tryz.f3 Rows.fnProofTextRow.domain false Rows.fnProofTextRow.laid) (((OpenSpec.ofChange Rows.fnProofTextSpec).at F).post enc Tryz.prog Tryz.f3 false true false false) := by
  refine returnsInHanded_of_row (C := Tryz.checked) (s := OpenSpec.ofChange Rows.fnProofTextSpec) own started (by kernel_rfl) Tryz.func3
    (witness_row_at (enc := enc) (C := Tryz.checked) false ({ (World.holding Tryz.prog os ⟨#[.cells #[.string ⟨#[118, 97, 108, 117, 101, 32, 111, 117, 116, 32, 111, 102, 32, 114, 97, 110, 103, 101]⟩] 273, .cells #[.string ⟨#[105, 110, 118, 97, 108, 105, 100, 32, 115, 121, 110, 116, 97, 120]⟩] 273], #[], []⟩) with heap := ((((((World.holding Tryz.prog os ⟨#[.cells #[.string ⟨#[118, 97, 108, 117, 101, 32, 111, 117, 116, 32, 111, 102, 32, 114, 97, 110, 103, 101]⟩] 273, .cells #[.string ⟨#[105, 110, 118, 97, 108, 105, 100, 32, 115, 121, 110, 116, 97, 120]⟩] 273], #[], []⟩).heap.modify 11 fun | .cells _ t frozen => .cells (Lib.deBruijn32tab.map fun (n : Nat) => Value.int .u8 n).toArray t frozen | o => o).modify 9 fun | .cells _ t frozen => .cells (Lib.deBruijn64tab.map fun (n : Nat) => Value.int .u8 n).toArray t frozen | o => o).modify 10 fun | .cells _ t frozen => .cells (Lib.pow10Tab.map fun n => Value.int .u64 n).toArray t frozen | o => o).modify 8 fun | .cells _ t frozen => .cells #[.iface 271 (.pointer (some ⟨(World.holding Tryz.prog default ⟨#[], #[], []⟩).heap.size, 0, none⟩))] t frozen | o => o).modify 7 fun | .cells _ t frozen => .cells #[.iface 271 (.pointer (some ⟨(World.holding Tryz.prog default ⟨#[], #[], []⟩).heap.size + 1, 0, none⟩))] t frozen | o => o) } : World) #[.slice none 0 0] rfl (by kernel_rfl) (by kernel_rfl) (by kernel_rfl)
      (OpenSpec.preRow_of_cond 8 (x := ([.nil], [], [])) (by kernel_rfl) (by kernel_rfl) (fun k hk => by cases hk) (by kernel_rfl) (laidMet_of_run' 8 (by kernel_rfl) (by kernel_rfl)))) ?_
  intro W base args ds gs before hval hW _ _ _ hL hSh _
  exact contract H enc W base args ds gs before hval hW hL hSh

theorem said : Rows.FnProofTextSaid :=
  OpenClaim.holds_of_cond 3 Tryz.f3 rfl rfl rfl rfl rfl rfl rfl ⟨rfl, rfl, rfl, rfl, rfl⟩ rfl rfl rfl rfl rfl (by kernel_rfl) Tryz.func3 (by kernel_rfl)
    (of_decide_eq_true (by kernel_rfl)) (by unfold Func.isWrapper; first | (rw [if_pos (by decide +kernel)]; kernel_rfl) | (rw [if_neg (by decide +kernel)]; exact ⟨rfl, rfl⟩))
    (fun os started H enc _ F => by rw [OpenClaim.pre_eq_preRow]; exact lifted os started H enc F)

theorem plain (f : FuncId) (fn : Func) (hf : Tryz.pinned.checked.prog.funcNamed "loop.example/g00123/laws.FnProofText" = some f) (hfn : Tryz.pinned.checked.prog.funcs[f]? = some fn) :
    true = Tryz.pinned.checked.prog.looks [] ∧ ∀ (j : Nat) t, fn.params[j]? = some t → Tryz.pinned.checked.prog.wantsStandIn t = false := by
  obtain rfl : f = 3 := Option.some.inj ((show Tryz.prog.funcNamed "loop.example/g00123/laws.FnProofText" = some 3 by kernel_rfl).symm.trans hf) |>.symm
  obtain rfl : fn = Tryz.f3 := (Option.some.inj (Tryz.func3.symm.trans hfn)).symm
  refine ⟨by kernel_rfl, fun j t ht => ?_⟩
  rw [Tryz.params3] at ht
  obtain rfl : t = 22 := by simpa using Array.mem_of_getElem? ht
  exact (show Tryz.prog.wantsStandIn 22 = false by kernel_rfl)

/-- the statement: the row's tied card -/
theorem proved : Rows.FnProofTextCardSaid :=
  Claim7.holds_tied_plain_at .later [] _ _ _ _ said (fun _ h => by cases h) (by kernel_rfl) (fun _ h => by cases h) fnProofText_row_tie rfl ⟨rfl, rfl⟩ (by kernel_rfl) rfl plain (by kernel_rfl)
#print axioms proved
end Go.Proofs.YtcgiphcfjhbonaaGreatDoor.fnProofText
