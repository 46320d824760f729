/- Whatever bytes it draws from, the law FnClauseText returns true: a clause comes back from its text and nothing else does; the library's tables and errors lie as their text lays them (tied). -/
import Derived.Test.YtndjfibjkckbdaaDoorCards
import Derived.Test.YtndjfibjkckbdaaDoorTie
import Derived.Test.YtndjfibjkckbdaaDoorLits
import Derived.Test.YtndjfibjkckbdaaDoorSl
import Derived.Test.YtndjfibjkckbdaaDoorCls
import Derived.Test.YtndjfibjkckbdaaDoorWo
import Derived.Test.YtndjfibjkckbdaaDoorSet
import Derived.Test.YtndjfibjkckbdaaDoorSrtM
import Derived.Test.YtndjfibjkckbdaaDoorSrtW
import Derived.Test.YtndjfibjkckbdaaDoorSrtS
import Derived.Test.YtndjfibjkckbdaaDoorRes
import Derived.Test.YtndjfibjkckbdaaDoorDec
import Derived.Test.YtndjfibjkckbdaaDoorTxtM
import Derived.Test.YtndjfibjkckbdaaDoorShf
import Derived.Test.YtndjfibjkckbdaaDoorBld
import Derived.Test.YtndjfibjkckbdaaDoorTxtW
import Derived.Test.YtndjfibjkckbdaaDoorRdM
import Derived.Test.YtndjfibjkckbdaaDoorNumW
import Derived.Test.YtndjfibjkckbdaaDoorWordsW
import Derived.Test.YtndjfibjkckbdaaDoorShr
import Derived.Test.YtndjfibjkckbdaaDoorReadW
import Derived.Test.YtndjfibjkckbdaaDoorReadS
import Derived.Test.YtndjfibjkckbdaaDoorDraw
import Derived.Test.YtndjfibjkckbdaaDoorDCls
import Derived.Test.YtndjfibjkckbdaaDoorDRd
import Derived.WalkKit
import Derived.ProofKit
import Derived.OpenShut
import Derived.ShutString
import Derived.ChangeOld
import Derived.Below
import Derived.Deep.DeepHandedRow
import Derived.Lib.LaidTab
import Derived.Lib.TrailingZeros
import Derived.Stop.LaidErr
namespace Go.Proofs.YtndjfibjkckbdaaDoor.fnClauseText
open Go.ChangeShapes Go.WideShapes Go.ChangeAt Go.RowKit
open Go.ChangeMaps (open_string shut_string)
set_option linter.unusedVariables false

theorem own : ownKnob Tryd.prog.godebug = none := by kernel_rfl
theorem laidOut : laidOutB Tryd.prog = true := by kernel_rfl

/-- what the walk is told of a slice of integers that came in -/
def IsRow (k : IntKind) (w : World) (a : Option Addr) (len cap : Nat) (zs : List Int) : Prop :=
  (a = none ∧ len = 0 ∧ cap = 0 ∧ zs = []) ∨
  ∃ x, a = some x ∧ len ≤ cap ∧ cap ≤ maxLen ∧ zs.length = cap ∧ (∀ i, i < zs.length → w.cell? (x.add i) = some (.int k (zs.getD i 0))) ∧ ∀ n ∈ zs, (Lit.int k n).wf = true

theorem gPowType : (Tryd.prog.globals[4]?).map (·.type) = some 112 := by kernel_rfl
theorem cellsPow : Tryd.prog.cellsOf 112 = 20 := by kernel_rfl
theorem cellsU64 : Tryd.prog.cellsOf 64 = 1 := by kernel_rfl
theorem laid_tail {P : Program} {W : World} {x : String × DataW Unit} {rest : List (String × DataW Unit)} (h : laidMet P (x :: rest) W) : laidMet P rest W := by
  obtain ⟨ps, hv, hn, hc⟩ := h
  obtain ⟨n, d⟩ := x
  obtain ⟨g, t, cs, fuel, p, q, _, _, _, _, hr, rfl⟩ := hv
  exact ⟨q, hr, (List.nodup_append.1 hn).2.1, fun b off hm => hc b off (List.mem_append_right _ hm)⟩
theorem powData : (Rows.laid_internal_strconv_uint64pow10 : DataW Unit) = Lib.tabData .u64 Lib.pow10Tab := by kernel_rfl
theorem star : "*" ++ "errors.errorString" = "*errors.errorString" := by decide
theorem rowErr (u : TypeId) (h : Tryd.prog.typeName? 3 u = some "*errors.errorString") : u = 116 :=
  typeName_ptr_named (nm := "errors.errorString") (by rw [star]; kernel_rfl) (by kernel_rfl) (by decide) u (by rw [star]; exact h)
theorem gSyntType : (Tryd.prog.globals[2]?).map (·.type) = some 49 := by kernel_rfl
theorem gRangType : (Tryd.prog.globals[3]?).map (·.type) = some 49 := by kernel_rfl
theorem cellsErr : Tryd.prog.cellsOf 118 = 1 := by kernel_rfl
theorem cellsStr : Tryd.prog.cellsOf 9 = 1 := by kernel_rfl
/-- what the row's list, and the world's shape, give -/
theorem table {W : World} (h : laidMetH Tryd.prog Rows.fnClauseTextRow.laid W) (hSh : W.ShapedOpen Tryd.prog) : rd.Env W := by
  have h1 : laidMet Tryd.prog Rows.fnClauseTextRow.laid W := h
  have h2 := laid_tail (laid_tail h1)
  have h3 := laid_tail h2
  have h4 := laid_tail h3
  rw [powData] at h2
  have t : Lib.TabIs Tryd.prog W "internal/strconv.uint64pow10" .u64 Lib.pow10Tab :=
    Lib.tabIs_of_head txt.gPow gPowType Tryd.underlying112 Tryd.underlying64 cellsU64 cellsPow h2
  obtain ⟨a1, s1, hv1, _, _, _⟩ := laid_sentinel h3 rd.gRang gRangType Tryd.underlying49 rowErr Tryd.underlying116 Tryd.underlying118 rfl rfl Tryd.underlying9 cellsErr cellsStr
  obtain ⟨a2, s2, hv2, _, _, _⟩ := laid_sentinel h4 rd.gSynt gSyntType Tryd.underlying49 rowErr Tryd.underlying116 Tryd.underlying118 rfl rfl Tryd.underlying9 cellsErr cellsStr
  have h5 : 5 < W.heap.size := by
    obtain ⟨ps, ⟨g, t, cs, fuel, p, q, hg, _, hv, _⟩, _⟩ := h1
    have e : g = 5 := (Option.some.inj ((show Tryd.prog.globalNamed "math/bits.deBruijn32tab" = some 5 by kernel_rfl).symm.trans hg)).symm
    rw [← e]
    unfold World.var? at hv
    rw [hg] at hv
    rcases Nat.lt_or_ge g W.heap.size with h' | h'
    · exact h'
    · simp [Array.getElem?_eq_none h'] at hv
  exact ⟨⟨World.block_lt_of_cell? W _ (t.cell txt.gPow 0 (by decide)), t⟩, by omega, ⟨_, _, hv2⟩, ⟨_, _, hv1⟩, Tryd.laysM145.s1_3 W hSh⟩

theorem read_text {t : ByteArray} (h : rd.readB (rd.bytes t) = true) : dec.str (txt.text (rd.readL (rd.bytes t))) = .string t := by
  unfold rd.readB at h
  obtain ⟨L, hL⟩ := Option.isSome_iff_exists.1 h
  have e : rd.readL (rd.bytes t) = L := by unfold rd.readL; rw [hL]; rfl
  rw [e, (rd.read_sound hL).2]
  rfl
theorem text_read {L : List Int} (h : cls.okAll L = true) : rd.readB (rd.bytes ⟨(txt.text L).toArray⟩) = true ∧ rd.readL (rd.bytes ⟨(txt.text L).toArray⟩) = L := by
  have e : rd.bytes ⟨(txt.text L).toArray⟩ = txt.text L := rfl
  rw [e]
  unfold rd.readB rd.readL
  rw [rd.read_full h]
  exact ⟨rfl, rfl⟩
theorem text_ne {L : List Int} (h : cls.okAll L = true) : ((⟨(txt.text L).toArray⟩ : ByteArray).toList == []) = false := by
  have e : rd.bytes ⟨(txt.text L).toArray⟩ = txt.text L := rfl
  rw [rd.toList_bytes, e, txt.text_yes h]
  simp
theorem text_em {L : List Int} (h : cls.okAll L = false) : (⟨(txt.text L).toArray⟩ : ByteArray) = ⟨#[]⟩ := by
  rw [txt.text_no h]

/-! ### the walk -/
theorem walk (a0 : Option Addr) (len0 cap0 : Nat) (z0 : List Int) (w : World) (w0 : IsRow .u8 w a0 len0 cap0 z0) (hT : rd.Env w) :
    Calls Tryd.prog 3 #[.slice a0 len0 cap0] w fun e w' => e = .returned (.bool true) ∧ Below w.heap.size w w' := by
  have hB := draw.of_rowB w0
  have hm : len0 ≤ 9223372036854775807 := by
    rcases w0 with ⟨_, h, _, _⟩ | ⟨_, _, h1, h2, _⟩
    · omega
    · unfold maxLen at h2
      omega
  clear w0
  by_cases hbig : 1048576 < len0
  · have C := sl.hide (draw.big a0 len0 cap0 w hm)
    rw [decide_eq_true hbig] at C
    clear hT
    go_enter Tryd.func3, Tryd.ntmps3
    go_wp2_with fail
    refine (sl.unhide C).mono ?_; rintro e w' ⟨rfl, rfl⟩
    go_wp2_with fail
    go_ret
    exact ⟨rfl, Below.refl _ _⟩
  · have C := sl.hide (draw.big a0 len0 cap0 w hm)
    rw [decide_eq_false hbig] at C
    have HB := sl.hide hB
    have TT := sl.hide hT
    clear hB hT
    go_enter Tryd.func3, Tryd.ntmps3
    go_wp2_with fail
    refine (sl.unhide C).mono ?_; rintro e w' ⟨rfl, rfl⟩
    go_wp2_with fail
    refine (dcls.drawClauseText a0 len0 cap0 _ (by omega) (sl.unhide HB)).mono ?_; rintro e w1 ⟨v, L, rfl, hL, hm1⟩
    have G1 := sl.hide hm1.2
    have S1 := sl.hide (sl.Sl.of_own hm1.1)
    clear hm1 C hm
    have hL1 : L.length ≤ 1048576 := by omega
    have c1 : ∀ w', txt.Pow w' → sl.Sl w' v L → Calls Tryd.prog 10 #[v] w' fun e w'' => e = .returned (.string ⟨(txt.text L).toArray⟩) ∧ w'.grownBy w'' none := fun w' hp hs => txt.implClauseText v L w' hp hL1 hs
    have c2 : ∀ w', sl.Sl w' v L → Calls Tryd.prog 11 #[v] w' fun e w'' => e = .returned (.string ⟨(txt.text L).toArray⟩) ∧ w'' = w' := fun w' hs => txt.specClauseText v L w' hL1 hs
    have hsz : (⟨(txt.text L).toArray⟩ : ByteArray).size ≤ 1048576 := by rw [rd.size_mk]; exact Nat.le_trans (dcls.text_len L) (by decide)
    cases hok : cls.okAll L
    · rw [text_em hok] at c1 c2
      have C1 := sl.hide c1
      have C2 := sl.hide c2
      clear c1 c2 hok hsz
      go_wp2_with fail
      refine (sl.unhide C1 _ ((sl.unhide TT).kept (sl.unhide G1)).pow (sl.unhide S1)).mono ?_; rintro e w2 ⟨rfl, g2⟩
      have GK := sl.hide (sl.grown_trans (r := none) (sl.unhide G1) g2)
      have S2 := sl.hide ((sl.unhide S1).kept g2 (.inl rfl))
      clear g2 G1 S1
      go_wp2_with fail
      refine (sl.unhide C2 _ (sl.unhide S2)).mono ?_; rintro e w3 ⟨rfl, hw⟩; have hw' := hw.symm; clear hw; subst hw'
      clear C1 C2 S2
      go_wp2_with fail
      refine (dcls.drawReadClause a0 len0 cap0 _ (by omega) ((sl.unhide HB).below (sl.below_of (sl.unhide GK)))).mono ?_; rintro e w5 ⟨t, rfl, ht, g5⟩
      have G5 := sl.hide (sl.grown_trans (r := none) (sl.unhide GK) g5)
      clear g5 GK
      have c1 := fun w hE => rd.implReadClause t w hE ht
      have c2 := fun w => rd.specReadClause t w ht
      have hR : (rd.readL (rd.bytes t)).length ≤ 1048576 := Nat.le_trans (rd.read_len _) (by decide)
      have hq := read_text (t := t)
      generalize rd.readL (rd.bytes t) = R at *
      cases hb : rd.readB (rd.bytes t)
      · simp only [hb] at c1 c2
        have C1 := sl.hide c1
        have C2 := sl.hide c2
        clear c1 c2 hb hq
        go_wp2_with fail
        refine (sl.unhide C1 _ ((sl.unhide TT).kept (sl.unhide G5))).mono ?_; rintro e w6 ⟨d, rfl, hm6⟩
        have G6 := sl.hide (sl.grown_trans (r := none) (sl.unhide G5) hm6.2)
        clear hm6 G5
        go_wp2_with fail
        refine (sl.unhide C2 _).mono ?_; rintro e w7 ⟨d', rfl, hm7⟩
        have G7 := sl.hide (sl.grown_trans (r := none) (sl.unhide G6) hm7.2)
        clear hm7 G6
        go_wp2_with fail
        go_ret
        exact ⟨rfl, sl.below_of (sl.unhide G7)⟩
      · simp only [hb] at c1 c2
        have C1 := sl.hide c1
        have C2 := sl.hide c2
        have c3 : ∀ d w', txt.Pow w' → sl.Sl w' d R → Calls Tryd.prog 10 #[d] w' fun e w'' => e = .returned (.string t) ∧ w'.grownBy w'' none := by
          intro d w' hp hs
          rw [← hq hb]
          exact txt.implClauseText d R w' hp hR hs
        have C3 := sl.hide c3
        clear c1 c2 c3 hb hq
        go_wp2_with fail
        refine (sl.unhide C1 _ ((sl.unhide TT).kept (sl.unhide G5))).mono ?_; rintro e w6 ⟨d, rfl, hm6⟩
        have G6 := sl.hide (sl.grown_trans (r := none) (sl.unhide G5) hm6.2)
        have S6 := sl.hide (sl.Sl.of_own hm6.1)
        clear hm6 G5
        go_wp2_with fail
        refine (sl.unhide C2 _).mono ?_; rintro e w7 ⟨d', rfl, hm7⟩
        have G7 := sl.hide (sl.grown_trans (r := none) (sl.unhide G6) hm7.2)
        have S7 := sl.hide ((sl.unhide S6).kept hm7.2 (.inl rfl))
        clear hm7 G6 S6
        go_wp2_with fail
        refine (sl.unhide C3 _ _ ((sl.unhide TT).kept (sl.unhide G7)).pow (sl.unhide S7)).mono ?_; rintro e w8 ⟨rfl, g8⟩
        have G8 := sl.hide (sl.grown_trans (r := none) (sl.unhide G7) g8)
        clear g8 G7 S7
        go_wp2_with fail
        go_ret
        exact ⟨rfl, sl.below_of (sl.unhide G8)⟩
    · have hne := text_ne hok
      have rr := text_read hok
      generalize (⟨(txt.text L).toArray⟩ : ByteArray) = q at *
      have c3 : ∀ w', rd.Env w' → Calls Tryd.prog 12 #[.string q] w' fun e w'' => ∃ u, e = .returned (.tuple #[u, .bool true]) ∧ wo.Made w' w'' u L := by
        intro w' hE
        have := rd.implReadClause q w' hE hsz
        rw [rr.1, rr.2] at this
        exact this
      have C1 := sl.hide c1
      have C2 := sl.hide c2
      have C3 := sl.hide c3
      clear c1 c2 c3 hok hsz rr
      go_wp2_with fail
      refine (sl.unhide C1 _ ((sl.unhide TT).kept (sl.unhide G1)).pow (sl.unhide S1)).mono ?_; rintro e w2 ⟨rfl, g2⟩
      have G2 := sl.hide (sl.grown_trans (r := none) (sl.unhide G1) g2)
      have S2 := sl.hide ((sl.unhide S1).kept g2 (.inl rfl))
      clear g2 G1 S1
      go_wp2_with fail
      refine (sl.unhide C2 _ (sl.unhide S2)).mono ?_; rintro e w3 ⟨rfl, hw⟩; have hw' := hw.symm; clear hw; subst hw'
      go_wp2_with fail
      refine (sl.unhide C3 _ ((sl.unhide TT).kept (sl.unhide G2))).mono ?_; rintro e w3 ⟨u, rfl, hm3⟩
      have G3 := sl.hide (sl.grown_trans (r := none) (sl.unhide G2) hm3.2)
      have S3 := sl.hide ((sl.unhide S2).kept hm3.2 (.inl rfl))
      have U3 := sl.hide (sl.Sl.of_own hm3.1)
      clear hm3 G2 S2
      go_wp2_with fail
      refine (dcls.sameC _ _ L _ hL1 (sl.unhide U3) (sl.unhide S3)).mono ?_; rintro e w4 ⟨rfl, g4⟩
      have GK := sl.hide (sl.grown_trans (r := none) (sl.unhide G3) g4)
      clear g4 G3 S3 U3 C1 C2 C3 hne
      go_wp2_with fail
      refine (dcls.drawReadClause a0 len0 cap0 _ (by omega) ((sl.unhide HB).below (sl.below_of (sl.unhide GK)))).mono ?_; rintro e w5 ⟨t, rfl, ht, g5⟩
      have G5 := sl.hide (sl.grown_trans (r := none) (sl.unhide GK) g5)
      clear g5 GK
      have c1 := fun w hE => rd.implReadClause t w hE ht
      have c2 := fun w => rd.specReadClause t w ht
      have hR : (rd.readL (rd.bytes t)).length ≤ 1048576 := Nat.le_trans (rd.read_len _) (by decide)
      have hq := read_text (t := t)
      generalize rd.readL (rd.bytes t) = R at *
      cases hb : rd.readB (rd.bytes t)
      · simp only [hb] at c1 c2
        have C1 := sl.hide c1
        have C2 := sl.hide c2
        clear c1 c2 hb hq
        go_wp2_with fail
        refine (sl.unhide C1 _ ((sl.unhide TT).kept (sl.unhide G5))).mono ?_; rintro e w6 ⟨d, rfl, hm6⟩
        have G6 := sl.hide (sl.grown_trans (r := none) (sl.unhide G5) hm6.2)
        clear hm6 G5
        go_wp2_with fail
        refine (sl.unhide C2 _).mono ?_; rintro e w7 ⟨d', rfl, hm7⟩
        have G7 := sl.hide (sl.grown_trans (r := none) (sl.unhide G6) hm7.2)
        clear hm7 G6
        go_wp2_with fail
        go_ret
        exact ⟨rfl, sl.below_of (sl.unhide G7)⟩
      · simp only [hb] at c1 c2
        have C1 := sl.hide c1
        have C2 := sl.hide c2
        have c3 : ∀ d w', txt.Pow w' → sl.Sl w' d R → Calls Tryd.prog 10 #[d] w' fun e w'' => e = .returned (.string t) ∧ w'.grownBy w'' none := by
          intro d w' hp hs
          rw [← hq hb]
          exact txt.implClauseText d R w' hp hR hs
        have C3 := sl.hide c3
        clear c1 c2 c3 hb hq
        go_wp2_with fail
        refine (sl.unhide C1 _ ((sl.unhide TT).kept (sl.unhide G5))).mono ?_; rintro e w6 ⟨d, rfl, hm6⟩
        have G6 := sl.hide (sl.grown_trans (r := none) (sl.unhide G5) hm6.2)
        have S6 := sl.hide (sl.Sl.of_own hm6.1)
        clear hm6 G5
        go_wp2_with fail
        refine (sl.unhide C2 _).mono ?_; rintro e w7 ⟨d', rfl, hm7⟩
        have G7 := sl.hide (sl.grown_trans (r := none) (sl.unhide G6) hm7.2)
        have S7 := sl.hide ((sl.unhide S6).kept hm7.2 (.inl rfl))
        clear hm7 G6 S6
        go_wp2_with fail
        refine (sl.unhide C3 _ _ ((sl.unhide TT).kept (sl.unhide G7)).pow (sl.unhide S7)).mono ?_; rintro e w8 ⟨rfl, g8⟩
        have G8 := sl.hide (sl.grown_trans (r := none) (sl.unhide G7) g8)
        clear g8 G7 S7
        go_wp2_with fail
        go_ret
        exact ⟨rfl, sl.below_of (sl.unhide G8)⟩

/-! ### the row's step (the guide's own frame) -/
set_option maxRecDepth 100000 in
theorem contract (H : Type) (enc : TypeId × Value → H) (W : World) (base : Nat) (args : Array Value) (ds gs : List (DataW H)) (before : List MemPlace)
    (hval : ∀ (j : Nat) t v, Tryd.f3.params[j]? = some t → args[j]? = some v → Value.okWide Tryd.prog W .any base t v)
    (hW : DataW.Whole enc Tryd.prog Tryd.f3.params.toList Rows.fnClauseTextSpec.vars false W args.toList ds gs before) (hL : laidMetH Tryd.prog Rows.fnClauseTextRow.laid W) (hSh : W.ShapedOpen Tryd.prog) :
    Calls Tryd.prog 3 args W fun e W' => ∃ v, e = .returned v ∧ Rows.fnClauseTextSpec.post enc Tryd.prog Tryd.f3 false true false false W args v W' := by
  have hW' := hW
  obtain ⟨p, q, hA0, hV, rfl, hfz, hnd⟩ := hW
  have hA : DataW.TrodAll enc Tryd.prog W 0 (fun _ => true) true Tryd.f3.params.toList args.toList ds p := hA0
  rw [Tryd.params3] at hA hval
  obtain ⟨v0, vs0, d0, ds0, p0, q0, hargs, rfl, rfl, h0, r0⟩ := trodAll_cons hA
  obtain ⟨rfl, rfl, rfl⟩ := trodAll_nil r0
  obtain rfl : args = #[v0] := by cases args; simp_all
  obtain ⟨rfl, rfl⟩ := trodVars_none hV
  obtain ⟨a0, len0, cap0, rfl⟩ := okWide_slice Tryd.underlying22 (hval 0 22 v0 rfl rfl)
  have k0 := h0
  have lt0 : ∀ x ∈ p0, x.block < W.heap.size := by obtain ⟨m, hm⟩ := k0; exact DataW.trod_lt m _ _ _ hm
  obtain ⟨z0, w0⟩ : ∃ zs, IsRow .u8 W a0 len0 cap0 zs := by
    obtain ⟨fuel, hf⟩ := h0
    rcases open_ints Tryd.underlying22 Tryd.underlying5 (by kernel_rfl) hf with ⟨hcs, _⟩ | ⟨x, l, c, zs, hcs, _, hl, hm, hz, _, hcell, hwz⟩
    · simp [Value.cells] at hcs
      obtain ⟨rfl, rfl, rfl⟩ := hcs
      exact ⟨[], .inl ⟨rfl, rfl, rfl, rfl⟩⟩
    · simp [Value.cells] at hcs
      obtain ⟨rfl, rfl, rfl⟩ := hcs
      exact ⟨zs, .inr ⟨_, rfl, hl, hm, by simpa using hz, hcell, hwz⟩⟩
  clear hA0
  refine (walk a0 len0 cap0 z0 W w0 (table hL hSh)).mono fun e W' ⟨he, bel⟩ => ?_
  subst he
  exact ⟨_, rfl, _, _, _, [], _, [], hW', trodAll_mk1 (shut_bool Tryd.underlying4 _), (trodAll_cons_mk (Below.trod laidOut (by kernel_rfl) (of_decide_eq_true (by kernel_rfl)) k0 bel lt0) trodAll_mk0), rfl, bel.frame _, fun h => by cases h⟩

set_option maxRecDepth 100000 in
theorem lifted (os : Os) (started : os.Started) (H : Type) (enc : TypeId × Value → H) (F : Stop.Interp) :
    ReturnsInHanded {} Tryd.checked os 3 .any ((OpenSpec.ofChange Rows.fnClauseTextSpec).preRow enc Tryd.prog Tryd.f3 Rows.fnClauseTextRow.domain false Rows.fnClauseTextRow.laid) (((OpenSpec.ofChange Rows.fnClauseTextSpec).at F).post enc Tryd.prog Tryd.f3 false true false false) := by
  refine returnsInHanded_of_row (C := Tryd.checked) (s := OpenSpec.ofChange Rows.fnClauseTextSpec) own started (by kernel_rfl) Tryd.func3
    (witness_row_at (enc := enc) (C := Tryd.checked) false ({ (World.holding Tryd.prog os ⟨#[.cells #[.string ⟨#[118, 97, 108, 117, 101, 32, 111, 117, 116, 32, 111, 102, 32, 114, 97, 110, 103, 101]⟩] 118, .cells #[.string ⟨#[105, 110, 118, 97, 108, 105, 100, 32, 115, 121, 110, 116, 97, 120]⟩] 118], #[], []⟩) with heap := ((((((World.holding Tryd.prog os ⟨#[.cells #[.string ⟨#[118, 97, 108, 117, 101, 32, 111, 117, 116, 32, 111, 102, 32, 114, 97, 110, 103, 101]⟩] 118, .cells #[.string ⟨#[105, 110, 118, 97, 108, 105, 100, 32, 115, 121, 110, 116, 97, 120]⟩] 118], #[], []⟩).heap.modify 5 fun | .cells _ t frozen => .cells (Lib.deBruijn32tab.map fun (n : Nat) => Value.int .u8 n).toArray t frozen | o => o).modify 0 fun | .cells _ t frozen => .cells (Lib.deBruijn64tab.map fun (n : Nat) => Value.int .u8 n).toArray t frozen | o => o).modify 4 fun | .cells _ t frozen => .cells (Lib.pow10Tab.map fun n => Value.int .u64 n).toArray t frozen | o => o).modify 3 fun | .cells _ t frozen => .cells #[.iface 116 (.pointer (some ⟨(World.holding Tryd.prog default ⟨#[], #[], []⟩).heap.size, 0, none⟩))] t frozen | o => o).modify 2 fun | .cells _ t frozen => .cells #[.iface 116 (.pointer (some ⟨(World.holding Tryd.prog default ⟨#[], #[], []⟩).heap.size + 1, 0, none⟩))] t frozen | o => o) } : World) #[.slice none 0 0] rfl (by kernel_rfl) (by kernel_rfl) (by kernel_rfl)
      (OpenSpec.preRow_of_cond 8 (x := ([.nil], [], [])) (by kernel_rfl) (by kernel_rfl) (fun k hk => by cases hk) (by kernel_rfl) (laidMet_of_run' 8 (by kernel_rfl) (by kernel_rfl)))) ?_
  intro W base args ds gs before hval hW _ _ _ hL hSh _
  exact contract H enc W base args ds gs before hval hW hL hSh

theorem said : Rows.FnClauseTextSaid :=
  OpenClaim.holds_of_cond 3 Tryd.f3 rfl rfl rfl rfl rfl rfl rfl ⟨rfl, rfl, rfl, rfl, rfl⟩ rfl rfl rfl rfl rfl (by kernel_rfl) Tryd.func3 (by kernel_rfl)
    (of_decide_eq_true (by kernel_rfl)) (by unfold Func.isWrapper; first | (rw [if_pos (by decide +kernel)]; kernel_rfl) | (rw [if_neg (by decide +kernel)]; exact ⟨rfl, rfl⟩))
    (fun os started H enc _ F => by rw [OpenClaim.pre_eq_preRow]; exact lifted os started H enc F)

theorem plain (f : FuncId) (fn : Func) (hf : Tryd.pinned.checked.prog.funcNamed "loop.example/g00123/laws.FnClauseText" = some f) (hfn : Tryd.pinned.checked.prog.funcs[f]? = some fn) :
    true = Tryd.pinned.checked.prog.looks [] ∧ ∀ (j : Nat) t, fn.params[j]? = some t → Tryd.pinned.checked.prog.wantsStandIn t = false := by
  obtain rfl : f = 3 := Option.some.inj ((show Tryd.prog.funcNamed "loop.example/g00123/laws.FnClauseText" = some 3 by kernel_rfl).symm.trans hf) |>.symm
  obtain rfl : fn = Tryd.f3 := (Option.some.inj (Tryd.func3.symm.trans hfn)).symm
  refine ⟨by kernel_rfl, fun j t ht => ?_⟩
  rw [Tryd.params3] at ht
  obtain rfl : t = 22 := by simpa using Array.mem_of_getElem? ht
  exact (show Tryd.prog.wantsStandIn 22 = false by kernel_rfl)

/-- the statement: the row's tied card -/
theorem proved : Rows.FnClauseTextCardSaid :=
  Claim7.holds_tied_plain_at .later [] _ _ _ _ said (fun _ h => by cases h) (by kernel_rfl) (fun _ h => by cases h) fnClauseText_row_tie rfl ⟨rfl, rfl⟩ (by kernel_rfl) rfl plain (by kernel_rfl)
#print axioms proved
end Go.Proofs.YtndjfibjkckbdaaDoor.fnClauseText
