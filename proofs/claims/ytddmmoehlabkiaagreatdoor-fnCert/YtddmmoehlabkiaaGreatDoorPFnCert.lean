/- At every code the law FnCert returns true: Issue answers as the model at a key and a formula that are drawn, what is issued verifies and its digest is that of the formula; Verify answers as the model at a certificate that is drawn, and what verifies tells whether the formula can be true; no condition. -/
import Derived.Test.YtddmmoehlabkiaaGreatDoorCards
import Derived.Test.YtddmmoehlabkiaaGreatDoorTie
import Derived.OpenVars
import Derived.Test.YtddmmoehlabkiaaGreatDoorJOi
import Derived.Test.YtddmmoehlabkiaaGreatDoorJOd
import Derived.WalkKit
import Derived.ProofKit
import Derived.OpenShut
import Derived.ShutString
import Derived.ChangeOld
import Derived.Below
import Derived.Deep.DeepHandedRow
import Derived.Lib.LaidTab
import Derived.Lib.TrailingZeros
import Derived.Stop.LaidErr
import Derived.Stop.LaidTwo
import Derived.LaidHandle
import Derived.LaidSub
namespace Go.Proofs.YtddmmoehlabkiaaGreatDoor.fnCert
open Go.ChangeShapes Go.WideShapes Go.ChangeAt Go.RowKit
open Go.ChangeMaps (open_string shut_string)
set_option linter.unusedVariables false
theorem own:ownKnob Tryz.prog.godebug=none:=by kernel_rfl
theorem laidOut:laidOutB Tryz.prog=true:=by kernel_rfl
/-- what the walk is told of a slice of integers that came in -/
def IsRow (k:IntKind)(w:World)(a:Option Addr)(len cap:Nat)(zs:List Int):Prop :=
  (a=none∧len=0∧cap=0∧zs=[]) ∨
  ∃ x,a=some x∧len≤cap∧cap≤maxLen∧zs.length=cap∧(∀ i,i<zs.length→w.cell? (x.add i)=some (.int k (zs.getD i 0)))∧∀ n∈zs,(Lit.int k n).wf=true
theorem laidOutV:laidOutB Tryz.prog=true:=by kernel_rfl
theorem vars1 {H:Type}{enc:TypeId × Value→H}{P:Program}{w:World}{sp:Nat→Bool}{n:String}{gs:List (DataW H)}{ps:List MemPlace}(h:DataW.TrodVars enc P w sp [n] gs ps):∃ g,gs=[g]:=by
  cases gs with
  | nil=>exact h.elim
  | cons g t =>
    obtain⟨_,_,_,_,_,_,_,_,_,_,hs,_⟩:=h
    cases t with
    | nil=>exact⟨g,rfl⟩
    | cons _ _=>exact hs.elim
theorem vars2 {H:Type}{enc:TypeId × Value→H}{P:Program}{w:World}{sp:Nat→Bool}{n m:String}{gs:List (DataW H)}{ps:List MemPlace}(h:DataW.TrodVars enc P w sp [n,m] gs ps):∃ g k,gs=[g,k]:=by
  cases gs with
  | nil=>exact h.elim
  | cons g t =>
    obtain⟨_,_,_,_,_,_,_,_,_,_,hs,_⟩:=h
    obtain⟨k,rfl⟩:=vars1 hs
    exact⟨g,k,rfl⟩
theorem vars6 {H:Type}{enc:TypeId × Value→H}{P:Program}{w:World}{sp:Nat→Bool}{n0 n1 n2 n3 n4 n5:String}{gs:List (DataW H)}{ps:List MemPlace}(h:DataW.TrodVars enc P w sp [n0,n1,n2,n3,n4,n5] gs ps):∃ g0 g1 g2 g3 g4 g5,gs=[g0,g1,g2,g3,g4,g5]:=by
  cases gs with
  | nil=>exact h.elim
  | cons g0 t =>
    obtain⟨_,_,_,_,_,_,_,_,_,_,h1,_⟩:=h
    cases t with
    | nil=>exact h1.elim
    | cons g1 t =>
      obtain⟨_,_,_,_,_,_,_,_,_,_,h2,_⟩:=h1
      cases t with
      | nil=>exact h2.elim
      | cons g2 t =>
        obtain⟨_,_,_,_,_,_,_,_,_,_,h3,_⟩:=h2
        cases t with
        | nil=>exact h3.elim
        | cons g3 t =>
          obtain⟨_,_,_,_,_,_,_,_,_,_,h4,_⟩:=h3
          obtain⟨g4,g5,rfl⟩:=vars2 h4
          exact⟨g0,g1,g2,g3,g4,g5,rfl⟩
theorem gTab : Tryz.prog.globalNamed "math/bits.deBruijn64tab" = some 6 := by kernel_rfl
theorem gTabType:(Tryz.prog.globals[6]?).map (·.type)=some 148:=by kernel_rfl
theorem cellsTab:Tryz.prog.cellsOf 148=64:=by kernel_rfl
theorem cellsByte:Tryz.prog.cellsOf 5=1:=by kernel_rfl
theorem gPowType:(Tryz.prog.globals[8]?).map (·.type)=some 252:=by kernel_rfl
theorem cellsPow:Tryz.prog.cellsOf 252=20:=by kernel_rfl
theorem cellsU64:Tryz.prog.cellsOf 129=1:=by kernel_rfl
theorem powData:(Rows.laid_internal_strconv_uint64pow10:DataW Unit)=Lib.tabData .u64 Lib.pow10Tab:=by kernel_rfl
theorem tabData64:(Rows.laid_math_bits_deBruijn64tab:DataW Unit)=Lib.tabData .u8 (Lib.deBruijn64tab.map fun (n:Nat)=>(n:Int)):=by kernel_rfl
theorem gK : Tryz.prog.globalNamed "loop.example/g00123/impl.sumConsts" = some 5 := by kernel_rfl
theorem tyK:(Tryz.prog.globals[5]?).map (·.type)=some 213:=by kernel_rfl
theorem cellsK:Tryz.prog.cellsOf 213=64:=by kernel_rfl
theorem dataK:(Rows.laid_loop_example_g00123_impl_sumConsts:DataW Unit)=Lib.tabData .u32 zk.kL:=by kernel_rfl
theorem gS : Tryz.prog.globalNamed "loop.example/g00123/impl.sumStarts" = some 4 := by kernel_rfl
theorem tyS:(Tryz.prog.globals[4]?).map (·.type)=some 125:=by kernel_rfl
theorem cellsS:Tryz.prog.cellsOf 125=8:=by kernel_rfl
theorem dataS:(Rows.laid_loop_example_g00123_impl_sumStarts:DataW Unit)=Lib.tabData .u32 zk.sL:=by kernel_rfl
theorem cellsW:Tryz.prog.cellsOf 124=1:=by kernel_rfl
theorem laid_tail {P:Program}{W:World}{x:String × DataW Unit}{rest:List (String × DataW Unit)}(h:laidMet P (x::rest) W):laidMet P rest W:=by
  obtain⟨ps,hv,hn,hc⟩:=h
  obtain⟨n,d⟩:=x
  obtain⟨g,t,cs,fuel,p,q,_,_,_,_,hr,rfl⟩:=hv
  exact⟨q,hr,(List.nodup_append.1 hn).2.1,fun b off hm=>hc b off (List.mem_append_right _ hm)⟩
theorem star : "*" ++ "errors.errorString" = "*errors.errorString" := by decide
theorem rowErr (u : TypeId) (h : Tryz.prog.typeName? 3 u = some "*errors.errorString") : u = 273 :=
  typeName_ptr_named (nm := "errors.errorString") (by rw [star]; kernel_rfl) (by kernel_rfl) (by decide) u (by rw [star]; exact h)
theorem gSyntType:(Tryz.prog.globals[9]?).map (·.type)=some 68:=by kernel_rfl
theorem gRangType:(Tryz.prog.globals[10]?).map (·.type)=some 68:=by kernel_rfl
theorem cellsErr:Tryz.prog.cellsOf 275=1:=by kernel_rfl
theorem cellsStr:Tryz.prog.cellsOf 9=1:=by kernel_rfl
theorem var_lt {W:World}{n:String}{g:Nat}{cs:Array Value}(hg:Tryz.prog.globalNamed n=some g)(hv:W.var? Tryz.prog n=some cs):g<W.heap.size:=by
  unfold World.var? at hv
  rw [hg] at hv
  rcases Nat.lt_or_ge g W.heap.size with h' | h'
  · exact h'
  · simp [Array.getElem?_eq_none h'] at hv
theorem g_errMark : Tryz.prog.globalNamed "loop.example/g00123/impl.errMark" = some 0 := by kernel_rfl
theorem ty_errMark:(Tryz.prog.globals[0]?).map (·.type)=some 68:=by kernel_rfl
theorem g_errOther : Tryz.prog.globalNamed "loop.example/g00123/impl.errOther" = some 1 := by kernel_rfl
theorem ty_errOther:(Tryz.prog.globals[1]?).map (·.type)=some 68:=by kernel_rfl
theorem g_errBody : Tryz.prog.globalNamed "loop.example/g00123/impl.errBody" = some 2 := by kernel_rfl
theorem ty_errBody:(Tryz.prog.globals[2]?).map (·.type)=some 68:=by kernel_rfl
theorem g_errWrong : Tryz.prog.globalNamed "loop.example/g00123/impl.errWrong" = some 3 := by kernel_rfl
theorem ty_errWrong:(Tryz.prog.globals[3]?).map (·.type)=some 68:=by kernel_rfl
theorem laid_skip {P:Program}{W:World}{x y:String × DataW Unit}{rest:List (String × DataW Unit)}(h:laidMet P (x::y::rest) W):laidMet P (x::rest) W:=by
  obtain⟨ps,hv,hn,hc⟩:=h
  obtain⟨n,d⟩:=x
  obtain⟨n1,d1⟩:=y
  obtain⟨g,t,cs,fuel,p,q,a,b,c,d',hr,rfl⟩:=hv
  obtain⟨g1,t1,cs1,fuel1,p1,q1,_,_,_,_,hr1,rfl⟩:=hr
  exact⟨_,⟨g,t,cs,fuel,p,q1,a,b,c,d',hr1,rfl⟩,hn.sublist (List.Sublist.append (List.Sublist.refl _) (List.sublist_append_right _ _)),fun b' off hm=>hc b' off (by
    rcases List.mem_append.1 hm with q | q
    · exact List.mem_append_left _ q
    · exact List.mem_append_right _ (List.mem_append_right _ q))⟩
theorem same_ptr {W:World}{n:String}{t:TypeId}{a b:Addr}(h:W.var? Tryz.prog n=some #[.iface t (.pointer (some a))])(k:W.var? Tryz.prog n=some #[.iface t (.pointer (some b))]):a=b:=by
  rw [h] at k
  simpa using k
theorem cell_of {W:World}{n:String}{g:Nat}{x:Value}(hg:Tryz.prog.globalNamed n=some g)(h:W.var? Tryz.prog n=some #[x]):W.cell? ⟨g,0,none⟩=some x:=by simpa using World.var?_cell hg h 0
/-- what the row's list, and the world's shape, give -/
theorem table {W:World}(h:laidMetH Tryz.prog Rows.fnCertRow.laid W)(hSh:W.ShapedOpen Tryz.prog):∃ a1 a2 a3 a4,yo.Env W a1 a2 a3 a4:=by
  have h0 : laidMet Tryz.prog [("math/bits.deBruijn32tab", Rows.laid_math_bits_deBruijn32tab), ("math/bits.deBruijn64tab", Rows.laid_math_bits_deBruijn64tab), ("internal/strconv.uint64pow10", Rows.laid_internal_strconv_uint64pow10), ("strconv.ErrRange", Rows.laid_strconv_ErrRange), ("strconv.ErrSyntax", Rows.laid_strconv_ErrSyntax), ("loop.example/g00123/impl.sumConsts", Rows.laid_loop_example_g00123_impl_sumConsts), ("loop.example/g00123/impl.sumStarts", Rows.laid_loop_example_g00123_impl_sumStarts), ("loop.example/g00123/impl.errMark", Rows.laid_loop_example_g00123_impl_errMark), ("loop.example/g00123/impl.errOther", Rows.laid_loop_example_g00123_impl_errOther), ("loop.example/g00123/impl.errBody", Rows.laid_loop_example_g00123_impl_errBody), ("loop.example/g00123/impl.errWrong", Rows.laid_loop_example_g00123_impl_errWrong)] W := h
  have h1:=laid_tail h0
  have h2:=laid_tail h1
  have h3:=laid_tail h2
  have h4:=laid_tail h3
  have h5:=laid_tail h4
  have h6:=laid_tail h5
  have h7:=laid_tail h6
  have h8:=laid_tail h7
  have h9:=laid_tail h8
  have h10:=laid_tail h9
  have tT:srt.Tab W:=by
    have hh:=h1
    rw [tabData64] at hh
    have t : Lib.TabIs Tryz.prog W "math/bits.deBruijn64tab" .u8 (Lib.deBruijn64tab.map fun (n : Nat) => (n : Int)) :=
      Lib.tabIs_of_head gTab gTabType Tryz.underlying148 Tryz.underlying5 cellsByte cellsTab hh
    intro j hj
    have c:=t.cell gTab j (by rw [List.length_map];exact hj)
    rw [c]
    congr 2
    rw [List.getD,List.getD,List.getElem?_map]
    cases Lib.deBruijn64tab[j]? <;> rfl
  have t : Lib.TabIs Tryz.prog W "internal/strconv.uint64pow10" .u64 Lib.pow10Tab := by
    have hh:=h2
    rw [powData] at hh
    exact Lib.tabIs_of_head txt.gPow gPowType Tryz.underlying252 Tryz.underlying129 cellsU64 cellsPow hh
  obtain⟨_,_,hv1,_,_,_⟩:=laid_sentinel h3 rd.gRang gRangType Tryz.underlying68 rowErr Tryz.underlying273 Tryz.underlying275 rfl rfl Tryz.underlying9 cellsErr cellsStr
  obtain⟨_,_,hv2,_,_,_⟩:=laid_sentinel h4 rd.gSynt gSyntType Tryz.underlying68 rowErr Tryz.underlying273 Tryz.underlying275 rfl rfl Tryz.underlying9 cellsErr cellsStr
  have hM:=Tryz.laysM145.s1_3 W hSh
  have hMl:7<W.heap.size:=by obtain⟨m,hm⟩:=hM;exact World.block_lt_of_cell? W _ hm
  have tK:zk.TabK W:=by
    have hh:=h5
    rw [dataK] at hh
    have t : Lib.TabIs Tryz.prog W "loop.example/g00123/impl.sumConsts" .u32 zk.kL :=
      Lib.tabIs_of_head gK tyK Tryz.underlying213 Tryz.underlying124 cellsW cellsK hh
    exact fun j hj=>t.cell gK j hj
  have tS:zk.TabS W:=by
    have hh:=h6
    rw [dataS] at hh
    have t : Lib.TabIs Tryz.prog W "loop.example/g00123/impl.sumStarts" .u32 zk.sL :=
      Lib.tabIs_of_head gS tyS Tryz.underlying125 Tryz.underlying124 cellsW cellsS hh
    exact fun j hj=>t.cell gS j hj
  obtain⟨x12,y12,_,_,c12,d12,s12,t12,u12,v12,_,_,_,_,_,_,n12,p12,q12⟩:=laid_sentinels2 h7 g_errMark ty_errMark g_errOther ty_errOther Tryz.underlying68 rowErr Tryz.underlying273 Tryz.underlying275 rfl rfl Tryz.underlying9 cellsErr cellsStr
  obtain⟨x13,y13,_,_,c13,d13,s13,t13,u13,v13,_,_,_,_,_,_,n13,p13,q13⟩:=laid_sentinels2 (laid_skip h7) g_errMark ty_errMark g_errBody ty_errBody Tryz.underlying68 rowErr Tryz.underlying273 Tryz.underlying275 rfl rfl Tryz.underlying9 cellsErr cellsStr
  obtain⟨x14,y14,_,_,c14,d14,s14,t14,u14,v14,_,_,_,_,_,_,n14,p14,q14⟩:=laid_sentinels2 (laid_skip (laid_skip h7)) g_errMark ty_errMark g_errWrong ty_errWrong Tryz.underlying68 rowErr Tryz.underlying273 Tryz.underlying275 rfl rfl Tryz.underlying9 cellsErr cellsStr
  obtain⟨x23,y23,_,_,c23,d23,s23,t23,u23,v23,_,_,_,_,_,_,n23,p23,q23⟩:=laid_sentinels2 h8 g_errOther ty_errOther g_errBody ty_errBody Tryz.underlying68 rowErr Tryz.underlying273 Tryz.underlying275 rfl rfl Tryz.underlying9 cellsErr cellsStr
  obtain⟨x24,y24,_,_,c24,d24,s24,t24,u24,v24,_,_,_,_,_,_,n24,p24,q24⟩:=laid_sentinels2 (laid_skip h8) g_errOther ty_errOther g_errWrong ty_errWrong Tryz.underlying68 rowErr Tryz.underlying273 Tryz.underlying275 rfl rfl Tryz.underlying9 cellsErr cellsStr
  obtain⟨x34,y34,_,_,c34,d34,s34,t34,u34,v34,_,_,_,_,_,_,n34,p34,q34⟩:=laid_sentinels2 h9 g_errBody ty_errBody g_errWrong ty_errWrong Tryz.underlying68 rowErr Tryz.underlying273 Tryz.underlying275 rfl rfl Tryz.underlying9 cellsErr cellsStr
  obtain rfl:=same_ptr u12 u13
  obtain rfl:=same_ptr u12 u14
  obtain rfl:=same_ptr v12 u23
  obtain rfl:=same_ptr v12 u24
  obtain rfl:=same_ptr v13 v23
  obtain rfl:=same_ptr v13 u34
  obtain rfl:=same_ptr v14 v24
  obtain rfl:=same_ptr v14 v34
  exact⟨_,_,_,_,tT,⟨⟨World.block_lt_of_cell? W _ (t.cell txt.gPow 0 (by decide)),t⟩,⟨var_lt rd.gRang hv1,var_lt rd.gSynt hv2,hMl⟩,⟨_,_,hv2⟩,⟨_,_,hv1⟩,hM⟩,tK,tS,cell_of g_errMark u12,cell_of g_errOther v12,cell_of g_errBody v13,cell_of g_errWrong v14,⟨n12,⟨_,_,p12⟩,_,_,q12⟩,⟨n13,⟨_,_,p13⟩,_,_,q13⟩,⟨n14,⟨_,_,p14⟩,_,_,q14⟩,⟨n23,⟨_,_,p23⟩,_,_,q23⟩,⟨n24,⟨_,_,p24⟩,_,_,q24⟩,⟨n34,⟨_,_,p34⟩,_,_,q34⟩⟩
/-! ### the walk -/
set_option maxRecDepth 100000 in
set_option maxHeartbeats 8000000 in
theorem walk (a0:Option Addr)(len0 cap0:Nat)(z0:List Int)(w:World)(w0:IsRow .u8 w a0 len0 cap0 z0)(hT:∃ a1 a2 a3 a4,yo.Env w a1 a2 a3 a4) :
    Calls Tryz.prog 3 #[.slice a0 len0 cap0] w fun e w'=>e=.returned (.bool true)∧Below w.heap.size w w':=by
  have hB:=draw.of_rowB w0
  have hm:len0≤9223372036854775807:=by
    rcases w0 with ⟨_,h,_,_⟩ | ⟨_,_,h1,h2,_⟩
    · omega
    · unfold maxLen at h2
      omega
  clear w0
  by_cases hbig:1048576<len0
  · have C:=sl.qH (draw.big a0 len0 cap0 w hm)
    rw [decide_eq_true hbig] at C
    clear hT
    go_enter Tryz.func3,Tryz.ntmps3
    go_wp2_with fail
    refine (sl.qU C).mono ?_;rintro e w' ⟨rfl,rfl⟩
    go_wp2_with fail
    go_ret
    exact⟨rfl,Below.refl _ _⟩
  have C:=sl.qH (draw.big a0 len0 cap0 w hm)
  rw [decide_eq_false hbig] at C
  have HB:=sl.qH hB
  have TE:Hid (∀ w',w.grownBy w' none→∃ a1 a2 a3 a4,yo.Env w' a1 a2 a3 a4):=fun w' g=>by
    obtain⟨b1,b2',b3,b4,hE⟩:=hT
    exact⟨b1,b2',b3,b4,hE.kept g⟩
  have TT:Hid (∀ w',w.grownBy w' none→yi.Tabs w'):=fun w' g=>by
    obtain⟨b1,b2',b3,b4,hE⟩:=hT
    have h:=hE.kept g
    exact⟨h.tab,h.env.pow,h.k,h.s⟩
  have hlen:len0≤1048576:=by omega
  clear hB hT hbig
  go_enter Tryz.func3,Tryz.ntmps3
  go_wp2_with fail
  refine (sl.qU C).mono ?_;rintro e w' ⟨rfl,hw⟩;have hw':=hw.symm;clear hw;subst hw'
  clear C hm
  go_wp2_with fail
  refine (ia.drawIssue a0 len0 cap0 _ hlen (sl.qU HB)).mono ?_;rintro e w1 ⟨k,n,v,LL,rfl,hk,hl,o1,g1⟩
  obtain⟨va,vc,rfl⟩:=o1.len
  obtain⟨d,sat,b,m,ok,cI,cS,cV⟩:=ys.told hk hl
  have CI:=sl.qH cI
  have CS:=sl.qH cS
  have CV:=sl.qH cV
  clear cI cS cV hk hl
  obtain⟨W1,hW1⟩:∃ W1,W1=w1.alloc (.cells #[.int .i64 n,.slice va LL.length vc] 26):=⟨_,rfl⟩
  have gA:w1.grownBy W1 none:=by rw [hW1];exact World.grownBy_alloc _ _ _
  have F1:Hid (cf.Box 26 W1 w1.heap.size (.int .i64 n) (.slice va LL.length vc)):=by rw [hW1];exact cf.Box.new _ _ _ _
  have GW1:=sl.qH (sl.grown_trans (r:=none) g1 gA)
  have O1:=sl.qH (o1.kept gA).sls
  clear g1 o1 gA
  have C1:=sl.qH (sl.qU CI (.slice va LL.length vc) W1 (sl.qU TT _ (sl.qU GW1)) (sl.qU O1))
  have z0:=(sl.qU F1).c0
  have z1:=(sl.qU F1).c1
  rw [hW1] at z0 z1
  clear CI
  go_wp2_with fail
  rw [←hW1]
  clear z0 z1 hW1
  refine (sl.qU C1).mono ?_;rintro e w3 ⟨rfl,g3⟩
  clear C1
  obtain⟨W3,hW3⟩:∃ W3,W3=w3.alloc (.cells #[.string d,.bool sat,.string b,.string m] 30):=⟨_,rfl⟩
  have ga:w3.grownBy W3 none:=by rw [hW3];exact World.grownBy_alloc w3 _ none
  have gs:=sl.grown_trans (r:=none) g3 ga
  have K3:Hid (yb.Box4 30 W3 w3.heap.size (.string d) (.bool sat) (.string b) (.string m)):=by rw [hW3];exact yb.Box4.new 30 w3 _ _ _ _
  have F3:=sl.qH ((sl.qU F1).kept gs)
  have O3:=sl.qH ((sl.qU O1).kept gs)
  have GW3:=sl.qH (sl.grown_trans (r:=none) (sl.qU GW1) gs)
  clear g3 ga gs F1 O1 GW1
  have C3:=sl.qH (sl.qU CS (.slice va LL.length vc) W3 (sl.qU O3))
  go_upto_region 5 with fail
  rw [←hW3]
  clear hW3 CS
  have z0:=(sl.qU F3).c0
  have z1:=(sl.qU F3).c1
  generalize w1.heap.size=fb at *
  generalize w3.heap.size=cb at *
  go_wp2_with fail
  refine (sl.qU C3).mono ?_;rintro e w5 ⟨rfl,g5⟩
  clear C3 z0 z1
  obtain⟨W5,hW5⟩:∃ W5,W5=w5.alloc (.cells #[.string d,.bool sat,.string b,.string m] 30):=⟨_,rfl⟩
  have ga:w5.grownBy W5 none:=by rw [hW5];exact World.grownBy_alloc w5 _ none
  have gs:=sl.grown_trans (r:=none) g5 ga
  have L5:Hid (yb.Box4 30 W5 w5.heap.size (.string d) (.bool sat) (.string b) (.string m)):=by rw [hW5];exact yb.Box4.new 30 w5 _ _ _ _
  have K5:=sl.qH ((sl.qU K3).kept gs)
  have F5:=sl.qH ((sl.qU F3).kept gs)
  have O5:=sl.qH ((sl.qU O3).kept gs)
  have GW5:=sl.qH (sl.grown_trans (r:=none) (sl.qU GW3) gs)
  clear g5 ga gs K3 F3 O3 GW3
  go_upto_region 6 with fail
  rw [←hW5]
  clear hW5
  generalize w5.heap.size=kb at *
  have x0:=(sl.qU K5).c0
  have x1:=(sl.qU K5).c1
  have x2:=(sl.qU K5).c2
  have x3:=(sl.qU K5).c3
  have y0:=(sl.qU L5).c0
  have y1:=(sl.qU L5).c1
  have y2:=(sl.qU L5).c2
  have y3:=(sl.qU L5).c3
  have st:=ys.certStood
  have st2:=ys.certGuard
  have hok:(ok != ok)=false:=by cases ok <;> rfl
  go_upto_region 8 with fail
  clear x0 x1 x2 x3 y0 y1 y2 y3 st st2 hok
  have VC:=sl.qH (fun (e:ok=true) w' (g:W5.grownBy w' none)=>(sl.qU CV e).1 (.slice va LL.length vc) w' (sl.qU TE _ (sl.grown_trans (r:=none) (sl.qU GW5) g)) ((sl.qU O5).kept g))
  have DC:=sl.qH (fun (e:ok=true) w' (g:W5.grownBy w' none)=>(sl.qU CV e).2 (.slice va LL.length vc) w' (sl.qU TT _ (sl.grown_trans (r:=none) (sl.qU GW5) g)) ((sl.qU O5).kept g))
  have CK:Hid (∀ w',W5.grownBy w' none→w'.cell? ⟨fb,0,none⟩=some (.int .i64 n)∧w'.cell? ⟨fb,1,none⟩=some (.slice va LL.length vc)∧w'.cell? ⟨cb,0,none⟩=some (.string d)∧w'.cell? ⟨cb,1,none⟩=some (.bool sat)∧w'.cell? ⟨cb,2,none⟩=some (.string b)∧w'.cell? ⟨cb,3,none⟩=some (.string m)):=fun w' g=>⟨((sl.qU F5).kept g).c0,((sl.qU F5).kept g).c1,((sl.qU K5).kept g).c0,((sl.qU K5).kept g).c1,((sl.qU K5).kept g).c2,((sl.qU K5).kept g).c3⟩
  clear CV F5 K5 L5 O5
  go_cut [56] (fun q wx=>q=.bool false∧Hid (W5.grownBy wx none))
  case first =>
    have GX:=sl.qH (cf.grown_drew W5 none)
    obtain⟨k1,k2,k3,k4,k5,k6⟩:=sl.qU CK _ (sl.grown_refl _)
    cases ok
    · clear VC DC
      go_region
      all_goals (go_wp2_with fail;go_meet;exact⟨rfl,GX⟩)
    · have VF:=sl.qH (sl.qU VC rfl)
      have DF:=sl.qH (sl.qU DC rfl)
      clear VC DC
      go_region_held3 (fun w'=>w'.cell? ⟨fb,0,none⟩=some (.int .i64 n)∧w'.cell? ⟨fb,1,none⟩=some (.slice va LL.length vc)∧w'.cell? ⟨cb,0,none⟩=some (.string d)∧w'.cell? ⟨cb,1,none⟩=some (.bool sat)∧w'.cell? ⟨cb,2,none⟩=some (.string b)∧w'.cell? ⟨cb,3,none⟩=some (.string m)) (go_keep) (first
        | (go_at_call 10;refine (sl.qU VF _ (sl.qU GX)).mono ?_;rintro e w9 ⟨rfl,g9⟩;replace GX:=sl.qH (sl.grown_trans (r:=none) (sl.qU GX) g9);obtain⟨k1,k2,k3,k4,k5,k6⟩:=sl.qU CK _ (sl.qU GX);clear g9)
        | (go_at_call 11;refine (sl.qU DF _ (sl.qU GX)).mono ?_;rintro e w9 ⟨rfl,g9⟩;replace GX:=sl.qH (sl.grown_trans (r:=none) (sl.qU GX) g9);obtain⟨k1,k2,k3,k4,k5,k6⟩:=sl.qU CK _ (sl.qU GX);clear g9))
      all_goals (go_wp2_with fail;go_meet;exact⟨rfl,GX⟩)
  case rest =>
    obtain⟨rfl,hg⟩:=hcut
    have GW6:=sl.qH (sl.grown_trans (r:=none) (sl.qU GW5) (sl.qU hg))
    have HB6:=sl.qH ((sl.qU HB).below (sl.below_of (sl.qU GW6)))
    clear VC DC CK GW5 hg HB
    go_wp2_with fail
    refine (ia.drawVerify a0 len0 cap0 _ hlen (sl.qU HB6)).mono ?_;rintro e w7 ⟨k',hk',n',v',M',d',sat',b',m',lo,hi,rfl,ht,bd,bb,ow,hh,g7⟩
    obtain⟨va',vc',rfl⟩:=ow.len
    obtain⟨r,ok',hr,cV,cS,cO⟩:=ys.told2 (key:=k') (n:=n') (LL:=M') (d:=d') (b:=b') (m:=m') (sat:=sat') hk' ht bd bb
    have CV:=sl.qH cV
    have CS:=sl.qH cS
    have CO:=sl.qH cO
    have HR:=sl.qH hr
    clear cV cS cO hr hk' ht bd bb HB6
    obtain⟨W8,hW8⟩:∃ W8,W8=(w7.alloc (.cells #[.int .i64 n',.slice va' M'.length vc'] 26)).alloc (.cells #[.string d',.bool sat',.string b',.string m'] 30):=⟨_,rfl⟩
    have g8:w7.grownBy W8 none:=by rw [hW8];exact sl.grown_trans (World.grownBy_alloc _ _ none) (World.grownBy_alloc _ _ none)
    have F8:Hid (cf.Box 26 W8 w7.heap.size (.int .i64 n') (.slice va' M'.length vc')):=by rw [hW8];exact (cf.Box.new _ _ _ _).kept (World.grownBy_alloc _ _ none)
    have K8:Hid (yb.Box4 30 W8 (w7.heap.size+1) (.string d') (.bool sat') (.string b') (.string m')):=by
      rw [hW8]
      have:=yb.Box4.new 30 (w7.alloc (.cells #[.int .i64 n',.slice va' M'.length vc'] 26)) (.string d') (.bool sat') (.string b') (.string m')
      rw [World.size_alloc] at this
      exact this
    have GW8:=sl.qH (sl.grown_trans (r:=none) (sl.qU GW6) (sl.grown_trans (r:=none) g7 g8))
    have O8:=sl.qH (ow.kept g8)
    have H8:hi≤W8.heap.size:=Nat.le_trans hh g8.size
    clear ow hh g7 g8 GW6
    go_upto_region 11 with fail
    rw [←hW8]
    clear hW8
    generalize hkb2:w7.heap.size+1=kb2 at *
    clear hkb2
    generalize w7.heap.size=fb2 at *
    have C1:=sl.qH (sl.qU CV (.slice va' M'.length vc') W8 (sl.qU TE _ (sl.qU GW8)) (sl.qU O8).sls)
    have z0:=(sl.qU F8).c0
    have z1:=(sl.qU F8).c1
    have x0:=(sl.qU K8).c0
    have x1:=(sl.qU K8).c1
    have x2:=(sl.qU K8).c2
    have x3:=(sl.qU K8).c3
    go_wp2_with fail
    refine (sl.qU C1).mono ?_;rintro e w9 ⟨rfl,g9⟩
    have C2:=sl.qH (sl.qU CS (.slice va' M'.length vc') lo hi w9 ((sl.qU O8).kept g9) (Nat.le_trans H8 g9.size))
    have G9:=sl.qH g9
    clear z0 z1 x0 x1 x2 x3 g9 C1 CV CS
    have z0:=((sl.qU F8).kept (sl.qU G9)).c0
    have z1:=((sl.qU F8).kept (sl.qU G9)).c1
    have x0:=((sl.qU K8).kept (sl.qU G9)).c0
    have x1:=((sl.qU K8).kept (sl.qU G9)).c1
    have x2:=((sl.qU K8).kept (sl.qU G9)).c2
    have x3:=((sl.qU K8).kept (sl.qU G9)).c3
    go_wp2_with fail
    refine (sl.qU C2).mono ?_;rintro e w10 ⟨rfl,g10⟩
    have G10:=sl.qH (sl.grown_trans (r:=none) (sl.qU G9) g10)
    clear z0 z1 x0 x1 x2 x3 g10 C2 G9
    have C3:=sl.qH (sl.qU CO (.slice va' M'.length vc') w10 ((sl.qU O8).kept (sl.qU G10)).sls)
    have z0:=((sl.qU F8).kept (sl.qU G10)).c0
    have z1:=((sl.qU F8).kept (sl.qU G10)).c1
    clear CO
    go_wp2_with fail
    refine (sl.qU C3).mono ?_;rintro e w11 ⟨u,rfl,g11⟩
    have G11:=sl.qH (sl.grown_trans (r:=none) (sl.qU G10) g11)
    have GZ:=sl.qH (sl.below_of (sl.grown_trans (r:=none) (sl.qU GW8) (sl.qU G11)))
    have x1:=((sl.qU K8).kept (sl.qU G11)).c1
    clear g11 C3 z0 z1 G10
    by_cases h0:r=0
    · have he:=sl.qU HR h0
      subst h0
      subst he
      clear HR
      cases ok'
      all_goals
        go_wp2_with fail
        go_ret
        exact⟨rfl,sl.qU GZ⟩
    · have hb0:(r != 0)=true:=by simpa using h0
      clear HR
      go_wp2_with fail
      go_ret
      exact⟨rfl,sl.qU GZ⟩
/-! ### the row's step (the guide's own frame) -/
set_option maxRecDepth 100000 in
theorem contract (H:Type)(enc:TypeId × Value→H)(W:World)(base:Nat)(args:Array Value)(ds gs:List (DataW H))(before:List MemPlace)
    (hval:∀ (j:Nat) t v,Tryz.f3.params[j]?=some t→args[j]?=some v→Value.okWide Tryz.prog W .any base t v)
    (hW:DataW.Whole enc Tryz.prog Tryz.f3.params.toList Rows.fnCertSpec.vars false W args.toList ds gs before) (hL:laidMetH Tryz.prog Rows.fnCertRow.laid W) (hSh:W.ShapedOpen Tryz.prog) :
    Calls Tryz.prog 3 args W fun e W'=>∃ v,e=.returned v∧Rows.fnCertSpec.post enc Tryz.prog Tryz.f3 false true false false W args v W':=by
  have hW':=hW
  obtain⟨p,q,hA0,hV,rfl,hfz,hnd⟩:=hW
  have hA:DataW.TrodAll enc Tryz.prog W 0 (fun _=>true) true Tryz.f3.params.toList args.toList ds p:=hA0
  rw [Tryz.params3] at hA hval
  obtain⟨v0,vs0,d0,ds0,p0,q0,hargs,rfl,rfl,h0,r0⟩:=trodAll_cons hA
  obtain⟨rfl,rfl,rfl⟩:=trodAll_nil r0
  obtain rfl:args=#[v0]:=by cases args;simp_all
  obtain⟨g0,g1,g2,g3,g4,g5,rfl⟩:=vars6 hV
  obtain⟨a0,len0,cap0,rfl⟩:=okWide_slice Tryz.underlying22 (hval 0 22 v0 rfl rfl)
  have k0:=h0
  have lt0:∀ x∈p0,x.block<W.heap.size:=by obtain⟨m,hm⟩:=k0;exact DataW.trod_lt m _ _ _ hm
  obtain⟨z0,w0⟩:∃ zs,IsRow .u8 W a0 len0 cap0 zs:=by
    obtain⟨fuel,hf⟩:=h0
    rcases open_ints Tryz.underlying22 Tryz.underlying5 (by kernel_rfl) hf with ⟨hcs,_⟩ | ⟨x,l,c,zs,hcs,_,hl,hm,hz,_,hcell,hwz⟩
    · simp [Value.cells] at hcs
      obtain⟨rfl,rfl,rfl⟩:=hcs
      exact⟨[],.inl ⟨rfl,rfl,rfl,rfl⟩⟩
    · simp [Value.cells] at hcs
      obtain⟨rfl,rfl,rfl⟩:=hcs
      exact⟨zs,.inr ⟨_,rfl,hl,hm,by simpa using hz,hcell,hwz⟩⟩
  clear hA0
  refine (walk a0 len0 cap0 z0 W w0 (table hL hSh)).mono fun e W' ⟨he,bel⟩=>?_
  subst he
  exact⟨_,rfl,_,_,_,[],_,_,hW',trodAll_mk1 (shut_bool Tryz.underlying4 _),(trodAll_cons_mk (Below.trod laidOut (by kernel_rfl) (of_decide_eq_true (by kernel_rfl)) k0 bel lt0) trodAll_mk0),Below.trodVars laidOutV bel (by kernel_rfl) hV,bel.frame _,fun h=>by cases h⟩
set_option maxRecDepth 100000 in
theorem lifted (os:Os)(started:os.Started)(H:Type)(enc:TypeId × Value→H)(F:Stop.Interp) :
    ReturnsInHanded {} Tryz.checked os 3 .any ((OpenSpec.ofChange Rows.fnCertSpec).preRow enc Tryz.prog Tryz.f3 Rows.fnCertRow.domain false Rows.fnCertRow.laid) (((OpenSpec.ofChange Rows.fnCertSpec).at F).post enc Tryz.prog Tryz.f3 false true false false):=by
  refine returnsInHanded_of_row (C:=Tryz.checked) (s:=OpenSpec.ofChange Rows.fnCertSpec) own started (by kernel_rfl) Tryz.func3
    (witness_row_at (enc:=enc) (C:=Tryz.checked) false ({ (World.holding Tryz.prog os ⟨#[.cells #[.string ⟨#[118,97,108,117,101,32,111,117,116,32,111,102,32,114,97,110,103,101]⟩] 275,.cells #[.string ⟨#[105,110,118,97,108,105,100,32,115,121,110,116,97,120]⟩] 275,.cells #[.string ⟨#[116,104,101,32,109,97,114,107,32,105,115,32,110,111,116,32,116,104,97,116,32,111,102,32,116,104,101,32,107,101,121,32,97,110,100,32,119,104,97,116,32,105,115,32,115,105,103,110,101,100]⟩] 275,.cells #[.string ⟨#[116,104,101,32,99,101,114,116,105,102,105,99,97,116,101,32,105,115,32,111,102,32,97,110,111,116,104,101,114,32,102,111,114,109,117,108,97]⟩] 275,.cells #[.string ⟨#[116,104,101,32,98,111,100,121,32,116,101,108,108,115,32,110,111,32,97,110,115,119,101,114]⟩] 275,.cells #[.string ⟨#[116,104,101,32,97,110,115,119,101,114,32,100,111,101,115,32,110,111,116,32,104,111,108,100]⟩] 275],#[],[]⟩) with heap:=((((((((((((World.holding Tryz.prog os ⟨#[.cells #[.string ⟨#[118,97,108,117,101,32,111,117,116,32,111,102,32,114,97,110,103,101]⟩] 275,.cells #[.string ⟨#[105,110,118,97,108,105,100,32,115,121,110,116,97,120]⟩] 275,.cells #[.string ⟨#[116,104,101,32,109,97,114,107,32,105,115,32,110,111,116,32,116,104,97,116,32,111,102,32,116,104,101,32,107,101,121,32,97,110,100,32,119,104,97,116,32,105,115,32,115,105,103,110,101,100]⟩] 275,.cells #[.string ⟨#[116,104,101,32,99,101,114,116,105,102,105,99,97,116,101,32,105,115,32,111,102,32,97,110,111,116,104,101,114,32,102,111,114,109,117,108,97]⟩] 275,.cells #[.string ⟨#[116,104,101,32,98,111,100,121,32,116,101,108,108,115,32,110,111,32,97,110,115,119,101,114]⟩] 275,.cells #[.string ⟨#[116,104,101,32,97,110,115,119,101,114,32,100,111,101,115,32,110,111,116,32,104,111,108,100]⟩] 275],#[],[]⟩).heap.modify 11 fun | .cells _ t frozen=>.cells (Lib.deBruijn32tab.map fun (n:Nat)=>Value.int .u8 n).toArray t frozen | o=>o).modify 6 fun | .cells _ t frozen=>.cells (Lib.deBruijn64tab.map fun (n:Nat)=>Value.int .u8 n).toArray t frozen | o=>o).modify 8 fun | .cells _ t frozen=>.cells (Lib.pow10Tab.map fun n=>Value.int .u64 n).toArray t frozen | o=>o).modify 10 fun | .cells _ t frozen=>.cells #[.iface 273 (.pointer (some ⟨(World.holding Tryz.prog default ⟨#[],#[],[]⟩).heap.size,0,none⟩))] t frozen | o=>o).modify 9 fun | .cells _ t frozen=>.cells #[.iface 273 (.pointer (some ⟨(World.holding Tryz.prog default ⟨#[],#[],[]⟩).heap.size+1,0,none⟩))] t frozen | o=>o).modify 0 fun | .cells _ t frozen=>.cells #[.iface 273 (.pointer (some ⟨(World.holding Tryz.prog default ⟨#[],#[],[]⟩).heap.size+2,0,none⟩))] t frozen | o=>o).modify 1 fun | .cells _ t frozen=>.cells #[.iface 273 (.pointer (some ⟨(World.holding Tryz.prog default ⟨#[],#[],[]⟩).heap.size+3,0,none⟩))] t frozen | o=>o).modify 2 fun | .cells _ t frozen=>.cells #[.iface 273 (.pointer (some ⟨(World.holding Tryz.prog default ⟨#[],#[],[]⟩).heap.size+4,0,none⟩))] t frozen | o=>o).modify 3 fun | .cells _ t frozen=>.cells #[.iface 273 (.pointer (some ⟨(World.holding Tryz.prog default ⟨#[],#[],[]⟩).heap.size+5,0,none⟩))] t frozen | o=>o).modify 5 fun | .cells _ t frozen=>.cells (zk.kL.map fun n=>Value.int .u32 n).toArray t frozen | o=>o).modify 4 fun | .cells _ t frozen=>.cells (zk.sL.map fun n=>Value.int .u32 n).toArray t frozen | o=>o) }:World) #[.slice none 0 0] rfl (by kernel_rfl) (by kernel_rfl) (by kernel_rfl)
      (OpenSpec.preRow_of_cond 8 (x:=([.nil],[Rows.laid_loop_example_g00123_impl_sumStarts,Rows.laid_loop_example_g00123_impl_sumConsts,.held (enc (273,.pointer (some ⟨(World.holding Tryz.prog default ⟨#[],#[],[]⟩).heap.size+2,0,none⟩))),.held (enc (273,.pointer (some ⟨(World.holding Tryz.prog default ⟨#[],#[],[]⟩).heap.size+3,0,none⟩))),.held (enc (273,.pointer (some ⟨(World.holding Tryz.prog default ⟨#[],#[],[]⟩).heap.size+4,0,none⟩))),.held (enc (273,.pointer (some ⟨(World.holding Tryz.prog default ⟨#[],#[],[]⟩).heap.size+5,0,none⟩)))],MemPlace.row ⟨4,0,none⟩ 8++MemPlace.row ⟨5,0,none⟩ 64++MemPlace.row ⟨0,0,none⟩ 1++MemPlace.row ⟨1,0,none⟩ 1++MemPlace.row ⟨2,0,none⟩ 1++MemPlace.row ⟨3,0,none⟩ 1)) (by kernel_rfl) (by kernel_rfl) (fun k hk=>by cases hk) (by kernel_rfl) (laidMet_of_run' 8 (by kernel_rfl) (by kernel_rfl)))) ?_
  intro W base args ds gs before hval hW _ _ _ hL hSh _
  exact contract H enc W base args ds gs before hval hW hL hSh
theorem said:Rows.FnCertSaid :=
  OpenClaim.holds_of_cond 3 Tryz.f3 rfl rfl rfl rfl rfl rfl rfl ⟨rfl,rfl,rfl,rfl,rfl⟩ rfl rfl rfl rfl rfl (by kernel_rfl) Tryz.func3 (by kernel_rfl)
    (of_decide_eq_true (by kernel_rfl)) (by unfold Func.isWrapper;first | (rw [if_pos (by decide +kernel)];kernel_rfl) | (rw [if_neg (by decide +kernel)];exact⟨rfl,rfl⟩))
    (fun os started H enc _ F=>by rw [OpenClaim.pre_eq_preRow];exact lifted os started H enc F)
theorem plain (f : FuncId) (fn : Func) (hf : Tryz.pinned.checked.prog.funcNamed "loop.example/g00123/laws.FnCert" = some f) (hfn : Tryz.pinned.checked.prog.funcs[f]? = some fn) :
    true=Tryz.pinned.checked.prog.looks []∧∀ (j:Nat) t,fn.params[j]?=some t→Tryz.pinned.checked.prog.wantsStandIn t=false:=by
  obtain rfl : f = 3 := Option.some.inj ((show Tryz.prog.funcNamed "loop.example/g00123/laws.FnCert" = some 3 by kernel_rfl).symm.trans hf) |>.symm
  obtain rfl:fn=Tryz.f3:=(Option.some.inj (Tryz.func3.symm.trans hfn)).symm
  refine⟨by kernel_rfl,fun j t ht=>?_⟩
  rw [Tryz.params3] at ht
  obtain rfl:t=22:=by simpa using Array.mem_of_getElem? ht
  exact (show Tryz.prog.wantsStandIn 22=false by kernel_rfl)
/-- the statement: the row's tied card -/
theorem proved:Rows.FnCertCardSaid :=
  Claim7.holds_tied_plain_at .later [] _ _ _ _ said (fun _ h=>by cases h) (by kernel_rfl) (fun _ h=>by cases h) fnCert_row_tie rfl ⟨rfl,rfl⟩ (by kernel_rfl) rfl plain (by kernel_rfl)
#print axioms proved
end Go.Proofs.YtddmmoehlabkiaaGreatDoor.fnCert
