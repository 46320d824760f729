/- Keys, texts and marks as the laws draw them, and the mathematics of FnMark: a key with a nought behind it, thirty-two bytes, hexadecimal texts that come back; no condition but on sizes. -/
import Derived.Test.YtddmmoehlabkiaaGreatDoorJXZu
import Derived.Lib.Bytealg
namespace Go.Proofs.YtddmmoehlabkiaaGreatDoor
set_option linter.unusedVariables false
open Go.ChangeShapes Go.WideShapes Go.ChangeAt Go.RowKit
open sl (qH qU qT)
namespace zv
open sl (grown_trans')
open draw (Cur below once)
theorem pair (c:Nat)(w:World)(hc:Cur w c) :
  Calls Tryz.prog 22 #[.pointer (some ⟨c,0,none⟩)] w fun e w'=>∃ k s:ByteArray,e=.returned (.tuple #[.string k,.string s])/\k.size<=65/\s.size<=80/\Cur w' c/\w.grownBy w' (some c):=by
 have HC:=qH hc;clear hc;go_enter Tryz.func22,Tryz.ntmps22;go_wp2_with fail;refine (below c 20 _ (qU HC) (by decide) (by decide)).mono ?_;rintro e w1 ⟨x,rfl,x0,x1,hc1,g1⟩;have C1:=qH hc1;have G1:=qH g1;clear hc1 g1 HC;go_wp2_with fail;refine (once c 8 _ (qU C1) (by decide) (by decide)).mono ?_;rintro e w2 ⟨b,rfl,hc2,g2⟩;have C2:=qH hc2;have G2:=qH (grown_trans' (qU G1) g2);clear hc2 g2 C1 G1;cases b
 ·obtain⟨n,rfl⟩:=Int.eq_ofNat_of_zero_le x0;have hn:n<=65:=by omega
  have CA:=qH (zu.any c n w2 (qU C2) (by omega));clear x0 x1;go_wp2_with fail;refine (qU CA).mono ?_;rintro e w3 ⟨k,rfl,hk,hc3,g3⟩;have C3:=qH hc3;have G3:=qH (grown_trans' (qU G2) g3);have HK:Hid (k.size<=65):=by show _<=_;omega
  clear hc3 g3 C2 G2 CA hk;go_wp2_with fail;refine (below c 80 _ (qU C3) (by decide) (by decide)).mono ?_;rintro e w4 ⟨y,rfl,y0,y1,hc4,g4⟩;obtain⟨m,rfl⟩:=Int.eq_ofNat_of_zero_le y0;have hm:m<=80:=by omega
  have CB:=qH (zu.any c m w4 hc4 (by omega));have G4:=qH (grown_trans' (qU G3) g4);clear hc4 g4 C3 G3 y0 y1;go_wp2_with fail;refine (qU CB).mono ?_;rintro e w5 ⟨s,rfl,hs,hc5,g5⟩;have C5:=qH hc5;have G5:=qH (grown_trans' (qU G4) g5);have HS:Hid (s.size<=80):=by show _<=_;omega
  clear hc5 g5 G4 CB hs;go_wp2_with fail;go_ret2;exact⟨k,s,rfl,qU HK,qU HS,qU C5,qU G5⟩
 ·go_wp2_with fail;refine (below c 2 _ (qU C2) (by decide) (by decide)).mono ?_;rintro e w3 ⟨z,rfl,z0,z1,hc3,g3⟩;obtain⟨n',rfl⟩:=Int.eq_ofNat_of_zero_le z0;obtain⟨n,hn'⟩:∃ n,n=64+n':=⟨_,rfl⟩;have CA:=qH (zu.any c n w3 hc3 (by omega));rw [hn',show (((64+n':Nat)):Int)=64+(n':Int) by omega] at CA;have hn:n'<=1:=by omega
  have G3:=qH (grown_trans' (qU G2) g3);clear hc3 g3 C2 G2 x0 x1 z0 z1 hn';go_wp2_with fail;refine (qU CA).mono ?_;rintro e w3' ⟨k,rfl,hk,hc3,g3'⟩;have C3:=qH hc3;have G3':=qH (grown_trans' (qU G3) g3');have HK:Hid (k.size<=65):=by show _<=_;omega
  clear hc3 g3' G3 CA hk;go_wp2_with fail;refine (below c 80 _ (qU C3) (by decide) (by decide)).mono ?_;rintro e w4 ⟨y,rfl,y0,y1,hc4,g4⟩;obtain⟨m,rfl⟩:=Int.eq_ofNat_of_zero_le y0;have hm:m<=80:=by omega
  have CB:=qH (zu.any c m w4 hc4 (by omega));have G4:=qH (grown_trans' (qU G3') g4);clear hc4 g4 C3 G3' y0 y1;go_wp2_with fail;refine (qU CB).mono ?_;rintro e w5 ⟨s,rfl,hs,hc5,g5⟩;have C5:=qH hc5;have G5:=qH (grown_trans' (qU G4) g5);have HS:Hid (s.size<=80):=by show _<=_;omega
  clear hc5 g5 G4 CB hs;go_wp2_with fail;go_ret2;exact⟨k,s,rfl,qU HK,qU HS,qU C5,qU G5⟩
end zv
end Go.Proofs.YtddmmoehlabkiaaGreatDoor
