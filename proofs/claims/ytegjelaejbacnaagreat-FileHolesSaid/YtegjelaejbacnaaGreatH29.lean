/- For FileHoles: contracts and facts, part 29. -/
import Derived.Test.YtegjelaejbacnaaGreatH28
set_option maxRecDepth 100000
set_option maxHeartbeats 25600000
set_option linter.unusedSimpArgs false
set_option linter.unusedVariables false
open Go.ChangeShapes Go.WideShapes Go.ChangeAt Go.RowKit
namespace Go.Proofs.YtegjelaejbacnaaGreat
theorem sO (x0 x1:Int) (A2:Option Addr) (l2:List Int) (d2:Nat) (w:World) (hx0:0<=x0/\x0<=65535) (hx1:0<=x1/\x1<=65535) (hd2:l2.length<=d2) (hm2:d2<=9223372036854775807) (hB2:ay l2) (hy2:dk w A2 l2) :
 Calls Tryz.prog 10 #[.int .u16 x0,.int .u16 x1,.slice A2 l2.length d2] w fun e w'=>e=.returned (.bool true)/\Below w.heap.size w w':=by
 have HBG:=He (zg w);have HRT:=He zd;obtain ⟨m0,hm0e⟩:∃ m0,m0=l2.length:=⟨_,rfl⟩
 rw [<- hm0e] at hd2 ⊢;have HX0:=He hx0;have HX1:=He hx1;have HY:=He hy2;have HB2b:=He hB2;have HM0:=He hm0e;clear hx0 hx1 hy2 hB2 hm0e;go_enter Tryz.func10,Tryz.ntmps10;go_wp2_with fail
 refine HBG.out.mono ?_;rintro e wb ⟨rfl,hbb⟩;have HBb:=He hbb;clear hbb HBG;by_cases h1:1<=m0
 case neg =>
  have q1:(m0:Int)<1:=Ha;go_wp2_with fail
  go_ret;exact ⟨rfl,HBb.out⟩
 have q1:¬ (m0:Int)<1:=Ha;by_cases h200:m0<=200
 case neg =>
  have q2:(200:Int)<m0:=Ha;go_wp2_with fail
  go_ret;exact ⟨rfl,HBb.out⟩
 have q2:¬ (200:Int)<m0:=Ha;obtain ⟨ad,rfl⟩:∃ ad,A2=some ad:=by
  obtain ⟨x,hx⟩:∃ x,l2[0]?=some x:=⟨_,List.getElem?_eq_getElem (by have:=HM0.out;omega)⟩
  obtain ⟨a,e,_⟩:=HY.out 0 x hx;exact ⟨a,e⟩
 have hadl:ad.block<w.heap.size:=by
  obtain ⟨x,hx⟩:∃ x,l2[0]?=some x:=⟨_,List.getElem?_eq_getElem (by have:=HM0.out;omega)⟩
  obtain ⟨a,e,hc⟩:=HY.out 0 x hx;injection e with e;subst e
  exact World.block_lt_of_cell? w _ hc
 have hnF:=(JR (n:=40) rfl).1;have HN:=He (sN 0 40 wb Ha Ha);go_wp2_with fail
 refine HN.out.mono ?_;rintro e w1 ⟨s,g,rfl,hs,hb1⟩;have HS:=He hs;have HB1:=He ((HBb.out).trans (hb1.mono (HBb.out).size));clear hs hb1 HN;go_wp2_with fail
 refine (HRT.out w1).mono ?_;rintro e w2 ⟨rfl,hb2⟩;have HS2:=He (HS.out.below hb2);have HB2:=He (HB1.out.trans (hb2.mono HB1.out.size));have hnw:=sL HS2.out Ha (by constructor <;> omega) (ze Ha Ha) ⟨-1,0,0⟩ ⟨by constructor <;> decide,by constructor <;> decide,by constructor <;> decide⟩ [97] (fun x hx=>by simp at hx;omega) Hd 1 (by constructor <;> omega) [] (fun x hx=>by cases hx) Hd;change Calls Tryz.prog _ #[_,_,.string ⟨#[97]⟩,_,.string ⟨#[]⟩] _ (fun e w'=>∃ g' cap',e=.returned (.tuple #[(zf 40).2.1.v,.int .i64 (zf 40).2.2])/\ma w' _ s g' 40 cap' 0 (fB 40)/\_) at hnw;rw [hnF] at hnw;change Calls Tryz.prog _ _ _ (fun e w'=>∃ g' cap',e=.returned (.tuple #[.agg (jC 0 1 1),.int .i64 0])/\_) at hnw;have HNW:=He hnw;clear hnw hb2 hnF;go_wp2_with fail
 refine HNW.out.mono ?_;rintro e w3 ⟨g',cap',rfl,hs,hg⟩;have HS3:=He hs;have HB3:=He (HB2.out.grown hg HB2.out.size (fun k e=>by injection e with e;subst e;exact Nat.le_trans (HBb.out).size HS.out.sB));clear hs hg HNW HS HS2 HB1;have h2:=heap_alloc_new w3 (Obj.cells #[.int .i64 0,.int .i64 0,.int .u32 0] 82);have hb4:Below w3.heap.size w3 ((w3.alloc (Obj.cells #[.int .i64 0,.int .i64 0,.int .u32 0] 82)).setRow w3.heap.size (jC 0 1 1)):=below_setRow (aM (w:=w3) (Obj.cells #[.int .i64 0,.int .i64 0,.int .u32 0] 82)) (Nat.le_refl _) _;have HI:=He (am (D:=jC 0 1 1) h2);have HS4:=He (HS3.out.below hb4);have HB4:=He (HB3.out.trans (hb4.mono HB3.out.size));clear hb4 HS3 HB3 HB2;go_upto_region 7 with (first | (refine aK rfl (.tmp 8) (.tmp 39) rfl w3.heap.size rfl 0 1 1 rfl 0 0 0 h2 ?_))
 clear h2;generalize (w3.alloc (Obj.cells #[.int .i64 0,.int .i64 0,.int .u32 0] 82)).setRow w3.heap.size (jC 0 1 1)=w4 at *;generalize w3.heap.size=p2 at *;have hc2:∀ W,Below w4.heap.size w4 W->W.cell? ⟨p2,1,none⟩=some (.int .i64 1):=fun W hb=>(af (Go.Proofs.YtegjelaejbacnaaGreat.kb hb HI.out) 1).trans rfl;have c1:=HS4.out.c1;have HF:=He (sA HS4.out.row Ha Ha);have HC2:=He hc2;clear hc2 HS4;go_wp2_with fail
 refine HF.out.mono ?_;rintro e w5 ⟨q,hp,rfl,F,rb,m,v,htv,hst⟩;have HTV:=He htv;have HST:=He hst;clear htv hst HF c1;have HTX:=He (HTV.out.new_tx Ha);go_wp2_with fail
 refine HTX.out.mono ?_;rintro e w6 ⟨tb,rfl,⟨kb,hkt⟩,_⟩;obtain ⟨C,hC⟩:∃ C:TC,C=⟨w4,F,q,hp,rb,40,40,m,v,tb,kb⟩:=⟨_,rfl⟩
 have hk:C.K w6 (.slice none 0 0) [] (List.replicate 40 false):=by rw [hC];exact hkt
 have hbn:C.bn=⟨fB 40,40⟩:=by rw [hC];show (⟨kB v,40⟩:BN)=_;rw [HST.out]
 have hw0:C.w0=w4:=by rw [hC]
 have htb:tb=C.tb:=by rw [hC]
 have HBN:=He hbn;have HW0:=He hw0;have HK:=He hk;clear hkt HTX hC hk hbn hw0;subst htb;obtain ⟨hkf,hmi⟩:=KF.start (n:=40) rfl HK.out HBN.out;have HBw:Hid (∀ W,Below w4.heap.size w4 W->Below w.heap.size w W):=fun W hb=>HB4.out.trans (hb.mono HB4.out.size);have hb6:Below w4.heap.size w4 w6:=by rw [<- HW0.out];exact HK.out.tv.bel
 have HOL:Hid (ad.block<C.w0.heap.size):=by unfold Hid;rw [HW0.out];exact Nat.lt_of_lt_of_le hadl HB4.out.size
 have hroom:2*(pcM 0 m0).length<=(KL C.n (gA nF cW)).count false:=by
  have e1:(KL 40 (gA nF cW)).count false=37:=Hd;have e2:=Ja (o:=0) (m:=m0) Ha;have e2:56*(pcM 0 m0).length<=m0+110:=e2;rw [Jl HBN.out];show _<=(KL 40 _).count false;omega
 have HW:=He (hkf.write hmi 0 Ha ad l2 m0 d2 HM0.out.symm Ha hd2 hm2 HB2b.out (HY.out.keep (HBw.out w6 hb6)) (hkf.old HOL.out) m0 (by unfold mostN;omega) hroom);have hc21:=HC2.out w6 hb6;clear hkf hmi hb6 hroom hadl HB4;go_wp2_with fail
 refine HW.out.mono ?_;rintro e w7 ⟨rfl,pv7,P7,T7,nd7,ix7,hk7,_,_,hz7,hc7,_⟩;have HZ7:Hid (nd7.s=m0):=by unfold Hid;rw [hz7,show nF.s=0 from rfl,Int.max_def];split <;> omega
 have HK7:=He hk7;have HC7:Hid (∀ q,q<1120->cB (C.N P7) nd7 ix7 q=if q<m0 then l2.getD q 0 else 0):=fun q hq=>by
  rw [hc7 q hq];by_cases h:q<m0
  ·rw [if_pos ⟨Ha,Ha⟩,if_pos h];rfl
  ·rw [if_neg Ha,if_neg h];have:C.N []=fB 40:=by unfold TC.N;rw [HBN.out];rfl
   rw [this];exact MK rfl hq
 clear hc7 hk7 hz7 HW HK;have q3:¬ (m0:Int)<m0:=Ha;obtain ⟨k,hk⟩:∃ k:Nat,x0.tmod ((m0:Int)+1)=k:=⟨(x0.tmod ((m0:Int)+1)).toNat,by rw [Int.tmod_eq_emod_of_nonneg HX0.out.1];have:=Int.emod_nonneg x0 (show (m0:Int)+1≠0 by omega);omega⟩
 have hkm:k<=m0:=by rw [Int.tmod_eq_emod_of_nonneg HX0.out.1] at hk;have:=Int.emod_lt_of_pos x0 (show (0:Int)<m0+1 by omega);omega
 obtain ⟨z,hz⟩:∃ z:Nat,x1.tmod (1120-(k:Int)+1)=z:=⟨(x1.tmod (1120-(k:Int)+1)).toNat,by rw [Int.tmod_eq_emod_of_nonneg HX1.out.1];have:=Int.emod_nonneg x1 (show 1120-(k:Int)+1≠0 by omega);omega⟩
 have hzm:k+z<=1120:=by rw [Int.tmod_eq_emod_of_nonneg HX1.out.1] at hz;have:=Int.emod_lt_of_pos x1 (show (0:Int)<1120-(k:Int)+1 by omega);omega
 have W1:IntKind.wrap .i64 ((m0:Int)+1)=(m0:Int)+1:=IntWalk.i64_in _ Ha;have W2:IntKind.wrap .i64 (1120-(k:Int))=1120-(k:Int):=IntWalk.i64_in _ Ha;have W3:IntKind.wrap .i64 (1120-(k:Int)+1)=1120-(k:Int)+1:=IntWalk.i64_in _ Ha;have W4:IntKind.wrap .i64 ((k:Int)+(z:Int))=(k:Int)+(z:Int):=IntWalk.i64_in _ Ha;have W5:IntKind.wrap .i64 x0=x0:=IntWalk.i64_in _ (by have:=HX0.out;omega);have W6:IntKind.wrap .i64 x1=x1:=IntWalk.i64_in _ (by have:=HX1.out;omega);have HT:=He (HK7.out.trunc k Ha);have hb7:Below w4.heap.size w4 w7:=by rw [<- HW0.out];exact HK7.out.base
 have hc21:=HC2.out w7 hb7;have z1:¬ ((m0:Int)+1=0):=Ha;have z2:¬ (1120-(k:Int)+1=0):=Ha;go_wp2_with fail
 clear W1 W2 W3 W4 W5 W6 hb7 q1 q2 q3 z1 z2;refine HT.out.mono ?_;rintro e w8 ⟨rfl,pv8,P8,nd8,ix8,hk8,_,hz8,hc8,hj8,hx8,_⟩;have HC8:Hid (∀ q,q<1120->cB (C.N P8) nd8 ix8 q=if q<k then l2.getD q 0 else 0):=fun q hq=>by
  rw [hc8 q hq,HC7.out q hq];by_cases h:q<k
  ·rw [if_pos h,if_pos Ha,if_pos h]
  ·rw [if_neg h,if_neg h]
 have HK8:=He hk8;have HJ8:=He hj8;have HX8:=He hx8;have HL:=He hk8.left;clear HT HK7 HC7 hc8 hj8 hx8 hk8 hz8 HZ7;go_wp2_with fail
 refine HL.out.mono ?_;rintro e w9 ⟨rfl,hb9⟩;have HK9:=He (HK8.out.below hb9);have hb9:Below w4.heap.size w4 w9:=by rw [<- HW0.out];exact HK9.out.base
 have hc21:=HC2.out w9 hb9;have ht:=HK9.out.trunc (k+z) hzm;rw [Int.natCast_add] at ht;have HT:=He ht;obtain ⟨lf,hlf⟩:∃ lf:Nat,lf=(bB (C.N P8) T7).count false:=⟨_,rfl⟩
 rw [<- hlf];have HLF:=He hlf;clear ht hb9 HL hlf;go_wp2_with fail
 refine HT.out.mono ?_;rintro e w10 ⟨rfl,pv10,P10,nd10,ix10,hk10,_,hz10,hc10,hj10,hx10,_⟩;have HC10:Hid (∀ q,q<1120->cB (C.N P10) nd10 ix10 q=if q<k then l2.getD q 0 else 0):=fun q hq=>by
  rw [hc10 q hq,HC8.out q hq];by_cases h:q<k
  ·rw [if_pos h,if_pos Ha]
  ·rw [if_neg h];split <;> rfl
 have hjj:∀ j,j<20->cI nd10 ix10 j=cI nd8 ix8 j:=fun j hj=>by
  rw [hj10 j hj,HJ8.out j hj];by_cases h:(k+z+55)/56<=j
  ·rw [if_pos h,if_pos Ha]
  ·rw [if_neg h]
 have hxx:nd10.x=nd8.x:=by
  rw [hx10];have h8:=HX8.out;by_cases ha:ix8.any qG=true
  ·have:ix10.any qG=true:=by
    obtain ⟨j,h4,hj,hn⟩:=(lZ (nd:=nd8) HK8.out.f.il).1 ha;exact (lZ (nd:=nd10) hk10.f.il).2 ⟨j,h4,hj,by rw [hjj j hj];exact hn⟩
   rw [if_pos this]
  ·have:¬ ix10.any qG=true:=fun h=>by
    obtain ⟨j,h4,hj,hn⟩:=(lZ (nd:=nd10) hk10.f.il).1 h;exact ha ((lZ (nd:=nd8) HK8.out.f.il).2 ⟨j,h4,hj,by rw [<- hjj j hj];exact hn⟩)
   rw [if_neg this,h8,if_neg ha]
 have HKE:Hid ((bB (C.N P10) T7).count false=lf):=by
  unfold Hid;rw [HK8.out.f.kept_eq hk10.f (by rw [hk10.len,HK8.out.len]) (Jo HK8.out.f.il hk10.f.il hjj hxx),HLF.out]
 obtain ⟨mz,hmz⟩:∃ mz,mz=k+z:=⟨_,rfl⟩
 have HR:=He (hk10.read 0 1120 Ha Ha mz (.inl (by rw [hz10,hmz,Int.min_def];split <;> omega)));have hb10:Below w4.heap.size w4 w10:=by rw [<- HW0.out];exact hk10.base
 have hc21:=HC2.out w10 hb10;clear HT HK9 HC8 HJ8 HX8 hjj hxx hk10 hz10 hj10 hx10 hc10 HK8 HLF hb10;go_wp2_with fail
 refine HR.out.mono ?_;rintro e w11 ⟨v11,rfl,ho11,hk11,_⟩;obtain ⟨A11,c11,rfl⟩:=wC ho11;have HO11:=He ho11;have HK11:=He hk11;have hl:=hk11.left;rw [HKE.out] at hl;have HL:=He hl;clear ho11 hk11 hl HR HKE;have q1:¬ (m0:Int)<1:=Ha;have q2:(mz:Int)=(k:Int)+(z:Int):=Ha;go_wp2_with fail
 refine HL.out.mono ?_;rintro e w12 ⟨rfl,hb12⟩;obtain ⟨A,d,e1,hdl,hdm,hy11⟩:=bL (ij HO11.out hb12) (by unfold jB;simp);injection e1 with e1 _ e3;subst e1 e3
 have hb12w:Below w4.heap.size w4 w12:=by rw [<- HW0.out];exact (HK11.out.below hb12).base
 have HYA:=He hy11;have HYB:Hid (dk w12 (some ad) l2):=HY.out.keep (HBw.out w12 hb12w);have HB12:Hid (Below w.heap.size w w12):=HBw.out w12 hb12w;have HBY:Hid (∀ j,j<mz->(jB (C.N P10) nd10 ix10 0 mz)[j]?=some (if j<k then l2.getD j 0 else 0)):=fun j hj=>by
  unfold jB;rw [List.getElem?_map,List.getElem?_range hj];show some (cB (C.N P10) nd10 ix10 (0+j))=_;rw [Nat.zero_add,HC10.out j Ha]
 clear hb12 hb12w hy11 HO11 HK11 HL HC10 HY HBw hc21 hdl hdm;go_wp2_with fail
 go_loopw [23] (fun i wr=>∃ j:Nat,j<=mz/\i=.int .i64 j/\Hid (dk wr A11 (jB (C.N P10) nd10 ix10 0 mz))/\Hid (dk wr (some ad) l2)/\Hid (Below w.heap.size w wr)) (fun i _=>(mz-intOf i).toNat)
 case atStart=>exact ⟨0,Ha,rfl,HYA,HYB,HB12⟩
 case round =>
  obtain ⟨j,hj,rfl,HA,HB,HW⟩:=hrel;obtain ⟨wk,rfl⟩:∃ wk,wk=wr:=⟨wr,rfl⟩
  clear HYA HYB HB12;by_cases hlt:j<mz
  ·have hltI:(j:Int)<(k:Int)+(z:Int):=Ha;obtain ⟨g11,rfl,c11x⟩:=HA.out j _ (HBY.out j hlt);have HA2:=He (fun q=>HA.out.keep (iO wk q));have HB2:=He (fun q=>HB.out.keep (iO wk q));have HW2:=He (fun q=>aR HW.out (iO wk q));by_cases hjk:j<k
   ·have hjI:(j:Int)<(k:Int):=Ha;have hjm:j<m0:=Ha;have hjmI:(j:Int)<m0:=Ha;have hkj:¬ (k:Int)<=j:=Ha;rw [if_pos hjk] at c11x;obtain ⟨y,hy⟩:∃ y,l2[j]?=some y:=⟨_,List.getElem?_eq_getElem (by have:=HM0.out;omega)⟩
    rw [List.getD,hy,Option.getD_some] at c11x;obtain ⟨g2,e2,c2⟩:=HB.out j y hy;injection e2 with e2;subst e2
    have k1:∀ q,(wk.drewN q).cell? (g11.add j)=some (.int .u8 y):=fun q=>c11x;have k2:∀ q,(wk.drewN q).cell? (ad.add j)=some (.int .u8 y):=fun q=>c2;clear c11x c2 hy HA HB HW;go_upto_region 25 with fail
    go_quiet (fail)
    rename_i nq;have HA3:=He (HA2.out nq);have HB3:=He (HB2.out nq);have HW3:=He (HW2.out nq);clear k1 k2 HA2 HB2 HW2;generalize wk.drewN nq=W9 at *;go_wp2_with fail
    go_roundw
    case rel=>exact ⟨j+1,Ha,by go_num,HA3.out,HB3.out,HW3.out⟩
    case measure=>simp [intOf];omega
   ·have hjI:¬ (j:Int)<(k:Int):=Ha;have hkj:(k:Int)<=j:=Ha;rw [if_neg hjk] at c11x;have k1:∀ q,(wk.drewN q).cell? (g11.add j)=some (.int .u8 0):=fun q=>c11x;clear c11x HA HB HW;go_upto_region 25 with fail
    go_quiet (fail)
    rename_i nq;have HA3:=He (HA2.out nq);have HB3:=He (HB2.out nq);have HW3:=He (HW2.out nq);clear k1 HA2 HB2 HW2;generalize wk.drewN nq=W9 at *;go_wp2_with fail
    go_roundw
    case rel=>exact ⟨j+1,Ha,by go_num,HA3.out,HB3.out,HW3.out⟩
    case measure=>simp [intOf];omega
  ·have hltI:¬ (j:Int)<(k:Int)+(z:Int):=Ha;go_wp2_with fail
   go_ret;exact ⟨rfl,HW.out⟩
end Go.Proofs.YtegjelaejbacnaaGreat
