/- For FileLong: contracts and facts, part 29. -/
import Derived.Test.YtegjelaejbacnaaGreatL28
set_option maxRecDepth 100000
set_option maxHeartbeats 25600000
set_option linter.unusedSimpArgs false
set_option linter.unusedVariables false
open Go.ChangeShapes Go.WideShapes Go.ChangeAt Go.RowKit
namespace Go.Proofs.YtegjelaejbacnaaGreat
theorem Gq {W:World} {B e sz n g c:Nat} {xs:List Value} (h:W.ownsRow 0 e sz (.slice (some ⟨g,0,none⟩) n c) n xs) (j:B<=g):W.ownsRow B e sz (.slice (some ⟨g,0,none⟩) n c) n xs :=
 ⟨h.1,h.2.imp id fun ⟨f,b,d,e,k,i⟩=>⟨f,b,d,e,by injection e with a;injection a with a;injection a with a;omega,i⟩⟩
section
variable {ops:Array Oper} {rest:List Oper} {o:Oper} {a:Act} {w:World} {Q:Exit->Act->World->Prop}
theorem wF (d:o.guard=none) (x y:Operand) (c:o.op=.makeSlice 22 x y) (n:Nat) (j:a.eval x=.int .i64 n) (l:a.eval y=.int .i64 n) (t:n<=1000000)
 (h:∀ w',w'.ownsRow w.heap.size 5 1 (.slice (some ⟨w.heap.size,0,none⟩) n n) n (Bs (List.replicate n 0))->Below w.heap.size w w'->wpList Tryz.prog ops Q rest (a.put o.dst (.slice (some ⟨w.heap.size,0,none⟩) n n)) w'):wpList Tryz.prog ops Q (o :: rest) a w :=
 wpList_plain d fun _ m=>by
  obtain ⟨p,e,f,g,i⟩:=info_parts jE;refine kA 22 x y c 5 p _ 1 Tryz.underlying22 e f g n .i64 .i64 j l (by rw [i];omega) (by unfold maxLen;omega) ?_;intro q c b r;rw [Nat.mul_one,vl] at c;exact m _ _ (h q (Gq c (Nat.le_refl _)) ⟨b.os,b.tape,b.output,b.size,fun k s=>b.block k s Hb⟩)
end
def bL (n j:Nat):List Int:=(List.range n).map fun i=>if i<j then 1+((i%250:Nat):Int) else 0
theorem pz (n j:Nat):(bL n j).length=n:=by unfold bL;simp
theorem yW {n i:Nat} (j:Nat) (h:i<n):(bL n j)[i]?=some (if i<j then 1+((i%250:Nat):Int) else 0):=by unfold bL;rw [List.getElem?_map,List.getElem?_range h];rfl
theorem Jf (n:Nat):bL n 0=List.replicate n 0:=by
 apply List.ext_getElem?;intro i;by_cases h:i<n
 ·rw [yW 0 h,List.getElem?_replicate,if_pos h,if_neg Ha]
 ·rw [List.getElem?_eq_none (by rw [pz];omega),List.getElem?_eq_none (by rw [List.length_replicate];omega)]
theorem KW {n j:Nat} (h:j<n):(bL n j).set j (1+((j%250:Nat):Int))=bL n (j+1):=by
 apply List.ext_getElem?;intro i;by_cases a:i<n
 ·rw [yW _ a];by_cases e:j=i
  ·subst e;rw [List.getElem?_set_self (by rw [pz];exact a),if_pos Ha]
  ·rw [List.getElem?_set_ne e,yW _ a];by_cases b:i<j
   ·rw [if_pos b,if_pos Ha]
   ·rw [if_neg b,if_neg Ha]
 ·rw [List.getElem?_eq_none (by rw [List.length_set,pz];omega),List.getElem?_eq_none (by rw [pz];omega)]
theorem Jg (n j:Nat):ay (bL n j):=fun x a=>by
 unfold bL at a;obtain ⟨i,_,rfl⟩:=List.mem_map.1 a;split <;> omega
theorem Jh (l:List Int) (k:Nat) (x:Int):(Bs l).set k (.int .u8 x)=Bs (l.set k x):=by unfold Bs;rw [List.map_set]
def Gr (w0:World) (q hp rb o dn j:Nat) (N:List Int) (W:World):Prop:=∃ F m v c nd ix,TV w0 W F q hp rb 60 c m v/\c<=60+j/\FI (jf v) nd ix/\(jf v).length=60/\nd.s=(if dn=0 then 0 else (o:Int)+dn)/\∀ p,p<1120->cB (jf v) nd ix p=if o<=p/\p<o+dn then N.getD (p-o) 0 else 0
def MU (w w':World):Prop:=True
def Nb (a:World) (R:World->Prop) (b:Bool) (W:World):Prop:=(b=false->Below a.heap.size a W)/\(b=true->R W)
def Gs (C:TC) (nd:Nd) (ix:List Int) (o dn c j:Nat) (W:World):Prop:=∃ d e f a b,KF C W d e f a b/\a.s=max nd.s (((o+dn:Nat):Int)+c)/\(∀ q,q<1120->cB (C.N e) a b q=if o+dn<=q/\q<o+dn+c then ((bL j j).drop dn).getD (q-(o+dn)) 0 else cB (C.N []) nd ix q)/\e.length<=2+(pcM ((o+dn:Nat):Int) c).length
theorem tp (x0 x1:Int) (w:World) (hx0:0<=x0/\x0<=65535) (hx1:0<=x1/\x1<=65535) :
 Calls Tryz.prog 12 #[.int .u16 x0,.int .u16 x1] w fun e w'=>e=.returned (.bool true)/\Below w.heap.size w w':=by
 have HBG:=He (yU w);have HRT:=He yR;obtain ⟨o,ho⟩:∃ o:Nat,x0.tmod 1120=o:=⟨(x0.tmod 1120).toNat,by rw [Int.tmod_eq_emod_of_nonneg hx0.1];omega⟩
 have ho':o<1120:=by rw [Int.tmod_eq_emod_of_nonneg hx0.1] at ho;omega
 obtain ⟨L,hL⟩:∃ L:Nat,x1.tmod 1120=L:=⟨(x1.tmod 1120).toNat,by rw [Int.tmod_eq_emod_of_nonneg hx1.1];omega⟩
 have hL':L<1120:=by rw [Int.tmod_eq_emod_of_nonneg hx1.1] at hL;omega
 have V5:IntKind.wrap .i64 x0=x0:=IntWalk.i64_in _ Ha;have V6:IntKind.wrap .i64 x1=x1:=IntWalk.i64_in _ Ha;clear hx0 hx1;go_enter Tryz.func12,Tryz.ntmps12;go_wp2_with fail
 refine HBG.out.mono ?_;rintro e wb ⟨rfl,hbb⟩;have HBb:=He hbb;clear hbb HBG;go_upto_region 5 with (refine wF rfl (.tmp 30) (.tmp 30) rfl L rfl rfl Ha fun w1 ho1 hb1=>?_)
 have HO1:Hid (w1.ownsRow w.heap.size 5 1 (.slice (some ⟨wb.heap.size,0,none⟩) L L) L (Bs (bL L 0))):=by rw [Jf];exact yI ho1 HBb.out.size
 have HB1:=He (HBb.out.trans (hb1.mono HBb.out.size));have hgw:w.heap.size<=wb.heap.size:=HBb.out.size;generalize wb.heap.size=g0 at *;clear ho1 hb1 HBb V5 V6;go_wp2_with fail
 go_loopw [7] (fun i wr=>∃ j:Nat,j<=L/\i=.int .i64 j/\Hid (wr.ownsRow w.heap.size 5 1 (.slice (some ⟨g0,0,none⟩) L L) L (Bs (bL L j)))/\Hid (Below w.heap.size w wr)) (fun i _=>(L-intOf i).toNat)
 case atStart=>exact ⟨0,Ha,rfl,HO1,HB1⟩
 case round =>
 obtain ⟨j,hj,rfl,HO,HW⟩:=hrel;obtain ⟨wk,rfl⟩:∃ wk,wk=wr:=⟨wr,rfl⟩
 clear HO1 HB1;by_cases hlt:j<L
 ·have q1:(j:Int)<(L:Int):=Ha;obtain ⟨g,cap,e1,_,_,_,hgl,hcell,hfro⟩:=JP HO.out Ha;injection e1 with e1 _ e2
  injection e1 with e1
  injection e1 with e1
  subst e1 e2;have V1:((j:Int)).tmod 250=((j%250:Nat):Int):=by rw [Int.tmod_eq_emod_of_nonneg Ha];rfl
  have V2:IntKind.wrap .i64 (1+((j%250:Nat):Int))=1+((j%250:Nat):Int):=IntWalk.i64_in _ Ha;have V3:IntKind.wrap .u8 (1+((j%250:Nat):Int))=1+((j%250:Nat):Int):=IntWalk.u8_in _ Ha;have c0:=hcell j _ (yW j hlt);have f0:=hfro j;have HO2:=He (by have:=ze HO.out hlt (.int .u8 (1+((j%250:Nat):Int)));rw [Jh,KW hlt] at this;exact this);have HW2:Hid (Below w.heap.size w (wk.setCell ⟨g0,j,none⟩ (.int .u8 (1+((j%250:Nat):Int))))):=HW.out.setCell hgw _;clear HO HW hcell hfro hgl;rw [show ((j%250:Nat):Int)=(j:Int)%250 by omega] at V1 V2 V3 HO2 HW2;go_wp2_with fail
  go_roundw
  case rel=>exact ⟨j+1,Ha,by go_num,HO2,HW2⟩
  case measure=>simp [intOf];omega
 obtain rfl:j=L:=Ha;have q1:¬ (j:Int)<(j:Int):=Ha;clear hlt hj;have hnF:=(JL (n:=60) rfl).1;have HN:=He (sG 0 60 wk Ha Ha);go_wp2_with fail
 refine HN.out.mono ?_;rintro e w1 ⟨s,g,rfl,hs,hb1⟩;have HS:=He hs;have HB1:=He ((Below.refl wk.heap.size wk).trans (hb1.mono (Below.refl wk.heap.size wk).size));clear hs hb1 HN;go_wp2_with fail
 refine (HRT.out w1).mono ?_;rintro e w2 ⟨rfl,hb2⟩;have HS2:=He (HS.out.below hb2);have HB2:=He (HB1.out.trans (hb2.mono HB1.out.size));have hnw:=sE HS2.out Ha (by constructor <;> omega) (yS Ha Ha) ⟨-1,0,0⟩ ⟨by constructor <;> decide,by constructor <;> decide,by constructor <;> decide⟩ [97] (fun x hx=>by simp at hx;omega) Hd 1 (by constructor <;> omega) [] (fun x hx=>by cases hx) Hd;change Calls Tryz.prog _ #[_,_,.string ⟨#[97]⟩,_,.string ⟨#[]⟩] _ (fun e w'=>∃ g' cap',e=.returned (.tuple #[(yT 60).2.1.v,.int .i64 (yT 60).2.2])/\lQ w' _ s g' 60 cap' 0 (fB 60)/\_) at hnw;rw [hnF] at hnw;change Calls Tryz.prog _ _ _ (fun e w'=>∃ g' cap',e=.returned (.tuple #[.agg (jA 0 1 1),.int .i64 0])/\_) at hnw;have HNW:=He hnw;clear hnw hb2 hnF;go_wp2_with fail
 refine HNW.out.mono ?_;rintro e w3 ⟨g',cap',rfl,hs,hg⟩;have HS3:=He hs;have HB3:=He (HB2.out.grown hg HB2.out.size (fun k e=>by injection e with e;subst e;exact Nat.le_trans (Below.refl wk.heap.size wk).size HS.out.sB));clear hs hg HNW HS HS2 HB1;have h2:=heap_alloc_new w3 (Obj.cells #[.int .i64 0,.int .i64 0,.int .u32 0] 82);have hb4:Below w3.heap.size w3 ((w3.alloc (Obj.cells #[.int .i64 0,.int .i64 0,.int .u32 0] 82)).setRow w3.heap.size (jA 0 1 1)):=below_setRow (aM (w:=w3) (Obj.cells #[.int .i64 0,.int .i64 0,.int .u32 0] 82)) (Nat.le_refl _) _;have HI:=He (am (D:=jA 0 1 1) h2);have HS4:=He (HS3.out.below hb4);have HB4:=He (HB3.out.trans (hb4.mono HB3.out.size));clear hb4 HS3 HB3 HB2;go_upto_region 11 with (first | (refine aK rfl (.tmp 9) (.tmp 50) rfl w3.heap.size rfl 0 1 1 rfl 0 0 0 h2 ?_))
 clear h2;generalize (w3.alloc (Obj.cells #[.int .i64 0,.int .i64 0,.int .u32 0] 82)).setRow w3.heap.size (jA 0 1 1)=w4 at *;generalize w3.heap.size=p2 at *;have hc2:∀ W,Below w4.heap.size w4 W->W.cell? ⟨p2,1,none⟩=some (.int .i64 1):=fun W hb=>(af (Go.Proofs.YtegjelaejbacnaaGreat.kb hb HI.out) 1).trans rfl;have c1:=HS4.out.c1;have HF:=He (sm HS4.out.row Ha Ha);have HC2:=He hc2;clear hc2 HS4;go_wp2_with fail
 refine HF.out.mono ?_;rintro e w5 ⟨q,hp,rfl,F,rb,m,v,htv,hst⟩;have HTV:=He htv;have HST:=He hst;clear htv hst HF c1;have HO4:=He (ic HO.out HB4.out);have HBw4:=He (HW.out.trans (HB4.out.mono HW.out.size));obtain ⟨cur0,hg0,_⟩:=iG HO4.out;have HG0:Hid (g0<w4.heap.size):=ah hg0;clear hg0 HO HW HB4;obtain ⟨want,hwant⟩:∃ want,want=min j (1120-o):=⟨_,rfl⟩
 have hwI:min (j:Int) (1120-(o:Int))=(want:Int):=by rw [hwant,Int.min_def,Nat.min_def];split <;> split <;> omega
 have hwle:want<=j/\want<=1120-o/\(want=j\/want=1120-o):=by rw [hwant,Nat.min_def];split <;> omega
 have V1:IntKind.wrap .i64 (1120-(o:Int))=1120-(o:Int):=IntWalk.i64_in _ Ha;have HL0:Hid (Gr w4 q hp rb o 0 0 (bL j j) w5):=by
  obtain ⟨hl,hf⟩:=Me (n:=60) rfl;refine ⟨F,m,v,60,nF,fY,HTV.out,Ha,by rw [HST.out];exact hf,by rw [HST.out];exact hl,rfl,fun p hp=>?_⟩;rw [HST.out,MH rfl hp,if_neg Ha]
 have HBase:Hid (∀ W,Below w4.heap.size w4 W->Below w.heap.size w W):=fun W hb=>HBw4.out.trans (hb.mono HBw4.out.size);have HROW:Hid (∀ W,Below w4.heap.size w4 W->W.ownsRow w.heap.size 5 1 (.slice (some ⟨g0,0,none⟩) j j) j (Bs (bL j j))):=fun W hb=>ic HO4.out hb;have HB5:Hid (Below w4.heap.size w4 w5):=HTV.out.bel;clear HTV HST HBw4 hwant HO4;rcases (by omega:(j:Int)<=1120-(o:Int)\/¬ (j:Int)<=1120-(o:Int)) with hm | hm
 all_goals
  go_upto_region 15 with fail
  first | rw [show 1120-(o:Int)=(want:Int) by omega] | rw [show (j:Int)=(want:Int) by omega]
  clear hm hwI;go_wp2_with fail
  go_loopw [15,16] (fun d i wr=>∃ dn k:Nat,d=.int .i64 dn/\i=.int .i64 k/\dn<=want/\k<=8/\Hid (dn=want\/169*k<=dn)/\Hid (Gr w4 q hp rb o dn k (bL j j) wr)/\Hid (Below w4.heap.size w4 wr)) (fun _ i _=>(8-intOf i).toNat)
  case atStart=>exact ⟨0,0,rfl,rfl,Ha,Ha,.inr Ha,HL0,HB5⟩
  case round =>
  obtain ⟨dn,k,rfl,rfl,hdn,hk8,HI,HF,HW⟩:=hrel;obtain ⟨wk,rfl⟩:∃ wk,wk=wr:=⟨wr,rfl⟩
  clear HL0 HB5;by_cases hgo:k<8/\dn<want
  ·have q1:(k:Int)<8:=Ha;have q2:(dn:Int)<(want:Int):=Ha;obtain ⟨F,m,v,c,nd,ix,htv,hc,hfi,hlen,hsz,hcB⟩:=HF.out;have HTX:=He (htv.new_tx Ha);have HFI:=He hfi;have HCB:=He hcB;have HSZ:=He hsz;clear htv hfi hcB hsz HF;go_wp2_with fail
   refine HTX.out.mono ?_;rintro e w6 ⟨tb,rfl,⟨kb,hkt⟩,_⟩;obtain ⟨C,hC⟩:∃ C:TC,C=⟨w4,F,q,hp,rb,60,c,m,v,tb,kb⟩:=⟨_,rfl⟩
   have htb:tb=C.tb:=by rw [hC]
   have hCn:C.n=60:=by rw [hC]
   have hCc:C.c=c:=by rw [hC]
   have hCw:C.w0=w4:=by rw [hC]
   have hCq:C.q=q/\C.hp=hp/\C.rb=rb:=by rw [hC];exact ⟨rfl,rfl,rfl⟩
   have hkn:C.N []=jf v:=by rw [hC];rfl
   have hk0:C.K w6 (.slice none 0 0) [] (List.replicate C.n false):=by rw [hC];exact hkt
   obtain ⟨hkf,hmi⟩:=KF.anew hk0 (by rw [hC];exact HFI.out) Ha;have HKF:=He hkf;have HMI:=He hmi;have HCW:=He hCw;have HCN:=He hCn;have HCQ:=He hCq;have HCC:=He hCc;have HKN:=He hkn;subst htb;clear hkt HTX hC hk0 hkf hmi hCw hCn hCq hkn hCc;obtain ⟨mm,hmm⟩:∃ mm,mm=min (j-dn) (mostN (o+dn)):=⟨_,rfl⟩
   have hmo:=yV (o+dn) Ha;have hmm1:1<=mm/\mm<=j-dn/\mm<=224/\o+dn+mm<=1120/\(dn+mm=want\/169<=mm)/\dn+mm<=want:=by
    have:169<=mostN (o+dn)\/mostN (o+dn)=1120-(o+dn):=by unfold mostN;omega
    rw [hmm,Nat.min_def];split <;> omega
   have hroom:2*(pcM ((o+dn:Nat):Int) mm).length<=(KL C.n (ig nd ix)).count false:=by
    have h1:=HFI.out.room;rw [hlen] at h1;have h2:=BW (o:=o+dn) (m:=mm) Ha;rw [HCN.out];omega
   have HWR:Hid (∀ W,Below w6.heap.size w6 W->Calls Tryz.prog 34 #[.pointer (some ⟨C.tb,0,none⟩),.int .i64 1,.int .i64 ((o:Int)+(dn:Int)),.slice (some ⟨g0,dn,none⟩) (j-dn) (j-dn)] W fun e w'=>e=.returned (.tuple #[.int .i64 (mm:Nat),.int .i64 0])/\Gs C nd ix o dn mm j w'):=fun W hb=>by
    have hkW:=HKF.out.below hb;have hrow:=HROW.out W (by rw [<- HCW.out];exact hkW.base);have h:=Calls.mono (hkW.write HMI.out (o+dn) Ha ⟨g0,dn,none⟩ ((bL j j).drop dn) (j-dn) (j-dn) (by rw [List.length_drop,pz]) Ha (Nat.le_refl _) Ha (fun x hx=>Jg j j x (List.mem_of_mem_drop hx)) (fun i x hx=>⟨_,rfl,by
     rw [cZ];rw [List.getElem?_drop] at hx;exact iQ hrow (by unfold Bs;rw [List.getElem?_map,hx];rfl)⟩) (hkW.old (by rw [HCW.out];exact HG0.out)) mm hmm hroom) (fun e w' ⟨e1,pv8,P8,T8,nd8,ix8,hk8,_,_,hz8,hc8,_,_,hp8⟩=>(⟨e1,pv8,P8,T8,nd8,ix8,hk8,hz8,hc8,hp8 rfl⟩:e=Ending.returned (Value.tuple #[Value.int .i64 (mm:Nat),Value.int .i64 0])/\Gs C nd ix o dn mm j w'))
    rw [Int.natCast_add] at h;exact h
   have V2:IntKind.wrap .i64 ((o:Int)+(dn:Int))=(o:Int)+(dn:Int):=IntWalk.i64_in _ Ha;have hc21:=HC2.out w6 (by rw [<- HCW.out];exact HKF.out.base);have d1:dn<=j:=Ha;have d2:(dn:Int)<=(j:Int):=Ha;have d3:¬ j=dn:=Ha;clear hroom hmo hmm;go_upto_region 22 with fail
   have cu:∀ W,Below w4.heap.size w4 W->W.cell? ⟨p2,1,none⟩=some (.int .i64 1):=HC2.out;have srefl:∀ W,MU W W:=fun _=>trivial;have hb6:Below w4.heap.size w4 w6:=by rw [<- HCW.out];exact HKF.out.base
   refine dS (fun L W=>Below w4.heap.size w4 W/\Nb w6 (Gs C nd ix o dn mm j) (L 9) W) (fun _ w w'=>MU w w') ⟨hb6.drew,(fun _=>(Below.refl _ _).drew),fun h=>by cases h⟩ ?_;refine xr ?_;refine XK.op (fun v _=>v=.tuple #[.int .i64 (mm:Nat),.int .i64 0]) (fun _ _ _ _ _ _ h _=>h) (fun T W L hag hi hJ hLs hd=>?_) ?_
   ·obtain ⟨d82,d84,d87,d90,_⟩:=hd;have hw:=HWR.out W (hJ.2.1 hi);go_simp;refine hw.mono ?_;rintro e w' ⟨rfl,pv8,P8,T8,nd8,ix8,hk8,hz8,hc8,hp8⟩;have hb8:Below w4.heap.size w4 w':=by rw [<- HCW.out];exact hk8.base
    exact ⟨_,rfl,rfl,⟨hb8,(fun h=>by cases h),fun _=>⟨pv8,P8,T8,nd8,ix8,hk8,hz8,hc8,hp8⟩⟩,trivial⟩
   refine xr ?_;refine XK.last ?_;intro w8 L g1 g2 hJ;simp only [ny,forall_eq,List.setIfInBounds_toArray,List.set_cons_succ,List.set_cons_zero];obtain ⟨pv8,P8,T8,nd8,ix8,hk8,hz8,hc8,hp8⟩:=hJ.2.2 (g1 9 Ha);clear cu srefl hb6 hJ g1 g2;have HK8:=He hk8;have hp8':P8.length<=12:=by
    have h1:=hp8;have h2:=BW (o:=o+dn) (m:=mm) Ha;omega
   have HCM:=He (hk8.commit hp8' (by rw [HCC.out];omega));have HF9:Hid (nd8.s=(o:Int)+((dn+mm:Nat):Int)):=by
    unfold Hid;rw [hz8,HSZ.out,Int.max_def];split <;> split <;> omega
   have HC9:Hid (∀ p,p<1120->cB (C.N P8) nd8 ix8 p=if o<=p/\p<o+(dn+mm) then (bL j j).getD (p-o) 0 else 0):=fun p hp=>by
    rw [hc8 p hp,HKN.out,HCB.out p hp];by_cases h1:o+dn<=p/\p<o+dn+mm
    ·rw [if_pos h1,if_pos Ha,List.getD,List.getD,List.getElem?_drop]
     congr 2
     omega
    ·rw [if_neg h1];by_cases h2:o<=p/\p<o+dn
     ·rw [if_pos h2,if_pos Ha]
     ·rw [if_neg h2,if_neg Ha]
   have q3:¬ (mm:Int)<1:=Ha;have q4:¬ (j:Int)-(dn:Int)<(mm:Int):=Ha;have V3:IntKind.wrap .i64 ((j:Int)-(dn:Int))=(j:Int)-(dn:Int):=IntWalk.i64_in _ Ha;have V4:IntKind.wrap .i64 ((dn:Int)+(mm:Int))=(dn:Int)+(mm:Int):=IntWalk.i64_in _ Ha;clear HWR hk8 hz8 hc8 hp8 hp8' HMI HKF HFI HCB HSZ HKN V2 hc21;go_wp2_with fail
   refine HCM.out.mono ?_;rintro e w9 ⟨rfl,F',m',v',htv,hst,_,_,_⟩;rw [HCQ.out.1,HCQ.out.2.1,HCQ.out.2.2,HCN.out,HCW.out,HCC.out] at htv;have HB9:Hid (Below w4.heap.size w4 w9):=htv.bel;have HFL:Hid (Gr w4 q hp rb o (dn+mm) (k+1) (bL j j) w9):=⟨F',m',v',c+1,nd8,ix8,htv,Ha,by rw [hst];exact HK8.out.f,by rw [hst,HK8.out.len,HCN.out],by rw [HF9.out,if_neg Ha],fun p hp=>by rw [hst];exact HC9.out p hp⟩
   have HI2:Hid (dn+mm=want\/169*(k+1)<=dn+mm):=by have:=HI.out;unfold Hid;omega
   clear htv hst HCM HK8 HF9 HC9;go_wp2_with fail
   go_roundw
   case rel=>exact ⟨dn+mm,k+1,by go_num,by go_num,Ha,Ha,HI2,HFL,HB9⟩
   case measure=>simp [intOf];omega
  ·have hdw:dn=want:=by
    have:=HI.out;omega
   obtain ⟨F,m,v,c,nd,ix,htv,hc,hfi,hlen,hsz,hcB⟩:=HF.out;rw [hdw] at hsz hcB;have HTX:=He (htv.new_tx Ha);have HFI:=He hfi;have HCB:=He hcB;have HSZ:=He hsz;clear htv hfi hcB hsz HF;have q2:k<8->¬ (dn:Int)<(want:Int):=Ha;by_cases k8:(k:Int)<8
   case' pos =>
    have q2:=q2 Ha;go_upto_region 26 with fail
   case' neg=>go_upto_region 26 with fail
   all_goals
    go_wp2_with fail
    refine HTX.out.mono ?_;rintro e w6 ⟨tb,rfl,⟨kb,hkt⟩,_⟩;obtain ⟨C,hC⟩:∃ C:TC,C=⟨w4,F,q,hp,rb,60,c,m,v,tb,kb⟩:=⟨_,rfl⟩
    have htb:tb=C.tb:=by rw [hC]
    have hCw:C.w0=w4:=by rw [hC]
    have hkn:C.N []=jf v:=by rw [hC];rfl
    have hCn:C.n=60:=by rw [hC]
    have hk0:C.K w6 (.slice none 0 0) [] (List.replicate C.n false):=by rw [hC];exact hkt
    have hkf:=(KF.anew hk0 (by rw [hC];exact HFI.out) Ha).1;have HCW:=He hCw;have hb6:Below w4.heap.size w4 w6:=by rw [<- hCw];exact hkf.base
    have HR:=He (hkf.read o 1120 Ha Ha want (by
     rw [HSZ.out];by_cases h0:want=0
     ·rw [if_pos h0];by_cases ho0:o=0
      ·refine .inl ?_;rw [h0,ho0];rfl
      ·exact .inr ⟨h0,Ha⟩
     ·rw [if_neg h0];refine .inl ?_;rw [Int.min_def];split <;> omega))
    have hX:kP (C.N []) nd ix o want=(bL j j).take want:=by
     rw [hkn];apply List.ext_getElem?;intro i;unfold kP;rw [List.getElem?_map,List.getElem?_take];by_cases hi:i<want
     ·rw [List.getElem?_range hi,if_pos hi];show some (cB (jf v) nd ix (o+i))=_;rw [HCB.out (o+i) Ha,if_pos Ha,List.getD,Nat.add_sub_cancel_left,yW _ Ha];rfl
     ·rw [List.getElem?_eq_none (by rw [List.length_range];omega),if_neg hi];rfl
    rw [hX] at HR;have hc21:=HC2.out w6 hb6;subst htb;clear hkt HTX hC hk0 hkf hkn hCn HFI HCB HSZ hX hCw hb6 q2 k8;go_wp2_with fail
    refine HR.out.mono ?_;rintro e w7 ⟨v7,rfl,ho7,hk7,_⟩;obtain ⟨A7,c7,rfl⟩:=wn ho7;have hb7:Below w4.heap.size w4 w7:=by rw [<- HCW.out];exact hk7.base
    have hrow:=HROW.out w7 hb7;have hlt:((bL j j).take want).length=want:=by rw [List.length_take,pz];omega
    obtain ⟨A,d,e1,_,_,hy1⟩:=bM ho7 hlt;injection e1 with e1 e4 e3
    subst e1 e3;clear e4;have hy2:dK w7 (some ⟨g0,0,none⟩) ((bL j j).take want):=fun i x hx=>⟨_,rfl,by
     rw [List.getElem?_take] at hx;split at hx
     ·rw [dU];exact iQ hrow (by unfold Bs;rw [List.getElem?_map,hx];rfl)
     ·cases hx⟩
    have HY1:=He hy1;have HY2:=He hy2;have HLT:=He hlt;have HB7:=He hb7;clear hc21 hy1 hy2 hlt hb7 hrow ho7 hk7 HR hdn hgo hlen hc;go_upto_region 28 with fail
    have cv1:∀ q,(convert 22 9 (.slice A7 want c7)).run Tryz.prog (w7.drewN q)=.ok (.string (strOfNums ((bL j j).take want))) (w7.drewN q):=fun q=>dB (HY1.out.keep (DK (Below.refl _ _) q)) HLT.out;have cv2:∀ q,(convert 22 9 (.slice (some ⟨g0,0,none⟩) want j)).run Tryz.prog (w7.drewN q)=.ok (.string (strOfNums ((bL j j).take want))) (w7.drewN q):=fun q=>dB (HY2.out.keep (DK (Below.refl _ _) q)) HLT.out;have HBQ:Hid (∀ q,Below w.heap.size w (w7.drewN q)):=fun q=>HBase.out _ (HB7.out.trans (DK (Below.refl w4.heap.size w7) q));generalize strOfNums ((bL j j).take want)=S at *;have d1:want<=j:=Ha;have d2:(want:Int)<=(j:Int):=Ha;have e0:(dn:Int)=(want:Int):=by rw [hdw]
    clear HY1 HY2 HLT HB7
    go_quiet (fail)
    rename_i nq;have HB9:=He (HBQ.out nq);clear HBQ cv1 cv2;generalize w7.drewN nq=W9 at *;go_wp2_with fail
    go_ret;exact ⟨rfl,HB9.out⟩
end Go.Proofs.YtegjelaejbacnaaGreat
