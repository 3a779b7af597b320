/- For FileLong: contracts and facts, part 21. -/
import Derived.StillTailTactics
import Derived.Lib.Overlaps
import Derived.Lib.AppendZerosOnto
import Derived.Test.YtegjelaejbacnaaGreatL20
set_option maxRecDepth 100000
set_option maxHeartbeats 25600000
set_option linter.unusedVariables false
open Go.ChangeShapes Go.WideShapes Go.ChangeAt Go.RowKit
namespace Go.Proofs.YtegjelaejbacnaaGreat
structure KJ (W:World) (tb hp kb q rb:Nat) (pv:Value) (P:List Wr) (T:List Bool) (v:VM) (kg p4:Nat) (S:List Bool) (W':World):Prop where
 bits:bp W' kg S
 ks:KS W' tb hp kb q rb pv P T v
 b4:∃ (k:Int) (bs:List Int),bs.length=56/\W'.heap[p4]?=some (.cells (ab k bs) 37 (0,0))
 bel:Below W.heap.size W W'
 kge:W.heap.size<=kg
 pge:W.heap.size<=p4
 nkb:kg≠kb
section
variable {W W' W'':World} {tb hp kb q rb kg p4:Nat} {pv:Value} {P:List Wr} {T S S':List Bool} {v:VM}
theorem KJ.below (h:KJ W tb hp kb q rb pv P T v kg p4 S W') (a:Below W'.heap.size W' W''):KJ W tb hp kb q rb pv P T v kg p4 S W'' :=
 ⟨h.bits.below a,h.ks.below a,let ⟨k,bs,h1,h2⟩:=h.b4;⟨k,bs,h1,Go.Proofs.YtegjelaejbacnaaGreat.kb a h2⟩,h.bel.trans (a.mono h.bel.size),h.kge,h.pge,h.nkb⟩
theorem KJ.set (h:KJ W tb hp kb q rb pv P T v kg p4 S W') (a:W'.grownBy W'' (some kg)) (b:bp W'' kg S'):KJ W tb hp kb q rb pv P T v kg p4 S' W'' :=
 ⟨b,h.ks.grown a h.bits.hp h.nkb,let ⟨k,bs,h1,h2⟩:=h.b4;⟨k,bs,h1,br a h2 (fun e=>by injection e with e;exact bc h2 h.bits.hp Hd e.symm)⟩,h.bel.grown a h.bel.size (fun k e=>by injection e with e;subst e;exact h.kge),h.kge,h.pge,h.nkb⟩
theorem KJ.box (h:KJ W tb hp kb q rb pv P T v kg p4 S W') (k:Int) (bs:List Int) (b:bs.length=56):KJ W tb hp kb q rb pv P T v kg p4 S (W'.setRow p4 (ab k bs))/\(W'.setRow p4 (ab k bs)).heap[p4]?=some (.cells (ab k bs) 37 (0,0)):=by
 obtain ⟨n,l,o,c⟩:=h.b4;have f:=am (D:=ab k bs) c;have g:W'.grownBy (W'.setRow p4 (ab k bs)) (some p4):=⟨rfl,rfl,rfl,Hb,fun j hj d=>setRow_other W' p4 j _ (fun e=>d (by rw [e]))⟩
 have keep:∀ {p:Nat} {i:Array Value} {t:TypeId} {a:Nat × Nat},W'.heap[p]?=some (.cells i t a)->t≠37->(W'.setRow p4 (ab k bs)).heap[p]?=some (.cells i t a):=fun hp m=>br g hp (fun e=>by injection e with e;subst e;exact bc hp c m rfl);refine ⟨⟨⟨h.bits.len,keep h.bits.hp Hd⟩,⟨⟨keep h.ks.tx.hd Hd,h.ks.tx.own.kept g (.inr (mj h.ks.tx.own c Hd)),h.ks.tx.ok,h.ks.tx.srt,h.ks.tx.few,⟨h.ks.tx.bits.len,keep h.ks.tx.bits.hp Hd⟩⟩,h.ks.vol.keep ((keep h.ks.vol.hd Hd).trans h.ks.vol.hd.symm) ((keep h.ks.vol.row Hd).trans h.ks.vol.row.symm),h.ks.inn⟩,⟨k,bs,b,f⟩,below_setRow h.bel h.pge _,h.kge,h.pge,h.nkb⟩,f⟩
end
theorem FK {W:World} {tb hp kb q rb:Nat} {pv:Value} {P:List Wr} {T:List Bool} {v:VM} (h:KS W tb hp kb q rb pv P T v) (N:List Bk) (hN:N=applyW (jf v) P) (dn:∀ y∈N,i64 y.k/\y.bs.length=56/\ay y.bs) (h1:0<v.n) (dv:v.n<=200) :
 Calls Tryz.prog 47 #[.pointer (some ⟨tb,0,none⟩)] W fun e w'=>∃ kg,e=.returned (.pointer (some ⟨kg,0,none⟩))/\bp w' kg (bX N T)/\Below W.heap.size W w'/\W.heap.size<=kg:=by
 obtain ⟨n,hn⟩:∃ n,n=v.n:=⟨_,rfl⟩
 have dT:N.length=n:=by rw [hN,bZ,iw h.vol.toOk,hn]
 have cc:=He dT;have HN:=He hN;have cz:=He dn;have d1:=He hn;rw [<- hn] at h1 dv;have d2:=ah h.tx.bits.hp;have ei:=He d2;have HK:=He h;have cA:=aM (w:=W) (.cells (ab 0 az) 37);have cP:=He (h.below cA);have h4:=heap_alloc_new W (.cells (ab 0 az) 37);have ci:=He cA;clear hN dn dT h hn d2 cA;have d3:=He (fun W=>BH (n:Int) (by constructor <;> omega) W);rw [show (min (max (n:Int) 0) 200).toNat=n by omega] at d3;have d4:=He (ly cP.out.vol);rw [<- d1.out] at d4;go_enter Tryz.func47,Tryz.ntmps47;go_wp2_with fail
 refine Ax (fun a' W'=>∃ (kg a k:Nat),k<=n/\KJ W tb hp kb q rb pv P T v kg a (wd N T k) W'/\∃ u5 u7 u8 u9 f g i j m o p r s t u z A B C H I K L M O R u32 U V X Y Z ad an a0 a1 a2 a3 a4 a5 a6 a7 a8 a9 bb bi:Value,a'={ tmps:=#[.pointer (some ⟨tb,0,none⟩),undef,.pointer none,.pointer (some ⟨kg,0,none⟩),.pointer (some ⟨a,0,none⟩),u5,.int .i64 k,u7,u8,u9,f,g,i,j,m,o,p,r,s,t,u,z,A,B,C,H,I,K,L,M,O,R,u32,U,V,X,Y,Z,ad,an,a0,a1,a2,a3,a4,a5,a6,a7,a8,a9,bb,bi],defers:=[] }) (fun a' W'=>∃ (kg a k:Nat),k<n/\(∃ S,setB S (k:Int) true=wd N T (k+1)/\KJ W tb hp kb q rb pv P T v kg a S W')/\∃ u5 u7 u8 u9 f g i j m o p r s t u z A B C H I K L M O R u32 U V X Y Z ad an a0 a1 a2 a3 a4 a5 a6 a7 a8 a9 bb bi:Value,a'={ tmps:=#[.pointer (some ⟨tb,0,none⟩),undef,.pointer none,.pointer (some ⟨kg,0,none⟩),.pointer (some ⟨a,0,none⟩),u5,.int .i64 k,u7,u8,u9,f,g,i,j,m,o,p,r,s,t,u,z,A,B,C,H,I,K,L,M,O,R,u32,U,V,X,Y,Z,ad,an,a0,a1,a2,a3,a4,a5,a6,a7,a8,a9,bb,bi],defers:=[] }) (fun a' W'=>∃ (kg a k:Nat),k<n/\KJ W tb hp kb q rb pv P T v kg a (wd N T (k+1)) W'/\∃ u5 u7 u8 u9 f g i j m o p r s t u z A B C H I K L M O R u32 U V X Y Z ad an a0 a1 a2 a3 a4 a5 a6 a7 a8 a9 bb bi:Value,a'={ tmps:=#[.pointer (some ⟨tb,0,none⟩),undef,.pointer none,.pointer (some ⟨kg,0,none⟩),.pointer (some ⟨a,0,none⟩),u5,.int .i64 k,u7,u8,u9,f,g,i,j,m,o,p,r,s,t,u,z,A,B,C,H,I,K,L,M,O,R,u32,U,V,X,Y,Z,ad,an,a0,a1,a2,a3,a4,a5,a6,a7,a8,a9,bb,bi],defers:=[] }) (fun a' _=>n-(intOf (a'.tmps.getD 6 undef)).toNat) rfl rfl rfl ?_ ?_ ?_ ?_
 ·intro ej;go_upto_region 3 with (refine aq rfl rfl ?_)
  obtain ⟨a,c1⟩:∃ a,a=W.heap.size:=⟨_,rfl⟩
  rw [<- c1] at h4 ⊢;have ek:Hid (W.heap.size<=a):=Nat.le_of_eq c1.symm;have H4:=He h4;clear c1 h4;generalize W.alloc (.cells (ab 0 az) 37)=W4 at *;have c0:=cP.out.tx.c0;go_wp2_with fail
  refine d4.out.mono ?_;rintro e w5 ⟨rfl,rfl⟩;go_wp2_with fail
  refine (d3.out W4).mono ?_;rintro e w6 ⟨kg,rfl,d5,b1,ck⟩;have d6:KJ W tb hp kb q rb pv P T v kg a (List.replicate n false) w6:=⟨b1,cP.out.below ck,⟨0,az,ak,Go.Proofs.YtegjelaejbacnaaGreat.kb ck H4.out⟩,ci.out.trans (ck.mono ci.out.size),by rw [d5];exact ci.out.size,ek.out,by have:=ei.out;have:=ci.out.size;omega⟩
  have d7:=He d6;have bk:=He (jx b1 0 (by constructor <;> omega));clear d6 b1 ck d5;go_wp2_with fail
  refine bk.out.mono ?_;rintro e w7 ⟨rfl,d8,d9⟩;have hz:setB (List.replicate n false) 0 true=wd N T 0:=by rw [<- cc.out];exact FH T (by rw [cc.out];exact h1)
  have el:Hid (KJ W tb hp kb q rb pv P T v kg a (wd N T 0) w7):=d7.out.set (fM d9) (by rw [<- hz];exact d8);clear d8 d9 hz bk d7;go_wp2_with fail
  go_step3;rename_i hK;exact hK _ _ (ej _ _ ⟨kg,a,0,Nat.zero_le _,el.out,_,_,_,_,_,_,_,_,_,_,_,_,_,_,_,_,_,_,_,_,_,_,_,_,_,_,_,_,_,_,_,_,_,_,_,_,_,_,_,_,_,_,_,_,_,_,rfl⟩)
 ·rintro a' W' ⟨kg,a,k,hk,hJ,u5,u7,u8,u9,f,g,i,j,m,o,p,r,s,t,u,z,A,B,C,H,I,K,L,M,O,R,u32,U,V,X,Y,Z,ad,an,a0,a1,a2,a3,a4,a5,a6,a7,a8,a9,bb,bi,rfl⟩;have HJ:=He hJ;clear hJ;have HG:=He (ml HJ.out.ks.tx HJ.out.ks.vol HJ.out.ks.inn (k:Int) (by constructor <;> omega));rw [<- HN.out,<- d1.out] at HG;by_cases cb:k<n
  case neg =>
   obtain rfl:k=n:=Ha;have cg:decide (0<=(k:Int)/\(k:Int)<(k:Int))=false:=decide_eq_false Ha;rw [cg] at HG;have cs:=(BI (fun y hy=>(cz.out y hy).2) (k:Int)).1;generalize gB N (k:Int)=y at *;clear cg;go_wp2_with fail
   refine HG.out.mono ?_;rintro e w8 ⟨rfl,b2⟩;obtain ⟨k0,c3,cl,cn⟩:=(HJ.out.below b2).b4;have bl:=((HJ.out.below b2).box y.k y.bs cs).1;have c4:=He bl;clear bl b2;go_wp2_with (first | (refine ap rfl (.tmp 4) (.tmp 21) rfl a rfl y.k k0 y.bs c3 rfl cs cl cn ?_))
   simp only [aU];go_ret;refine ⟨kg,rfl,?_,c4.out.bel,c4.out.kge⟩;have ea:=c4.out.bits;rw [<- cc.out,IJ T (by rw [cc.out];exact h1)] at ea;exact ea
  obtain ⟨x,hx⟩:∃ x,N[k]?=some x:=⟨_,List.getElem?_eq_getElem (by rw [cc.out];exact cb)⟩
  have cg:decide (0<=(k:Int)/\(k:Int)<(n:Int))=true:=decide_eq_true Ha;rw [cg,BG hx] at HG;have HX:=He hx;have cp:=cz.out x (List.mem_of_getElem? hx);have b9:=cp.2.1;clear cg hx;go_wp2_with fail
  refine HG.out.mono ?_;rintro e w8 ⟨rfl,b2⟩;obtain ⟨k0,c3,cl,cn⟩:=(HJ.out.below b2).b4;obtain ⟨bl,eb⟩:=(HJ.out.below b2).box x.k x.bs b9;have b3:=He bl;have cq:=He eb;clear bl b2 HG HJ eb;go_upto_region 10 with (first | (refine ap rfl (.tmp 4) (.tmp 21) rfl a rfl x.k k0 x.bs c3 rfl b9 cl cn ?_))
  clear cl cn;generalize w8.setRow a (ab x.k x.bs)=w9 at *;have c2:=b3.out.ks.tx.c2;have ec:=He (Kw b3.out.ks.tx.bits (k:Int) (by constructor <;> omega));go_wp2_with fail
  refine ec.out.mono ?_;rintro e w' ⟨rfl,rfl⟩;obtain ⟨c5,ch⟩:∃ c5,c5=Gv T (k:Int):=⟨_,rfl⟩
  have c6:=He ch;rw [<- ch];clear ec c2 ch
  go_upto_if 31 with fail
  go_cut [] (fun wx=>Hid (KJ W tb hp kb q rb pv P T v kg a (oD N T k) wx)/\Hid (wx.heap[a]?=some (.cells (ab x.k x.bs) 37 (0,0))))
  case first =>
   cases c5 with
   | true =>
     have bk:=He (jx b3.out.bits (k:Int) (by constructor <;> omega));go_wp2_with fail
     refine bk.out.mono ?_;rintro e c7 ⟨rfl,bn,bt⟩;have c8:=fM bt;have cu:=br c8 cq.out (fun e=>by injection e with e;exact bc cq.out b3.out.bits.hp Hd e.symm);have c9:Hid (KJ W tb hp kb q rb pv P T v kg a (oD N T k) c7):=by unfold Hid oD;rw [if_pos c6.out.symm];exact b3.out.set c8 bn
     have em:=He cu;clear c8 cu bn bt bk;go_wp2_with fail
     go_meet
     case rel=>exact ⟨c9,em⟩
   | false =>
     have c9:Hid (KJ W tb hp kb q rb pv P T v kg a (oD N T k) w9):=by unfold Hid oD;rw [if_neg (by rw [<- c6.out];decide)];exact b3.out
     go_wp2_with fail
     go_meet
     case rel=>exact ⟨c9,cq⟩
  case rest =>
  obtain ⟨bx,da⟩:=hcut;clear b3 cq c6;have ed:=af da.out 0;rw [show (ab x.k x.bs)[0]?=some (.int .i64 x.k) from rfl] at ed;go_upto_region 15 with fail
  clear ed;have b0:=He (fun hh l hl=>IK (T:=T) HX.out hh (l:=l) hl);have cv:=He (fun hh=>Kz (T:=T) HX.out hh);have ca:=He (fun hh=>yA (N:=N) (x:=x) hh);have dc:=He (Do bx.out.ks N HN.out (fun y hy=>(cz.out y hy).2) kg (oD N T k) bx.out.bits bx.out.nkb x cp.1 b9 cp.2.2);have ee:=He (fun hh=>vZ (N:=N) (x:=x) hh);obtain ⟨b,ef⟩:∃ b,b=x.k:=⟨_,rfl⟩
  rw [<- ef] at b0 cv ca dc da ee ⊢;have dg:x.bs.length=56:=b9;clear ef cp HX;by_cases d:b=1
  ·have c:=d;have t0:(b==1)=true:=beq_iff_eq.2 c;have cr:decide (b=1)=true:=decide_eq_true c;have b5:=He (b0.out (.inl (.inl c)) _ (ee.out c));clear d c;go_wp2_with (first | (refine aT rfl (.tmp 4) rfl a rfl b x.bs dg da.out ?_))
   refine dc.out.mono ?_;rintro e eq ⟨rfl,cw,cx⟩;have b6:=He (bx.out.set cx cw);clear cw cx dc;go_wp2_with fail
   go_step3;exact ⟨⟨kg,a,k,cb,⟨_,b5.out,b6.out⟩,_,_,_,_,_,_,_,_,_,_,_,_,_,_,_,_,_,_,_,_,_,_,_,_,_,_,_,_,_,_,_,_,_,_,_,_,_,_,_,_,_,_,_,_,_,_,rfl⟩,rfl⟩
  by_cases b8:b=2
  ·have c:=b8;have h1:=b8;have t0:(b==1)=false:=beq_eq_false_iff_ne.2 d;have cr:decide (b=1)=false:=decide_eq_false d;have t1:(b==2)=true:=beq_iff_eq.2 c;have dl:decide (b=2)=true:=decide_eq_true c;have b5:=He (b0.out (.inl (.inr (.inl c))) [] (ca.out d));clear c h1 b8 d;go_wp2_with fail
   go_step3;exact ⟨⟨kg,a,k,cb,⟨_,b5.out,bx.out⟩,_,_,_,_,_,_,_,_,_,_,_,_,_,_,_,_,_,_,_,_,_,_,_,_,_,_,_,_,_,_,_,_,_,_,_,_,_,_,_,_,_,_,_,_,_,_,rfl⟩,rfl⟩
  have h1:=b8;by_cases h2:b=3
  ·have c:=h2;have t0:(b==1)=false:=beq_eq_false_iff_ne.2 d;have cr:decide (b=1)=false:=decide_eq_false d;have t1:(b==2)=false:=beq_eq_false_iff_ne.2 h1;have dl:decide (b=2)=false:=decide_eq_false h1;have t2:(b==3)=true:=beq_iff_eq.2 c;have eg:decide (b=3)=true:=decide_eq_true c;have b5:=He (b0.out (.inl (.inr (.inr c))) [] (ca.out d));clear c h1 b8 d h2;go_wp2_with fail
   go_step3;exact ⟨⟨kg,a,k,cb,⟨_,b5.out,bx.out⟩,_,_,_,_,_,_,_,_,_,_,_,_,_,_,_,_,_,_,_,_,_,_,_,_,_,_,_,_,_,_,_,_,_,_,_,_,_,_,_,_,_,_,_,_,_,_,rfl⟩,rfl⟩
  by_cases h3:b=6
  ·have c:=h3;have t0:(b==1)=false:=beq_eq_false_iff_ne.2 d;have cr:decide (b=1)=false:=decide_eq_false d;have t1:(b==2)=false:=beq_eq_false_iff_ne.2 h1;have dl:decide (b=2)=false:=decide_eq_false h1;have t2:(b==3)=false:=beq_eq_false_iff_ne.2 h2;have eg:decide (b=3)=false:=decide_eq_false h2;have t3:(b==6)=true:=beq_iff_eq.2 c;have en:decide (b=6)=true:=decide_eq_true c;have b5:=He (b0.out (.inr c) [] (ca.out d));clear c h1 b8 d h2 h3;go_wp2_with fail
   go_step3;exact ⟨⟨kg,a,k,cb,⟨_,b5.out,bx.out⟩,_,_,_,_,_,_,_,_,_,_,_,_,_,_,_,_,_,_,_,_,_,_,_,_,_,_,_,_,_,_,_,_,_,_,_,_,_,_,_,_,_,_,_,_,_,_,rfl⟩,rfl⟩
  have t0:(b==1)=false:=beq_eq_false_iff_ne.2 d;have cr:decide (b=1)=false:=decide_eq_false d;have t1:(b==2)=false:=beq_eq_false_iff_ne.2 h1;have dl:decide (b=2)=false:=decide_eq_false h1;have t2:(b==3)=false:=beq_eq_false_iff_ne.2 h2;have eg:decide (b=3)=false:=decide_eq_false h2;have t3:(b==6)=false:=beq_eq_false_iff_ne.2 h3;have en:decide (b=6)=false:=decide_eq_false h3;have eh:=cv.out ⟨fun hh=>hh.elim d (fun hh=>hh.elim h1 h2),h3⟩;have b6:Hid (KJ W tb hp kb q rb pv P T v kg a (wd N T (k+1)) wc):=by rw [<- eh];exact bx
  clear eh d h1 b8 h2 h3;go_wp2_with fail
  go_step3;exact ⟨⟨kg,a,k,cb,b6.out,_,_,_,_,_,_,_,_,_,_,_,_,_,_,_,_,_,_,_,_,_,_,_,_,_,_,_,_,_,_,_,_,_,_,_,_,_,_,_,_,_,_,_,_,_,_,rfl⟩,rfl⟩
 ·rintro a' W' ⟨kg,a,k,hk,⟨S,hS,hJ⟩,u5,u7,u8,u9,f,g,i,j,m,o,p,r,s,t,u,z,A,B,C,H,I,K,L,M,O,R,u32,U,V,X,Y,Z,ad,an,a0,a1,a2,a3,a4,a5,a6,a7,a8,a9,bb,bi,rfl⟩;have bk:=He (jx hJ.bits (k:Int) (by constructor <;> omega));have HJ:=He hJ;have eo:=He hS;clear hJ hS;go_wp2_with fail
  refine bk.out.mono ?_;rintro e c7 ⟨rfl,bn,bt⟩;have b6:Hid (KJ W tb hp kb q rb pv P T v kg a (wd N T (k+1)) c7):=by unfold Hid;rw [<- eo.out];exact HJ.out.set (fM bt) bn
  have wk:IntKind.i64.wrap ((k:Int)+1)=(k:Int)+1:=IntWalk.i64_in _ Ha;clear bn bt bk;go_wp2_with fail
  go_step3;rename_i hK;refine hK _ _ ?_;go_wp2_with fail
  go_step3;refine ⟨⟨kg,a,k+1,Ha,b6.out,_,_,_,_,_,_,_,_,_,_,_,_,_,_,_,_,_,_,_,_,_,_,_,_,_,_,_,_,_,_,_,_,_,_,_,_,_,_,_,_,_,_,_,_,_,_,rfl⟩,?_⟩;simp [intOf];omega
 ·rintro a' W' ⟨kg,a,k,hk,hJ,u5,u7,u8,u9,f,g,i,j,m,o,p,r,s,t,u,z,A,B,C,H,I,K,L,M,O,R,u32,U,V,X,Y,Z,ad,an,a0,a1,a2,a3,a4,a5,a6,a7,a8,a9,bb,bi,rfl⟩;have b6:=He hJ;clear hJ;have wk:IntKind.i64.wrap ((k:Int)+1)=(k:Int)+1:=IntWalk.i64_in _ Ha;go_wp2_with fail
  go_step3;refine ⟨⟨kg,a,k+1,Ha,b6.out,_,_,_,_,_,_,_,_,_,_,_,_,_,_,_,_,_,_,_,_,_,_,_,_,_,_,_,_,_,_,_,_,_,_,_,_,_,_,_,_,_,_,_,_,_,_,rfl⟩,?_⟩;simp [intOf];omega
theorem uE (N:List Bk) (T:List Bool):(bX N T).length=N.length:=by unfold bX;simp
def gf (N:List Bk) (T:List Bool):List Bool:=if fZ (bX N T)<N.length then setB T (fZ (bX N T):Nat) true else T
theorem KS.own {W W':World} {tb hp kb q rb:Nat} {pv:Value} {P:List Wr} {T b:List Bool} {v:VM} (h:KS W tb hp kb q rb pv P T v) (c:W.grownBy W' (some kb)) (g:bp W' kb b):KS W' tb hp kb q rb pv P b v:=by
 have d:=h.tx.bits.hp;have keep:∀ {p:Nat} {f:Array Value} {t:TypeId} {a:Nat × Nat},W.heap[p]?=some (.cells f t a)->t≠197->W'.heap[p]?=some (.cells f t a):=fun hp i=>br c hp (fun e=>by injection e with e;subst e;exact bc hp d i rfl);refine ⟨⟨keep h.tx.hd Hd,h.tx.own.kept c (.inr (mj h.tx.own d Hd)),h.tx.ok,h.tx.srt,h.tx.few,g⟩,h.vol.keep ?_ ?_,h.inn⟩
 ·exact (keep h.vol.hd Hd).trans h.vol.hd.symm
 ·exact (keep h.vol.row Hd).trans h.vol.row.symm
section
variable {W:World} {tb hp kb q rb:Nat} {pv:Value} {P:List Wr} {T:List Bool} {v:VM}
theorem Ay (h:KS W tb hp kb q rb pv P T v) (N:List Bk) (L:N=applyW (jf v) P) (t:∀ y∈N,i64 y.k/\y.bs.length=56/\ay y.bs) (h1:0<v.n) (u:v.n<=200) :
 Calls Tryz.prog 18 #[.pointer (some ⟨tb,0,none⟩)] W fun e w'=>e=.returned (oC (bX N T))/\KS w' tb hp kb q rb pv P (gf N T) v/\W.grownBy w' (some kb):=by
 have m:N.length=v.n:=by rw [L,bZ,iw h.vol.toOk]
 have Y:=He (FK h N L t h1 u);have M:=He h;have o:=uE N T;rw [m] at o;have g:Hid (gf N T=if fZ (bX N T)<v.n then setB T (fZ (bX N T):Nat) true else T):=by unfold Hid gf;rw [m]
 have w:=He o;clear o m h L t;generalize gf N T=Z at *;generalize bX N T=S at *;obtain ⟨H,p⟩:∃ H,H=oC S:=⟨_,rfl⟩
 have d:=He p;rw [<- p];clear p;go_enter Tryz.func18,Tryz.ntmps18;go_wp2_with fail
 refine Y.out.mono ?_;rintro e w2 ⟨kg,rfl,I,a,x⟩;have O:=He (Dn I);have HB:=He a;have i:=He (M.out.below a);have R:=dZ a;clear I a x Y;have l:=IG S;rw [<- d.out] at O;have b:=dZ HB.out;have HG:Hid (W.grownBy w2 (some kb)):=⟨b.os,b.tape,b.output,b.size,fun k hk _=>b.block k hk Hb⟩
 clear b R;by_cases c:fZ S<v.n
 ·obtain ⟨z,K⟩:∃ z,z=fZ S:=⟨_,rfl⟩
  have f:H=.tuple #[.int .i64 (z:Int),.bool true]:=by rw [d.out];unfold oC;rw [if_pos (by rw [w.out];exact c),K]
  have r:Z=setB T (z:Int) true:=by rw [g.out,if_pos c,K]
  subst f;subst r;have U:z<=200:=by rw [K];omega
  have j:=fun W (I:bp W kb T)=>jx I (z:Int) (by constructor <;> omega);have j:=He j;clear K c l g d;go_wp2_with fail
  refine O.out.mono ?_;rintro e w3 ⟨rfl,rfl⟩;have c2:=i.out.tx.c2;have A:=He (j.out w2 i.out.tx.bits);go_wp2_with fail
  refine A.out.mono ?_;rintro e w4 ⟨rfl,B,C⟩;have s:=fM C;have V:=He (ba HG.out s);have X:Hid (KS w4 tb hp kb q rb pv P (setB T (z:Int) true) v):=i.out.own s B;clear s B C A j c2;go_wp2_with fail
  go_ret2
  exact ⟨rfl,X.out,V.out⟩
 ·have f:H=.tuple #[.int .i64 0,.bool false]:=by rw [d.out];unfold oC;rw [if_neg (by rw [w.out];exact c)]
  have r:Z=T:=by rw [g.out,if_neg c]
  subst f;subst r;clear c l g d;go_wp2_with fail
  refine O.out.mono ?_;rintro e w3 ⟨rfl,rfl⟩;go_wp2_with fail
  go_ret2
  exact ⟨rfl,i.out,HG.out⟩
theorem lL {x y:Value} (d:W.heap[tb]?=some (.cells #[.pointer (some ⟨hp,0,none⟩),x,y] 107 (0,0))) (i:aO W q hp rb v) (j:v.n<=200) :
 Calls Tryz.prog 45 #[.pointer (some ⟨tb,0,none⟩)] W fun e w'=>e=.returned (.tuple #[])/\∃ kb,KS w' tb hp kb q rb (.slice none 0 0) [] (List.replicate v.n false) v/\W.grownBy w' (some tb)/\W.heap.size<=kb:=by
 have T:=He d;have U:=He i;have R:W.cell? ⟨tb,1,none⟩=some x:=(af d 1).trans rfl;have S:=aA d 1;have b:∀ {p:Nat} {C:Array Value} {t:TypeId} {h:Nat × Nat},W.heap[p]?=some (.cells C t h)->t≠107->p≠tb:=fun hp H=>bc hp d H;have k:aO (W.setCell ⟨tb,1,none⟩ (.slice none 0 0)) q hp rb v:=i.keep (heap_setCell_other _ _ _ _ (fun e=>b i.hd Hd e)) (heap_setCell_other _ _ _ _ (fun e=>b i.row Hd e));have l:(W.setCell ⟨tb,1,none⟩ (.slice none 0 0)).heap[tb]?=some (.cells #[.pointer (some ⟨hp,0,none⟩),.slice none 0 0,y] 107 (0,0)):=ai d _;have m:=He k;have o:=He l;have r:=He (bw W tb 1 (.slice none 0 0));clear d i k l b;obtain ⟨n,I⟩:∃ n,n=v.n:=⟨_,rfl⟩
 rw [<- I] at j ⊢;have K:=He I;clear I;go_enter Tryz.func45,Tryz.ntmps45;go_upto_region 1 with fail
 clear R S;generalize W.setCell ⟨tb,1,none⟩ (.slice none 0 0)=O at *;have V:O.cell? ⟨tb,0,none⟩=some (.pointer (some ⟨hp,0,none⟩)):=(af o.out 0).trans rfl;have s:=He (ly m.out);rw [<- K.out] at s;have u:=He (BH (n:Int) (by constructor <;> omega) O);rw [show (min (max (n:Int) 0) 200).toNat=n by omega] at u;go_wp2_with fail
 refine s.out.mono ?_;rintro e X ⟨rfl,rfl⟩;go_wp2_with fail
 refine u.out.mono ?_;rintro e w ⟨kb,rfl,z,a,f⟩;have c:=Go.Proofs.YtegjelaejbacnaaGreat.kb f o.out;have Y:w.cell? ⟨tb,2,none⟩=some y:=(af c 2).trans rfl;have Z:=aA c 2;have g:=m.out.below f;have b:∀ {p:Nat} {C:Array Value} {t:TypeId} {h:Nat × Nat},w.heap[p]?=some (.cells C t h)->t≠107->p≠tb:=fun hp H=>bc hp c H;have A:KS (w.setCell ⟨tb,2,none⟩ (.pointer (some ⟨kb,0,none⟩))) tb hp kb q rb (.slice none 0 0) [] (List.replicate n false) v:=by
  refine ⟨⟨ai c _,World.ownsRow_nil _ _ _ _,(fun x d=>by cases d),List.Pairwise.nil,Hb,⟨a.len,?_⟩⟩,g.keep (heap_setCell_other _ _ _ _ (fun e=>b g.hd Hd e)) (heap_setCell_other _ _ _ _ (fun e=>b g.row Hd e)),(fun x d=>by cases d)⟩;exact (heap_setCell_other _ _ _ _ (fun e=>b a.hp Hd e)).trans a.hp
 have B:W.grownBy (w.setCell ⟨tb,2,none⟩ (.pointer (some ⟨kb,0,none⟩))) (some tb):=ba (gA r.out f) (bw w tb 2 _);have L:=He A;have M:=He B;have N:Hid (W.heap.size<=kb):=by unfold Hid;rw [z];exact r.out.size
 clear A B b g c a f z;go_wp2_with fail
 go_end0
 exact ⟨rfl,kb,L.out,M.out,N.out⟩
end
theorem Dp {W:World} {hp q rb:Nat} {v:VM} (j:aO W q hp rb v) (a:v.n<=200) :
 Calls Tryz.prog 16 #[.pointer (some ⟨hp,0,none⟩)] W fun e w'=>∃ tb kb,e=.returned (.pointer (some ⟨tb,0,none⟩))/\KS w' tb hp kb q rb (.slice none 0 0) [] (List.replicate v.n false) v/\Below W.heap.size W w'/\W.heap.size<=tb/\W.heap.size<=kb:=by
 have l:=heap_alloc_new W (.cells #[.pointer (some ⟨hp,0,none⟩),.slice none 0 0,.pointer none] 107);have d:=aM (w:=W) (.cells #[.pointer (some ⟨hp,0,none⟩),.slice none 0 0,.pointer none] 107);have f:=He (lL l (j.below d) a);have HB:=He d;clear l d j;go_enter Tryz.func16,Tryz.ntmps16;go_wp2_with fail
 refine f.out.mono ?_;rintro e o ⟨rfl,kb,b,m,c⟩;have g:=He b;have h:=He (HB.out.grown m HB.out.size (fun k e=>by injection e with e;subst e;exact Nat.le_refl _));have i:Hid (W.heap.size<=kb):=Nat.le_trans HB.out.size c;clear b m c;go_wp2_with fail
 go_ret;exact ⟨_,kb,rfl,g.out,h.out,Nat.le_refl _,i.out⟩
structure TV (w0 W:World) (F:Nat->Prop) (q hp rb n c:Nat) (m:DM) (v:VM):Prop where
 dev:qn W F q m
 at_:aO W q hp rb v
 low:∀ k,F k->w0.heap.size<=k
 nh:¬ F hp
 nr:¬ F rb
 ne:hp≠rb
 lh:w0.heap.size<=hp
 lr:w0.heap.size<=rb
 bel:Below w0.heap.size w0 W
 lv:Lv m v 0 n 40
 ns:m.stops=false
 ep:v.ep<=2+c
 dn:m.done.length<=200+120*c
section
variable {w0 W W':World} {F:Nat->Prop} {q hp rb n c:Nat} {m:DM} {v:VM}
theorem TV.lt (h:TV w0 W F q hp rb n c m v) {k:Nat} (a:F k):k<W.heap.size:=by obtain ⟨O,L,_,_,b⟩:=h.dev;exact b k a
theorem TV.new (h:TV w0 W F q hp rb n c m v) {k:Nat} (b:W.heap.size<=k):¬ F k:=fun a=>by have:=h.lt a;omega
theorem TV.vn (h:TV w0 W F q hp rb n c m v):v.n=n:=h.lv.parts.2.1
theorem TV.below (h:TV w0 W F q hp rb n c m v) (a:Below W.heap.size W W'):TV w0 W' F q hp rb n c m v :=
 ⟨h.dev.below a,h.at_.below a,h.low,h.nh,h.nr,h.ne,h.lh,h.lr,h.bel.trans (a.mono h.bel.size),h.lv,h.ns,h.ep,h.dn⟩
theorem TV.touch (h:TV w0 W F q hp rb n c m v) {j:Nat} (a:W.grownBy W' (some j)) (hj:¬ F j) (b:j≠hp) (d:j≠rb) (f:w0.heap.size<=j):TV w0 W' F q hp rb n c m v :=
 ⟨h.dev.keep (fun k g i=>a.block k g (fun e=>by injection e with e;subst e;exact hj i)) a.size,h.at_.keep (a.block _ (ah h.at_.hd) (fun e=>by injection e with e;exact b e.symm)) (a.block _ (ah h.at_.row) (fun e=>by injection e with e;exact d e.symm)),h.low,h.nh,h.nr,h.ne,h.lh,h.lr,h.bel.grown a h.bel.size (fun k e=>by injection e with e;subst e;exact f),h.lv,h.ns,h.ep,h.dn⟩
theorem TV.mono (h:TV w0 W F q hp rb n c m v) {a:Nat} (b:c<=a):TV w0 W F q hp rb n a m v:={ h with ep:=by have:=h.ep;omega,dn:=by have:=h.dn;omega }
def sf (W:World) (F:Nat->Prop) (hp rb:Nat) (k:Nat):Prop:=k<W.heap.size/\¬ F k/\k≠hp/\k≠rb
structure Mx (W:World) (F:Nat->Prop) (hp rb:Nat) (W':World) (F':Nat->Prop):Prop where
 blk:∀ k,sf W F hp rb k->W'.heap[k]?=W.heap[k]?
 nf:∀ k,k<W.heap.size->¬ F k->¬ F' k
 size:W.heap.size<=W'.heap.size
theorem TV.sv (h:TV w0 W F q hp rb n c m v):SV w0 W (fun k=>k<W.heap.size/\¬ F k) q m hp rb v :=
 ⟨⟨⟨F,h.dev,h.low,fun k a=>a.2⟩,fun k a=>a.1,h.bel⟩,h.at_,⟨ah h.at_.hd,h.nh⟩,⟨ah h.at_.row,h.nr⟩,h.lh,h.lr,h.ne⟩
theorem TV.change (h:TV w0 W F q hp rb n c m v) (N:c<=200) (O:n<=65) (A:Option Addr) (l:List Wr) (k d:Nat) (p:l.length=k) (r:k<=d) (hd:d<=9223372036854775807) (a:bW l) (s:mY W (sf W F hp rb) A l) :
 Calls Tryz.prog 44 #[.pointer (some ⟨hp,0,none⟩),.slice A k d] W fun e w'=>e=.returned (.int .i64 (if gE v l then 0 else 1))/\∃ f,TV w0 w' f q hp rb n (c+1) (sH m v l) (qe v l)/\Mx W F hp rb w' f:=by
 obtain ⟨R,t,S,u,T,p6⟩:=h.lv.parts;have w:=h.lv.usg;have x:=h.lv.sqg;have y:=h.ep;have z:=h.dn;have b:=h.lv.step a Ha Ha h.ns;have C:=EJ m v l;have H:v.B.length=n:=by rw [u.len,t]
 refine (xD h.sv A l k d p r hd a (s.mono (fun j hj=>⟨⟨hj.1,hj.2.1⟩,hj.2.2⟩)) Ha Ha Ha Ha Ha).mono ?_;rintro e w' ⟨I,g,o⟩;obtain ⟨f,K,L,i⟩:=g.ds.dev;refine ⟨I,f,⟨K,g.at_,L,i hp ⟨ah h.at_.hd,h.nh⟩,i rb ⟨ah h.at_.row,h.nr⟩,h.ne,h.lh,h.lr,g.ds.bel,b.1,b.2.2,Ha,Ha⟩,⟨fun j hj=>o.blk j ⟨⟨hj.1,hj.2.1⟩,hj.2.2⟩,fun j hj M=>i j ⟨hj,M⟩,o.size⟩⟩
end
theorem fh {W W':World} {B e sz n:Nat} {v:Value} {xs:List Value} (h:W.ownsRow B e sz v n xs) (c:∀ k,v.ownBlock=some k->W'.heap[k]?=W.heap[k]?):W'.ownsRow B e sz v n xs:=by
 refine ⟨h.1,?_⟩;rcases h.2 with d | ⟨g,a,b,rfl,f,i,j⟩
 ·exact .inl d
 ·exact .inr ⟨g,a,b,rfl,f,(c g rfl).trans i,j⟩
theorem bU {W:World} {B e sz n k:Nat} {v:Value} {xs:List Value} (h:W.ownsRow B e sz v n xs) (a:v.ownBlock=some k):∃ C,W.heap[k]?=some (.cells C e (0,0)):=by
 rcases h.2 with ⟨rfl,_⟩ | ⟨g,b,c,rfl,f,d,_⟩
 ·cases a
 ·injection a with a;subst a;exact ⟨_,d⟩
section
variable {ops:Array Oper} {rest:List Oper} {o:Oper} {a:Act} {w:World} {K:Act->World->Prop} {Q:Exit->Act->World->Prop}
theorem Dq (s x:Operand) (l:o.op=.call { callee:=.builtin .append,args:=#[s,x],argTypes:=#[49,49] })
 (v:Value) (n:Nat) (g:List Value) (p:a.eval s=v) (c:w.ownsRow 0 52 58 v n g) (u:Value) (m:Nat) (b:List Value) (q:a.eval x=u) (d:Ml w u m b) (r:b.length=m*58) (t:∀ y∈b,y.oneCell'=true) (z:n+m<=1000)
 (h:∀ e f,f.ownsRow 0 52 58 e (n+m) (g++b)->w.grownBy f v.ownBlock->(e.ownBlock=v.ownBlock\/e.ownBlock=some w.heap.size)->oA 52 58 n w f->K (a.put o.dst e) f):o.wp Tryz.prog a w K Q:=by
 obtain ⟨A,B,i,j,k⟩:=info_parts mD;exact Ao s x 49 l 52 A _ 58 72 Tryz.underlying49 B i j k (by show (cS zW).size=58;exact dd iX) Hd v n g p c u m b q d r t (by simp only [maxLen];omega) Ha h
theorem mL (g:o.guard=none) (s x:Operand) (l:o.op=.call { callee:=.builtin .append,args:=#[s,x],argTypes:=#[49,49] })
 (v:Value) (n:Nat) (i:List Value) (p:a.eval s=v) (e:w.ownsRow 0 52 58 v n i) (u:Value) (m:Nat) (b:List Value) (q:a.eval x=u) (f:Ml w u m b) (r:b.length=m*58) (j:∀ y∈b,y.oneCell'=true) (k:n+m<=1000)
 (h:∀ c d,d.ownsRow 0 52 58 c (n+m) (i++b)->w.grownBy d v.ownBlock->(c.ownBlock=v.ownBlock\/c.ownBlock=some w.heap.size)->oA 52 58 n w d->wpList Tryz.prog ops Q rest (a.put o.dst c) d):wpList Tryz.prog ops Q (o :: rest) a w :=
 wpList_plain g fun _ t=>Dq s x l v n i p e u m b q f r j k fun c d j z A B=>t _ _ (h c d j z A B)
end
section
variable {W:World} {tb hp kb:Nat} {pv:Value} {P:List Wr} {T:List Bool}
theorem tg.wrs (h:tg W tb hp kb pv P T):∃ A cap,pv=.slice A P.length cap/\P.length<=cap/\cap<=9223372036854775807/\(∀ (R:Nat->Prop),(∀ k,pv.ownBlock=some k->R k)->mY W R A P):=by
 obtain ⟨A,cap,rfl,c,d,e⟩:=h.lit;refine ⟨A,cap,rfl,c,d,fun R f i x a=>?_⟩;obtain ⟨b,rfl⟩:∃ b,A=some ⟨b,0,none⟩:=by
  rcases e with ⟨_,g,_⟩ | h
  ·rw [List.length_eq_zero_iff.1 g] at a;cases a
  ·exact h
 refine ⟨_,rfl,fun j u hj=>?_,?_⟩
 ·have:=h.cell a hj;rw [dU,Addr.add_mid];exact this
 ·exact f b rfl
end
theorem we {w0 W:World} {F:Nat->Prop} {q hp rb n c tb kb:Nat} {m:DM} {v:VM} {pv:Value} {P:List Wr} {T:List Bool} (h:KS W tb hp kb q rb pv P T v) (X:TV w0 W F q hp rb n c m v) (h1:¬ F tb) (h2:∀ k,pv.ownBlock=some k->¬ F k) (h3:w0.heap.size<=tb) (h4:¬ F kb) (hc:c<=200) (hn:n<=65) :
 Calls Tryz.prog 19 #[.pointer (some ⟨tb,0,none⟩)] W fun e w'=>e=.returned (.int .i64 (if P=[]\/gE v P then 0 else 1))/\∃ N m',TV w0 w' N q hp rb n (c+1) m' (if P=[] then v else qe v P)/\W.heap.size<=w'.heap.size/\(∀ k,sf W F hp rb k->k≠tb->w'.heap[k]?=W.heap[k]?)/\(∀ k,k<W.heap.size->¬ F k->¬ N k) /\
  (if P=[]\/gE v P then ∃ i,KS w' tb hp i q rb (.slice none 0 0) [] (List.replicate n false) (if P=[] then v else qe v P)/\¬ N i/\W.heap.size<=i else KS w' tb hp kb q rb pv P T v):=by
 have l:tb≠hp:=bc h.tx.hd h.vol.hd Hd;have o:tb≠rb:=bc h.tx.hd h.vol.row Hd;have Z:kb≠hp:=bc h.tx.bits.hp h.vol.hd Hd;have ad:kb≠rb:=bc h.tx.bits.hp h.vol.row Hd;have O:=X.vn;obtain ⟨A,a4,e,g1,g2,hw⟩:=h.tx.wrs;have B:mY W (sf W F hp rb) A P:=hw _ (fun k b=>by
  obtain ⟨C,g⟩:=bU h.tx.own b;exact ⟨ah g,h2 k b,bc g h.vol.hd Hd,bc g h.vol.row Hd⟩)
 have bb:=h.tx.few;by_cases H:P=[]
 ·have hX:P=[]\/gE v P:=Or.inl H;simp only [if_pos H,if_pos hX];clear hX;subst H;have j:=lL h.tx.hd h.vol (by rw [O];omega);rw [O] at j;have R:=He j;have d:=He X;have c1:=h.tx.c1;rw [e] at c1;have HT:=He (And.intro h1 (And.intro l (And.intro o h3)));clear h X hw B j e;show Calls Tryz.prog 19 #[.pointer (some ⟨tb,0,none⟩)] W _;go_enter Tryz.func19,Tryz.ntmps19;go_wp2_with fail
  refine fj [0] fun FF HH HO=>?_;go_wp2_with fail
  go_step3;refine HH _ _ _ _ _ rfl ?_;go_wp2_with fail
  refine R.out.mono ?_;rintro e w2 ⟨rfl,i,p,hg,r⟩;have s:=He p;have S:=He hg;have t:=He r;clear p hg r;go_wp2_with fail
  simp only [aU];go_ret;exact ⟨rfl,F,m,(d.out.touch S.out HT.out.1 HT.out.2.1 HT.out.2.2.1 HT.out.2.2.2).mono (Nat.le_succ _),S.out.size,fun k b I=>S.out.block k b.1 (fun e=>I (by injection e)),fun k _ hf=>hf,i,s.out,d.out.new t.out,t.out⟩
 have u:=X.below (Below.refl W.heap.size W).drew;have U:=fun (hy:mY W.drew (sf W.drew F hp rb) A P)=>u.change hc hn A P P.length a4 rfl g1 g2 h.tx.ok hy;have f:=U B;obtain ⟨Y,w⟩:∃ Y,Y=P.length:=⟨_,rfl⟩
 have a5:Y≠0:=by rw [w];exact fun e=>H (List.length_eq_zero_iff.1 e)
 have an:((Y:Int)==0)=false:=beq_eq_false_iff_ne.2 Ha;have M:decide ((Y:Int)=0)=false:=decide_eq_false Ha;have a0:decide (Y=0)=false:=decide_eq_false a5;have c0:W.drew.cell? ⟨tb,0,none⟩=_:=h.tx.c0;have c1:W.drew.cell? ⟨tb,1,none⟩=_:=h.tx.c1;have V:=h.tx.c1;rw [e,<- w] at c1 V;rw [<- w] at f;have a1:W.drew.heap.size=W.heap.size:=rfl;by_cases g:gE v P
 ·have hX:P=[]\/gE v P:=Or.inr g;simp only [if_neg H,if_pos hX];clear hX;rw [if_pos g] at f;have x:=He f;have a6:=He h.tx;have K:Hid (sf W F hp rb tb):=⟨ah h.tx.hd,h1,l,o⟩
  have bi:=He O;clear h X hw B U f u a1 e H g w;go_enter Tryz.func19,Tryz.ntmps19;go_wp2_with fail
  refine fj [0] fun FF HH HO=>?_;go_upto_region 4 with fail
  clear an M a0
  go_still_tail 8,Hc
  change wpList _ _ _ _ _ W.drew;clear V;go_wp2_with fail
  refine x.out.mono ?_;rintro e w2 ⟨rfl,N,y,z⟩;have d:=He y;have a:=He z;clear y z x c0 c1;have a2:w2.heap[tb]?=_:=(a.out.blk tb K.out).trans a6.out.hd;have j:=lL a2 d.out.at_ (by rw [d.out.vn];omega);rw [d.out.vn] at j;have R:=He j;clear j a2;go_wp2_with fail
  go_step3;rename_i hK;refine hK _ _ ?_;go_wp2_with fail
  refine R.out.mono ?_;rintro e w3 ⟨rfl,i,p,hg,r⟩;have s:=He p;have S:=He hg;have t:=He r;clear p hg r;go_wp2_with fail
  simp only [aU];go_ret;have L:=K.out;refine ⟨rfl,N,_,d.out.touch S.out (a.out.nf tb L.1 L.2.1) L.2.2.1 L.2.2.2 h3,Nat.le_trans a.out.size S.out.size,fun k b I=>?_,fun k b hf=>a.out.nf k b hf,i,s.out,d.out.new t.out,Nat.le_trans a.out.size t.out⟩;rw [S.out.block k (Nat.lt_of_lt_of_le b.1 a.out.size) (fun e=>I (by injection e))];exact a.out.blk k b
 ·have a3:¬ (P=[]\/gE v P):=fun hh=>hh.elim H g;simp only [if_neg H,if_neg a3];rw [if_neg g,vz g] at f;rw [vz g];have x:=He f;have s:=He h;have K:Hid (sf W F hp rb tb):=⟨ah h.tx.hd,h1,l,o⟩
  have a7:Hid (sf W F hp rb kb):=⟨ah h.tx.bits.hp,h4,Z,ad⟩
  have a8:Hid (∀ k,pv.ownBlock=some k->sf W F hp rb k):=fun k b=>by
   obtain ⟨C,g⟩:=bU h.tx.own b;exact ⟨ah g,h2 k b,bc g h.vol.hd Hd,bc g h.vol.row Hd⟩
  clear h X hw B U f u a1 e H g a3 w;go_enter Tryz.func19,Tryz.ntmps19;go_wp2_with fail
  refine fj [0] fun FF HH HO=>?_;go_upto_region 4 with fail
  clear an M a0
  go_still_tail 8,Hc
  change wpList _ _ _ _ _ W.drew;clear V;go_wp2_with fail
  refine x.out.mono ?_;rintro e w2 ⟨rfl,N,y,z⟩;have d:=He y;have a:=He z;clear y z x c0 c1;go_wp2_with fail
  simp only [aU];go_ret;have b:=s.out;refine ⟨rfl,N,_,d.out,a.out.size,fun k b I=>a.out.blk k b,fun k b hf=>a.out.nf k b hf,⟨⟨(a.out.blk tb K.out).trans b.tx.hd,fh b.tx.own (fun k a9=>a.out.blk k (a8.out k a9)),b.tx.ok,b.tx.srt,b.tx.few,⟨b.tx.bits.len,(a.out.blk kb a7.out).trans b.tx.bits.hp⟩⟩,d.out.at_,b.inn⟩⟩
theorem Dr {α:Type} {C xs ds ys:List α} {a N s:Nat} (g:C.take N=xs) (i:a<=N) (hd:ds=xs.drop a) (h:ys.length=s) (n:N+s<=C.length):(splice (splice C (a+s) ds) a ys).take (N+s)=xs.take a++ys++ds:=by
 have d:xs.length=N:=by rw [<- g,List.length_take];omega
 have e:ds.length=N-a:=by rw [hd,List.length_drop,d]
 have j:xs.take a=C.take a:=by rw [<- g,List.take_take,Nat.min_eq_left i]
 have b:(C.take a).length=a:=by rw [List.length_take];omega
 have f:((C.take (a+s)).drop a).length=s:=by rw [List.length_drop,List.length_take];omega
 have c:C.take (a+s)=C.take a++(C.take (a+s)).drop a:=by
  have:=List.take_append_drop a (C.take (a+s));rw [List.take_take,Nat.min_eq_left Ha] at this;exact this.symm
 generalize k:C.drop (a+s+ds.length)=R;have l:splice C (a+s) ds=C.take a++((C.take (a+s)).drop a++(ds++R)):=by
  unfold splice;rw [k];rw [c];simp only [List.append_assoc]
  congr 2
  rw [<- c]
 rw [l];unfold splice;rw [List.take_left' b,j];have m:(C.take a++((C.take (a+s)).drop a++(ds++R))).drop (a+ys.length)=ds++R:=by
  rw [<- List.append_assoc];exact List.drop_left' (by rw [List.length_append,b,f,h])
 rw [m,show N+s=(C.take a++ys++ds).length by simp only [List.length_append,b,h,e];omega,<- List.append_assoc,<- List.append_assoc,List.take_left]
theorem Az {α:Type} {C xs ds ys:List α} {a N s:Nat} (g:C.take a=xs.take a) (i:a<=N) (d:xs.length=N) (hd:ds=xs.drop a) (h:ys.length=s) (j:N+s<=C.length):(splice (splice C a ys) (a+s) ds).take (N+s)=xs.take a++ys++ds:=by
 have e:ds.length=N-a:=by rw [hd,List.length_drop,d]
 have b:(C.take a).length=a:=by rw [List.length_take];omega
 have f:(splice C a ys).take (a+s)=xs.take a++ys:=by
  unfold splice;rw [<- g,<- List.append_assoc];exact List.take_left' (l₁:=C.take a++ys) (by rw [List.length_append,b,h])
 have c:((splice C a ys).take (a+s)).length=a+s:=by rw [f,<- g,List.length_append,b,h]
 generalize splice C a ys=D at f c;unfold splice;rw [<- f,<- List.append_assoc,show N+s=(D.take (a+s)++ds).length by rw [List.length_append,c,e];omega,List.take_left]
section
variable {P:Program}
theorem jS (w:World) (n r ty c:TypeId) (b o d f:Nat) (a:Addr) (e g sz k:Nat) (cs:List Value)
 (s:P.underlying n=some (.slice c)) (p:(P.info? c).map (·.size)=some sz) (t:Nat.min e d=k) (u:cs.length=k*sz)
 (h:∀ j v,cs[j]?=some v->w.cell? (a.add j)=some v) (x:∀ j,j<cs.length->(w.cell? ⟨b,o+j,none⟩).isSome=true) (y:∀ j,j<cs.length->w.frozen? ⟨b,o+j,none⟩=false) (z:∀ v∈cs,v.oneCell'=true) :
 (Builtin.copy_ #[n,r] ty #[.slice (some ⟨b,o,none⟩) d f,.slice (some a) e g]).run P w=.ok (goInt k) (w.setCells b o cs):=by
 have q:=run_loadCells_list (P:=P) w a cs h;have l:=run_storeCells_cells (P:=P) b o cs 0 w (by simpa using x) (by simpa using y) z;cases m:P.info? c with
 | none=>simp [m] at p
 | some i =>
   have A:i.size=sz:=by simpa [m] using p
   rw [u] at q;simp only [Nat.add_zero] at l;simp [Builtin.copy_,run_underlying s,Builtin.lenOf,Builtin.firstCells,sizeOf,typeInfo,m,A,t,q,l]
theorem sh {o:Oper} {a:Act} {w:World} {K:Act->World->Prop} {Q:Exit->Act->World->Prop} (d s:Operand) (t b:TypeId)
 (f:o.op=.call { callee:=.builtin .copy,args:=#[d,s],argTypes:=#[t,b] }) (v u:Value) (hd:a.eval d=v) (g:a.eval s=u) {c:Value} {e:World}
 (i:(Builtin.copy_ #[t,b] o.type #[v,u]).run P w=.ok c e) (h:K (a.put o.dst c) e):o.wp P a w K Q:=by
 unfold Oper.wp execOp;simp only [f,resolve,invoke,builtin,Sem.run_bind,Sem.run_pure,Result.andThen_ok,List.map_toArray,List.map_cons,List.map_nil,hd,g,i];exact h
theorem fN {w:World} {ops:Array Oper} {rest:List Oper} {o:Oper} {a:Act} {Q:Exit->Act->World->Prop} (b:o.guard=none) (d s:Operand) (t c:TypeId)
 (g:o.op=.call { callee:=.builtin .copy,args:=#[d,s],argTypes:=#[t,c] }) (v u:Value) (hd:a.eval d=v) (i:a.eval s=u) {e:Value} {f:World}
 (j:(Builtin.copy_ #[t,c] o.type #[v,u]).run P w=.ok e f) (h:wpList P ops Q rest (a.put o.dst e) f):wpList P ops Q (o :: rest) a w :=
 wpList_plain b fun _ k=>sh d s t c g v u hd i j (k _ _ h)
end
theorem wf:(Tryz.prog.info? 52).map (·.size)=some 58:=by
 obtain ⟨e,b,c,a,d⟩:=info_parts mD;rw [b];simp [a]
section
variable {W:World} {g cap n i sb:Nat} {xs ys:List Value} {C:Array Value} {tS:TypeId}
theorem My (b:W.heap[sb]?=some (.cells C tS (0,0))) {a:Array Value} {tc:TypeId} (i:W.heap[g]?=some (.cells a tc (0,0))) (c:sb≠g) (d:a.size≠0) (k lb h:Nat) :
 (callFunc 114 #[.slice (some ⟨sb,0,none⟩) 1 1,.slice (some ⟨g,k,none⟩) lb h]).run Tryz.prog W=.ok (.value (.bool false)) W:=by
 rw [run_callFunc_extern Tryz.func114 Hc Hc Hc (e:=Extern.SlicesOverlaps.overlaps #[49,49] #[4]) Hc,
  Lib.run_overlaps_apart W 49 4 52 Tryz.underlying49 58 (fun w=>by obtain ⟨n,j,l,f,m⟩:=info_parts mD;simp [sizeOf,typeInfo,j,f]) ⟨sb,0,none⟩ ⟨g,k,none⟩ 1 1 lb h c tS tc C.size a.size (by simp [World.shape?,b]) (by simp [World.shape?,i]) d (aA b 0) (aA b C.size)]
 rfl
theorem AA (c:W.ownsRow 0 52 58 (.slice (some ⟨g,0,none⟩) n cap) n xs) (hi:i<n) (a:n+1<=cap) (hn:n<=200) (U:∀ x∈xs,x.oneCell'=true) (R:W.heap[sb]?=some (.cells C tS (0,0))) (V:C.toList=ys) (X:ys.length=58) (w:∀ y∈ys,y.oneCell'=true) (z:sb≠g) :
 Calls Tryz.prog 52 #[.slice (some ⟨g,0,none⟩) n cap,.int .i64 i,.slice (some ⟨sb,0,none⟩) 1 1] W fun e w'=>e=.returned (.slice (some ⟨g,0,none⟩) (n+1) cap)/\w'.ownsRow 0 52 58 (.slice (some ⟨g,0,none⟩) (n+1) cap) (n+1) (xs.take (i*58)++ys++xs.drop (i*58))/\W.grownBy w' (some g):=by
 obtain ⟨o,A,ad,S,B,H,_⟩:=iG c;have p:=c.1;have I:=fun lb cb=>My R A z Ha ((i+1)*58) lb cb;have q:(xs.drop (i*58)).length=(n-i)*58:=by rw [List.length_drop,p,Nat.sub_mul]
 have l:=fun k (hk:k<(n+1)*58)=>(show (W.drew.cell? ⟨g,k,none⟩).isSome=true by
  rw [show W.drew.cell? ⟨g,k,none⟩=W.cell? ⟨g,k,none⟩ from rfl,af A k,Array.getElem?_eq_getElem (by have:=Nat.mul_le_mul_right 58 a;omega)];rfl)
 have m:∀ r t T,(Builtin.copy_ #[49,49] r #[.slice (some ⟨g,(i+1)*58,none⟩) (n-i) t,.slice (some ⟨g,i*58,none⟩) (n+1-i) T]).run Tryz.prog W.drew=.ok (goInt ((n-i:Nat):Int)) (W.drew.setCells g ((i+1)*58) (xs.drop (i*58))):=fun r t T =>
  jS W.drew _ _ r 52 g ((i+1)*58) (n-i) t ⟨g,i*58,none⟩ (n+1-i) T 58 (n-i) (xs.drop (i*58)) Tryz.underlying49 wf (by simp only [Nat.min_def];split <;> omega) q
   (fun j v hj=>by rw [Addr.add_lit];exact iQ c (by rw [List.getElem?_drop] at hj;exact hj))
   (fun j hj=>l _ Ha) (fun j hj=>aA A _) (fun v hv=>U v (List.mem_of_mem_drop hv))
 have d:=cM (xs.drop (i*58)) ((i+1)*58) o W.drew A (by have:=Nat.mul_le_mul_right 58 a;omega);have u:(W.drew.setCells g ((i+1)*58) (xs.drop (i*58))).heap[sb]?=some (.cells C tS (0,0)):=(dy z _ _ _).trans R;have b:=cN g (xs.drop (i*58)) ((i+1)*58) W.drew;have f:(splice o.toList ((i+1)*58) (xs.drop (i*58))).length=o.size:=by rw [fp _ _ _ (by have:=Nat.mul_le_mul_right 58 a;simp;omega)];simp
 obtain ⟨h,K⟩:∃ h,h=W.drew.setCells g ((i+1)*58) (xs.drop (i*58)):=⟨_,rfl⟩
 rw [<- K] at m d u b;have L:∀ r t,(Builtin.copy_ #[49,49] r #[.slice (some ⟨g,i*58,none⟩) (n+1-i) t,.slice (some ⟨sb,0,none⟩) 1 1]).run Tryz.prog h=.ok (goInt 1) (h.setCells g (i*58) ys):=fun r t =>
  jS h _ _ r 52 g (i*58) (n+1-i) t ⟨sb,0,none⟩ 1 1 58 1 ys Tryz.underlying49 wf (by simp only [Nat.min_def];split <;> omega) Ha
   (fun j v hj=>by rw [Addr.add_lit,Nat.zero_add,af u j];rw [<- V] at hj;simpa using hj)
   (fun j hj=>by rw [af d,Array.getElem?_eq_getElem (by have:=Nat.mul_le_mul_right 58 a;simp only [List.size_toArray,f];omega)];rfl) (fun j hj=>aA d _) w
 have M:=cM ys (i*58) _ h d (by have:=Nat.mul_le_mul_right 58 a;simp only [List.size_toArray,f];omega);have N:=cN g ys (i*58) h;have HR:Hid ((h.setCells g (i*58) ys).ownsRow 0 52 58 (.slice (some ⟨g,0,none⟩) (n+1) cap) (n+1) (xs.take (i*58)++ys++xs.drop (i*58))):=by
  have O:(i*58)<=n*58:=Nat.mul_le_mul_right 58 Ha;have an:=Nat.mul_le_mul_right 58 a;refine ⟨by simp only [List.length_append,List.length_take,q,X,p];omega,.inr ⟨g,cap,_,rfl,Nat.zero_le _,M,a,S,?_,?_⟩⟩
  ·simp only [List.size_toArray];rw [fp _ _ _ (by simp only [f];omega),f,B]
  ·rw [List.toList_toArray,List.toList_toArray];have:=Dr (s:=58) H O rfl X (by simp;omega);rw [show (n+1)*58=n*58+58 by omega,show (i+1)*58=i*58+58 by omega];exact this
 have HG:Hid (W.grownBy (h.setCells g (i*58) ys) (some g)):=ba (show W.grownBy h (some g) from ⟨b.os,b.tape,b.output,b.size,b.block⟩) N;clear l d M u b N f K q p c U w A B H R V;have a0:i<=n:=Ha;have a1:¬ ((i:Int)=(n:Int)):=Ha;have a2:IntKind.i64.wrap ((i:Int)+1)=(i:Int)+1:=by rw [IntKind.wrap_i64];omega
 have a3:IntKind.i64.wrap ((n:Int)+1)=(n:Int)+1:=by rw [IntKind.wrap_i64];omega
 have a4:(0:Int)<=(i:Int)+1:=Ha;have a5:((i:Int)+1).toNat=i+1:=Ha;have a6:(0:Int)<=(n:Int)+1:=Ha;have Y:((n:Int)+1).toNat=n+1:=Ha;have a7:¬ (cap=i+1):=Ha;have a8:(i:Int)<=(n:Int)+1:=Ha;have Z:i<=n+1:=Ha;have a9:¬ (cap=i):=Ha;go_enter Tryz.func52,Tryz.ntmps52;go_wp2_with (simp only [I])
 clear I
 go_still_tail 8,Hc
 change wpList _ _ _ _ _ W.drew;go_wp2_with (first
  | (at_builtin;refine fN rfl _ _ 49 49 rfl _ _ rfl rfl (m _ _ _) ?_)
  | (at_builtin;refine fN rfl _ _ 49 49 rfl _ _ rfl rfl (L _ _) ?_))
 go_ret;exact ⟨rfl,HR.out,HG.out⟩
theorem FL {pv:Value} (b:W.ownsRow 0 52 58 pv n xs) (K:n<=200) (s:W.heap[sb]?=some (.cells C tS (0,0))) (t:C.toList=ys) (u:ys.length=58) (c:∀ y∈ys,y.oneCell'=true) :
 Calls Tryz.prog 52 #[pv,.int .i64 n,.slice (some ⟨sb,0,none⟩) 1 1] W fun e w'=>∃ v,e=.returned v/\w'.ownsRow 0 52 58 v (n+1) (xs++ys)/\W.grownBy w' pv.ownBlock/\(v.ownBlock=pv.ownBlock\/v.ownBlock=some W.heap.size):=by
 have w:=He b;have d:Hid (Ml W (.slice (some ⟨sb,0,none⟩) 1 1) 1 ys):=.inr ⟨⟨sb,0,none⟩,1,rfl,fun j x hj=>by rw [Addr.add_lit,Nat.zero_add,af s j];rw [<- t] at hj;simpa using hj⟩;have z:=He u;have A:=He c;have f:(pv=.slice none 0 0/\n=0)\/∃ g a,pv=.slice (some ⟨g,0,none⟩) n a/\n<=a/\a<=9223372036854775807:=by
  rcases b.2 with h | ⟨g,a,B,rfl,L,M,m,H,_⟩
  ·exact .inl h
  ·exact .inr ⟨g,a,rfl,m,by simp only [maxLen] at H;omega⟩
 clear b s t u c;rcases f with ⟨rfl,rfl⟩ | ⟨g,a,rfl,N,O⟩
 ·go_enter Tryz.func52,Tryz.ntmps52;go_wp2_with (first
   | (at_builtin
      go_loud (refine mL rfl (.tmp 23) (.tmp 24) rfl (.slice none 0 0) 0 xs rfl w.out _ 1 ys rfl d.out z.out A.out Ha ?_)
      intro I w' i k l o
      go_loud (
       have p:=He i;have q:=He k;have r:=He l
      )
      clear i k l o))
  go_ret;exact ⟨_,rfl,p.out,q.out,r.out⟩
 ·go_enter Tryz.func52,Tryz.ntmps52;go_wp2_with (first
   | (at_builtin
      go_loud (refine mL rfl (.tmp 23) (.tmp 24) rfl (.slice (some ⟨g,0,none⟩) n a) n xs rfl w.out _ 1 ys rfl d.out z.out A.out Ha ?_)
      intro I w' i k l o
      go_loud (
       have p:=He i;have q:=He k;have r:=He l
      )
      clear i k l o))
  all_goals (go_ret;exact ⟨_,rfl,p.out,q.out,r.out⟩)
theorem Ds (a:W.ownsRow 0 52 58 (.slice (some ⟨g,0,none⟩) n cap) n xs) (hi:i<n) (a5:¬ n+1<=cap) (hn:n<=200) (h1:∀ x∈xs,x.oneCell'=true) (hs:W.heap[sb]?=some (.cells C tS (0,0))) (hC:C.toList=ys) (hy:ys.length=58) (R:∀ y∈ys,y.oneCell'=true) (bl:sb≠g) :
 Calls Tryz.prog 52 #[.slice (some ⟨g,0,none⟩) n cap,.int .i64 i,.slice (some ⟨sb,0,none⟩) 1 1] W fun e w'=>∃ G,e=.returned (.slice (some ⟨W.heap.size,0,none⟩) (n+1) G)/\w'.ownsRow 0 52 58 (.slice (some ⟨W.heap.size,0,none⟩) (n+1) G) (n+1) (xs.take (i*58)++ys++xs.drop (i*58))/\Below W.heap.size W w':=by
 obtain ⟨bn,hg,bs,bt,a6,a7,_⟩:=iG a;have S:n=cap:=Ha;subst S;have c:=a.1;obtain ⟨i0,T,U,V,p⟩:=info_parts mD;have X:(Value.agg (cS zW)).cells.size=58:=by show (cS zW).size=58;exact dd iX
 have I:(xs.drop (i*58)).length=(n-i)*58:=by rw [List.length_drop,c,Nat.sub_mul]
 have Y:(n:Int)+1-(i:Int)=((n+1-i:Nat):Int):=Ha;have K:i+(n+1-i)=n+1:=Ha;have z:i*58<=n*58:=Nat.mul_le_mul_right 58 Ha;have A:(Builtin.firstCells i0.size i (.slice (some ⟨g,0,none⟩) i n)).run Tryz.prog W.drew=.ok (xs.take (i*58)).toArray W.drew:=by
  rw [V];exact run_firstCells_some W.drew 58 i ⟨g,0,none⟩ i n (xs.take (i*58)) (by rw [List.length_take,c];omega) (fun j v hj=>by
   rw [Addr.add_lit,Nat.zero_add];rw [List.getElem?_take] at hj;split at hj
   ·exact iQ a hj
   ·cases hj)
 have B:Builtin.nextslicecap (n+1) n*i0.bytes<=281474976710656:=by rw [p];exact growslice_fits Ha Ha
 have f:∀ k,∃ G,n+1<=G/\G<=9223372036854775807/\(Builtin.append_ #[49,3] k #[.slice (some ⟨g,0,none⟩) i n,.int .i64 ((n:Int)+1-(i:Int))]).run Tryz.prog W =
  .ok (.slice (some ⟨W.heap.size,0,none⟩) (n+1) G) (W.drew.alloc (.cells ((xs.take (i*58)).toArray++Builtin.zeroCells (Value.agg (cS zW)).cells (n+1-i)++Builtin.zeroCells (Value.agg (cS zW)).cells (G-(n+1))) 52)):=fun k=>by
  have h:=Lib.run_append_grow_zeros W 49 3 k 52 i0 _ .i64 .i64 Tryz.underlying49 Tryz.underlying3 T U (some ⟨g,0,none⟩) i n (xs.take (i*58)) A (n+1-i) Ha Ha Ha Ha (by rw [p];omega) (by rw [K];exact B);rw [K] at h;rw [Y];refine ⟨_,grownCap_ge W _ _ _,?_,h⟩;have:=grownCap_le_maxLen W (n+1) n 52 (by unfold maxLen;omega);unfold maxLen at this;omega
 obtain ⟨G,Z,bx,f⟩:=f 49;obtain ⟨b,d⟩:∃ b:Array Value,b=(xs.take (i*58)).toArray++Builtin.zeroCells (Value.agg (cS zW)).cells (n+1-i)++Builtin.zeroCells (Value.agg (cS zW)).cells (G-(n+1)):=⟨_,rfl⟩
 rw [<- d] at f;have ad:b.size=G*58:=by
  rw [d];simp only [Array.size_append,size_zeroCells,X,List.size_toArray,List.length_take,c];omega
 have an:b.toList.take (i*58)=xs.take (i*58):=by
  rw [d];simp only [Array.toList_append,List.append_assoc];exact List.take_left' (by rw [List.length_take,c];omega)
 clear d;obtain ⟨N,hN⟩:∃ N,N=W.heap.size:=⟨_,rfl⟩
 have a8:g<W.heap.size:=ah hg;have a9:sb<W.heap.size:=ah hs;have a0:(n+1)*58<=G*58:=Nat.mul_le_mul_right 58 Z;obtain ⟨q,r⟩:∃ q,q=W.drew.alloc (.cells b 52):=⟨_,rfl⟩
 have t:Below W.heap.size W q:=by rw [r];exact ((Below.refl W.heap.size W).drew).alloc (Nat.le_refl _) _
 have u:q.heap[N]?=some (.cells b 52 (0,0)):=by rw [r,hN];exact heap_alloc_new W.drew _
 rw [<- r,<- hN] at f;clear r;have a1:=kb t hs;have bb:=ic a t;have H:∀ k L,(Builtin.copy_ #[49,49] k #[.slice (some ⟨N,i*58,none⟩) (n+1-i) L,.slice (some ⟨sb,0,none⟩) 1 1]).run Tryz.prog q=.ok (goInt 1) (q.setCells N (i*58) ys):=fun k L =>
  jS q _ _ k 52 N (i*58) (n+1-i) L ⟨sb,0,none⟩ 1 1 58 1 ys Tryz.underlying49 wf (by simp only [Nat.min_def];split <;> omega) Ha
   (fun j v hj=>by rw [Addr.add_lit,Nat.zero_add,af a1 j];rw [<- hC] at hj;simpa using hj)
   (fun j hj=>by rw [af u,Array.getElem?_eq_getElem Ha];rfl) (fun j hj=>aA u _) R
 have l:=cM ys (i*58) b q u Ha;have w:=jo (g:=N) ys (i*58) t Ha;have M:=ic a w;have m:(splice b.toList (i*58) ys).length=b.size:=by rw [fp _ _ _ (by simp;omega)];simp
 obtain ⟨o,a2⟩:∃ o,o=q.setCells N (i*58) ys:=⟨_,rfl⟩
 rw [<- a2] at H l w M;have a3:∀ k L sc,(Builtin.copy_ #[49,49] k #[.slice (some ⟨N,(i+1)*58,none⟩) (n-i) L,.slice (some ⟨g,i*58,none⟩) (n-i) sc]).run Tryz.prog o.drew=.ok (goInt ((n-i:Nat):Int)) (o.drew.setCells N ((i+1)*58) (xs.drop (i*58))):=fun k L sc =>
  jS o.drew _ _ k 52 N ((i+1)*58) (n-i) L ⟨g,i*58,none⟩ (n-i) sc 58 (n-i) (xs.drop (i*58)) Tryz.underlying49 wf (by simp only [Nat.min_def];split <;> omega) I
   (fun j v hj=>by rw [Addr.add_lit];exact iQ M (by rw [List.getElem?_drop] at hj;exact hj))
   (fun j hj=>by rw [show o.drew.cell? ⟨N,(i+1)*58+j,none⟩=o.cell? ⟨N,(i+1)*58+j,none⟩ from rfl,af l,Array.getElem?_eq_getElem (by simp only [List.size_toArray,m];omega)];rfl) (fun j hj=>aA l _) (fun v hv=>h1 v (List.mem_of_mem_drop hv))
 have a4:=cM (xs.drop (i*58)) ((i+1)*58) _ o.drew l (by simp only [List.size_toArray,m];omega);have O:=jo (g:=N) (xs.drop (i*58)) ((i+1)*58) w.drew Ha;rw [<- hN] at O;have bi:=He O;clear O;have HR:Hid ((o.drew.setCells N ((i+1)*58) (xs.drop (i*58))).ownsRow 0 52 58 (.slice (some ⟨N,0,none⟩) (n+1) G) (n+1) (xs.take (i*58)++ys++xs.drop (i*58))):=by
  refine ⟨by simp only [List.length_append,List.length_take,I,hy,c];omega,.inr ⟨N,G,_,rfl,Nat.zero_le _,a4,Z,by unfold maxLen;omega,?_,?_⟩⟩
  ·simp only [List.size_toArray];rw [fp _ _ _ (by simp only [m];omega),m,ad]
  ·rw [List.toList_toArray,List.toList_toArray];have:=Az (s:=58) an z c rfl hy (by simp;omega);rw [show (n+1)*58=n*58+58 by omega,show (i+1)*58=i*58+58 by omega];exact this
 rw [<- hN];clear hN a8 a9;clear u l a4 a1 m a2 I c a h1 R hg a6 a7 hs hC bb M t w ad an A B T U V p X a0 z K Y;have b0:i<=n:=Ha;have p:¬ ((i:Int)=(n:Int)):=Ha;have b1:(n:Int)<(n:Int)+1:=Ha;have b2:IntKind.i64.wrap ((i:Int)+1)=(i:Int)+1:=by rw [IntKind.wrap_i64];omega
 have b3:IntKind.i64.wrap ((n:Int)+1)=(n:Int)+1:=by rw [IntKind.wrap_i64];omega
 have b4:IntKind.i64.wrap ((n:Int)+1-(i:Int))=(n:Int)+1-(i:Int):=by rw [IntKind.wrap_i64];omega
 have b5:(0:Int)<=(i:Int)+1:=Ha;have b6:((i:Int)+1).toNat=i+1:=Ha;have b8:¬ (G=i+1):=Ha;have b9:(i:Int)<=(n:Int):=Ha;have bk:i<=n+1:=Ha;have ca:¬ (G=i):=Ha;have cb:¬ (n=i):=Ha;go_enter Tryz.func52,Tryz.ntmps52;go_wp2_with (first
  | (at_builtin;refine Lib.wpList_append_run _ rfl _ _ _ _ rfl _ _ rfl rfl _ _ f ?_)
  | (at_builtin;refine fN rfl _ _ 49 49 rfl _ _ rfl rfl (H _ _) ?_))
 go_still_tail 8,Hc
 change wpList _ _ _ _ _ o.drew;go_wp2_with (first
  | (at_builtin;refine fN rfl _ _ 49 49 rfl _ _ rfl rfl (a3 _ _ _) ?_))
 go_ret;exact ⟨G,rfl,HR.out,bi.out⟩
end
end Go.Proofs.YtegjelaejbacnaaGreat
