/- For FileLong: contracts and facts, part 25. -/
import Derived.Test.YtegjelaejbacnaaGreatL22
import Derived.Test.YtegjelaejbacnaaGreatL24
set_option maxRecDepth 100000
set_option maxHeartbeats 25600000
set_option linter.unusedSimpArgs false
set_option linter.unusedVariables false
open Go.ChangeShapes Go.WideShapes Go.ChangeAt Go.RowKit
namespace Go.Proofs.YtegjelaejbacnaaGreat
def wH (l:List Pc):Nat:=(l.map fun p=>p.2.2-p.2.1).sum
theorem KK (o e:Nat) (h:o<e):∀ j,j<=pN o e->wH ((pL o e).take j)=if j=0 then 0 else if j=pN o e then e-o else 56*(o/56+j)-o:=by
 have c:pN o e=(e-1)/56-o/56+1:=by unfold pN;rw [if_neg Ha]
 intro j
 induction j with
 | zero=>intro _;rfl
 | succ j ih =>
   intro hj;have a:j<pN o e:=Ha;have ih:=ih Ha;rw [aw (show (pL o e)[j]?=some (Kh o e j) by rw [EZ,if_pos a])];unfold wH at ih ⊢;rw [List.map_append,List.sum_append,ih];unfold Kh;rw [c] at a hj ⊢;simp only [List.map_cons,List.map_nil,List.sum_cons,List.sum_nil];by_cases b:j=0
   ·subst b;simp only [if_true,Nat.zero_add,if_neg (show ¬ 1=0 by omega)]
    first | (split <;> omega) | (split <;> split <;> omega)
   ·rw [if_neg b,if_neg (show ¬ j+1=0 by omega),if_neg (show ¬ j=(e-1)/56-o/56+1 by omega),if_neg b];split <;> omega
theorem BQ (o m:Nat) (a:0<m) (h:o+m<=1120):wH (pcM o m)=m:=by
 unfold pcM;rw [if_pos Ha,show ((o:Int)).toNat=o by omega,show ((o:Int)+m).toNat=o+m by omega];have:=KK o (o+m) Ha (pN o (o+m)) (Nat.le_refl _);rw [List.take_of_length_le (by rw [dG];exact Nat.le_refl _)] at this;have b:pN o (o+m)=(o+m-1)/56-o/56+1:=by unfold pN;rw [if_neg Ha]
 rw [if_neg Ha,if_pos rfl] at this;omega
def jz (C:BN) (p:Pc) (d:List Int) (s:jB):jB:={ s with P:=pT C s.P (fw s.nd s.ix p.1) (qm (gB (C.N s.P) (fw s.nd s.ix p.1)) p.2.1 p.2.2 d) }
def za (C:BN) (d:List Int):List Pc->Nat->jB->Bool × Nat × jB
 | [],n,s=>(true,n,s)
 | p :: l,n,s=>if (lN C p.1 s).1=true then za C d l (n+(p.2.2-p.2.1)) (jz C p (d.drop n) (lN C p.1 s).2) else (false,n,(lN C p.1 s).2)
theorem BR (C:BN) (P:List Wr) (nd:Nd) (ix:List Int):(Gy C P nd ix).1.length<=P.length+1:=by
 unfold Gy;split
 ·exact sp ..
 ·exact Nat.le_succ _
theorem yJ (C:BN) (k:Nat) (s:jB):(own2 C k s).2.P.length<=s.P.length+2:=by
 unfold own2;split
 ·dsimp only;have a:=sp C s.P (j6 C s.P s.T:Nat) dH;split
  ·exact Nat.le_trans (BR ..) Ha
  ·dsimp only;omega
 ·exact Nat.le_add_right _ _
theorem FY (C:BN) (k:Nat) (s:jB):(lN C k s).2.P.length<=s.P.length+2:=by
 unfold lN own1;split
 ·exact Nat.le_add_right _ _
 ·split
  ·split
   ·exact yJ C k { s with T:=_,nd:=_ }
   ·exact Nat.le_add_right _ _
  ·exact yJ ..
theorem dK.since {C:TC} {W0 W:World} {o0 o:Option Nat} {b:Addr} {d:List Int} (f:dJ C W0 o0 W o) (h:dK W0 (some b) d) (g:b.block<W0.heap.size) (j:b.block≠C.tb) (k:b.block≠C.kb) (l:o0≠some b.block):dK W (some b) d:=fun i x m=>by
 obtain ⟨a,e,c⟩:=h i x m;injection e with e;subst e
 refine ⟨_,rfl,?_⟩;have n:=f.fr b.block g j k l;unfold World.cell? at c ⊢;rw [di] at c ⊢;rw [n];exact c
theorem dK.drop {W:World} {b:Addr} {d:List Int} (h:dK W (some b) d) (q:Nat):dK W (some (b.add q)) (d.drop q):=fun i x c=>by
 rw [List.getElem?_drop] at c;obtain ⟨a,e,f⟩:=h (q+i) x c;injection e with e;subst e
 exact ⟨_,rfl,by rw [ji];exact f⟩
section
variable {C:TC} {W:World} {pv:Value} {P:List Wr} {T:List Bool}
def M6 (C:TC) (W:World) (pv:Value) (P:List Wr) (t:Int) (o m c:Nat) (e:Addr) (D:List Int) (R:Bool × Nat × jB) (f:Act) (w':World):Prop :=
 ∃ (ob ib a:Nat) (l:List Pc) (A:Option Addr) (d n:Nat) (b:Value) (s:jB),Hid (FZ C Gx W pv.ownBlock w' b ob t ib a s)/\Hid (DB w' A d l)/\Hid (za C.bn D l n s=R)/\Hid (s.P.length+3*l.length<=P.length+60)/\Hid (n+wH l=m)/\Hid (∀ p∈l,p∈pcM o m)/\Fr 14 69 [.pointer (some ⟨C.tb,0,none⟩),.int .i64 t,.int .i64 (o:Int),.slice (some e) m c,undef,undef,undef,undef,.int .i64 0,.int .i64 0,.slice A l.length d,.int .i64 (n:Int),.pointer (some ⟨ob,0,none⟩),.bool true] f
def GP (p g:Nat) (Z Y:Array Value):Nat->Obj->Prop:=fun k o=>(k=p/\o=.cells Z 152 (0,0))\/(k=g/\o=.cells Y 152 (0,0))
def yK (C:BN) (t:Int) (o:Nat) (R:Bool × Nat × jB):Int × Int × List Wr :=
 if R.1=true then ((R.2.1:Int),0,pT C R.2.2.P t (dW 1 { R.2.2.nd with s:=max R.2.2.nd.s ((o:Int)+(R.2.1:Int)) })) else (0,9,R.2.2.P)
theorem ss (h:C.K W pv P T) (h0:C.w0.heap.size<=W.heap.size) (t:Int) (o:Nat) (ht:i64 t) (ho:o<1120) (x:Bk) (hx:x=gB (C.N P) t) (nd:Nd) (ci:nd=bo x.k x.bs) (ix:List Int) (ck:ix=ixOf (gB (C.N P) nd.x)) (hf:gh x) (g1:0<C.n) (cl:C.n<=200) (d8:P.length<=100) (ad:Addr) (d:List Int) (m0 c:Nat) (hm:d.length=m0) (ec:0<m0) (ed:m0<=c) (hc:c<=9223372036854775807) (hB:ay d) (hy:dK W (some ad) d) (a1:ad.block<W.heap.size) (a2:ad.block≠C.tb) (a3:ad.block≠C.kb) (a4:pv.ownBlock≠some ad.block) (R:Bool × Nat × jB) (hR:R=za C.bn (d.take (mostN o)) (pcM o (min m0 (mostN o):Nat)) 0 ⟨P,T,nd,ix⟩) :
 Calls Tryz.prog 34 #[.pointer (some ⟨C.tb,0,none⟩),.int .i64 t,.int .i64 (o:Int),.slice (some ad) m0 c] W fun e w'=>e=.returned (.tuple #[.int .i64 (yK C.bn t o R).1,.int .i64 (yK C.bn t o R).2.1])/\∃ a6,C.K w' a6 (yK C.bn t o R).2.2 R.2.2.T/\dJ C W pv.ownBlock w' a6.ownBlock:=by
 have HO:=He (mq h h0 t ht x hx nd ci ix ck);have HF:=He hf;obtain ⟨mo,a7⟩:∃ mo,mo=mostN o:=⟨_,rfl⟩
 have d9:1<=mo/\o+mo<=1120:=by rw [a7];unfold mostN;rw [Nat.min_def];split <;> omega
 have dg:=He (yF o ho W);rw [<- a7] at hR;obtain ⟨m,bt⟩:∃ m,m=min m0 mo:=⟨_,rfl⟩
 rw [<- bt] at hR;have ee:1<=m/\m<=m0/\m<=mo:=Ha;obtain ⟨D,hD⟩:∃ D,D=d.take mo:=⟨_,rfl⟩
 rw [<- hD] at hR;have dl:Hid (D.length=m):=by unfold Hid;rw [hD,List.length_take];omega
 have dn:Hid (ay D):=fun x hx=>hB x (by rw [hD] at hx;exact List.mem_of_mem_take hx);have dv:Hid (∀ w' o',dJ C W pv.ownBlock w' o'->dK w' (some ad) D):=fun w' o' H=>by
  have:=hy.since H a1 a2 a3 a4;rw [hD];exact fun i x hx=>this i x (by rw [List.getElem?_take] at hx;split at hx;exact hx;cases hx)
 have HR:=He hR;have bx:=He bt;have bb:=He a7;have ef:(o:Int)<1120:=Ha;have cn:¬ (m0:Int)=0:=Ha;have b0:¬ m0=0:=Ha;have dT:¬ (o:Int)<0:=Ha;clear hx ci ck hf h hy hB hm hR hD bt a7 a1 a2 a3 a4;go_enter Tryz.func34,Tryz.ntmps34;go_wp2_with fail
 refine bq (M6 C W pv P t o m c ad D R) (fun a _=>lenOf (a.tmps.getD 10 undef)) rfl ?_ ?_
 ·intro HJ;go_wp2_with fail
  refine HO.out.mono ?_;rintro e w1 ⟨_,k1⟩;obtain ⟨ob,ib,U,rfl,cp⟩:=k1 HF.out;have HS:=He cp;clear k1 cp;go_upto_region 12 with fail
  have O:=He (yF o ho w1);rw [<- bb.out] at O
  go_cut [3] (fun v wx=>v=.slice (some ad) m c/\wx=w1)
  case first =>
   by_cases d1:(mo:Int)<m0
   ·have b1:m=mo:=by have:=bx.out;omega
    have k1:(mo:Int)<=c:=Ha;have k2:mo<=c:=Ha;subst b1;go_wp2_with fail
    refine O.out.mono ?_;rintro e w2 ⟨rfl,rfl⟩;go_wp2_with fail
    go_meet
    case rel=>exact ⟨rfl,rfl⟩
   ·have b1:m=m0:=by have:=bx.out;omega
    have k1:(m0:Int)<=c:=Ha;subst b1;go_wp2_with fail
    refine O.out.mono ?_;rintro e w2 ⟨rfl,rfl⟩;go_wp2_with fail
    go_meet
    case rel=>exact ⟨rfl,rfl⟩
  case rest =>
   obtain ⟨rfl,rfl⟩:=hcut;have HP:=He (nk (o:Int) (m:Int) wc (by constructor <;> omega) (by constructor <;> omega));clear O;go_wp2_with fail
   refine HP.out.mono ?_;rintro e w2 ⟨v,rfl,bi,hb⟩;obtain ⟨A,c2,rfl,cq⟩:=wo bi;have I:=He (HS.out.below hb);have M:=He cq;clear bi hb cq;go_wp2_with fail
   go_step3;rename_i hK;refine hK _ _ (HJ _ _ ⟨ob,ib,U,pcM o m,A,c2,0,pv,⟨P,T,nd,ix⟩,I.out,M.out,HR.out.symm,?_,?_,(fun p h=>h),⟨_,rfl,rfl,rfl⟩⟩)
   ·show P.length+3*(pcM o m).length<=P.length+60;have:(pcM (o:Int) (m:Int)).length<=20:=by
     unfold pcM;split
     ·rw [dG];exact Bq _ _ Ha
     ·exact Nat.zero_le _
    omega
   ·show 0+wH (pcM o m)=m;rw [BQ o m Ha Ha,Nat.zero_add]
 ·rintro a' w' ⟨ob,ib,U,l,A,c2,n,a6,s,HS,M,b2,HL,HN,HM,cr⟩;obtain ⟨u,rfl⟩:=cr.lit;simp only [List.range,List.range.loop,List.map_cons,List.map_nil,List.cons_append,List.nil_append];clear cr HO HF dT cn b0 bx dg bb;cases l with
  | nil =>
    have hr:R=(true,n,s):=b2.out.symm;subst hr;have V:n=m:=by have:=HN.out;simpa [wH] using this
    have b3:=He V;obtain ⟨z,hz⟩:∃ z,z=max s.nd.s ((o:Int)+(n:Int)):=⟨_,rfl⟩
    have cs:i64 z:=by rw [hz];have:=HS.out.ok.s;constructor <;> omega
    have HZ:=He hz;have b4:=He (HS.out.set h0 4 (.int .i64 z) { s.nd with s:=z } { HS.out.ok with s:=cs } (fun iv=>rfl));have c4:w'.cell? ⟨ob,4,none⟩=some (.int .i64 s.nd.s):=HS.out.c 4;have f4:=HS.out.f 4;have eg:IntKind.i64.wrap ((o:Int)+(n:Int))=o+n:=by rw [IntKind.wrap_i64];omega
    clear hz cs V;rw [List.length_nil];go_upto_region 15 with fail
    go_cut [] (fun wx=>Hid (FS C Gx W pv.ownBlock wx a6 s.P s.T ob t { s.nd with s:=z } ib U s.ix))
    case first =>
     by_cases d1:s.nd.s<(o:Int)+n
     ·have d2:(o:Int)+n=z:=by rw [HZ.out];omega
      have cu:IntKind.i64.wrap z=z:=by have:=b3.out;rw [IntKind.wrap_i64];omega
      go_wp2_with fail
      go_meet
      case rel=>exact b4
     ·have d2:s.nd.s=z:=by rw [HZ.out];omega
      go_wp2_with fail
      all_goals go_meet
      all_goals exact b4
    case rest =>
     have d3:=He (uH hcut.out (by have:=HL.out;omega));clear c4 f4 b4;go_wp2_with fail
     refine d3.out.mono ?_;rintro e w2 ⟨rfl,a8,H⟩;have I:=He H;clear H;go_wp2_with fail
     simp only [Exit.jump]
     go_ret2
     refine ⟨rfl,a8,?_,I.out.s⟩;have:=I.out.k;rw [HZ.out] at this;exact this
  | cons p l =>
    obtain ⟨g,b,rfl,_,cv⟩:=M.out.2.2 Hb;have cw:Hid (w'.rangeAt g b (encP p)):=by have:=cv 0 p rfl;rwa [Nat.zero_mul,Nat.add_zero] at this
    obtain ⟨an,cx,bk⟩:=pw (HM.out p (List.mem_cons_self ..));have eh:1<=c2:=by have:=M.out.1;simp at this;omega
    have ei:=M.out.2.1;obtain ⟨k,f,e⟩:=p;dsimp only at an cx bk;have b5:=heap_alloc_new w' (.cells (jt 0 0 0) 152);have b6:Below w'.heap.size w' ((w'.alloc (.cells (jt 0 0 0) 152)).setRow w'.heap.size (jt k f e)):=below_setRow (aM (w:=w') (.cells (jt 0 0 0) 152)) (Nat.le_refl _) _;have a0:=He (am (D:=jt k f e) b5);have I:=He (HS.out.below b6);have a5:=He (M.out.below b6);have ea:Hid (W.heap.size<=w'.heap.size):=HS.out.s.sz;clear b6 cv;rw [List.length_cons];go_upto_region 19 with (first
     | (refine kO rfl (.tmp 61) rfl g b rfl (k,f,e) cw.out ?_)
     | (refine j7 rfl rfl ?_)
     | (refine j8 rfl (.tmp 14) (.tmp 62) rfl w'.heap.size rfl k f e 0 0 0 rfl b5 ?_))
    clear b5 HS M cw;generalize (w'.alloc (.cells (jt 0 0 0) 152)).setRow w'.heap.size (jt k f e)=w2 at *;generalize w'.heap.size=y at *;have bl:w2.cell? ⟨y,0,none⟩=some (.int .i64 k):=(af a0.out 0).trans rfl;obtain ⟨g',b',e',⟨Z,hZ⟩,cz⟩:=a5.out.2.2 Hb;injection e' with e'
    injection e' with e1 e2
    subst e1 e2;have d4:=a5.out.1;simp only [List.length_cons] at d4;have cA:Hid (∀ (W6:World),W6.heap[g]?=some (.cells Z 152 (0,0))->∀ (A:Option Addr) (c2:Nat),l.length<=c2->c2<=9223372036854775807->(l≠[]->A=some ⟨g,b+3,none⟩)->DB W6 A c2 l):=fun W6 h6 A c2 q1 q2 q3=>⟨q1,q2,fun hn=>⟨g,b+3,q3 hn,⟨Z,h6⟩,fun i p hp j v hj=>by
     have:=cz (i+1) p hp j v hj;rw [show b+(i+1)*3=b+3+i*3 by omega] at this;exact (af h6 _).trans ((af hZ _).symm.trans this)⟩⟩
    have b8:=He (I.out.re (G':=GP y g (jt k f e) Z) (fun k' o' hk=>by
     rcases hk with ⟨rfl,rfl⟩ | ⟨rfl,rfl⟩
     ·exact ⟨_,_,_,rfl,a0.out,Hd,Hd,Hd,Hd,Hd⟩
     ·exact ⟨_,_,_,rfl,hZ,Hd,Hd,Hd,Hd,Hd⟩))
    have hL:=HL.out;simp only [List.length_cons] at hL;have X:=He (FU b8.out h0 k an g1 cl Ha);have a9:=FY C.bn k s;have B:=b2.out;unfold za at B;dsimp only at B;obtain ⟨q,hq⟩:∃ q,q=lN C.bn k s:=⟨_,rfl⟩
    rw [<- hq] at X a9 B;have V:n+((e-f)+wH l)=m:=HN.out;have b3:=He V;clear hq cz hZ I a5 a0 b2;obtain ⟨q1,q⟩:=q;dsimp only at X a9 B;cases q1 with
    | false =>
      rw [if_neg Hd] at B;subst B;clear hL a9 V;go_wp2_with fail
      refine X.out.mono ?_;rintro r w3 ⟨rfl,a8,H⟩;have Y:=He H;clear H bl X b8;go_wp2_with fail
      simp only [Exit.jump]
      go_ret2
      exact ⟨rfl,a8,Y.out.k,Y.out.s⟩
    | true =>
      rw [if_pos rfl] at B;have cP:=He B;have c3:q.P.length<200:=Ha;have d5:Hid (q.P.length+1+3*l.length<=P.length+60):=by unfold Hid;omega
      have eb:n<m:=Ha;clear B hL a9 V;go_wp2_with fail
      refine X.out.mono ?_;rintro r w3 ⟨rfl,a8,H⟩;have Y:=He H;clear H bl X b8;go_upto_region 21 with fail
      have S:∀ W,Below w3.heap.size w3 W->W.heap[y]?=some (.cells (jt k f e) 152 (0,0)):=fun W hb=>((Y.out.below hb).gd y _ (.inl ⟨rfl,rfl⟩)).1;have c0:∀ W,Below w3.heap.size w3 W->W.cell? ⟨y,0,none⟩=some (.int .i64 k):=fun W hb=>(af (S W hb) 0).trans rfl;have c1:∀ W,Below w3.heap.size w3 W->W.cell? ⟨y,1,none⟩=some (.int .i64 f):=fun W hb=>(af (S W hb) 1).trans rfl;have b9:∀ W,Below w3.heap.size w3 W->W.cell? ⟨y,2,none⟩=some (.int .i64 e):=fun W hb=>(af (S W hb) 2).trans rfl;have srefl:∀ W:World,W.grownBy W none:=fun W=>World.grownBy.refl _ _;have k1:n<=m:=Ha;have k2:(n:Int)<=m:=Ha;have k3:¬ c=n:=Ha;have k4:(m:Int)<=c:=Ha;have k5:¬ n=c:=Ha;clear S;refine dS (fun _ W=>Below w3.heap.size w3 W) (fun _ w w'=>w.grownBy w' none) (Below.refl _ _).drew ?_;refine xr ?_;refine XK.last ?_;intro W' L z1 z2 hJ;simp only [ny,forall_eq,List.setIfInBounds_toArray,List.set_cons_succ,List.set_cons_zero];have ca:=He (Y.out.below hJ);have c5:=He (yH ca.out h0 c3 k f e an cx bk (ad.add n) (D.drop n) (m-n) (c-n) (by rw [List.length_drop,dl.out]) (fun x hx=>dn.out x (List.mem_of_mem_drop hx)) ((dv.out _ _ ca.out.s).drop n));clear c0 c1 b9 srefl hJ z1 z2 Y;go_wp2_with fail
      refine c5.out.mono ?_;rintro r w5 ⟨rfl,cb,H⟩;have c6:=He H;have cc:=(H.gd y _ (.inl ⟨rfl,rfl⟩)).1;have c7:=He (H.gd g _ (.inr ⟨rfl,rfl⟩)).1;have c1:w5.cell? ⟨y,1,none⟩=some (.int .i64 f):=(af cc 1).trans rfl;have b9:w5.cell? ⟨y,2,none⟩=some (.int .i64 e):=(af cc 2).trans rfl;have cu:IntKind.i64.wrap ((e:Int)-f)=e-f:=by rw [IntKind.wrap_i64];omega
      have d6:IntKind.i64.wrap ((n:Int)+(e-f))=n+(e-f):=by rw [IntKind.wrap_i64];omega
      have d7:(n:Int)+((e:Int)-f)=(n+(e-f):Nat):=Ha;clear H cc c5 ca;go_upto_region 23 with fail
      rw [show (n:Int)+((e-f:Nat):Int)=((n+(e-f):Nat):Int) by omega];have c8:Hid (FZ C Gx W pv.ownBlock w5 cb ob t ib U (jz C.bn (k,f,e) (D.drop n) q)):=c6.out.re (fun _ _ h=>h.elim);have c9:Hid ((jz C.bn (k,f,e) (D.drop n) q).P.length+3*l.length<=P.length+60):=Nat.le_trans (Nat.add_le_add_right (sp C.bn q.P _ _) (3*l.length)) d5.out;have da:Hid (n+(e-f)+wH l=m):=by have h:=b3.out;unfold Hid;omega
      have dc:Hid (∀ p∈l,p∈pcM o m):=fun p hp=>HM.out p (List.mem_cons_of_mem _ hp);clear c1 b9 cu d6 d7 c6 k1 k2 k3 k4 k5 c3;by_cases hc:c2=1
      ·have cg:l=[]:=List.eq_nil_of_length_eq_zero Ha;have ch:=He (cA.out w5 c7.out (some ⟨g,b,none⟩) 0 Ha Ha (fun h=>absurd cg h));have ej:l.length=0:=by rw [cg];rfl
       go_wp2_with fail
       subst cg;go_step3;exact ⟨rfl,⟨ob,ib,U,[],_,0,_,cb,_,c8.out,ch.out,cP.out,c9.out,da.out,dc.out,⟨_,rfl,rfl,rfl⟩⟩,by simp [lenOf]⟩
      ·have ch:=He (cA.out w5 c7.out (some ⟨g,b+3,none⟩) (c2-1) Ha Ha (fun _=>rfl));have ek:¬ (c2:Int)=1:=Ha;have el:(1:Int)<=c2:=Ha;go_wp2_with fail
       go_step3;exact ⟨rfl,⟨ob,ib,U,l,_,_,_,cb,_,c8.out,ch.out,cP.out,c9.out,da.out,dc.out,⟨_,rfl,rfl,rfl⟩⟩,by simp [lenOf]⟩
end
def su (C:BN) (d:List Int):List Pc->jB->jB
 | [],s=>s
 | p :: l,s=>su C d l (jz C p d s)
def JF:Nat->jB->jB
 | 0,s=>s
 | n+1,s=>JF n { s with nd:=(fO s.nd s.ix (19-n) (-1)).1,ix:=(fO s.nd s.ix (19-n) (-1)).2 }
def MA (C:BN) (t size:Int) (s:jB):List Wr :=
 pT C (Gy C s.P { s.nd with s:=size } s.ix).1 t (dW 1 (Gy C s.P { s.nd with s:=size } s.ix).2)
def MB (C:BN) (size:Nat) (s:jB):jB:=JF (20-(size+55)/56) (su C (List.replicate ((size+55)/56*56-size) 0) (pcM size ((size+55)/56*56-size:Nat)) s)
theorem sw (C:BN) (d:List Int):∀ (l:List Pc) (s:jB),(su C d l s).P.length<=s.P.length+l.length
 | [],s=>Nat.le_refl _
 | p :: l,s=>by
   have a:=sw C d l (jz C p d s);have b:=sp C s.P (fw s.nd s.ix p.1) (qm (gB (C.N s.P) (fw s.nd s.ix p.1)) p.2.1 p.2.2 d);unfold jz at a;rw [List.length_cons];unfold su jz;dsimp only at a ⊢;omega
theorem uL (C:BN) (d:List Int):∀ (l:List Pc) (p:Pc) (s:jB),su C d (l++[p]) s=jz C p d (su C d l s)
 | [],p,s=>rfl
 | q :: l,p,s=>uL C d l p (jz C q d s)
theorem JG:∀ (n:Nat) (s:jB),(JF n s).P=s.P/\(JF n s).T=s.T
 | 0,s=>⟨rfl,rfl⟩
 | n+1,s=>JG n _
section
variable {C:TC} {W:World} {pv:Value} {P:List Wr} {T:List Bool}
def M7 (C:TC) (W:World) (pv:Value) (P:List Wr) (t:Int) (z b:Nat) (R:jB) (d:Act) (w':World):Prop :=
 ∃ (ob ib a n:Nat) (c:Value) (s:jB),n<=20/\Hid (FZ C Gx W pv.ownBlock w' c ob t ib a s)/\Hid (JF n s=R)/\Fr 11 53 [.pointer (some ⟨C.tb,0,none⟩),.int .i64 t,.int .i64 (z:Int),undef,undef,undef,.int .i64 0,.int .i64 ((20-n:Nat):Int),.int .i64 (b:Int),.pointer (some ⟨ob,0,none⟩),.bool true] d
theorem IY (h:C.K W pv P T) (h0:C.w0.heap.size<=W.heap.size) (t:Int) (z:Nat) (ht:i64 t) (hz:z<=1120) (x:Bk) (hx:x=gB (C.N P) t) (nd:Nd) (bt:nd=bo x.k x.bs) (ix:List Int) (bx:ix=ixOf (gB (C.N P) nd.x)) (hf:gh x) (dg:P.length<=100) (R:jB) (hR:R=MB C.bn z ⟨P,T,nd,ix⟩) :
 Calls Tryz.prog 30 #[.pointer (some ⟨C.tb,0,none⟩),.int .i64 t,.int .i64 (z:Int)] W fun e w'=>e=.returned (.int .i64 0)/\∃ l,C.K w' l (MA C.bn t z R) R.T/\dJ C W pv.ownBlock w' l.ownBlock:=by
 have HO:=He (mq h h0 t ht x hx nd bt ix bx);have HF:=He hf;obtain ⟨k,hk⟩:∃ k,k=(z+55)/56:=⟨_,rfl⟩
 obtain ⟨b,o⟩:∃ b,b=k*56-z:=⟨_,rfl⟩
 have cv:z<=k*56/\k*56<=z+55/\k<=20/\b<=55:=Ha;have b1:R=JF (20-k) (su C.bn (List.replicate b 0) (pcM z b) ⟨P,T,nd,ix⟩):=by rw [hR,o,hk];rfl
 have HR:=He b1;have a7:=He cv;have HB:=He o;have hq:((z:Int)+55).tdiv 56=k:=by rw [Int.tdiv_eq_ediv_of_nonneg Ha];omega
 have b2:IntKind.i64.wrap ((z:Int)+56)=z+56:=by rw [IntKind.wrap_i64];omega
 have b3:IntKind.i64.wrap ((z:Int)+56-1)=z+55:=by rw [IntKind.wrap_i64];omega
 have b4:IntKind.i64.wrap ((k:Int)*56)=k*56:=by rw [IntKind.wrap_i64];omega
 have b5:IntKind.i64.wrap ((k:Int)*56-z)=b:=by rw [IntKind.wrap_i64];omega
 have ad:¬ (z:Int)<0:=Ha;have an:¬ (1120:Int)<z:=Ha;clear hx bt bx hf h hR b1 o hk;go_enter Tryz.func30,Tryz.ntmps30;go_wp2_with fail
 refine bq (M7 C W pv P t z b R) (fun a _=>20-(intOf (a.tmps.getD 7 undef)).toNat) rfl ?_ ?_
 ·intro HJ;go_wp2_with fail
  refine HO.out.mono ?_;rintro e w1 ⟨_,k1⟩;obtain ⟨ob,ib,y,rfl,b6⟩:=k1 HF.out;have H:=He b6;clear k1 b6;have HP:=He (nk (z:Int) (b:Int) w1 (by constructor <;> omega) (by constructor <;> omega));go_upto_region 11 with fail
  clear hq b2 b3 b4 b5 ad an;go_wp2_with fail
  refine HP.out.mono ?_;rintro e w2 ⟨v,rfl,a2,o⟩;obtain ⟨A,c2,rfl,I⟩:=wo a2;obtain ⟨L,hL⟩:∃ L,L=pcM (z:Int) (b:Int):=⟨_,rfl⟩
  rw [<- hL] at I HR ⊢;obtain ⟨N,hN⟩:∃ N,N=L.length:=⟨_,rfl⟩
  have dl:N<=20:=by
   rw [hN,hL];unfold pcM;split
   ·rw [dG];exact Bq _ _ Ha
   ·exact Nat.zero_le _
  have cw:Hid (∀ p∈L,p∈pcM (z:Int) (b:Int)):=fun p X=>by rw [<- hL];exact X
  have M:Hid (∃ l,FZ C Gx W pv.ownBlock w2 l ob t ib y (su C.bn (List.replicate b 0) (L.take 0) ⟨P,T,nd,ix⟩)):=⟨pv,H.out.below o⟩
  have b8:=He I;have dv:N<=c2/\c2<=9223372036854775807:=by rw [hN];exact ⟨I.1,I.2.1⟩
  have a8:=He hN;rw [<- hN];clear a2 o I hL hN H HP;go_wp2_with fail
  go_loopw [37] (fun i wr=>∃ j:Nat,j<=N/\i=.int .i64 j/\Hid (∃ l,FZ C Gx W pv.ownBlock wr l ob t ib y (su C.bn (List.replicate b 0) (L.take j) ⟨P,T,nd,ix⟩))/\Hid (DB wr A c2 L)) (fun i _=>N-(intOf i).toNat)
  case atStart=>exact ⟨0,Ha,rfl,M,b8⟩
  case round =>
   obtain ⟨j,hj,rfl,a0,a9⟩:=hrel;clear M b8;by_cases cx:j<N
   case neg =>
    obtain rfl:j=N:=Ha;have b9:¬ (j:Int)<j:=Ha;obtain ⟨l,m⟩:=a0.out;have cz:=He m;clear m a0;go_wp2_with fail
    go_step3;rename_i hK;refine hK _ _ (HJ _ _ ⟨ob,ib,y,20-k,l,_,Ha,cz.out,?_,⟨_,rfl,rfl,?_⟩⟩)
    ·unfold Hid;rw [HR.out,a8.out,List.take_length]
    ·rw [show 20-(20-k)=k by omega];rfl
   have b9:(j:Int)<N:=Ha;have dT:decide (N<=j)=false:=decide_eq_false Ha;obtain ⟨p,X⟩:∃ p,L[j]?=some p:=⟨_,List.getElem?_eq_getElem (by rw [<- a8.out];exact cx)⟩
   obtain ⟨g,b0,rfl,⟨Z,hZ⟩,ca⟩:=a9.out.2.2 (fun e=>by rw [e] at X;cases X);have cb:=He (ca j p X);obtain ⟨a3,cc,a4⟩:=pw (cw.out p (List.mem_of_getElem? X));obtain ⟨kk,f,e⟩:=p;dsimp only at a3 cc a4;obtain ⟨l,m⟩:=a0.out;have bb:=heap_alloc_new wr (.cells (jt 0 0 0) 152);have a1:Below wr.heap.size wr ((wr.alloc (.cells (jt 0 0 0) 152)).setRow wr.heap.size (jt kk f e)):=below_setRow (aM (w:=wr) (.cells (jt 0 0 0) 152)) (Nat.le_refl _) _;have a5:=He (am (D:=jt kk f e) bb);have cg:=He (Go.Proofs.YtegjelaejbacnaaGreat.kb a1 hZ);have M:=He (m.below a1);have O:=He (a9.out.below a1);have HP:=He X;clear m a1 ca hZ X a0 a9;go_upto_region 14 with (first
    | (refine kO rfl (.tmp 39) rfl g (b0+j*3) rfl (kk,f,e) cb.out ?_)
    | (refine j7 rfl rfl ?_)
    | (refine j8 rfl (.tmp 12) (.tmp 40) rfl wr.heap.size rfl kk f e 0 0 0 rfl bb ?_))
   clear bb cb;generalize (wr.alloc (.cells (jt 0 0 0) 152)).setRow wr.heap.size (jt kk f e)=Y at *;generalize wr.heap.size=S at *;have ch:=He (M.out.re (G':=GP S g (jt kk f e) Z) (fun k' o' hk=>by
    rcases hk with ⟨rfl,rfl⟩ | ⟨rfl,rfl⟩
    ·exact ⟨_,_,_,rfl,a5.out,Hd,Hd,Hd,Hd,Hd⟩
    ·exact ⟨_,_,_,rfl,cg.out,Hd,Hd,Hd,Hd,Hd⟩))
   have q:∀ W,Below Y.heap.size Y W->W.heap[S]?=some (.cells (jt kk f e) 152 (0,0)):=fun W o=>Go.Proofs.YtegjelaejbacnaaGreat.kb o a5.out;have c0:∀ W,Below Y.heap.size Y W->W.cell? ⟨S,0,none⟩=some (.int .i64 kk):=fun W o=>(af (q W o) 0).trans rfl;have c1:∀ W,Below Y.heap.size Y W->W.cell? ⟨S,1,none⟩=some (.int .i64 f):=fun W o=>(af (q W o) 1).trans rfl;have cA:∀ W,Below Y.heap.size Y W->W.cell? ⟨S,2,none⟩=some (.int .i64 e):=fun W o=>(af (q W o) 2).trans rfl;have srefl:∀ W:World,W.grownBy W none:=fun W=>World.grownBy.refl _ _;clear q M;refine dS (fun _ W=>Below Y.heap.size Y W) (fun _ w w'=>w.grownBy w' none) (Below.refl _ _).drew ?_;refine xr ?_;refine XK.op (fun v W=>∃ g2,v=.slice (some ⟨g2,0,none⟩) b b/\dK W (some ⟨g2,0,none⟩) (List.replicate b 0)) (fun i v w w' _ _ h hg=>?_) (fun T W L hag hi hJ d1 hd=>?_) ?_
   ·obtain ⟨g2,h1,h2⟩:=h;exact ⟨g2,h1,h2.keep ⟨hg.os,hg.tape,hg.output,hg.size,fun k hk=>hg.block k hk Hb⟩⟩
   ·obtain ⟨ci,_⟩:=hd;obtain ⟨i0,c3,ad,an,c5⟩:=info_parts jE;refine kA 22 (.tmp 43) (.tmp 43) rfl 5 i0 _ 1 Tryz.underlying22 c3 ad an b .i64 .i64 ci ci (by rw [c5];have:=a7.out;omega) (by have:=a7.out;simp only [maxLen];omega) ?_;intro w6 ho B d2;rw [Nat.mul_one,vl] at ho;refine ⟨_,rfl,⟨W.heap.size,rfl,?_⟩,?_,B⟩
    ·obtain ⟨A,d,e1,_,_,hy⟩:=bM ho Hb;injection e1 with e1;rw [e1];exact hy
    ·exact Below.trans hJ ((show Below W.heap.size W w6 from ⟨B.os,B.tape,B.output,B.size,fun k hk=>B.block k hk Hb⟩).mono hJ.size)
   refine XK.last ?_;intro W' L' z1 z2 hJ;simp only [ny,forall_eq,List.setIfInBounds_toArray,List.set_cons_succ,List.set_cons_zero];rintro v ⟨g2,rfl,ck⟩;have U:=He (ch.out.below hJ);have a6:=sw C.bn (List.replicate b 0) (L.take j) ⟨P,T,nd,ix⟩;have cl:(L.take j).length<=20:=by rw [List.length_take,<- a8.out];omega
   have cp:=He (yH U.out h0 (by dsimp only at a6;omega) kk f e a3 cc a4 ⟨g2,0,none⟩ (List.replicate b 0) b b Hb (fun x hx=>by rw [List.eq_of_mem_replicate hx];omega) ck);clear c0 c1 cA srefl hJ z1 z2 ch ck a6 cl;go_wp2_with fail
   refine cp.out.mono ?_;rintro r w7 ⟨rfl,bi,m⟩;have bk:=(m.gd g _ (.inr ⟨rfl,rfl⟩)).1;have cq:Hid (DB w7 (some ⟨g,b0,none⟩) c2 L):=⟨O.out.1,O.out.2.1,fun hn=>by
    obtain ⟨g',b',e',_,hr⟩:=O.out.2.2 hn;injection e' with e';injection e' with e1 e2;subst e1 e2
    exact ⟨_,_,rfl,⟨Z,bk⟩,fun i p X j v hj=>(af bk _).trans ((af cg.out _).symm.trans (hr i p X j v hj))⟩⟩
   have c6:Hid (∃ l,FZ C Gx W pv.ownBlock w7 l ob t ib y (su C.bn (List.replicate b 0) (L.take (j+1)) ⟨P,T,nd,ix⟩)):=by
    rw [aw HP.out];unfold Hid;rw [uL];exact ⟨bi,m.re (fun _ _ h=>h.elim)⟩
   clear m bk cp U;go_wp2_with fail
   go_roundw
   case rel=>exact ⟨j+1,Ha,by go_num,c6,cq⟩
   case measure=>simp [intOf];omega
 ·rintro a' w' ⟨ob,ib,y,n,l,s,dn,H,bl,cr⟩;obtain ⟨u,rfl⟩:=cr.lit;simp only [List.range,List.range.loop,List.map_cons,List.map_nil,List.cons_append,List.nil_append];clear cr HO HF hq b2 b3 b4 b5 ad an;cases n with
  | zero =>
    have hr:R=s:=bl.out.symm;subst hr;have c7:=He (H.out.set h0 4 (.int .i64 (z:Int)) { R.nd with s:=(z:Int) } { H.out.ok with s:=(show i64 (z:Int) by constructor <;> omega) } (fun iv=>rfl));have c4:w'.cell? ⟨ob,4,none⟩=some (.int .i64 R.nd.s):=H.out.c 4;have f4:=H.out.f 4;have d3:R.P.length<=120:=by
     have h1:=HR.out;have h2:=(JG (20-k) (su C.bn (List.replicate b 0) (pcM z b) ⟨P,T,nd,ix⟩)).1;have h3:=sw C.bn (List.replicate b 0) (pcM z b) ⟨P,T,nd,ix⟩;rw [<- h1] at h2;rw [h2];have h4:(pcM (z:Int) (b:Int)).length<=20:=by
      unfold pcM;split
      ·rw [dG];exact Bq _ _ (by have:=a7.out;omega)
      ·exact Nat.zero_le _
     dsimp only at h3;omega
    go_upto_region 20 with fail
    clear c4 f4 H;generalize w'.setCell ⟨ob,4,none⟩ (.int .i64 (z:Int))=w2 at *;have cs:=He (uI c7.out h0 Ha);go_wp2_with fail
    refine cs.out.mono ?_;rintro e w3 ⟨rfl,d4,m⟩;have cu:=He (uH m (Nat.lt_of_le_of_lt (BR C.bn _ _ _) Ha));clear m cs;go_wp2_with fail
    refine cu.out.mono ?_;rintro e w4 ⟨rfl,bi,m⟩;have U:=He m;clear m cu;go_wp2_with fail
    simp only [Exit.jump];go_ret;exact ⟨rfl,bi,U.out.k,U.out.s⟩
  | succ n =>
    obtain ⟨j,hj⟩:∃ j,j=20-(n+1):=⟨_,rfl⟩
    rw [<- hj];have V:j<20:=Ha;have b9:(j:Int)<20:=Ha;have c8:=He (mp H.out j V);have c9:=He (H.out.setP h0 j V (-1) ⟨Hd,Hd⟩);obtain ⟨cn,fn,_⟩:=H.out.cP j V;have da:Hid (JF n { s with nd:=(fO s.nd s.ix j (-1)).1,ix:=(fO s.nd s.ix j (-1)).2 }=R):=by
     have h:=bl.out;unfold JF at h
     rwa [show 19-n=j by omega] at h
    have dc:=He hj;generalize DQ ob ib j=na at *;clear hj H bl;go_wp2_with fail
    refine c8.out.mono ?_;rintro e w2 ⟨rfl,rfl⟩;go_wp2_with fail
    generalize w'.setCell na (.int .i64 (-1))=w3 at *;go_step3;exact ⟨rfl,⟨ob,ib,y,n,l,{ s with nd:=(fO s.nd s.ix j (-1)).1,ix:=(fO s.nd s.ix j (-1)).2 },Ha,c9.out,da.out,⟨_,rfl,rfl,by rw [show 20-n=j+1 by have:=dc.out;omega];rfl⟩⟩,by simp [intOf];omega⟩
end
theorem F3 (S:List Bool):fZ (true :: S)=fZ S+1:=by unfold fZ;simp
theorem F4 (S:List Bool):fZ (false :: S)=0:=by unfold fZ;simp
theorem yL:∀ {S:List Bool},fZ S<S.length->S[fZ S]?=some false
 | [],h=>by cases h
 | true :: S,h=>by
   rw [F3] at h ⊢;rw [List.getElem?_cons_succ];exact yL (by simpa using h)
 | false :: S,h=>by rw [F4];rfl
theorem uM:∀ {S:List Bool} {f:Nat},S[f]?=some false->(S.set f true).count false+1=S.count false
 | [],f,h=>by cases h
 | x :: S,0,h=>by
   injection h with h;subst h
   simp
 | x :: S,f+1,h=>by
   rw [List.getElem?_cons_succ] at h;have:=uM h;rw [List.set_cons_succ,List.count_cons,List.count_cons];omega
theorem uN:∀ (S:List Bool),0<S.count false↔fZ S<S.length
 | []=>by simp [fZ]
 | true :: S=>by
   rw [F3];have:=uN S;simp;simpa using this
 | false :: S=>by rw [F4];simp
theorem nz (N:List Bk) (T:List Bool):(bX N T).length=N.length:=by unfold bX;simp
theorem DC {N:List Bk} {T:List Bool} {i:Nat} (a:i<N.length):(bX N T)[i]?=some (cJ N N.length i||T.getD i false):=by unfold bX;simp [a]
theorem wu (N:List Bk) (i:Nat):gB N (i:Int)=N.getD i zB:=by unfold gB ik;rw [if_pos Ha,Int.toNat_natCast]
theorem F5 (N:List Bk):gB N (-1)=zB:=po Ha
theorem iC {N:List Bk} {a:Nat} (b:a<N.length) (x:Bk) (i:Int):gB (N.set a x) i=if i=(a:Int) then x else gB N i:=by
 by_cases c:0<=i
 ·obtain ⟨k,rfl⟩:∃ k:Nat,i=k:=⟨i.toNat,Ha⟩
  rw [wu,wu,List.getD,List.getD];by_cases e:k=a
  ·subst e;rw [List.getElem?_set_self b,if_pos rfl];rfl
  ·rw [List.getElem?_set_ne Ha,if_neg Ha]
 ·rw [po Ha,po Ha,if_neg Ha]
structure BP (B:BN) (P:List Wr):Prop where
 bl:B.b.length=B.n
 srt:P.Pairwise (fun a b=>a.t<b.t)
 inn:∀ x∈P,0<=x.t/\x.t<B.n
theorem BP.len {B:BN} {P:List Wr} (h:BP B P):(B.N P).length=B.n:=by unfold BN.N;rw [bZ,h.bl]
theorem BP.put {B:BN} {P:List Wr} (h:BP B P) (a:Int) (x:Bk):BP B (pT B P a x)/\B.N (pT B P a x)=if 0<=a/\a<B.n then (B.N P).set a.toNat x else B.N P:=by
 unfold pT;by_cases b:0<=a/\a<B.n
 ·rw [if_pos b,if_pos b];refine ⟨⟨h.bl,jR h.srt _,fun y c=>?_⟩,Ap h.srt (fun y c=>by rw [h.bl];exact h.inn y c) b.1 (by rw [h.bl];exact b.2)⟩;rcases lG c with rfl | c
  ·exact b
  ·exact h.inn y c
 ·rw [if_neg b,if_neg b];exact ⟨h,rfl⟩
theorem sx {B:BN} {P:List Wr} {a:Int} {x:Bk} {y:Wr} (h:y∈pT B P a x):y.t=a\/y∈P:=by
 unfold pT at h;split at h
 ·rcases lG h with rfl | h
  ·exact .inl rfl
  ·exact .inr h
 ·exact .inr h
theorem uO:∀ (l m:List Int),l.Nodup->(∀ x∈l,x∈m)->l.length<=m.length
 | [],m,_,_=>Nat.zero_le _
 | x :: l,m,a,c=>by
   rw [List.nodup_cons] at a;have d:=c x Hb;have:=uO l (m.erase x) a.2 (fun y f=>by
    have b:y≠x:=fun e=>a.1 (e ▸ f);exact (List.mem_erase_of_ne b).2 (c y (by simp [f])))
   rw [List.length_erase_of_mem d] at this;have g:=List.length_pos_of_mem d;rw [List.length_cons];omega
theorem uP {P:List Wr} (h:P.Pairwise (fun a b=>a.t<b.t)):(P.map (·.t)).Nodup:=by
 rw [List.nodup_iff_pairwise_ne,List.pairwise_map];exact h.imp fun h=>Ha
theorem AG {P:List Wr} (h:P.Pairwise (fun a b=>a.t<b.t)) (m:List Int) (c:∀ y∈P,y.t∈m):P.length<=m.length:=by
 have:=uO (P.map (·.t)) m (uP h) (fun x d=>by
  obtain ⟨y,f,e⟩:=List.mem_map.1 d;subst e;exact c y f)
 rwa [List.length_map] at this
def ig (nd:Nd) (ix:List Int):List Int:=nd.dir++ix++[nd.x]
theorem oE {nd:Nd} {ix:List Int} (h:ix.length=16):(ig nd ix).length=21:=by unfold ig;rw [List.length_append,List.length_append,h];rfl
theorem dY {nd:Nd} {ix:List Int} (h:ix.length=16) {k:Nat} (b:k<20):(ig nd ix)[k]?=some (fw nd ix k):=by
 unfold ig fw;rw [List.getElem?_append_left (by rw [List.length_append,h];show k<4+16;omega)];by_cases a:k<4
 ·rw [List.getElem?_append_left a,if_pos a,List.getD,List.getElem?_eq_getElem a];rfl
 ·rw [List.getElem?_append_right (by show 4<=k;omega),if_neg a,List.getD,show k-nd.dir.length=k-4 from rfl,List.getElem?_eq_getElem Ha];rfl
theorem mN {nd:Nd} {ix:List Int} (h:ix.length=16):(ig nd ix)[20]?=some nd.x:=by
 unfold ig;rw [List.getElem?_append_right (by rw [List.length_append,h];show 4+16<=20;omega),List.length_append,h];rfl
theorem F6 {nd:Nd} {ix:List Int} (h:ix.length=16) {j:Nat} (hj:j<16):(ig nd ix)[4+j]?=ix[j]?:=by
 unfold ig;rw [List.getElem?_append_left (by rw [List.length_append,h];show 4+j<4+16;omega),List.getElem?_append_right (by show 4<=4+j;omega),show 4+j-nd.dir.length=j from Nat.add_sub_cancel_left 4 j]
theorem BS {nd:Nd} {ix:List Int} (h:ix.length=16) {k:Nat} (c:k<20) (a:Int):ig (fO nd ix k a).1 (fO nd ix k a).2=(ig nd ix).set k a:=by
 unfold ig fO;by_cases b:k<4
 ·rw [if_pos b];rw [List.append_assoc,List.append_assoc,List.set_append_left _ _ (show k<nd.dir.length from b)]
  match k,b with | 0,_ | 1,_ | 2,_ | 3,_=>rfl
 ·rw [if_neg b,List.append_assoc,List.append_assoc,List.set_append_right _ _ (show nd.dir.length<=k from (by show 4<=k;omega))];show nd.dir++(ix.set (k-4) a++[nd.x])=nd.dir++(ix++[nd.x]).set (k-4) a;rw [List.set_append_left _ _ (show k-4<ix.length by omega)]
theorem F7 (nd:Nd) {ix:List Int} (h:ix.length=16) (a:Int):ig { nd with x:=a } ix=(ig nd ix).set 20 a:=by
 unfold ig;rw [List.set_append_right _ _ (by rw [List.length_append,h];show 4+16<=20;omega),List.length_append,h];rfl
theorem KM (nd:Nd) (ix:List Int) (k:Nat) (a:Int):(fO nd ix k a).1.x=nd.x:=by
 unfold fO Nd.setDir;split
 ·split <;> rfl
 ·rfl
theorem DD (nd:Nd) (ix:List Int) (k:Nat) (a:Int):(fO nd ix k a).1.g=nd.g/\(fO nd ix k a).1.l=nd.l/\(fO nd ix k a).1.s=nd.s/\(fO nd ix k a).1.t=nd.t:=by
 unfold fO Nd.setDir;split
 ·split <;> exact ⟨rfl,rfl,rfl,rfl⟩
 ·exact ⟨rfl,rfl,rfl,rfl⟩
theorem F8 {nd:Nd} {ix:List Int} (h:ix.length=16) (k:Nat) (a:Int):(fO nd ix k a).2.length=16:=by
 unfold fO;split
 ·exact h
 ·rw [List.length_set];exact h
structure gK (n:Nat) (L:List Int):Prop where
 rng:∀ p∈L,p = -1\/(3<=p/\p<n)
 inj:∀ (i j:Nat) (p:Int),L[i]?=some p->L[j]?=some p->p ≠ -1->i=j
theorem gK.set {n:Nat} {L:List Int} (h:gK n L) (j:Nat) {f:Int} (r:3<=f) (s:f<n) (o:f ∉ L):gK n (L.set j f):=by
 refine ⟨fun p k=>?_,fun a b p t q k=>?_⟩
 ·rcases List.mem_or_eq_of_mem_set k with i | i
  ·exact h.rng p i
  ·subst i;exact .inr ⟨r,s⟩
 ·have g:∀ c,(L.set j f)[c]?=some p->(c=j/\p=f)\/L[c]?=some p:=fun c d=>by
   by_cases e:j=c
   ·subst e;by_cases u:j<L.length
    ·rw [List.getElem?_set_self u] at d;injection d with d;exact .inl ⟨rfl,d.symm⟩
    ·rw [List.getElem?_eq_none (by rw [List.length_set];omega)] at d;cases d
   ·rw [List.getElem?_set_ne e] at d;exact .inr d
  rcases g a t with ⟨rfl,l⟩ | i
  ·rcases g b q with ⟨rfl,_⟩ | m
   ·rfl
   ·exact absurd (l ▸ List.mem_of_getElem? m) o
  ·rcases g b q with ⟨rfl,l⟩ | m
   ·exact absurd (l ▸ List.mem_of_getElem? i) o
   ·exact h.inj a b p i m k
theorem gK.ne {n:Nat} {L:List Int} (h:gK n L) {i j:Nat} {p q:Int} (b:L[i]?=some p) (hj:L[j]?=some q) (a:i≠j) (hp:p ≠ -1):p≠q:=fun e=>a (h.inj i j p b (e ▸ hj) hp)
theorem gK.mayB {n:Nat} {nd:Nd} {ix:List Int} (h:gK n (ig nd ix)) (c:ix.length=16) (k:n<=200):mayB ix=true:=by
 rw [Fu];refine ⟨c,fun j x hj=>?_⟩;have a:j<16:=by have:=(List.getElem?_eq_some_iff.1 hj).1;omega
 have d:=(F6 (nd:=nd) c a).trans hj;rcases h.rng x (List.mem_of_getElem? d) with e | e
 ·exact .inl e
 ·refine .inr ⟨⟨Ha,Ha⟩,fun f=>?_⟩;obtain ⟨i,b⟩:=List.getElem?_of_mem f;rw [List.getElem?_take] at b;split at b
  ·have g:=(F6 (nd:=nd) c (show i<16 by omega)).trans b;have:=h.inj _ _ _ d g Ha;omega
  ·cases b
structure GN (N:List Bk) (nd:Nd):Prop where
 l3:3<=N.length
 n2:N.length<=200
 k0:(gB N 0).k=7
 k1:gB N 1=dW 1 nd
 k2:(gB N 2).k=6
 k3:∀ i:Nat,3<=i->i<N.length->(gB N i).k≠1/\(gB N i).k≠2/\(gB N i).k≠3/\(gB N i).k≠6
 l56:∀ i:Int,(gB N i).bs.length=56
 k7:∀ i:Int,0<=(gB N i).k/\(gB N i).k<=7
 may:aS 1 nd
 ok:jY nd
theorem GN.set {N:List Bk} {nd:Nd} (h:GN N nd) {a:Nat} (j:3<=a) (b:a<N.length) {x:Bk} (f:x.k≠1/\x.k≠2/\x.k≠3/\x.k≠6) (c:x.bs.length=56) (e:0<=x.k/\x.k<=7):GN (N.set a x) nd:=by
 refine ⟨by rw [List.length_set];exact h.l3,by rw [List.length_set];exact h.n2,?_,?_,?_,fun i g d=>?_,fun i=>?_,fun i=>?_,h.may,h.ok⟩
 ·rw [iC b,if_neg Ha];exact h.k0
 ·rw [iC b,if_neg Ha];exact h.k1
 ·rw [iC b,if_neg Ha];exact h.k2
 ·rw [List.length_set] at d;rw [iC b];split
  ·exact f
  ·exact h.k3 i g d
 ·rw [iC b];split
  ·exact c
  ·exact h.l56 i
 ·rw [iC b];split
  ·exact e
  ·exact h.k7 i
theorem F9 {N:List Bk} {nd:Nd} {ix:List Int} (g:GN N nd) (u:nd.x ≠ -1->0<=nd.x/\nd.x<N.length/\gB N nd.x=gx ix/\mayB ix=true) (m:nd.x = -1->ix=fY) {i:Nat} (q:i<N.length):cJ N N.length i=true↔i<3\/(i:Int)∈ig nd ix:=by
 obtain ⟨n,r,s⟩:=pi g.may g.ok;have t:∀ j:Nat,j<N.length->N[j]?=some (gB N j):=fun j hj=>by rw [wu,List.getD,List.getElem?_eq_getElem hj];rfl
 have v:(∃ x,x∈N/\(i:Int)∈namedL N x)↔(i:Int)∈ia N nd:=by
  constructor
  ·rintro ⟨x,o,a⟩;obtain ⟨j,hj⟩:=List.getElem?_of_mem o;have l:=(List.getElem?_eq_some_iff.1 hj).1;have d:x=gB N j:=by have:=t j l;rw [hj] at this;injection this
   have b:x.k=1:=by
    unfold namedL at a;split at a
    ·rename_i w;exact w.1
    ·cases a
   have p:j=1:=by
    rcases Nat.lt_or_ge j 3 with f | f
    ·match j,f with
     | 0,_=>have:=g.k0;rw [d] at b;rw [show ((0:Nat):Int)=0 from rfl,this] at b;omega
     | 1,_=>rfl
     | 2,_=>have:=g.k2;rw [d] at b;rw [show ((2:Nat):Int)=2 from rfl,this] at b;omega
    ·exact absurd (d ▸ b) (g.k3 j f l).1
   subst p;rw [d,show ((1:Nat):Int)=1 from rfl,g.k1] at a;unfold namedL at a;rw [if_pos ⟨n,r⟩,s] at a;exact a
  ·intro a;refine ⟨gB N (1:Nat),List.mem_of_getElem? (t 1 (by have:=g.l3;omega)),?_⟩;rw [show ((1:Nat):Int)=1 from rfl,g.k1];unfold namedL;rw [if_pos ⟨n,r⟩,s];exact a
 have a:(i:Int)∈ia N nd↔(i:Int)∈ig nd ix:=by
  unfold ia ig;rw [List.mem_append,List.mem_append,List.mem_append,hU,List.mem_singleton];have e:(i:Int) ≠ -1:=Ha;by_cases c:nd.x = -1
  ·rw [if_pos c,m c,c];have:(i:Int) ∉ fY:=fun h=>e (List.eq_of_mem_replicate h);simp [e,this]
  ·obtain ⟨y,z,A,B⟩:=u c;obtain ⟨K,L,C,M⟩:=pj B;rw [if_neg c,List.mem_cons];unfold mw;rw [if_pos z,hU];have:ik N nd.x=gx ix:=by rw [<- A];unfold gB;rw [if_pos y]
   rw [this,C];constructor
   ·rintro ((h | ⟨h,_⟩) | ⟨h,_⟩)
    ·exact .inr h
    ·exact .inl (.inr h)
    ·exact .inl (.inl h)
   ·rintro ((h | h) | h)
    ·exact .inr ⟨h,e⟩
    ·exact .inl (.inr ⟨h,e⟩)
    ·exact .inl (.inl h)
 have H:(i=0\/ie (ik N i).k\/(ik N i).k=6)↔i<3:=by
  have I:ik N i=gB N i:=by unfold gB;rw [if_pos Ha]
  rw [I];unfold ie;rcases Nat.lt_or_ge i 3 with f | f
  ·refine ⟨fun _=>f,fun _=>?_⟩
   match i,f with
   | 0,_=>exact .inl rfl
   | 1,_=>exact .inr (.inl (.inl (by rw [show ((1:Nat):Int)=1 from rfl,g.k1];exact n)))
   | 2,_=>exact .inr (.inr g.k2)
  ·have:=g.k3 i f q;constructor
   ·rintro (h | (h | h | h) | h)
    ·omega
    ·exact absurd h this.1
    ·exact absurd h this.2.1
    ·exact absurd h this.2.2.1
    ·exact absurd h this.2.2.2
   ·intro h;omega
 unfold cJ;rw [Bool.or_eq_true,Bool.and_eq_true,List.take_length,List.any_eq_true,<- H,<- a,<- v];simp only [Bool.or_eq_true,decide_eq_true_eq,q,true_and,List.contains_iff_mem,or_assoc]
def KL (n:Nat) (L:List Int):List Bool:=(List.range n).map fun i:Nat=>decide (i<3\/(i:Int)∈L)
theorem ww (n:Nat) (L:List Int):(KL n L).length=n:=by unfold KL;simp
theorem yM {n:Nat} (L:List Int) {i:Nat} (h:i<n):(KL n L)[i]?=some (decide (i<3\/(i:Int)∈L)):=by unfold KL;rw [List.getElem?_map,List.getElem?_range h];rfl
theorem Ga:∀ m,(KL (3+m) []).count false=m
 | 0=>Hd
 | m+1=>by
   have:KL (3+(m+1)) []=KL (3+m) []++[false]:=by
    unfold KL;rw [show 3+(m+1)=(3+m)+1 by omega,List.range_succ,List.map_append]
    congr 1
    simp
   rw [this,List.count_append,Ga m];rfl
theorem yN (n:Nat) (k:3<=n):∀ (L:List Int),(∀ p∈L,p = -1\/(3<=p/\p<n))->L.Pairwise (fun a b=>a = -1\/a≠b)->(KL n L).count false+3+(realL L).length=n
 | [],_,_=>by
   obtain ⟨m,rfl⟩:∃ m,n=3+m:=⟨n-3,Ha⟩
   rw [Ga];show m+3+0=3+m;omega
 | p :: L,g,c=>by
   rw [List.pairwise_cons] at c;have ih:=yN n k L (fun q l=>g q (by simp [l])) c.2;by_cases e:p = -1
   ·have:KL n (p :: L)=KL n L:=by
     unfold KL;apply List.map_congr_left;intro i _
     congr 1
     rw [List.mem_cons];have:¬ ((i:Int)=p):=Ha;simp [this]
    rw [this];have:realL (p :: L)=realL L:=by unfold realL;rw [List.filter_cons,if_neg (by simp [e])]
    rw [this];exact ih
   ·obtain ⟨s,t⟩:=(g p Hb).resolve_left e;obtain ⟨f,rfl⟩:∃ f:Nat,p=f:=⟨p.toNat,Ha⟩
    have o:(f:Int) ∉ L:=fun h=>((c.1 _ h).resolve_left e) rfl;have r:(KL n L)[f]?=some false:=by
     rw [yM L Ha]
     congr 1
     exact decide_eq_false (by rintro (h | h);omega;exact o h)
    have:KL n ((f:Int) :: L)=(KL n L).set f true:=by
     apply List.ext_getElem?;intro i;by_cases d:i<n
     ·rw [yM _ d];by_cases j:f=i
      ·subst j;rw [List.getElem?_set_self (by rw [ww];exact d)];simp
      ·rw [List.getElem?_set_ne j,yM _ d]
       congr 2
       rw [List.mem_cons];have:¬ ((i:Int)=(f:Int)):=Ha;simp [this]
     ·rw [List.getElem?_eq_none (by rw [ww];omega),List.getElem?_eq_none (by rw [List.length_set,ww];omega)]
    rw [this];have h5:=uM r;have:realL ((f:Int) :: L)=(f:Int) :: realL L:=by unfold realL;rw [List.filter_cons,if_pos Hb]
    rw [this,List.length_cons];omega
theorem gK.pair {n:Nat} {L:List Int} (h:gK n L):L.Pairwise (fun a b=>a = -1\/a≠b):=by
 rw [List.pairwise_iff_getElem];intro i j c hj d;by_cases e:L[i] = -1
 ·exact .inl e
 ·exact .inr (h.ne (List.getElem?_eq_getElem c) (List.getElem?_eq_getElem hj) Ha e)
theorem gK.count {n:Nat} {L:List Int} (h:gK n L) (a:3<=n):(KL n L).count false+3+(realL L).length=n:=yN n a L h.rng h.pair
theorem yO:∀ {L:List Int} {k:Nat} {f:Int},L[k]?=some (-1)->f ≠ -1->(realL (L.set k f)).length=(realL L).length+1
 | [],k,f,h,_=>by cases h
 | x :: L,0,f,h,a=>by
   injection h with h
   subst h;show (realL (f :: L)).length=(realL ((-1) :: L)).length+1;unfold realL;rw [List.filter_cons,if_pos (by simp [a]),List.filter_cons,if_neg Hb];rfl
 | x :: L,k+1,f,h,a=>by
   rw [List.getElem?_cons_succ] at h;have ih:=yO h a;show (realL (x :: L.set k f)).length=(realL (x :: L)).length+1;unfold realL at ih ⊢;rw [List.filter_cons,List.filter_cons];split
   ·rw [List.length_cons,List.length_cons,ih]
   ·exact ih
end Go.Proofs.YtegjelaejbacnaaGreat
