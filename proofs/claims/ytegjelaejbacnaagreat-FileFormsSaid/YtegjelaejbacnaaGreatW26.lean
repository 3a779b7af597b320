/- For FileForms: contracts and facts, part 26. -/
import Derived.StillTailTactics
import Derived.Test.YtegjelaejbacnaaGreatW20
import Derived.Test.YtegjelaejbacnaaGreatW25
set_option maxRecDepth 100000
set_option maxHeartbeats 25600000
set_option linter.unusedSimpArgs false
set_option linter.unusedVariables false
open Go.ChangeShapes Go.WideShapes Go.ChangeAt Go.RowKit
namespace Go.Proofs.YtegjelaejbacnaaGreat
def rq (C:BN) (d:List Int):List Pc->km->km
 | [],s=>s
 | p :: l,s=>rq C d l (uS C p d s)
def GN:Nat->km->km
 | 0,s=>s
 | n+1,s=>GN n { s with nd:=(nL s.nd s.ix (19-n) (-1)).1,ix:=(nL s.nd s.ix (19-n) (-1)).2 }
def KF (C:BN) (t size:Int) (s:km):List Wr :=
 pT C (FX C s.P { s.nd with s:=size } s.ix).1 t (jE 1 (FX C s.P { s.nd with s:=size } s.ix).2)
def KG (C:BN) (size:Nat) (s:km):km:=GN (20-(size+55)/56) (rq C (List.replicate ((size+55)/56*56-size) 0) (iO size ((size+55)/56*56-size:Nat)) s)
theorem rr (C:BN) (d:List Int):∀ (l:List Pc) (s:km),(rq C d l s).P.length<=s.P.length+l.length
 | [],s=>Nat.le_refl _
 | p :: l,s=>by
   have h1:=rr C d l (uS C p d s);have h2:=rl C s.P (uQ s.nd s.ix p.1) (Cd (gB (C.N s.P) (uQ s.nd s.ix p.1)) p.2.1 p.2.2 d);unfold uS at h1;rw [List.length_cons];unfold rq uS;dsimp only at h1 ⊢;omega
theorem tI (C:BN) (d:List Int):∀ (l:List Pc) (p:Pc) (s:km),rq C d (l++[p]) s=uS C p d (rq C d l s)
 | [],p,s=>rfl
 | q :: l,p,s=>tI C d l p (uS C q d s)
theorem GO:∀ (n:Nat) (s:km),(GN n s).P=s.P/\(GN n s).T=s.T
 | 0,s=>⟨rfl,rfl⟩
 | n+1,s=>GO n _
section
variable {C:TC} {W:World} {pv:Value} {P:List Wr} {T:List Bool}
theorem Ar (h:C.K W pv P T) (h0:C.w0.heap.size<=W.heap.size) (t z:Int) (ht:i64 t) (x:Bk) (hx:x=gB (C.N P) t) (hf:dk x) (er:Int) (hbad:(z<0/\er=1)\/(1120<z/\er=13)):Calls Tryz.prog 30 #[.pointer (some ⟨C.tb,0,none⟩),.int .i64 t,.int .i64 z] W fun e w'=>e=.returned (.int .i64 er)/\C.K w' pv P T/\dj C W pv.ownBlock w' pv.ownBlock:=by
 have HO:=He (gX h h0 t ht x hx _ rfl _ rfl);have HF:=He hf;clear hx hf h;go_enter Tryz.func30,Tryz.ntmps30;go_wp2_with fail
 refine aV (fun _ _=>False) (fun _ _=>0) rfl ?_ (fun a w h=>h.elim);intro _;go_wp2_with fail
 refine HO.out.mono ?_;rintro e w1 ⟨_,h1⟩;obtain ⟨ob,ib,cap,rfl,hs⟩:=h1 HF.out;have HS:=He hs;clear h1 hs;rcases hbad with ⟨q1,rfl⟩ | ⟨q1,rfl⟩
 ·go_wp2_with fail
  simp only [Exit.jump];go_ret;exact ⟨rfl,HS.out.k,HS.out.s⟩
 ·have q2:¬ z<0:=Ha;go_wp2_with fail
  simp only [Exit.jump];go_ret;exact ⟨rfl,HS.out.k,HS.out.s⟩
def Lf (C:TC) (W:World) (pv:Value) (P:List Wr) (t:Int) (z b:Nat) (R:km) (a':Act) (w':World):Prop :=
 ∃ (ob ib cap n:Nat) (pv':Value) (s:km),n<=20/\Hid (FZ C EA W pv.ownBlock w' pv' ob t ib cap s)/\Hid (GN n s=R)/\Fr 11 53 [.pointer (some ⟨C.tb,0,none⟩),.int .i64 t,.int .i64 (z:Int),undef,undef,undef,.int .i64 0,.int .i64 ((20-n:Nat):Int),.int .i64 (b:Int),.pointer (some ⟨ob,0,none⟩),.bool true] a'
theorem Ga (h:C.K W pv P T) (h0:C.w0.heap.size<=W.heap.size) (t:Int) (z:Nat) (ht:i64 t) (hz:z<=1120) (x:Bk) (hx:x=gB (C.N P) t) (nd:Nd) (hnd:nd=bj x.k x.bs) (ix:List Int) (hix:ix=ixOf (gB (C.N P) nd.x)) (hf:dk x) (hfew:P.length<=100) (R:km) (hR:R=KG C.bn z ⟨P,T,nd,ix⟩) :
 Calls Tryz.prog 30 #[.pointer (some ⟨C.tb,0,none⟩),.int .i64 t,.int .i64 (z:Int)] W fun e w'=>e=.returned (.int .i64 0)/\∃ pv',C.K w' pv' (KF C.bn t z R) R.T/\dj C W pv.ownBlock w' pv'.ownBlock:=by
 have HO:=He (gX h h0 t ht x hx nd hnd ix hix);have HF:=He hf;obtain ⟨k,hk⟩:∃ k,k=(z+55)/56:=⟨_,rfl⟩
 obtain ⟨b,hb⟩:∃ b,b=k*56-z:=⟨_,rfl⟩
 have hkz:z<=k*56/\k*56<=z+55/\k<=20/\b<=55:=Ha;have hR2:R=GN (20-k) (rq C.bn (List.replicate b 0) (iO z b) ⟨P,T,nd,ix⟩):=by rw [hR,hb,hk];rfl
 have HR:=He hR2;have HKZ:=He hkz;have HB:=He hb;have hq:((z:Int)+55).tdiv 56=k:=by rw [Int.tdiv_eq_ediv_of_nonneg Ha];omega
 have hw1:IntKind.i64.wrap ((z:Int)+56)=z+56:=by rw [IntKind.wrap_i64];omega
 have hw2:IntKind.i64.wrap ((z:Int)+56-1)=z+55:=by rw [IntKind.wrap_i64];omega
 have hw3:IntKind.i64.wrap ((k:Int)*56)=k*56:=by rw [IntKind.wrap_i64];omega
 have hw4:IntKind.i64.wrap ((k:Int)*56-z)=b:=by rw [IntKind.wrap_i64];omega
 have hz0:¬ (z:Int)<0:=Ha;have hz1:¬ (1120:Int)<z:=Ha;clear hx hnd hix hf h hR hR2 hb hk;go_enter Tryz.func30,Tryz.ntmps30;go_wp2_with fail
 refine aV (Lf C W pv P t z b R) (fun a _=>20-(intOf (a.tmps.getD 7 undef)).toNat) rfl ?_ ?_
 ·intro HJ;go_wp2_with fail
  refine HO.out.mono ?_;rintro e w1 ⟨_,k1⟩;obtain ⟨ob,ib,cap,rfl,hfs⟩:=k1 HF.out;have HS:=He hfs;clear k1 hfs;have HP:=He (mC (z:Int) (b:Int) w1 (by constructor <;> omega) (by constructor <;> omega));go_upto_region 11 with fail
  clear hq hw1 hw2 hw3 hw4 hz0 hz1;go_wp2_with fail
  refine HP.out.mono ?_;rintro e w2 ⟨v,rfl,hown,hb⟩;obtain ⟨A,c2,rfl,hpc⟩:=uR hown;obtain ⟨L,hL⟩:∃ L,L=iO (z:Int) (b:Int):=⟨_,rfl⟩
  rw [<- hL] at hpc HR ⊢;obtain ⟨N,hN⟩:∃ N,N=L.length:=⟨_,rfl⟩
  have hN20:N<=20:=by
   rw [hN,hL];unfold iO;split
   ·rw [fJ];exact zS _ _ Ha
   ·exact Nat.zero_le _
  have HLM:Hid (∀ p∈L,p∈iO (z:Int) (b:Int)):=fun p hp=>by rw [<- hL];exact hp
  have HS2:Hid (∃ pv',FZ C EA W pv.ownBlock w2 pv' ob t ib cap (rq C.bn (List.replicate b 0) (L.take 0) ⟨P,T,nd,ix⟩)):=⟨pv,HS.out.below hb⟩
  have HPC:=He hpc;have hNc:N<=c2/\c2<=9223372036854775807:=by rw [hN];exact ⟨hpc.1,hpc.2.1⟩
  have HNE:=He hN;rw [<- hN];clear hown hb hpc hL hN HS HP;go_wp2_with fail
  go_loopw [37] (fun i wr=>∃ j:Nat,j<=N/\i=.int .i64 j/\Hid (∃ pv',FZ C EA W pv.ownBlock wr pv' ob t ib cap (rq C.bn (List.replicate b 0) (L.take j) ⟨P,T,nd,ix⟩))/\Hid (Cg wr A c2 L)) (fun i _=>N-(intOf i).toNat)
  case atStart=>exact ⟨0,Ha,rfl,HS2,HPC⟩
  case round =>
   obtain ⟨j,hj,rfl,HSJ,HPJ⟩:=hrel;clear HS2 HPC;by_cases hlt:j<N
   case neg =>
    obtain rfl:j=N:=Ha;have hji:¬ (j:Int)<j:=Ha;obtain ⟨pv',hs⟩:=HSJ.out;have HSN:=He hs;clear hs HSJ;go_wp2_with fail
    go_step3;rename_i hK;refine hK _ _ (HJ _ _ ⟨ob,ib,cap,20-k,pv',_,Ha,HSN.out,?_,⟨_,rfl,rfl,?_⟩⟩)
    ·unfold Hid;rw [HR.out,HNE.out,List.take_length]
    ·rw [show 20-(20-k)=k by omega];rfl
   have hji:(j:Int)<N:=Ha;have hjd:decide (N<=j)=false:=decide_eq_false Ha;obtain ⟨p,hp⟩:∃ p,L[j]?=some p:=⟨_,List.getElem?_eq_getElem (by rw [<- HNE.out];exact hlt)⟩
   obtain ⟨g,b0,rfl,⟨Z,hZ⟩,hrg⟩:=HPJ.out.2.2 (fun e=>by rw [e] at hp;cases hp);have HR0:=He (hrg j p hp);obtain ⟨hk20,hft,ht56⟩:=oC (HLM.out p (List.mem_of_getElem? hp));obtain ⟨kk,f,e⟩:=p;dsimp only at hk20 hft ht56;obtain ⟨pv',hs⟩:=HSJ.out;have h14:=heap_alloc_new wr (.cells (i6 0 0 0) 152);have hb2:Below wr.heap.size wr ((wr.alloc (.cells (i6 0 0 0) 152)).setRow wr.heap.size (i6 kk f e)):=below_setRow (aK (w:=wr) (.cells (i6 0 0 0) 152)) (Nat.le_refl _) _;have HX14:=He (am (D:=i6 kk f e) h14);have HZ2:=He (Go.Proofs.YtegjelaejbacnaaGreat.kb hb2 hZ);have HS2:=He (hs.below hb2);have HPJ2:=He (HPJ.out.below hb2);have HP:=He hp;clear hs hb2 hrg hZ hp HSJ HPJ;go_upto_region 14 with (first
    | (refine kn rfl (.tmp 39) rfl g (b0+j*3) rfl (kk,f,e) HR0.out ?_)
    | (refine jG rfl rfl ?_)
    | (refine jH rfl (.tmp 12) (.tmp 40) rfl wr.heap.size rfl kk f e 0 0 0 rfl h14 ?_))
   clear h14 HR0;generalize (wr.alloc (.cells (i6 0 0 0) 152)).setRow wr.heap.size (i6 kk f e)=w5 at *;generalize wr.heap.size=p12 at *;have HSG:=He (HS2.out.re (G':=GP p12 g (i6 kk f e) Z) (fun k' o' hk=>by
    rcases hk with ⟨rfl,rfl⟩ | ⟨rfl,rfl⟩
    ·exact ⟨_,_,_,rfl,HX14.out,Hd,Hd,Hd,Hd,Hd⟩
    ·exact ⟨_,_,_,rfl,HZ2.out,Hd,Hd,Hd,Hd,Hd⟩))
   have hx12:∀ W,Below w5.heap.size w5 W->W.heap[p12]?=some (.cells (i6 kk f e) 152 (0,0)):=fun W hb=>Go.Proofs.YtegjelaejbacnaaGreat.kb hb HX14.out;have c0:∀ W,Below w5.heap.size w5 W->W.cell? ⟨p12,0,none⟩=some (.int .i64 kk):=fun W hb=>(af (hx12 W hb) 0).trans rfl;have c1:∀ W,Below w5.heap.size w5 W->W.cell? ⟨p12,1,none⟩=some (.int .i64 f):=fun W hb=>(af (hx12 W hb) 1).trans rfl;have c22:∀ W,Below w5.heap.size w5 W->W.cell? ⟨p12,2,none⟩=some (.int .i64 e):=fun W hb=>(af (hx12 W hb) 2).trans rfl;have srefl:∀ W:World,W.grownBy W none:=fun W=>World.grownBy.refl _ _;clear hx12 HS2;refine cU (fun _ W=>Below w5.heap.size w5 W) (fun _ w w'=>w.grownBy w' none) (Below.refl _ _).drew ?_;refine xr ?_;refine XK.op (fun v W=>∃ g2,v=.slice (some ⟨g2,0,none⟩) b b/\dD W (some ⟨g2,0,none⟩) (List.replicate b 0)) (fun i v w w' _ _ h hg=>?_) (fun T W L hag hi hJ hLs hd=>?_) ?_
   ·obtain ⟨g2,h1,h2⟩:=h;exact ⟨g2,h1,h2.keep ⟨hg.os,hg.tape,hg.output,hg.size,fun k hk=>hg.block k hk Hb⟩⟩
   ·obtain ⟨d43,_⟩:=hd;obtain ⟨i0,hi0,hz0,hz1,hz2⟩:=info_parts iT;refine iU 22 (.tmp 43) (.tmp 43) rfl 5 i0 _ 1 Tryz.underlying22 hi0 hz0 hz1 b .i64 .i64 d43 d43 (by rw [hz2];have:=HKZ.out;omega) (by have:=HKZ.out;simp only [maxLen];omega) ?_;intro w6 ho hg6 hs6;rw [Nat.mul_one,pj] at ho;refine ⟨_,rfl,⟨W.heap.size,rfl,?_⟩,?_,hg6⟩
    ·obtain ⟨A,d,e1,_,_,hy⟩:=bN ho Hb;injection e1 with e1;rw [e1];exact hy
    ·exact Below.trans hJ ((show Below W.heap.size W w6 from ⟨hg6.os,hg6.tape,hg6.output,hg6.size,fun k hk=>hg6.block k hk Hb⟩).mono hJ.size)
   refine XK.last ?_;intro W' L' z1 z2 hJ;simp only [lL,forall_eq,List.setIfInBounds_toArray,List.set_cons_succ,List.set_cons_zero];rintro v ⟨g2,rfl,hy2⟩;have HS4:=He (HSG.out.below hJ);have hlen:=rr C.bn (List.replicate b 0) (L.take j) ⟨P,T,nd,ix⟩;have hlt2:(L.take j).length<=20:=by rw [List.length_take,<- HNE.out];omega
   have HLY:=He (xp HS4.out h0 (by dsimp only at hlen;omega) kk f e hk20 hft ht56 ⟨g2,0,none⟩ (List.replicate b 0) b b Hb (fun x hx=>by rw [List.eq_of_mem_replicate hx];omega) hy2);clear c0 c1 c22 srefl hJ z1 z2 HSG hy2 hlen hlt2;go_wp2_with fail
   refine HLY.out.mono ?_;rintro r w7 ⟨rfl,pv3,hs⟩;have HG7:=(hs.gd g _ (.inr ⟨rfl,rfl⟩)).1;have HPJ7:Hid (Cg w7 (some ⟨g,b0,none⟩) c2 L):=⟨HPJ2.out.1,HPJ2.out.2.1,fun hn=>by
    obtain ⟨g',b',e',_,hr⟩:=HPJ2.out.2.2 hn;injection e' with e';injection e' with e1 e2;subst e1 e2
    exact ⟨_,_,rfl,⟨Z,HG7⟩,fun i p hp j v hj=>(af HG7 _).trans ((af HZ2.out _).symm.trans (hr i p hp j v hj))⟩⟩
   have HS7:Hid (∃ pv',FZ C EA W pv.ownBlock w7 pv' ob t ib cap (rq C.bn (List.replicate b 0) (L.take (j+1)) ⟨P,T,nd,ix⟩)):=by
    rw [au HP.out];unfold Hid;rw [tI];exact ⟨pv3,hs.re (fun _ _ h=>h.elim)⟩
   clear hs HG7 HLY HS4;go_wp2_with fail
   go_roundw
   case rel=>exact ⟨j+1,Ha,by go_num,HS7,HPJ7⟩
   case measure=>simp [intOf];omega
 ·rintro a' w' ⟨ob,ib,cap,n,pv',s,hn20,HS,HRR,hfr⟩;obtain ⟨u,rfl⟩:=hfr.lit;simp only [List.range,List.range.loop,List.map_cons,List.map_nil,List.cons_append,List.nil_append];clear hfr HO HF hq hw1 hw2 hw3 hw4 hz0 hz1;cases n with
  | zero =>
    have hr:R=s:=HRR.out.symm;subst hr;have HSZ:=He (HS.out.set h0 4 (.int .i64 (z:Int)) { R.nd with s:=(z:Int) } { HS.out.ok with s:=(show i64 (z:Int) by constructor <;> omega) } (fun iv=>rfl));have c4:w'.cell? ⟨ob,4,none⟩=some (.int .i64 R.nd.s):=HS.out.c 4;have f4:=HS.out.f 4;have hPl:R.P.length<=120:=by
     have h1:=HR.out;have h2:=(GO (20-k) (rq C.bn (List.replicate b 0) (iO z b) ⟨P,T,nd,ix⟩)).1;have h3:=rr C.bn (List.replicate b 0) (iO z b) ⟨P,T,nd,ix⟩;rw [<- h1] at h2;rw [h2];have h4:(iO (z:Int) (b:Int)).length<=20:=by
      unfold iO;split
      ·rw [fJ];exact zS _ _ (by have:=HKZ.out;omega)
      ·exact Nat.zero_le _
     dsimp only at h3;omega
    go_upto_region 20 with fail
    clear c4 f4 HS;generalize w'.setCell ⟨ob,4,none⟩ (.int .i64 (z:Int))=w2 at *;have HPI:=He (tF HSZ.out h0 Ha);go_wp2_with fail
    refine HPI.out.mono ?_;rintro e w3 ⟨rfl,pv2,hs⟩;have HPN:=He (tE hs (Nat.lt_of_le_of_lt (Aq C.bn _ _ _) Ha));clear hs HPI;go_wp2_with fail
    refine HPN.out.mono ?_;rintro e w4 ⟨rfl,pv3,hs⟩;have HS4:=He hs;clear hs HPN;go_wp2_with fail
    simp only [Exit.jump];go_ret;exact ⟨rfl,pv3,HS4.out.k,HS4.out.s⟩
  | succ n =>
    obtain ⟨j,hj⟩:∃ j,j=20-(n+1):=⟨_,rfl⟩
    rw [<- hj];have hj20:j<20:=Ha;have hji:(j:Int)<20:=Ha;have HNM:=He (lG HS.out j hj20);have HSP:=He (HS.out.setP h0 j hj20 (-1) ⟨Hd,Hd⟩);obtain ⟨cn,fn,_⟩:=HS.out.cP j hj20;have HRX:Hid (GN n { s with nd:=(nL s.nd s.ix j (-1)).1,ix:=(nL s.nd s.ix j (-1)).2 }=R):=by
     have h:=HRR.out;unfold GN at h
     rwa [show 19-n=j by omega] at h
    have HJN:=He hj;generalize Ct ob ib j=na at *;clear hj HS HRR;go_wp2_with fail
    refine HNM.out.mono ?_;rintro e w2 ⟨rfl,rfl⟩;go_wp2_with fail
    generalize w'.setCell na (.int .i64 (-1))=w3 at *;go_step3;exact ⟨rfl,⟨ob,ib,cap,n,pv',{ s with nd:=(nL s.nd s.ix j (-1)).1,ix:=(nL s.nd s.ix j (-1)).2 },Ha,HSP.out,HRX.out,⟨_,rfl,rfl,by rw [show 20-n=j+1 by have:=HJN.out;omega];rfl⟩⟩,by simp [intOf];omega⟩
end
theorem iF {ops:Array Oper} {rest:List Oper} {o:Oper} {ac:Act} {w:World} {Q:Exit->Act->World->Prop} (hw:Region.wanted o (yielded ops ac.tmps)=true) (x:Operand) (ho:o.op=.load 82 x) (p:Nat) (hx:ac.eval x=.pointer (some ⟨p,0,none⟩)) (n:En) (hg:bP w p n)
 (h:wpList Tryz.prog ops Q rest (ac.put o.dst (jo n.l n.a n.g)) w):wpList Tryz.prog ops Q (o :: rest) ac w :=
 BigFrame.wpList_want hw fun _ hK=>wp_load_mid 82 x ho p 0 hx _ _ hg.dir Tryz.underlying82 rfl jB (hK _ _ h)
theorem Gb:Tryz.prog.eqGuardType Tryz.prog.depth 82=false:=Hc
theorem ko {ops:Array Oper} {rest:List Oper} {o:Oper} {ac:Act} {w:World} {Q:Exit->Act->World->Prop} (hw:Region.wanted o (yielded ops ac.tmps)=true) (x y:Operand) (t:TypeId) (ho:o.op=.binOp .eql 82 x y t) (l a g l' a' g':Int) (hx:ac.eval x=jo l a g) (hy:ac.eval y=jo l' a' g')
 (h:wpList Tryz.prog ops Q rest (ac.put o.dst (.bool (decide (l=l'/\a=a'/\g=g')))) w):wpList Tryz.prog ops Q (o :: rest) ac w :=
 BigFrame.wpList_want hw fun _ hK=>by
  have hg:=run_eqGuard_agg (P:=Tryz.prog) w .eql 82 x y #[.int .i64 l,.int .i64 a,.int .u32 g] #[.int .i64 l',.int .i64 a',.int .u32 g'] Gb;have hr:=JQ l a g l' a' g' w;have hx':ac.eval x=.agg #[.int .i64 l,.int .i64 a,.int .u32 g]:=hx;have hy':ac.eval y=.agg #[.int .i64 l',.int .i64 a',.int .u32 g']:=hy;unfold Oper.wp execOp;simp only [ho,hx',hy',Sem.run_bind,hg,hr,Result.andThen_ok];exact hK _ _ h
theorem Gc {D:nA} {t:List Int} {b:List Bk} {k:Nat} {x:Bk} (hx:b[k]?=some x) (h:iE D t x=true) (hno:∀ y∈b.take k,iE D t y=false):dA D t b=k/\gO D t b=gM x.bs:=by
 have hm:oV D t b=some k:=by
  unfold oV;rw [List.findIdx?_eq_some_iff_getElem];have hl:=(List.getElem?_eq_some_iff.1 hx).1;refine ⟨hl,by rw [(List.getElem?_eq_some_iff.1 hx).2];exact h,fun j hj=>?_⟩;have:=hno (b[j]'Ha) (List.mem_take_iff_getElem.2 ⟨j,Ha,rfl⟩);rw [this];decide
 unfold dA gO;rw [hm];exact ⟨rfl,by simp only;rw [kl hx]⟩
theorem Gd {D:nA} {t:List Int} {b:List Bk} (hno:∀ y∈b,iE D t y=false):dA D t b = -1/\gO D t b=en0:=by
 have hm:oV D t b=none:=by
  unfold oV;rw [List.findIdx?_eq_none_iff];intro x hx;rw [hno x hx]
 unfold dA gO;rw [hm];exact ⟨rfl,rfl⟩
theorem rt (g:Nat) (b:List Bk) (n d:Nat) (D:nA) (t:List Int) (w:World) (hn:b.length=n) (h200:n<=200) (hok:dF b) (hy:qs w (some ⟨g,0,none⟩) b) (ht:ax t) :
 Calls Tryz.prog 119 #[.slice (some ⟨g,0,none⟩) n d,D.v,.string (strOfNums t)] w fun e w'=>e=.returned (.tuple #[.agg (dB (gO D t b)),.int .i64 (dA D t b)])/\Below w.heap.size w w':=by
 have HN:=He hn;have HO:=He hok;have HY:Hid (∀ W',Below w.heap.size w W'->qs W' (some ⟨g,0,none⟩) b):=fun W' hb=>hy.keep hb;have HTB:=He ht;obtain ⟨dl,da,dg⟩:=D;have h4:=bc.new w dl da dg;obtain ⟨rE,hE⟩:∃ rE,rE=gO ⟨dl,da,dg⟩ t b:=⟨_,rfl⟩
 obtain ⟨rI,hI⟩:∃ rI,rI=dA ⟨dl,da,dg⟩ t b:=⟨_,rfl⟩
 rw [<- hE,<- hI];have HE:=He (And.intro hE hI);clear hn hok hy hE hI ht;show Calls Tryz.prog 119 #[.slice (some ⟨g,0,none⟩) n d,.agg #[.int .i64 dl,.int .i64 da,.int .u32 dg],.string (strOfNums t)] w _;go_enter Tryz.func119,Tryz.ntmps119;go_upto_region 1 with (refine fV rfl rfl ?_)
 have HB1:Hid (Below w.heap.size w ((w.alloc (.cells #[.int .i64 dl,.int .i64 da,.int .u32 dg] 82)).alloc (.cells (dB en0) 168))):=(aK _).trans ((aK _).mono Hb);have H4:Hid (bc ((w.alloc (.cells #[.int .i64 dl,.int .i64 da,.int .u32 dg] 82)).alloc (.cells (dB en0) 168)) w.heap.size dl da dg):=h4.alloc _;have H6:=He (bP.new (w.alloc (.cells #[.int .i64 dl,.int .i64 da,.int .u32 dg] 82)) en0);have hsz:(w.alloc (.cells #[.int .i64 dl,.int .i64 da,.int .u32 dg] 82)).heap.size=w.heap.size+1:=Hb;rw [hsz] at H6;clear h4;generalize hW0:(w.alloc (.cells #[.int .i64 dl,.int .i64 da,.int .u32 dg] 82)).alloc (.cells (dB en0) 168)=W0 at *;clear hW0 hsz;obtain ⟨p4,hp4⟩:∃ p4,p4=w.heap.size:=⟨_,rfl⟩
 have HP4:=He hp4;rw [<- hp4] at H4 H6 ⊢;clear hp4;go_wp2_with fail
 go_loopw [8,9,10] (fun i p ok wr=>∃ k:Nat,k<=n/\i=.int .i64 k/\Hid (∀ x∈b.take k,iE ⟨dl,da,dg⟩ t x=false)/\Hid (Below w.heap.size w wr)/\Hid (bc wr p4 dl da dg)/\Hid (bP wr (p4+1) en0)) (fun i _ _ _=>n-(intOf i).toNat)
 case atStart=>exact ⟨0,Ha,rfl,(fun x hx=>by simp at hx),HB1,H4,H6⟩
 case round =>
  obtain ⟨k,hk,rfl,HNO,HB,H4,H6⟩:=hrel;obtain ⟨w4,rfl⟩:∃ w4,w4=wr:=⟨wr,rfl⟩
  clear HB1;by_cases hlt:k<n
  ·obtain ⟨x,hx⟩:∃ x,b[k]?=some x:=⟨_,List.getElem?_eq_getElem (by rw [HN.out];exact hlt)⟩
   have hki:(k:Int)<n:=Ha;have hxo:=HO.out x (List.mem_of_getElem? hx);have hk0:=(HY.out _ HB.out).kind hx;have HX:=He hx;have H57:=He hxo.len;have HNEXT:Hid (iE ⟨dl,da,dg⟩ t x=false->∀ y∈b.take (k+1),iE ⟨dl,da,dg⟩ t y=false):=fun hf y hy=>by
    rw [au HX.out] at hy;rcases List.mem_append.1 hy with hy | hy
    ·exact HNO.out y hy
    ·rw [List.mem_singleton] at hy;rw [hy];exact hf
   have HTK:=He (fun W=>wR x.k x.bs W (by have:=hxo.k;constructor <;> omega) hxo.len hxo.b);have HEO:=He (DO hxo.len hxo.b);clear hx hxo;by_cases h6:x.k=6
   ·have HIN:Hid (iE ⟨dl,da,dg⟩ t x=(decide (dL x.k x.bs)&&(decide ((gM x.bs).id=⟨dl,da,dg⟩)&&decide ((gM x.bs).t=t)))):=by
     unfold Hid iE;rw [decide_eq_true h6,Bool.true_and]
    obtain ⟨kx,bs⟩:=x;simp only at h6;subst h6;have HM:Hid (∀ W',Below w.heap.size w W'->W'.rangeAt g (k*57) (blkL 6 bs)):=fun W' hb=>(HY.out W' hb).at_ HX.out;have H57':Hid (bs.length=56):=H57;by_cases ht:dL 6 bs
    ·have e0:qQ 6 bs=gM bs:=if_pos ht;have HIN2:Hid (iE ⟨dl,da,dg⟩ t ⟨6,bs⟩=(decide ((gM bs).id=⟨dl,da,dg⟩)&&decide ((gM bs).t=t))):=by
      unfold Hid;rw [HIN.out];simp only;rw [decide_eq_true ht,Bool.true_and]
     have HTK':Hid (∀ W,Calls Tryz.prog 167 #[.agg (ab 6 bs)] W fun e w'=>e=.returned (.tuple #[.agg (dB (gM bs)),.bool true])/\Below W.heap.size W w'):=fun W=>by
      have h:=HTK.out W;simp only at h
      rwa [e0,decide_eq_true ht] at h
     have HXE:Hid ((⟨6,bs⟩:Bk).bs=bs):=rfl;have hse:=kZ HEO.out.t HTB.out;simp only at hse;clear HTK HIN e0 ht;generalize hnm:gM bs=nm at *;have HNM:=He hnm;clear hnm;go_wp2_with (first | (with_reducible refine wpList_load_mid rfl 37 (.tmp 26) rfl g (k*57) rfl (blkL 6 bs) _ (HM.out _ HB.out) Tryz.underlying37 rfl (bQ (x:=⟨6,bs⟩) H57'.out) ?_))
     refine (HTK'.out w4).mono ?_;rintro e1 w5 ⟨rfl,hb5⟩;have h9:=bP.new w5 en0;go_upto_region 6 with (first | (refine fV rfl rfl ?_) | (refine bI rfl (.tmp 9) (.tmp 29) rfl w5.heap.size rfl nm en0 rfl h9 ?_))
     have hb6:Below w4.heap.size w4 ((w5.alloc (.cells (dB en0) 168)).setRow w5.heap.size (dB nm)):=hb5.trans ((below_setRow (aK (.cells (dB en0) 168)) (Nat.le_refl _) (dB nm)).mono hb5.size);have HB6:=He (HB.out.trans (hb6.mono HB.out.size));have HI6:=He (H4.out.below hb6);have HE6:=He (H6.out.below hb6);have H9:=He (h9.set nm);clear hb5 hb6 h9 HB H4 H6;generalize (w5.alloc (.cells (dB en0) 168)).setRow w5.heap.size (dB nm)=w6 at *;generalize w5.heap.size=p at *;have hc3:=H9.out.cells.1;by_cases hid:nm.l=dl/\nm.a=da/\nm.g=dg
     ·have hidd:decide (nm.l=dl/\nm.a=da/\nm.g=dg)=true:=decide_eq_true hid;have HID2:Hid (nm.id=⟨dl,da,dg⟩):=by unfold Hid En.id;rw [hid.1,hid.2.1,hid.2.2]
      clear hid;by_cases hst:nm.t=t
      ·have hstd:decide (nm.t=t)=true:=decide_eq_true hst;have HYES:Hid (rI=(k:Int)/\rE=nm):=by
        have h1:=Gc HX.out (by rw [HIN2.out,HID2.out,hst];simp) HNO.out;exact ⟨by rw [HE.out.2,h1.1],by rw [HE.out.1,h1.2];exact HNM.out⟩
       clear hst;go_wp2_with (first
        | (refine iF Hl (.tmp 33) rfl p rfl nm H9.out ?_)
        | (refine hH Hl (.tmp 4) rfl p4 rfl dl da dg HI6.out ?_)
        | (refine ko Hl (.tmp 34) (.tmp 35) _ rfl nm.l nm.a nm.g dl da dg rfl rfl ?_)
        | (refine fK rfl (.tmp 9) rfl p rfl nm H9.out ?_)
        | (refine bI rfl (.tmp 6) (.tmp 44) rfl (p4+1) rfl nm en0 rfl HE6.out ?_))
       refine bodyPost_ret (fj rfl _ _ (p4+1) nm rfl (HE6.out.set nm)) rfl ?_;exact ⟨by rw [HYES.out.1,HYES.out.2];rfl,below_setRow HB6.out (by rw [HP4.out];omega) _⟩
      ·have hstd:decide (nm.t=t)=false:=decide_eq_false hst;have HNX:=He (HNEXT.out (by rw [HIN2.out,hstd,Bool.and_false]));clear hst;go_wp2_with (first
        | (refine iF Hl (.tmp 33) rfl p rfl nm H9.out ?_)
        | (refine hH Hl (.tmp 4) rfl p4 rfl dl da dg HI6.out ?_)
        | (refine ko Hl (.tmp 34) (.tmp 35) _ rfl nm.l nm.a nm.g dl da dg rfl rfl ?_))
       go_roundw
       case rel=>exact ⟨k+1,Ha,by go_num,HNX,HB6,HI6,HE6⟩
       case measure=>simp [intOf];omega
     ·have hidd:decide (nm.l=dl/\nm.a=da/\nm.g=dg)=false:=decide_eq_false hid;have HNX:=He (HNEXT.out (by
       rw [HIN2.out,decide_eq_false (fun h:nm.id=⟨dl,da,dg⟩=>hid (by unfold En.id at h;injection h with h1 h2 h3;exact ⟨h1,h2,h3⟩)),Bool.false_and]))
      clear hid;go_wp2_with (first
       | (refine iF Hl (.tmp 33) rfl p rfl nm H9.out ?_)
       | (refine hH Hl (.tmp 4) rfl p4 rfl dl da dg HI6.out ?_)
         | (refine ko Hl (.tmp 34) (.tmp 35) _ rfl nm.l nm.a nm.g dl da dg rfl rfl ?_))
      go_roundw
      case rel=>exact ⟨k+1,Ha,by go_num,HNX,HB6,HI6,HE6⟩
      case measure=>simp [intOf];omega
    ·have e0:qQ 6 bs=en0:=if_neg ht;have HNX:=He (HNEXT.out (by rw [HIN.out];simp only;rw [decide_eq_false ht,Bool.false_and]));have HTK':Hid (∀ W,Calls Tryz.prog 167 #[.agg (ab 6 bs)] W fun e w'=>e=.returned (.tuple #[.agg (dB en0),.bool false])/\Below W.heap.size W w'):=fun W=>by
      have h:=HTK.out W;simp only at h
      rwa [e0,decide_eq_false ht] at h
     clear HTK HIN e0 ht;go_wp2_with (first | (with_reducible refine wpList_load_mid rfl 37 (.tmp 26) rfl g (k*57) rfl (blkL 6 bs) _ (HM.out _ HB.out) Tryz.underlying37 rfl (bQ (x:=⟨6,bs⟩) H57'.out) ?_))
     refine (HTK'.out w4).mono ?_;rintro e1 w5 ⟨rfl,hb5⟩;have h9:=bP.new w5 en0;go_upto_region 6 with (first | (refine fV rfl rfl ?_) | (refine bI rfl (.tmp 9) (.tmp 29) rfl w5.heap.size rfl en0 en0 rfl h9 ?_))
     have hb6:Below w4.heap.size w4 ((w5.alloc (.cells (dB en0) 168)).setRow w5.heap.size (dB en0)):=hb5.trans ((below_setRow (aK (.cells (dB en0) 168)) (Nat.le_refl _) (dB en0)).mono hb5.size);have HB6:=He (HB.out.trans (hb6.mono HB.out.size));have HI6:=He (H4.out.below hb6);have HE6:=He (H6.out.below hb6);clear hb5 hb6 h9 HB H4 H6;generalize (w5.alloc (.cells (dB en0) 168)).setRow w5.heap.size (dB en0)=w6 at *;go_wp2_with fail
     go_roundw
     case rel=>exact ⟨k+1,Ha,by go_num,HNX,HB6,HI6,HE6⟩
     case measure=>simp [intOf];omega
   ·have HNX:=He (HNEXT.out (by unfold iE;rw [decide_eq_false h6,Bool.false_and]));generalize x.k=kx at *;have h6d:decide (kx=6)=false:=decide_eq_false h6;have h6b:(kx != 6)=true:=by simp [h6]
    go_wp2_with fail
    go_roundw
    case rel=>exact ⟨k+1,Ha,by go_num,HNX,HB,H4,H6⟩
    case measure=>simp [intOf];omega
  ·obtain rfl:k=n:=Ha;have hki:¬ (k:Int)<k:=Ha;have HNONE:Hid (rI = -1/\rE=en0):=by
    have h1:=Gd (D:=⟨dl,da,dg⟩) (t:=t) (b:=b) (fun y hy=>HNO.out y (by rw [List.take_of_length_le (by rw [HN.out];exact Nat.le_refl _)];exact hy));exact ⟨by rw [HE.out.2,h1.1],by rw [HE.out.1,h1.2]⟩
   go_wp2_with (first | (refine fh rfl rfl ?_) | (refine bI rfl (.tmp 6) (.tmp 46) rfl (p4+1) rfl en0 en0 rfl H6.out ?_))
   refine bodyPost_ret (fj rfl _ _ (p4+1) en0 rfl (H6.out.set en0)) rfl ?_;exact ⟨by rw [HNONE.out.1,HNONE.out.2];rfl,below_setRow HB.out (by rw [HP4.out];omega) _⟩
theorem kV {ops:Array Oper} {rest:List Oper} {o:Oper} {a:Act} {w0 w:World} {Q:Exit->Act->World->Prop} (hgd:o.guard=none) (s x:Operand)
 (ho:o.op=.call { callee:=.builtin .append,args:=#[s,x],argTypes:=#[23,23] })
 (p:Nat) (hs:a.eval s=.slice (some ⟨p,0,none⟩) 0 0) (hp:w.heap[p]?=some (.cells #[] 37 (0,0))) (hw:Below w0.heap.size w0 w) (hpw:w0.heap.size<=p) (g n c:Nat) (l:List Bk) (hx:a.eval x=.slice (some ⟨g,0,none⟩) n c) (hl:l.length=n) (h0:0<n) (h200:n<=200) (hok:dF l) (hy:qs w (some ⟨g,0,none⟩) l)
 (h:∀ g' cap' w',cj w' w0.heap.size g' n cap' l->Below w0.heap.size w0 w'->(∀ j ob,j≠p->w.heap[j]?=some ob->w'.heap[j]?=some ob/\j≠g')->wpList Tryz.prog ops Q rest (a.put o.dst (.slice (some ⟨g',0,none⟩) n cap')) w'):wpList Tryz.prog ops Q (o :: rest) a w:=by
 obtain ⟨i0,hi,hz0,hz1,hz2⟩:=info_parts xJ;have hown:w.ownsRow w0.heap.size 37 57 (.slice (some ⟨p,0,none⟩) 0 0) 0 []:=⟨rfl,Or.inr ⟨p,0,#[],rfl,hpw,hp,Nat.le_refl _,by simp only [maxLen];omega,rfl,rfl⟩⟩
 have hlen:(bksL l).length=n*57:=by rw [fY,dE (iQ hok),hl]
 refine wpList_append_own_at (P:=Tryz.prog) w hgd s x 23 ho w0.heap.size 37 i0 _ 57 64 Tryz.underlying23 hi hz0 hz1 hz2 (by show (ab 0 ay).size=57;exact aN al) Hd _ 0 _ hs hown ⟨g,0,none⟩ n c (bksL l) hx hlen (fun j u hj=>?_) (wf l) (by simp only [maxLen];omega) Ha hw.size ?_
 ·rw [fP];have hjl:=(List.getElem?_eq_some_iff.1 hj).1;rw [hlen] at hjl;have hd:j/57<n:=Ha;obtain ⟨y,hyj⟩:∃ y,l[j/57]?=some y:=⟨_,List.getElem?_eq_getElem Ha⟩
  have hr:=hy.at_ hyj;have hm:j%57<57:=Nat.mod_lt _ Ha;obtain ⟨u',hu'⟩:∃ u',(blkL y.k y.bs)[j%57]?=some u':=⟨_,List.getElem?_eq_getElem (by rw [aZ (hok y (List.mem_of_getElem? hyj)).len];exact hm)⟩
  have e1:=po hok hyj hu';have e2:j/57*57+j%57=j:=Ha;rw [e2,hj] at e1;injection e1 with e1
  subst e1;have:=hr _ _ hu'
  rwa [e2] at this
 ·intro v' w' h2 h3 _ h4;have h2':w'.ownsRow w0.heap.size 37 57 v' n (bksL l):=by simpa using h2
  rcases h2'.2 with ⟨_,he⟩ | ⟨g',cap',cur,rfl,hb,hg,hn',hm,hsz,ht⟩
  ·omega
  ·have hg':g'=p\/g'=w.heap.size:=by
    rcases h4 with h4 | h4
    ·exact .inl (Option.some.inj (show some g'=some p from h4))
    ·exact .inr (Option.some.inj (show some g'=some w.heap.size from h4))
   refine h g' cap' w' ⟨h2',hl,hok⟩ ?_ (fun j ob hj ho=>⟨bo h3 ho (fun e=>hj (Option.some.inj (show some p=some j from e)).symm),fun e=>?_⟩)
   ·exact hw.grown h3 hw.size (fun k hk=>by have:=Option.some.inj (show some p=some k from hk);omega)
   ·have:=ai ho;omega
theorem Eo {D:nA} {t:List Int} {b:List Bk}:dA D t b<b.length /\ -1<=dA D t b:=by
 by_cases h:dA D t b<0
 ·have : -1<=dA D t b:=by unfold dA;split <;> omega
  exact ⟨Ha,this⟩
 ·obtain ⟨j,x,h1,h2,_⟩:=BH h;have:=(List.getElem?_eq_some_iff.1 h2).1;omega
theorem tJ (b:List Bk) (but:List Int):bB b but<b.length /\ -1<=bB b but:=by
 unfold bB;rcases mG (iw (dW b) but) with ⟨j,h1,_,h3,_⟩ | ⟨h1,_⟩
 ·rw [fq] at h1;unfold dW at h1;rw [bL] at h1;unfold dW at h3 ⊢;rw [h3];omega
 ·rw [h1];omega
theorem Cj (B g n cap:Nat) (was:List Bk) (nm:En) (w:World) (hR:cj w B g n cap was) (hBw:B<=w.heap.size) (h0:0<n) (h200:n<=200) (hn:DK nm) (htl:nm.t.length<=100) :
 Calls Tryz.prog 89 #[.slice (some ⟨g,0,none⟩) n cap,.agg (dB nm)] w fun e w'=>∃ g' cap',e=.returned (.tuple #[.slice (some ⟨g',0,none⟩) n cap',.int .i64 (pd was nm).2])/\cj w' B g' n cap' (pd was nm).1/\((pd was nm).2=0->w.heap.size<=g')/\Below w.heap.size w w':=by
 have HR:Hid (∀ W',Below w.heap.size w W'->cj W' B g n cap was):=fun W' hb=>hR.below hb;have HLN:=He hR.len;have HOK:=He hR.ok;have HBW:=He hBw;have HPE:=He (fun W=>qR nm W hn htl);have HFI:=He (fun W hb=>rt g was n cap nm.id nm.t W hR.len h200 hR.ok (hR.below (w':=W) hb).bks hn.t);have HFS:=He (fun W (hb:Below w.heap.size w W)=>oX g was n cap none [] 0 0 W hR.len h200 hR.ok (hR.below hb).bks rfl Ha (fun i x h=>by cases h) (fun t h=>by cases h));have h5:=bP.new w nm;have HNT:=He hn.t;obtain ⟨S,hS⟩:∃ S,S=pd was nm:=⟨_,rfl⟩
 rw [<- hS];have HS:Hid (S=if ¬ jC nm then (was,1) else if 0<=dA nm.id nm.t was then (was,4) else if bB was []<0 then (was,9) else (qT was (bB was []) (DP nm),0)):=hS;have HFL:=He (Eo (D:=nm.id) (t:=nm.t) (b:=was));have HSL:=He (tJ was []);clear hS hR hBw hn htl;go_enter Tryz.func89,Tryz.ntmps89;go_upto_region 1 with fail
 have HB0:=He (aK (w:=w) (.cells (dB nm) 168));generalize hW0:w.alloc (.cells (dB nm) 168)=W0 at *;obtain ⟨p3,hp3⟩:∃ p3,p3=w.heap.size:=⟨_,rfl⟩
 have HP3:=He hp3;rw [<- hp3] at h5 ⊢;clear hW0 hp3;go_wp2_with (refine fK rfl (.tmp 3) rfl p3 rfl nm h5 ?_)
 refine (HPE.out _).mono ?_;rintro e w1 ⟨rfl,hb1⟩;have h6:=heap_alloc_new w1 (.cells (ab 0 ay) 37);have H56:Hid ((fp nm).length=56):=ou;go_upto_region 2 with (first | (refine aq rfl rfl ?_) | (refine ap rfl (.tmp 6) (.tmp 14) rfl w1.heap.size rfl (fW nm) 0 (fp nm) ay rfl H56.out al h6 ?_))
 have hb2:Below W0.heap.size W0 ((w1.alloc (.cells (ab 0 ay) 37)).setRow w1.heap.size (ab (fW nm) (fp nm))):=hb1.trans ((below_setRow (aK _) (Nat.le_refl _) _).mono hb1.size);have HB2:=He (HB0.out.trans (hb2.mono HB0.out.size));have H3:Hid (bP _ p3 nm):=bP.below h5 hb2;have H6:=He (am (D:=ab (fW nm) (fp nm)) h6);clear h5 h6 hb1 hb2 HB0 HPE;generalize (w1.alloc (.cells (ab 0 ay) 37)).setRow w1.heap.size (ab (fW nm) (fp nm))=W at *;generalize w1.heap.size=p6 at *;by_cases hm:jC nm
 case neg =>
  have hS1:Hid (S=(was,1)):=by unfold Hid;rw [HS.out,if_pos hm]
  rw [decide_eq_false hm];go_wp2_with fail
  go_ret2
  exact ⟨g,cap,by rw [hS1.out];rfl,by rw [hS1.out];exact HR.out _ HB2.out,by rw [hS1.out];intro h;simp at h,HB2.out⟩
 rw [decide_eq_true hm];obtain ⟨c3,_,_⟩:=H3.out.cells;have HF1:=He (HFI.out W HB2.out);go_wp2_with (refine fm rfl (.tmp 21) rfl p3 rfl nm H3.out ?_)
 refine HF1.out.mono ?_;rintro e w2 ⟨rfl,hb3⟩;have h8:=bP.new w2 en0;go_upto_region 5 with (first | (refine fV rfl rfl ?_) | (refine bI rfl (.tmp 8) (.tmp 26) rfl w2.heap.size rfl (gO nm.id nm.t was) en0 rfl h8 ?_))
 have hb4:Below W.heap.size W ((w2.alloc (.cells (dB en0) 168)).setRow w2.heap.size (dB (gO nm.id nm.t was))):=hb3.trans ((below_setRow (aK (.cells (dB en0) 168)) (Nat.le_refl _) (dB (gO nm.id nm.t was))).mono hb3.size);have HB4:=He (HB2.out.trans (hb4.mono HB2.out.size));have H6':=He (kb hb4 H6.out);clear h8 hb3 hb4 HB2 H6 H3 c3 HF1 HFI;generalize (w2.alloc (.cells (dB en0) 168)).setRow w2.heap.size (dB (gO nm.id nm.t was))=W4 at *;have hfl:=HFL.out;generalize dA nm.id nm.t was=fi at *;by_cases hf:0<=fi
 ·have hS1:Hid (S=(was,4)):=by unfold Hid;rw [HS.out,if_neg (fun h=>h hm),if_pos hf]
  go_wp2_with fail
  go_ret2
  exact ⟨g,cap,by rw [hS1.out];rfl,by rw [hS1.out];exact HR.out _ HB4.out,by rw [hS1.out];intro h;simp at h,HB4.out⟩
 have HS1:=He (HFS.out W4 HB4.out);go_wp2_with fail
 refine HS1.out.mono ?_;rintro e w5 ⟨rfl,hb5⟩;have HB5:=He (HB4.out.trans (hb5.mono HB4.out.size));have H65:=He (kb hb5 H6'.out);have hsl:=HSL.out;clear hb5 HB4 H6' HS1 HFS;generalize bB was []=fs at *;by_cases hs:fs<0
 ·have hS1:Hid (S=(was,9)):=by unfold Hid;rw [HS.out,if_neg (fun h=>h hm),if_neg Ha,if_pos hs]
  go_wp2_with fail
  go_ret2
  exact ⟨g,cap,by rw [hS1.out];rfl,by rw [hS1.out];exact HR.out _ HB5.out,by rw [hS1.out];intro h;simp at h,HB5.out⟩
 obtain ⟨q,rfl⟩:∃ q:Nat,fs=q:=⟨fs.toNat,Ha⟩
 have hS1:Hid (S=(was.set q (DP nm),0)):=by unfold Hid;rw [HS.out,if_neg (fun h=>h hm),if_neg Ha,if_neg hs,wV]
 have hqn:q<n:=by have:=HLN.out;omega
 have hqi:(q:Int)<n:=Ha;have HQA:Hid (∃ x,was[q]?=some x):=⟨_,List.getElem?_eq_getElem (by rw [HLN.out];exact hqn)⟩
 go_upto_region 11 with (first
  | (at_builtin
     refine kV (w0:=w) rfl (.tmp 36) (.tmp 37) rfl w5.heap.size rfl (heap_alloc_new w5 _) ((HB5.out).alloc HB5.out.size _) HB5.out.size g n cap was rfl HLN.out h0 h200 HOK.out ((HR.out _ ((HB5.out).alloc HB5.out.size _)).bks) ?_;intro gb capb w6 hrow hb6 hkp;have HROW:=He hrow;have HB6:=He hb6;have H66:=He (hkp p6 _ (by have:=ai H65.out;omega) (kb (aK _) H65.out));clear hrow hb6 hkp))
 have HENB:=He (FJ HNT.out);have HTH:=He (HROW.out.there (i:=q) hqn);obtain ⟨x,hx⟩:=HQA.out;have HX:=He hx;clear hx;go_upto_region 12 with (first
  | (refine aQ rfl (.tmp 6) rfl p6 rfl (fW nm) (fp nm) H56.out H66.out.1 ?_)
  | (refine wpList_store_mid rfl 37 (.tmp 42) (.tmp 41) rfl gb (q*57) (ab (fW nm) (fp nm)) rfl rfl (by rw [aN H56.out];exact HTH.out) (by rw [aN H56.out];exact cO) (jL _ _) ?_))
 rw [bp];have HFIN:Hid (cj (w6.setCells gb (q*57) (blkL (fW nm) (fp nm))) w.heap.size gb n capb (was.set q (DP nm))/\Below w.heap.size w (w6.setCells gb (q*57) (blkL (fW nm) (fp nm)))) :=
  ⟨HROW.out.setB HX.out HENB.out,HB6.out.grown (cE gb _ _ _) HB6.out.size (fun k e=>by have:=Option.some.inj e;have:=HROW.out.lt;omega)⟩
 go_wp2_with fail
 go_ret2
 exact ⟨gb,capb,by rw [hS1.out];rfl,by rw [hS1.out];exact HFIN.out.1.mono HBW.out,fun _=>HROW.out.lt.1,HFIN.out.2⟩
theorem qs.byt {w:World} {g:Nat} {b:List Bk} (h:qs w (some ⟨g,0,none⟩) b) {x:Bk} (hx:b[0]?=some x) (o m:Nat):dD w (some ⟨g,1+o,none⟩) (bh x.bs o m):=by
 intro i y hi;refine ⟨_,rfl,?_⟩;have hr:=h.at_ hx;unfold bh at hi;rw [List.getElem?_take] at hi;split at hi
 ·rw [List.getElem?_drop] at hi;have h1:=hr (1+(o+i)) (.int .u8 y) (by unfold blkL;rw [Nat.add_comm,List.getElem?_cons_succ];exact ku hi);rw [dp];rw [Nat.zero_mul,Nat.zero_add] at h1;rw [Nat.add_assoc];exact h1
 ·cases hi
theorem ru (g:Nat) (b:List Bk) (n d:Nat) (w:World) (hn:b.length=n) (h0:0<n) (h200:n<=200) (hok:dF b) (hy:qs w (some ⟨g,0,none⟩) b) :
 Calls Tryz.prog 87 #[.slice (some ⟨g,0,none⟩) n d] w fun e w'=>e=.returned (.int .u32 (nextM b:Nat))/\w=w':=by
 obtain ⟨x,hx⟩:∃ x,b[0]?=some x:=⟨_,List.getElem?_eq_getElem Ha⟩
 have hxo:=hok x (List.mem_of_getElem? hx);have hy0:=hy.byt hx 0 4;have e1:iD b 0=x:=kl (i:=0) hx;have HNU:=He (kv (some ⟨g,1,none⟩) (bh x.bs 0 4) 4 56 w (fI hxo.len Ha) Ha (gI hxo.b _ _) hy0);have hlt:aB (bh x.bs 0 4)<4294967296:=i5 hxo.len hxo.b Ha;have wc:IntKind.u32.wrap (aB (bh x.bs 0 4):Int)=aB (bh x.bs 0 4):=IntWalk.u32_in _ Ha;have h0i:(0:Int)<n:=Ha;unfold nextM;rw [e1];clear hx hxo hy0 hn hok hy e1;go_enter Tryz.func87,Tryz.ntmps87;go_wp2_with fail
 refine HNU.out.mono ?_;rintro e w1 ⟨rfl,rfl⟩;go_wp2_with fail
 go_ret;exact ⟨rfl,rfl⟩
def xC (l bs:List Int) (j:Nat):List Int:=l.take j++bs.drop j
theorem Ge {l bs:List Int} {j:Nat} {y:Int} (hl:l[j]?=some y) (hb:j<bs.length):(xC l bs j).set j y=xC l bs (j+1):=by
 have hj:=(List.getElem?_eq_some_iff.1 hl).1;unfold xC;rw [List.set_append_right _ _ (by rw [List.length_take];omega),List.length_take,Nat.min_eq_left Ha,Nat.sub_self,au hl,List.append_assoc]
 congr 1
 rw [List.drop_eq_getElem_cons hb,List.set_cons_zero];rfl
theorem se (B g n cap:Nat) (b:List Bk) (v:Nat) (w:World) (hR:cj w B g n cap b) (h0:0<n) (h200:n<=200) (hv:v<4294967296) :
 Calls Tryz.prog 88 #[.slice (some ⟨g,0,none⟩) n cap,.int .u32 v] w fun e w'=>e=.returned (.tuple #[])/\cj w' B g n cap (fX b v)/\w.grownBy w' (some g):=by
 obtain ⟨x,hx⟩:∃ x,b[0]?=some x:=⟨_,List.getElem?_eq_getElem (by rw [hR.len];exact h0)⟩
 have hxo:=hR.ok x (List.mem_of_getElem? hx);have hlb:0<b.length:=by rw [hR.len];exact h0
 have e1:iD b 0=x:=kl (i:=0) hx;obtain ⟨k,bs⟩:=x;have HRES:Hid (fX b v=b.set 0 ⟨k,xC (be v 4) bs 4⟩):=by
  unfold Hid fX qT xC;rw [e1,show (0:Int).toNat=0 from rfl,List.take_of_length_le (by rw [av];exact Nat.le_refl _)]
 have HX0:Hid (b.set 0 ⟨k,xC (be v 4) bs 0⟩=b):=by
  unfold Hid xC;simp only [List.take_zero,List.drop_zero,List.nil_append];obtain ⟨h1,h2⟩:=List.getElem?_eq_some_iff.1 hx;rw [<- h2,List.set_getElem_self]
 have HHI:=He (Au v 4 w Ha Ha);have HLB:=He hlb;have HXL:Hid (bs.length=56):=hxo.len;have HXB:Hid (ax bs):=hxo.b;have HXK:Hid (0<=k/\k<=7):=hxo.k;have wc:IntKind.u64.wrap (v:Int)=v:=IntWalk.u64_in _ Ha;have h0i:(0:Int)<n:=Ha;have HR:=He hR;have hgw:=hR.lt.2;clear hx hxo hR e1 hlb;go_enter Tryz.func88,Tryz.ntmps88;go_wp2_with fail
 refine HHI.out.mono ?_;rintro e w1 ⟨u,rfl,hown,hb1⟩;obtain ⟨A,c,rfl,hc1,hc2,hbt⟩:=bN hown (by rw [av]);rw [av];have hA:∃ a,A=some ⟨a,0,none⟩/\w.heap.size<=a:=by
  rcases hown.2 with ⟨_,h4⟩ | ⟨a,cap',cur,e,hb,_⟩
  ·omega
  ·injection e with e1 _ _
   exact ⟨a,e1,hb⟩
 obtain ⟨a,rfl,hag⟩:=hA;have HROW0:Hid (cj w1 B g n cap (b.set 0 ⟨k,xC (be v 4) bs 0⟩)):=by unfold Hid;rw [HX0.out];exact HR.out.below hb1
 have HG0:Hid (w.grownBy w1 (some g)):=fZ (World.grownBy.refl _ _) hb1;have HBT:=He hbt;have HBL:Hid ((be v 4).length=4):=av v 4;have HBB:Hid (ax (be v 4)):=cm v 4;generalize be v 4=l at *;clear hown hbt hb1 HHI;go_wp2_with fail
 go_loopw [5] (fun i wr=>∃ j:Nat,j<=4/\i=.int .i64 j/\Hid (cj wr B g n cap (b.set 0 ⟨k,xC l bs j⟩))/\Hid (w.grownBy wr (some g))/\Hid (dD wr (some ⟨a,0,none⟩) l)) (fun i _=>4-(intOf i).toNat)
 case atStart=>exact ⟨0,Ha,rfl,HROW0,HG0,HBT⟩
 case round =>
  obtain ⟨j,hj,rfl,HROW,HG,HBT⟩:=hrel;obtain ⟨w4,rfl⟩:∃ w4,w4=wr:=⟨wr,rfl⟩
  clear HROW0 HG0;by_cases hlt:j<4
  ·have hji:(j:Int)<4:=Ha;have hj56:(j:Int)<56:=Ha;have hj56n:j<56:=Ha;obtain ⟨y,hy⟩:∃ y,l[j]?=some y:=⟨_,List.getElem?_eq_getElem (by rw [HBL.out];exact hlt)⟩
   obtain ⟨a',e,hc⟩:=HBT.out j y hy;injection e with e
   subst e;rw [fP] at hc;have hyb:=HBB.out y (List.mem_of_getElem? hy);have hset:=Ge (bs:=bs) hy (by rw [HXL.out];omega);have hb0:(b.set 0 ⟨k,xC l bs j⟩)[0]?=some ⟨k,xC l bs j⟩:=List.getElem?_set_self HLB.out;have hlr:=HROW.out.byte hb0 (j:=j) Ha hyb;have he:(b.set 0 ⟨k,xC l bs j⟩).set 0 (nz ⟨k,xC l bs j⟩ j y)=b.set 0 ⟨k,xC l bs (j+1)⟩:=by
    rw [List.set_set];unfold nz;simp only;rw [hset]
   rw [he,Nat.zero_mul,Nat.zero_add] at hlr;have hgc:=br w4 g (1+j) (.int .u8 y);have HN:Hid (cj (w4.setCell ⟨g,1+j,none⟩ (.int .u8 y)) B g n cap (b.set 0 ⟨k,xC l bs (j+1)⟩)/\w.grownBy (w4.setCell ⟨g,1+j,none⟩ (.int .u8 y)) (some g)/\dD (w4.setCell ⟨g,1+j,none⟩ (.int .u8 y)) (some ⟨a,0,none⟩) l):=by
    refine ⟨hlr,aW HG.out hgc,fun i z hz=>?_⟩;obtain ⟨a',e,hc⟩:=HBT.out i z hz;injection e with e
    subst e;refine ⟨_,rfl,?_⟩;rw [fP] at hc ⊢;rw [World.cell?_of_block (a:=⟨a,i,none⟩) (heap_setCell_other _ _ _ _ (by show a≠g;omega))];exact hc
   have hfr:=HROW.out.free (1+j);have hthere:=(HROW.out.there h0) (1+j) Ha;rw [Nat.zero_mul,Nat.zero_add] at hthere;obtain ⟨uc,huc⟩:=Option.isSome_iff_exists.1 hthere.1;clear hy hyb hset hb0 hlr he hgc hthere HROW HG;go_upto_region 4 with fail
   go_still_tail 9,Hc
   change wpList _ _ _ _ _ w4.drew;have hfr2:w4.drew.frozen? ⟨g,1+j,none⟩=false:=hfr;have huc2:w4.drew.cell? ⟨g,1+j,none⟩=some uc:=huc;have HN2:Hid (cj (w4.drew.setCell ⟨g,1+j,none⟩ (.int .u8 y)) B g n cap (b.set 0 ⟨k,xC l bs (j+1)⟩)/\w.grownBy (w4.drew.setCell ⟨g,1+j,none⟩ (.int .u8 y)) (some g)/\dD (w4.drew.setCell ⟨g,1+j,none⟩ (.int .u8 y)) (some ⟨a,0,none⟩) l):=by
    obtain ⟨h1,h2,h3⟩:=HN.out;have hdb:Below (w4.setCell ⟨g,1+j,none⟩ (.int .u8 y)).heap.size (w4.setCell ⟨g,1+j,none⟩ (.int .u8 y)) (w4.drew.setCell ⟨g,1+j,none⟩ (.int .u8 y)):=(Below.refl _ _).drew;exact ⟨h1.below hdb,fZ h2 hdb,h3.keep hdb⟩
   clear hfr huc hc HN;generalize w4.drew=w5 at *;go_wp2_with fail
   go_roundw
   case rel=>exact ⟨j+1,Ha,by go_num,HN2.out.1,HN2.out.2.1,HN2.out.2.2⟩
   case measure=>simp [intOf];omega
  ·obtain rfl:j=4:=Ha;go_wp2_with fail
   go_end0
   exact ⟨rfl,by rw [HRES.out];exact HROW.out,HG.out⟩
theorem bc.cells {w:World} {p:Nat} {l a g:Int} (h:bc w p l a g):w.cell? ⟨p,0,none⟩=some (.int .i64 l)/\w.cell? ⟨p,1,none⟩=some (.int .i64 a)/\w.cell? ⟨p,2,none⟩=some (.int .u32 g):=⟨h.cell 0,h.cell 1,h.cell 2⟩
theorem uT (g:Nat) (b:List Bk) (n d:Nat) (D:nA) (w:World) (hn:b.length=n) (h200:n<=200) (hok:dF b) (hD:D.Ok) (hy:qs w (some ⟨g,0,none⟩) b) :
 Calls Tryz.prog 146 #[.slice (some ⟨g,0,none⟩) n d,D.v] w fun e w'=>e=.returned (.bool (nC b D))/\Below w.heap.size w w':=by
 obtain ⟨dl,da,dg⟩:=D;have h3:=bc.new w dl da dg;obtain ⟨c0,c1,c2⟩:=h3.cells;have HB0:=He (aK (w:=w) (.cells #[.int .i64 dl,.int .i64 da,.int .u32 dg] 82));have HY:Hid (∀ W',Below w.heap.size w W'->qs W' (some ⟨g,0,none⟩) b):=fun W' hb=>hy.keep hb;have H3:=He h3;have ha64:=hD.a;simp only at ha64;obtain ⟨r,hr⟩:∃ r,r=nC b ⟨dl,da,dg⟩:=⟨_,rfl⟩
 rw [<- hr];have HR:Hid (r=(decide (0<=da/\da<b.length)&&(decide ((iD b da).k=2)&&(decide (aX (iD b da).k (iD b da).bs)&&decide ((cM (iD b da).bs).g=dg))))):=hr;clear hr h3;show Calls Tryz.prog 146 #[.slice (some ⟨g,0,none⟩) n d,.agg #[.int .i64 dl,.int .i64 da,.int .u32 dg]] w _;by_cases h0:da<0
 ·have hd:decide (da<0)=true:=decide_eq_true h0;have HE:Hid (r=false):=by unfold Hid;rw [HR.out,decide_eq_false (fun h=>Ha)];rfl
  clear hn hok hy;go_enter Tryz.func146,Tryz.ntmps146;go_wp2_with fail
  go_ret;exact ⟨aj HE.out.symm,HB0.out⟩
 by_cases h1:(n:Int)<=da
 ·have hd:decide (da<0)=false:=decide_eq_false h0;have hd1:decide ((n:Int)<=da)=true:=decide_eq_true h1;have HE:Hid (r=false):=by unfold Hid;rw [HR.out,decide_eq_false (fun h=>Ha)];rfl
  clear hn hok hy;go_enter Tryz.func146,Tryz.ntmps146;go_wp2_with fail
  go_ret;exact ⟨aj HE.out.symm,HB0.out⟩
 obtain ⟨j,rfl⟩:∃ j:Nat,da=j:=⟨da.toNat,Ha⟩
 obtain ⟨x,hx⟩:∃ x,b[j]?=some x:=⟨_,List.getElem?_eq_getElem Ha⟩
 have hxo:=hok x (List.mem_of_getElem? hx);have hd:decide ((j:Int)<0)=false:=decide_eq_false h0;have hd1:decide ((n:Int)<=j)=false:=decide_eq_false h1;have hji:(j:Int)<n:=Ha;have hk0:=(HY.out _ HB0.out).kind hx;have HX:=He hx;have HR2:Hid (r=(decide (x.k=2)&&(decide (aX x.k x.bs)&&decide ((cM x.bs).g=dg)))):=by
  unfold Hid;rw [HR.out,kl hx,decide_eq_true (show 0<=(j:Int)/\(j:Int)<b.length by omega),Bool.true_and]
 have HTK:=He (fun W=>qE x.k x.bs W (by have:=hxo.k;constructor <;> omega) hxo.len hxo.b);have H57:=He hxo.len;clear hn hok hy hx hxo HR;by_cases h2:x.k=2
 case neg =>
  have HE:Hid (r=false):=by unfold Hid;rw [HR2.out,decide_eq_false h2];rfl
  generalize x.k=kx at *;have h2d:decide (kx=2)=false:=decide_eq_false h2;have h2b:(kx != 2)=true:=by simp [h2]
  go_enter Tryz.func146,Tryz.ntmps146;go_wp2_with fail
  go_ret;exact ⟨aj HE.out.symm,HB0.out⟩
 obtain ⟨kx,bs⟩:=x;simp only at h2;subst h2;have HM:Hid (∀ W',Below w.heap.size w W'->W'.rangeAt g (j*57) (blkL 2 bs)):=fun W' hb=>(HY.out W' hb).at_ HX.out;have H57':Hid (bs.length=56):=H57;have HR3:Hid (r=(decide (aX 2 bs)&&decide ((cM bs).g=dg))):=by unfold Hid;rw [HR2.out];simp
 have HTK':Hid (∀ W,Calls Tryz.prog 125 #[.agg (ab 2 bs)] W fun e w'=>e=.returned (.tuple #[.agg (bD (bj 2 bs)),.bool (decide (aX 2 bs))])/\Below W.heap.size W w'):=fun W=>HTK.out W;have HTG:Hid (aX 2 bs->(cM bs).g=(bj 2 bs).g):=fun h=>by unfold bj;rw [if_pos h]
 clear HTK HR2 H57 HX;generalize htn:bj 2 bs=nd at *;clear htn;by_cases ht:aX 2 bs
 ·have HR4:Hid (r=decide (nd.g=dg)):=by unfold Hid;rw [HR3.out,decide_eq_true ht,Bool.true_and,HTG.out ht]
  rw [decide_eq_true ht] at HTK';clear HR3 HTG ht;go_enter Tryz.func146,Tryz.ntmps146;generalize hW0:w.alloc (.cells #[.int .i64 dl,.int .i64 (j:Int),.int .u32 dg] 82)=W0 at *;go_wp2_with (first | (with_reducible refine wpList_load_mid rfl 37 (.tmp 30) rfl g (j*57) rfl (blkL 2 bs) _ (HM.out _ HB0.out) Tryz.underlying37 rfl (bQ (x:=⟨2,bs⟩) H57'.out) ?_))
  refine (HTK'.out _).mono ?_;rintro e1 w5 ⟨rfl,hb5⟩;have h9:=aR.new w5 nd0;go_upto_region 4 with (first | (refine bA rfl rfl ?_) | (refine aL rfl (.tmp 5) (.tmp 33) rfl w5.heap.size rfl nd nd0 rfl h9 ?_))
  have hb6:=hb5.trans ((below_setRow (aK (.cells (bD nd0) 137)) (Nat.le_refl _) (bD nd)).mono hb5.size);have HB6:=He (HB0.out.trans (hb6.mono HB0.out.size));have H9:=He (h9.set nd);have h36:=(H3.out.below hb6).cells;obtain ⟨d0',d1',d2'⟩:=h36;clear hb5 hb6 h9 c0 c1 c2 H3 HB0 hk0;generalize (w5.alloc (.cells (bD nd0) 137)).setRow w5.heap.size (bD nd)=w6 at *;generalize w5.heap.size=p at *;obtain ⟨n0,_⟩:=H9.out.cells;go_wp2_with fail
  go_ret;exact ⟨aj (by rw [HR4.out];first | rfl | (rw [Bool.eq_iff_iff];simp)),HB6.out⟩
 ·have HR4:Hid (r=false):=by unfold Hid;rw [HR3.out,decide_eq_false ht,Bool.false_and]
  rw [decide_eq_false ht] at HTK';clear HR3 HTG ht;go_enter Tryz.func146,Tryz.ntmps146;generalize hW0:w.alloc (.cells #[.int .i64 dl,.int .i64 (j:Int),.int .u32 dg] 82)=W0 at *;go_wp2_with (first | (with_reducible refine wpList_load_mid rfl 37 (.tmp 30) rfl g (j*57) rfl (blkL 2 bs) _ (HM.out _ HB0.out) Tryz.underlying37 rfl (bQ (x:=⟨2,bs⟩) H57'.out) ?_))
  refine (HTK'.out _).mono ?_;rintro e1 w5 ⟨rfl,hb5⟩;have h9:=aR.new w5 nd0;go_upto_region 4 with (first | (refine bA rfl rfl ?_) | (refine aL rfl (.tmp 5) (.tmp 33) rfl w5.heap.size rfl nd nd0 rfl h9 ?_))
  have hb6:=hb5.trans ((below_setRow (aK (.cells (bD nd0) 137)) (Nat.le_refl _) (bD nd)).mono hb5.size);have HB6:=He (HB0.out.trans (hb6.mono HB0.out.size));clear hb5 hb6 h9 c0 c1 c2 H3 HB0 hk0;generalize (w5.alloc (.cells (bD nd0) 137)).setRow w5.heap.size (bD nd)=w6 at *;go_wp2_with fail
  go_ret;exact ⟨aj HR4.out.symm,HB6.out⟩
end Go.Proofs.YtegjelaejbacnaaGreat
