/- For FileLong: contracts and facts, part 27. -/
import Derived.StillTailTactics
import Derived.Test.YtegjelaejbacnaaGreatL18
import Derived.Test.YtegjelaejbacnaaGreatL19
import Derived.Test.YtegjelaejbacnaaGreatL26
set_option maxRecDepth 100000
set_option maxHeartbeats 25600000
set_option linter.unusedVariables false
open Go.ChangeShapes Go.WideShapes Go.ChangeAt Go.RowKit
namespace Go.Proofs.YtegjelaejbacnaaGreat
theorem rv.byt {w:World} {g:Nat} {b:List Bk} (h:rv w (some ⟨g,0,none⟩) b) {x:Bk} (d:b[0]?=some x) (o m:Nat):dK w (some ⟨g,1+o,none⟩) (aW x.bs o m):=by
 intro i y a;refine ⟨_,rfl,?_⟩;have e:=h.at_ d;unfold aW at a;rw [List.getElem?_take] at a;split at a
 ·rw [List.getElem?_drop] at a;have c:=e (1+(o+i)) (.int .u8 y) (by unfold blkL;rw [Nat.add_comm,List.getElem?_cons_succ];exact kR a);rw [cZ];rw [Nat.zero_mul,Nat.zero_add] at c;rw [Nat.add_assoc];exact c
 ·cases a
theorem sC (g:Nat) (b:List Bk) (n d:Nat) (w:World) (o:b.length=n) (r:0<n) (k:n<=200) (c:dO b) (l:rv w (some ⟨g,0,none⟩) b) :
 Calls Tryz.prog 87 #[.slice (some ⟨g,0,none⟩) n d] w fun e w'=>e=.returned (.int .u32 (nextM b:Nat))/\w=w':=by
 obtain ⟨x,h⟩:∃ x,b[0]?=some x:=⟨_,List.getElem?_eq_getElem Ha⟩
 have a:=c x (List.mem_of_getElem? h);have f:=l.byt h 0 4;have m:ik b 0=x:=kN (i:=0) h;have j:=He (kW (some ⟨g,1,none⟩) (aW x.bs 0 4) 4 56 w (fW a.len Ha) Ha (gZ a.b _ _) f);have p:aB (aW x.bs 0 4)<4294967296:=js a.len a.b Ha;have wc:IntKind.u32.wrap (aB (aW x.bs 0 4):Int)=aB (aW x.bs 0 4):=IntWalk.u32_in _ Ha;have q:(0:Int)<n:=Ha;unfold nextM;rw [m];clear h a f o c l m;go_enter Tryz.func87,Tryz.ntmps87;go_wp2_with fail
 refine j.out.mono ?_;rintro e s ⟨rfl,rfl⟩;go_wp2_with fail
 go_ret;exact ⟨rfl,rfl⟩
def zb (l bs:List Int) (j:Nat):List Int:=l.take j++bs.drop j
theorem I7 {l bs:List Int} {j:Nat} {y:Int} (a:l[j]?=some y) (b:j<bs.length):(zb l bs j).set j y=zb l bs (j+1):=by
 have hj:=(List.getElem?_eq_some_iff.1 a).1;unfold zb;rw [List.set_append_right _ _ (by rw [List.length_take];omega),List.length_take,Nat.min_eq_left Ha,Nat.sub_self,aw a,List.append_assoc]
 congr 1
 rw [List.drop_eq_getElem_cons b,List.set_cons_zero];rfl
theorem tn (B g n cap:Nat) (b:List Bk) (v:Nat) (w:World) (I:cE w B g n cap b) (h0:0<n) (a5:n<=200) (hv:v<4294967296) :
 Calls Tryz.prog 88 #[.slice (some ⟨g,0,none⟩) n cap,.int .u32 v] w fun e w'=>e=.returned (.tuple #[])/\cE w' B g n cap (gy b v)/\w.grownBy w' (some g):=by
 obtain ⟨x,X⟩:∃ x,b[0]?=some x:=⟨_,List.getElem?_eq_getElem (by rw [I.len];exact h0)⟩
 have p:=I.ok x (List.mem_of_getElem? X);have K:0<b.length:=by rw [I.len];exact h0
 have Y:ik b 0=x:=kN (i:=0) X;obtain ⟨k,bs⟩:=x;have L:Hid (gy b v=b.set 0 ⟨k,zb (be v 4) bs 4⟩):=by
  unfold Hid gy r6 zb;rw [Y,show (0:Int).toNat=0 from rfl,List.take_of_length_le (by rw [au];exact Nat.le_refl _)]
 have ad:Hid (b.set 0 ⟨k,zb (be v 4) bs 0⟩=b):=by
  unfold Hid zb;simp only [List.take_zero,List.drop_zero,List.nil_append];obtain ⟨h1,h2⟩:=List.getElem?_eq_some_iff.1 X;rw [<- h2,List.set_getElem_self]
 have M:=He (BZ v 4 w Ha Ha);have an:=He K;have a0:Hid (bs.length=56):=p.len;have bb:Hid (ay bs):=p.b;have bi:Hid (0<=k/\k<=7):=p.k;have wc:IntKind.u64.wrap (v:Int)=v:=IntWalk.u64_in _ Ha;have bk:(0:Int)<n:=Ha;have HR:=He I;have bl:=I.lt.2;clear X p I Y K;go_enter Tryz.func88,Tryz.ntmps88;go_wp2_with fail
 refine M.out.mono ?_;rintro e w1 ⟨u,rfl,m,s⟩;obtain ⟨A,c,rfl,bn,bt,N⟩:=bM m (by rw [au]);rw [au];have hA:∃ a,A=some ⟨a,0,none⟩/\w.heap.size<=a:=by
  rcases m.2 with ⟨_,h4⟩ | ⟨a,a6,bx,e,hb,_⟩
  ·omega
  ·injection e with Y _ _
   exact ⟨a,Y,hb⟩
 obtain ⟨a,rfl,hag⟩:=hA;have o:Hid (cE w1 B g n cap (b.set 0 ⟨k,zb (be v 4) bs 0⟩)):=by unfold Hid;rw [ad.out];exact HR.out.below s
 have O:Hid (w.grownBy w1 (some g)):=gA (World.grownBy.refl _ _) s;have q:=He N;have a1:Hid ((be v 4).length=4):=au v 4;have a2:Hid (ay (be v 4)):=cF v 4;generalize be v 4=l at *;clear m N s M;go_wp2_with fail
 go_loopw [5] (fun i wr=>∃ j:Nat,j<=4/\i=.int .i64 j/\Hid (cE wr B g n cap (b.set 0 ⟨k,zb l bs j⟩))/\Hid (w.grownBy wr (some g))/\Hid (dK wr (some ⟨a,0,none⟩) l)) (fun i _=>4-(intOf i).toNat)
 case atStart=>exact ⟨0,Ha,rfl,o,O,q⟩
 case round =>
  obtain ⟨j,hj,rfl,f,HG,q⟩:=hrel;obtain ⟨h,rfl⟩:∃ h,h=wr:=⟨wr,rfl⟩
  clear o O;by_cases a3:j<4
  ·have b0:(j:Int)<4:=Ha;have a7:(j:Int)<56:=Ha;have a4:j<56:=Ha;obtain ⟨y,Z⟩:∃ y,l[j]?=some y:=⟨_,List.getElem?_eq_getElem (by rw [a1.out];exact a3)⟩
   obtain ⟨a',e,R⟩:=q.out j y Z;injection e with e
   subst e;rw [dU] at R;have S:=a2.out y (List.mem_of_getElem? Z);have r:=I7 (bs:=bs) Z (by rw [a0.out];omega);have T:(b.set 0 ⟨k,zb l bs j⟩)[0]?=some ⟨k,zb l bs j⟩:=List.getElem?_set_self an.out;have t:=f.out.byte T (j:=j) Ha S;have he:(b.set 0 ⟨k,zb l bs j⟩).set 0 (ot ⟨k,zb l bs j⟩ j y)=b.set 0 ⟨k,zb l bs (j+1)⟩:=by
    rw [List.set_set];unfold ot;simp only;rw [r]
   rw [he,Nat.zero_mul,Nat.zero_add] at t;have U:=bw h g (1+j) (.int .u8 y);have HN:Hid (cE (h.setCell ⟨g,1+j,none⟩ (.int .u8 y)) B g n cap (b.set 0 ⟨k,zb l bs (j+1)⟩)/\w.grownBy (h.setCell ⟨g,1+j,none⟩ (.int .u8 y)) (some g)/\dK (h.setCell ⟨g,1+j,none⟩ (.int .u8 y)) (some ⟨a,0,none⟩) l):=by
    refine ⟨t,ba HG.out U,fun i z hz=>?_⟩;obtain ⟨a',e,R⟩:=q.out i z hz;injection e with e
    subst e;refine ⟨_,rfl,?_⟩;rw [dU] at R ⊢;rw [World.cell?_of_block (a:=⟨a,i,none⟩) (heap_setCell_other _ _ _ _ (by show a≠g;omega))];exact R
   have V:=f.out.free (1+j);have d:=(f.out.there h0) (1+j) Ha;rw [Nat.zero_mul,Nat.zero_add] at d;obtain ⟨uc,W⟩:=Option.isSome_iff_exists.1 d.1;clear Z S r T t he U d f HG;go_upto_region 4 with fail
   go_still_tail 9,Hc
   change wpList _ _ _ _ _ h.drew;have a8:h.drew.frozen? ⟨g,1+j,none⟩=false:=V;have a9:h.drew.cell? ⟨g,1+j,none⟩=some uc:=W;have C:Hid (cE (h.drew.setCell ⟨g,1+j,none⟩ (.int .u8 y)) B g n cap (b.set 0 ⟨k,zb l bs (j+1)⟩)/\w.grownBy (h.drew.setCell ⟨g,1+j,none⟩ (.int .u8 y)) (some g)/\dK (h.drew.setCell ⟨g,1+j,none⟩ (.int .u8 y)) (some ⟨a,0,none⟩) l):=by
    obtain ⟨h1,h2,h3⟩:=HN.out;have H:Below (h.setCell ⟨g,1+j,none⟩ (.int .u8 y)).heap.size (h.setCell ⟨g,1+j,none⟩ (.int .u8 y)) (h.drew.setCell ⟨g,1+j,none⟩ (.int .u8 y)):=(Below.refl _ _).drew;exact ⟨h1.below H,gA h2 H,h3.keep H⟩
   clear V W R HN;generalize h.drew=w5 at *;go_wp2_with fail
   go_roundw
   case rel=>exact ⟨j+1,Ha,by go_num,C.out.1,C.out.2.1,C.out.2.2⟩
   case measure=>simp [intOf];omega
  ·obtain rfl:j=4:=Ha;go_wp2_with fail
   go_end0
   exact ⟨rfl,by rw [L.out];exact f.out,HG.out⟩
theorem bh.cells {w:World} {p:Nat} {l a g:Int} (h:bh w p l a g):w.cell? ⟨p,0,none⟩=some (.int .i64 l)/\w.cell? ⟨p,1,none⟩=some (.int .i64 a)/\w.cell? ⟨p,2,none⟩=some (.int .u32 g):=⟨h.cell 0,h.cell 1,h.cell 2⟩
theorem wE (g:Nat) (b:List Bk) (n d:Nat) (D:ou) (w:World) (Z:b.length=n) (a2:n<=200) (u:dO b) (hD:D.Ok) (X:rv w (some ⟨g,0,none⟩) b) :
 Calls Tryz.prog 146 #[.slice (some ⟨g,0,none⟩) n d,D.v] w fun e w'=>e=.returned (.bool (ov b D))/\Below w.heap.size w w':=by
 obtain ⟨L,f,s⟩:=D;have h3:=bh.new w L f s;obtain ⟨c0,c1,c2⟩:=h3.cells;have c:=He (aM (w:=w) (.cells #[.int .i64 L,.int .i64 f,.int .u32 s] 82));have HY:Hid (∀ z,Below w.heap.size w z->rv z (some ⟨g,0,none⟩) b):=fun z hb=>X.keep hb;have H3:=He h3;have N:=hD.a;simp only at N;obtain ⟨r,hr⟩:∃ r,r=ov b ⟨L,f,s⟩:=⟨_,rfl⟩
 rw [<- hr];have Y:Hid (r=(decide (0<=f/\f<b.length)&&(decide ((ik b f).k=2)&&(decide (aX (ik b f).k (ik b f).bs)&&decide ((cW (ik b f).bs).g=s))))):=hr;clear hr h3;show Calls Tryz.prog 146 #[.slice (some ⟨g,0,none⟩) n d,.agg #[.int .i64 L,.int .i64 f,.int .u32 s]] w _;by_cases h0:f<0
 ·have hd:decide (f<0)=true:=decide_eq_true h0;have O:Hid (r=false):=by unfold Hid;rw [Y.out,decide_eq_false (fun h=>Ha)];rfl
  clear Z u X;go_enter Tryz.func146,Tryz.ntmps146;go_wp2_with fail
  go_ret;exact ⟨aj O.out.symm,c.out⟩
 by_cases h1:(n:Int)<=f
 ·have hd:decide (f<0)=false:=decide_eq_false h0;have ad:decide ((n:Int)<=f)=true:=decide_eq_true h1;have O:Hid (r=false):=by unfold Hid;rw [Y.out,decide_eq_false (fun h=>Ha)];rfl
  clear Z u X;go_enter Tryz.func146,Tryz.ntmps146;go_wp2_with fail
  go_ret;exact ⟨aj O.out.symm,c.out⟩
 obtain ⟨j,rfl⟩:∃ j:Nat,f=j:=⟨f.toNat,Ha⟩
 obtain ⟨x,R⟩:∃ x,b[j]?=some x:=⟨_,List.getElem?_eq_getElem Ha⟩
 have q:=u x (List.mem_of_getElem? R);have hd:decide ((j:Int)<0)=false:=decide_eq_false h0;have ad:decide ((n:Int)<=j)=false:=decide_eq_false h1;have a3:(j:Int)<n:=Ha;have S:=(HY.out _ c.out).kind R;have HX:=He R;have B:Hid (r=(decide (x.k=2)&&(decide (aX x.k x.bs)&&decide ((cW x.bs).g=s)))):=by
  unfold Hid;rw [Y.out,kN R,decide_eq_true (show 0<=(j:Int)/\(j:Int)<b.length by omega),Bool.true_and]
 have T:=He (fun W=>rL x.k x.bs W (by have:=q.k;constructor <;> omega) q.len q.b);have U:=He q.len;clear Z u X R q Y;by_cases V:x.k=2
 case neg =>
  have O:Hid (r=false):=by unfold Hid;rw [B.out,decide_eq_false V];rfl
  generalize x.k=kx at *;have a4:decide (kx=2)=false:=decide_eq_false V;have a5:(kx != 2)=true:=by simp [V]
  go_enter Tryz.func146,Tryz.ntmps146;go_wp2_with fail
  go_ret;exact ⟨aj O.out.symm,c.out⟩
 obtain ⟨kx,i⟩:=x;simp only at V;subst V;have HM:Hid (∀ z,Below w.heap.size w z->z.rangeAt g (j*57) (blkL 2 i)):=fun z hb=>(HY.out z hb).at_ HX.out;have A:Hid (i.length=56):=U;have y:Hid (r=(decide (aX 2 i)&&decide ((cW i).g=s))):=by unfold Hid;rw [B.out];simp
 have m:Hid (∀ W,Calls Tryz.prog 125 #[.agg (ab 2 i)] W fun e w'=>e=.returned (.tuple #[.agg (bF (bo 2 i)),.bool (decide (aX 2 i))])/\Below W.heap.size W w'):=fun W=>T.out W;have C:Hid (aX 2 i->(cW i).g=(bo 2 i).g):=fun h=>by unfold bo;rw [if_pos h]
 clear T B U HX;generalize an:bo 2 i=nd at *;clear an;by_cases H:aX 2 i
 ·have I:Hid (r=decide (nd.g=s)):=by unfold Hid;rw [y.out,decide_eq_true H,Bool.true_and,C.out H]
  rw [decide_eq_true H] at m;clear y C H;go_enter Tryz.func146,Tryz.ntmps146;generalize a0:w.alloc (.cells #[.int .i64 L,.int .i64 (j:Int),.int .u32 s] 82)=W0 at *;go_wp2_with (first | (with_reducible refine wpList_load_mid rfl 37 (.tmp 30) rfl g (j*57) rfl (blkL 2 i) _ (HM.out _ c.out) Tryz.underlying37 rfl (bT (x:=⟨2,i⟩) A.out) ?_))
  refine (m.out _).mono ?_;rintro e1 t ⟨rfl,l⟩;have M:=aV.new t nd0;go_upto_region 4 with (first | (refine bC rfl rfl ?_) | (refine aN rfl (.tmp 5) (.tmp 33) rfl t.heap.size rfl nd nd0 rfl M ?_))
  have o:=l.trans ((below_setRow (aM (.cells (bF nd0) 137)) (Nat.le_refl _) (bF nd)).mono l.size);have K:=He (c.out.trans (o.mono c.out.size));have H9:=He (M.set nd);have a1:=(H3.out.below o).cells;obtain ⟨a6,a7,a8⟩:=a1;clear l o M c0 c1 c2 H3 c S;generalize (t.alloc (.cells (bF nd0) 137)).setRow t.heap.size (bF nd)=w6 at *;generalize t.heap.size=p at *;obtain ⟨n0,_⟩:=H9.out.cells;go_wp2_with fail
  go_ret;exact ⟨aj (by rw [I.out];first | rfl | (rw [Bool.eq_iff_iff];simp)),K.out⟩
 ·have I:Hid (r=false):=by unfold Hid;rw [y.out,decide_eq_false H,Bool.false_and]
  rw [decide_eq_false H] at m;clear y C H;go_enter Tryz.func146,Tryz.ntmps146;generalize a0:w.alloc (.cells #[.int .i64 L,.int .i64 (j:Int),.int .u32 s] 82)=W0 at *;go_wp2_with (first | (with_reducible refine wpList_load_mid rfl 37 (.tmp 30) rfl g (j*57) rfl (blkL 2 i) _ (HM.out _ c.out) Tryz.underlying37 rfl (bT (x:=⟨2,i⟩) A.out) ?_))
  refine (m.out _).mono ?_;rintro e1 t ⟨rfl,l⟩;have M:=aV.new t nd0;go_upto_region 4 with (first | (refine bC rfl rfl ?_) | (refine aN rfl (.tmp 5) (.tmp 33) rfl t.heap.size rfl nd nd0 rfl M ?_))
  have o:=l.trans ((below_setRow (aM (.cells (bF nd0) 137)) (Nat.le_refl _) (bF nd)).mono l.size);have K:=He (c.out.trans (o.mono c.out.size));clear l o M c0 c1 c2 H3 c S;generalize (t.alloc (.cells (bF nd0) 137)).setRow t.heap.size (bF nd)=w6 at *;go_wp2_with fail
  go_ret;exact ⟨aj I.out.symm,K.out⟩
structure lQ (w:World) (B s g n cap:Nat) (pl:Int) (b:List Bk):Prop where
 box:w.heap[s]?=some (.cells #[.int .i64 pl,.slice (some ⟨g,0,none⟩) n cap] 58 (0,0))
 row:cE w B g n cap b
 sg:s≠g
 sB:B<=s
section
variable {w W W':World} {B s g n cap:Nat} {pl:Int} {b:List Bk}
theorem lQ.below (h:lQ w B s g n cap pl b) (a:Below w.heap.size w W):lQ W B s g n cap pl b:=⟨kb a h.box,h.row.below a,h.sg,h.sB⟩
theorem lQ.c0 (h:lQ w B s g n cap pl b):w.cell? ⟨s,0,none⟩=some (.int .i64 pl):=(af h.box 0).trans rfl
theorem lQ.c1 (h:lQ w B s g n cap pl b):w.cell? ⟨s,1,none⟩=some (.slice (some ⟨g,0,none⟩) n cap):=(af h.box 1).trans rfl
theorem lQ.f (h:lQ w B s g n cap pl b) (i:Nat):w.frozen? ⟨s,i,none⟩=false:=aA h.box i
theorem lQ.bks (h:lQ w B s g n cap pl b):rv w (some ⟨g,0,none⟩) b:=h.row.bks
end
structure SF (w:World) (a b:Bool) (e:En) (p:Value) (W:World):Prop where
 bel:Below w.heap.size w W
 nm:a=true->∃ q:Nat,p=.pointer (some ⟨q,0,none⟩)/\w.heap.size<=q/\bS W q (if b=true then e else en0)
section
variable {w W W':World} {a b:Bool} {e:En} {p:Value}
theorem SF.below (h:SF w a b e p W) (c:Below W.heap.size W W'):SF w a b e p W' :=
 ⟨h.bel.trans (c.mono h.bel.size),fun d=>let ⟨q,h1,h2,h3⟩:=h.nm d;⟨q,h1,h2,kb c h3⟩⟩
theorem SF.start (a:Below w.heap.size w W):SF w false false e p W:=⟨a,fun h=>by cases h⟩
theorem SF.laid {a:Bool} {b:Value} (h:SF w a false e b W):SF w true false e (.pointer (some ⟨W.heap.size,0,none⟩)) (W.alloc (.cells (dL en0) 168)) :=
 ⟨h.bel.trans ((aM _).mono h.bel.size),fun _=>⟨W.heap.size,rfl,h.bel.size,by rw [if_neg Hd];exact bS.new W en0⟩⟩
theorem SF.stored (h:SF w true false e p W) {q:Nat} (b:p=.pointer (some ⟨q,0,none⟩)) (a:w.heap.size<=q) (c:bS W q en0):SF w true true e p (W.setRow q (dL e)) :=
 ⟨below_setRow h.bel a _,fun _=>⟨q,b,a,by rw [if_pos rfl];exact c.set e⟩⟩
end
theorem bh.below' {w w':World} {p:Nat} {l a g:Int} (h:bh w p l a g) (b:Below w.heap.size w w'):bh w' p l a g:=kb b h
theorem Gj {w:World} {B s g n cap:Nat} {d:Int} {b:List Bk} (h:lQ w B s g n cap d b) (e:En) :
 Calls Tryz.prog 124 #[.pointer (some ⟨s,0,none⟩),.agg (dL e)] w fun v w'=>v=.returned (.agg #[.int .i64 d,.int .i64 e.p,.int .u32 e.n])/\Below w.heap.size w w':=by
 have q:=bS.new w e;have a:=aM (w:=w) (.cells (dL e) 168);have j:=He (h.below a);go_enter Tryz.func124,Tryz.ntmps124;go_upto_region 1 with fail
 have c:Below w.heap.size w ((w.alloc (.cells (dL e) 168)).alloc (.cells #[.int .i64 0,.int .i64 0,.int .u32 0] 82)):=a.trans ((aM _).mono a.size);have k:=He (h.below c);have x:Hid (bS ((w.alloc (.cells (dL e) 168)).alloc (.cells #[.int .i64 0,.int .i64 0,.int .u32 0] 82)) w.heap.size e):=bS.alloc q _;have l:=bh.new (w.alloc (.cells (dL e) 168)) 0 0 0;have f:(w.alloc (.cells (dL e) 168)).heap.size=w.heap.size+1:=Hb;rw [f] at l;have m:=He c;clear q a c j f;generalize (w.alloc (.cells (dL e) 168)).alloc (.cells #[.int .i64 0,.int .i64 0,.int .u32 0] 82)=W at *;have r:=k.out.c0;obtain ⟨_,t,u⟩:=x.out.cells;have y:W.drew.cell? ⟨s,0,none⟩=some (.int .i64 d):=r;have z:W.drew.cell? ⟨w.heap.size,4,none⟩=some (.int .i64 e.p):=t;have A:W.drew.cell? ⟨w.heap.size,5,none⟩=some (.int .u32 e.n):=u;have i:Hid (bh W.drew (w.heap.size+1) 0 0 0):=l;have o:Hid (Below w.heap.size w W.drew):=m.out.drew
 go_still_tail 9,Hc
 change wpList _ _ _ _ _ W.drew;clear r t u l;generalize W.drew=C at *;go_wp2_with (refine aK rfl (.tmp 4) (.tmp 13) rfl (w.heap.size+1) rfl d e.p e.n rfl 0 0 0 i.out ?_)
 refine bodyPost_ret (nt rfl _ _ (w.heap.size+1) d e.p e.n rfl (i.out.set d e.p e.n)) rfl ?_;exact ⟨rfl,below_setRow o.out (Nat.le_succ _) _⟩
def L1 (s g n cap:Nat) (b c d:Int) (t:List Int) (a:En) (fi:Int) (i:Nat) (v:Value) (W:World):Prop :=
 match i with
 | 0 | 1=>v=.pointer (some ⟨s,0,none⟩)
 | 2=>v=.pointer (some ⟨s,1,none⟩)
 | 3=>v=.slice (some ⟨g,0,none⟩) n cap
 | 4=>v=jO b c d
 | 5=>v=.string (strOfNums t)
 | 6 | 7=>v=.tuple #[.agg (dL a),.int .i64 fi]
 | 8=>v=.agg (dL a)
 | 9 | 12=>v=.int .i64 fi
 | _=>True
theorem yQ {w:World} {B s g n cap:Nat} {O:Int} {b:List Bk} (h:lQ w B s g n cap O b) (a6:n<=200) (D:ou) (t:List Int) (ht:ay t) :
 Calls Tryz.prog 86 #[.pointer (some ⟨s,0,none⟩),D.v,.string (strOfNums t)] w fun e w'=>e=.returned (if dI D t b<0 then .tuple #[jO 0 0 0,.bool false] else .tuple #[jO O (im D t b).p (im D t b).n,.bool true])/\Below w.heap.size w w':=by
 obtain ⟨k,l,m⟩:=D;have a7:Below w.heap.size w ((w.alloc (.cells #[.int .i64 k,.int .i64 l,.int .u32 m] 82)).alloc (.cells #[.int .i64 0,.int .i64 0,.int .u32 0] 82)):=(aM _).trans ((aM _).mono Hb);have a8:=He (fun W R=>h.below (W:=W) R);have a9:Hid (bh ((w.alloc (.cells #[.int .i64 k,.int .i64 l,.int .u32 m] 82)).alloc (.cells #[.int .i64 0,.int .i64 0,.int .u32 0] 82)) w.heap.size k l m):=(bh.new w k l m).alloc _;have C:=bh.new (w.alloc (.cells #[.int .i64 k,.int .i64 l,.int .u32 m] 82)) 0 0 0;have bb:(w.alloc (.cells #[.int .i64 k,.int .i64 l,.int .u32 m] 82)).heap.size=w.heap.size+1:=Hb;rw [bb] at C;have H:=He C;have X:=He (fun W (R:Below w.heap.size w W)=>sA g b n cap ⟨k,l,m⟩ t W h.row.len a6 h.row.ok (h.below R).bks ht);obtain ⟨r,hr⟩:∃ r,r=(if dI ⟨k,l,m⟩ t b<0 then Value.tuple #[jO 0 0 0,.bool false] else .tuple #[jO O (im ⟨k,l,m⟩ t b).p (im ⟨k,l,m⟩ t b).n,.bool true]):=⟨_,rfl⟩
 rw [<- hr];have HR:=He hr;clear hr h C bb;generalize im ⟨k,l,m⟩ t b=d at *;generalize dI ⟨k,l,m⟩ t b=fi at *;show Calls Tryz.prog 86 #[.pointer (some ⟨s,0,none⟩),.agg #[.int .i64 k,.int .i64 l,.int .u32 m],.string (strOfNums t)] w _;go_enter Tryz.func86,Tryz.ntmps86;go_upto_region 1 with fail
 have o:=He a7;clear a7;generalize (w.alloc (.cells #[.int .i64 k,.int .i64 l,.int .u32 m] 82)).alloc (.cells #[.int .i64 0,.int .i64 0,.int .u32 0] 82)=N at *;obtain ⟨p4,bi⟩:∃ p4,p4=w.heap.size:=⟨_,rfl⟩
 obtain ⟨p6,bk⟩:∃ p6,p6=w.heap.size+1:=⟨_,rfl⟩
 rw [<- bk] at H ⊢;rw [<- bi] at a9 ⊢;have bl:Hid (w.heap.size<=p6):=by unfold Hid;omega
 have HS:Hid (∀ W,Below N.heap.size N W->lQ W B s g n cap O b):=fun W R=>a8.out W (o.out.trans (R.mono o.out.size));have b2:Hid (∀ W,Below N.heap.size N W->Calls Tryz.prog 119 #[.slice (some ⟨g,0,none⟩) n cap,.agg #[.int .i64 k,.int .i64 l,.int .u32 m],.string (strOfNums t)] W fun e w'=>e=.returned (.tuple #[.agg (dL d),.int .i64 fi])/\Below W.heap.size W w'):=fun W R=>X.out W (o.out.trans (R.mono o.out.size));clear bi bk a8 X;have bn:SF N false false d undef N.drew:=SF.start (Below.refl _ _).drew;refine tf (L1 s g n cap k l m t d fi) 8 (fun L p W=>SF N (L 10) (L 11) d p W) (fun _ _ _=>True) Hc Hc (fun i j v w w' _ _ h hs=>by unfold L1 at *;exact h) bn ?_ ?_
 all_goals clear bn
 ·simp only [uC];refine ⟨?_,?_,?_,?_,?_,?_,?_,?_,?_,?_,?_,?_,?_,trivial⟩
  ·refine fK.of rfl fun T W L hag x a hJ c hd=>?_;have e0:=Hf hag 0;clear hag hd a;generalize T.getD 8 undef=S at *;go_simp;exact ⟨_,rfl,rfl⟩
  ·refine fK.of rfl fun T W L hag x a hJ c hd=>?_;have Z:T.getD 11 undef=_:=Hg hd 0 rfl;clear hag hd a;generalize T.getD 8 undef=S at *;go_simp;exact ⟨_,rfl,rfl⟩
  ·refine fK.of rfl fun T W L hag x a hJ c hd=>?_;have ad:T.getD 12 undef=_:=Hg hd 1 rfl;clear hag hd a;generalize T.getD 8 undef=S at *;go_simp;exact ⟨_,rfl,rfl⟩
  ·refine fK.of rfl fun T W L hag x a hJ c hd=>?_;have an:T.getD 13 undef=_:=Hg hd 2 rfl;have ch:=(HS.out W hJ.bel).c1;clear hag hd a;generalize T.getD 8 undef=S at *;go_simp;exact ⟨_,rfl,rfl⟩
  ·refine fK.of rfl fun T W L hag x a hJ c hd=>?_;have e4:=Hf hag 4;refine lD (.tmp 4) rfl p4 e4 k l m (a9.out.below' hJ.bel) ?_;exact ⟨_,rfl,rfl,hJ,trivial⟩
  ·refine fK.of rfl fun T W L hag x a hJ c hd=>?_;have e2:=Hf hag 2;clear hag hd a;generalize T.getD 8 undef=S at *;go_simp;exact ⟨_,rfl,rfl⟩
  ·refine fK.of rfl fun T W L hag x a hJ c hd=>?_;have a0:T.getD 14 undef=_:=Hg hd 3 rfl;have a1:T.getD 15 undef=_:=Hg hd 4 rfl;have a2:T.getD 16 undef=_:=Hg hd 5 rfl;clear hag hd a;generalize T.getD 8 undef=S at *;go_simp;refine (b2.out W hJ.bel).mono ?_;rintro en w' ⟨rfl,R⟩;exact ⟨_,rfl,rfl,hJ.below R⟩
  ·refine fK.of rfl fun T W L hag x a hJ c hd=>?_;have a3:T.getD 17 undef=_:=Hg hd 6 rfl;clear hag hd a;generalize T.getD 8 undef=S at *;go_simp;exact ⟨_,rfl,rfl⟩
  ·refine fK.of rfl fun T W L hag x a hJ c hd=>?_;have U:T.getD 10 undef=_:=Hg hd 7 rfl;clear hag hd a;generalize T.getD 8 undef=S at *;go_simp;exact ⟨_,rfl,rfl⟩
  ·refine fK.of rfl fun T W L hag x a hJ c hd=>?_;have U:T.getD 10 undef=_:=Hg hd 7 rfl;clear hag hd a;generalize T.getD 8 undef=S at *;go_simp;exact ⟨_,rfl,rfl⟩
  ·refine fK.of rfl fun T W L hag x a hJ c hd=>?_;have y:L 10=false:=x;have z:L 11=false:=by
    cases h:L 11 with
    | false=>rfl
    | true=>exact absurd (a 11 _ rfl h ⟨10,.data⟩ Hb rfl) (by rw [y];decide)
   clear hag hd a;refine ux rfl ?_;refine ⟨_,rfl,trivial,?_,trivial⟩;show SF N (if (10:Nat)=10 then true else L 10) (if (10:Nat)=11 then true else L 11) d (if some 8=some 8 then _ else _) _;rw [if_pos rfl,if_pos rfl,if_neg Hd,z];rw [z] at hJ;exact hJ.laid
  ·refine fK.of rfl fun T W L hag x a hJ c hd=>?_;have x8:=Hg hd 10 rfl;have V:T.getD 18 undef=_:=Hg hd 8 rfl;have y:L 10=true:=c ⟨10,.data⟩ Hb rfl;have z:L 11=false:=x;have bs:SF N true false d (T.getD 8 undef) W:=by have h:=hJ;simp only [y,z] at h;exact h
   obtain ⟨q,hq,bt,u⟩:=bs.nm rfl;rw [if_neg Hd] at u;refine uw (.tmp 8) (.tmp 18) rfl q hq d en0 V u ?_;refine ⟨_,rfl,trivial,?_,trivial⟩;show SF N (if (11:Nat)=10 then true else L 10) (if (11:Nat)=11 then true else L 11) d (if none=some 8 then _ else _) _;rw [if_pos rfl,if_neg Hd,if_neg Hb,y];exact bs.stored hq bt u
  ·refine fK.of rfl fun T W L hag x a hJ c hd=>?_;have a4:T.getD 19 undef=_:=Hg hd 9 rfl;clear hag hd a;generalize T.getD 8 undef=S at *;go_simp;exact ⟨_,rfl,rfl⟩
 ·refine fun T W L hag I hJ hd=>?_;have Z:T.getD 11 undef=_:=hd 0 _ rfl;have ad:T.getD 12 undef=_:=hd 1 _ rfl;have an:T.getD 13 undef=_:=hd 2 _ rfl;have a0:T.getD 14 undef=_:=hd 3 _ rfl;have a1:T.getD 15 undef=_:=hd 4 _ rfl;have a2:T.getD 16 undef=_:=hd 5 _ rfl;have a3:T.getD 17 undef=_:=hd 6 _ rfl;have U:T.getD 10 undef=_:=hd 7 _ rfl;have V:T.getD 18 undef=_:=hd 8 _ rfl;have a4:T.getD 19 undef=_:=hd 9 _ rfl;have d9:T.getD 9 undef=_:=hd 12 _ rfl;obtain ⟨f,A,hT⟩:=aJ hag;have b3:=(A 11).trans Z;have b4:=(A 12).trans ad;have b5:=(A 13).trans an;have b6:=(A 14).trans a0;have b8:=(A 15).trans a1;have b9:=(A 16).trans a2;have ca:=(A 17).trans a3;have cb:=(A 10).trans U;have cc:=(A 18).trans V;have cg:=(A 19).trans a4;have h9:=(A 9).trans d9;rw [<- A 8] at hJ
  try dsimp only at hJ
  have HJ:=He hJ;clear hag hd Z ad an a0 a1 a2 a3 U V a4 d9 hJ A;rw [hT];clear hT;simp only [List.filterMap_cons,List.filterMap_nil,List.foldl_cons,List.foldl_nil,List.setIfInBounds_toArray,List.set_cons_succ,List.set_cons_zero,b3,b4,b5,b6,b8,b9,ca,cb,cc,cg,h9];rw [I 10 Hd,I 11 Hd] at HJ;clear I;obtain ⟨q,hq,bt,u⟩:=HJ.out.nm rfl;rw [if_pos rfl] at u;rw [hq];have H8:=He u;have K:=He HJ.out.bel;clear hq HJ u;by_cases bx:fi<0
  ·have HE:Hid (r=.tuple #[jO 0 0 0,.bool false]):=by unfold Hid;rw [HR.out,if_pos bx]
   have M:=He (kb K.out H.out);have a5:=He (below_setRow (o.out.trans (K.out.mono o.out.size)) (g:=p6) bl.out (jA 0 0 0));go_wp2_with (first | (refine aK rfl (.tmp 6) (.tmp 22) rfl p6 rfl 0 0 0 rfl 0 0 0 M.out ?_))
   refine bodyPost_ret (bI rfl _ _ p6 0 0 0 rfl (bh.set M.out 0 0 0)) rfl ?_;exact ⟨by rw [HE.out];rfl,a5.out⟩
  ·have HE:Hid (r=.tuple #[jO O d.p d.n,.bool true]):=by unfold Hid;rw [HR.out,if_neg bx]
   have Y:=He (Gj (HS.out W K.out) d);go_wp2_with (refine fX rfl (.tmp 8) rfl q rfl d H8.out ?_)
   refine Y.out.mono ?_;rintro e9 w9 ⟨rfl,b0⟩;have b1:=He (K.out.trans (b0.mono K.out.size));have M:=He (kb b1.out H.out);have a5:=He (below_setRow (o.out.trans (b1.out.mono o.out.size)) (g:=p6) bl.out (jA O d.p d.n));clear b0 Y;go_wp2_with (first | (refine aK rfl (.tmp 6) (.tmp 25) rfl p6 rfl O d.p d.n rfl 0 0 0 M.out ?_))
   refine bodyPost_ret (bI rfl _ _ p6 O d.p d.n rfl (bh.set M.out O d.p d.n)) rfl ?_;exact ⟨by rw [HE.out];rfl,a5.out⟩
def JH (a s:Nat) (b c:Int) (i:Nat) (v:Value) (W:World):Prop :=
 match i with
 | 0=>v=.pointer (some ⟨a,0,none⟩)
 | 1=>v=.int .i64 b
 | 2 | 3 | 4=>v=.pointer (some ⟨s,0,none⟩)
 | 5=>v=.int .i64 c
 | 6 | 7 | 14=>v=.bool true
 | _=>True
def JI (b s g n cap:Nat) (a c d e:Int) (fo:Bool) (i:Nat) (v:Value) (W:World):Prop :=
 match i with
 | 0=>v=.pointer (some ⟨b,0,none⟩)
 | 1=>v=.int .i64 a
 | 2 | 3 | 4 | 8 | 9=>v=.pointer (some ⟨s,0,none⟩)
 | 5=>v=.int .i64 e
 | 6 | 7=>v=.bool false
 | 10=>v=.pointer (some ⟨s,1,none⟩)
 | 11=>v=.slice (some ⟨g,0,none⟩) n cap
 | 12=>v=jO a c d
 | 13 | 14=>v=.bool fo
 | _=>True
theorem DG {w:World} {B s g n cap:Nat} {m:Int} {b:List Bk} (h:lQ w B s g n cap m b) (N:n<=200) (D:ou) (hD:D.Ok) :
 Calls Tryz.prog 85 #[.pointer (some ⟨s,0,none⟩),D.v] w fun e w'=>e=.returned (.bool (Ai m b D))/\Below w.heap.size w w':=by
 obtain ⟨d,p,q⟩:=D;have k:=He (aM (w:=w) (.cells #[.int .i64 d,.int .i64 p,.int .u32 q] 82));have C:=bh.new w d p q;have z:=He (fun W (t:Below w.heap.size w W)=>wE g b n cap ⟨d,p,q⟩ W h.row.len N h.row.ok hD (h.below t).bks);have O:=He (fun W t=>h.below (W:=W) t);obtain ⟨r,V⟩:∃ r,r=Ai m b ⟨d,p,q⟩:=⟨_,rfl⟩
 rw [<- V];have HR:Hid (r=(decide (d≠m)||ov b ⟨d,p,q⟩)):=V;clear V h hD;generalize ov b ⟨d,p,q⟩=fo at *;show Calls Tryz.prog 85 #[.pointer (some ⟨s,0,none⟩),.agg #[.int .i64 d,.int .i64 p,.int .u32 q]] w _;go_enter Tryz.func85,Tryz.ntmps85;go_upto_region 1 with fail
 generalize w.alloc (.cells #[.int .i64 d,.int .i64 p,.int .u32 q] 82)=o at *;obtain ⟨M,R⟩:∃ M,M=w.heap.size:=⟨_,rfl⟩
 rw [<- R] at C ⊢;have H:Hid (∀ W,Below o.heap.size o W->bh W M d p q):=fun W t=>C.below t;have X:Hid (∀ W,Below o.heap.size o W->lQ W B s g n cap m b):=fun W t=>O.out W (k.out.trans (t.mono k.out.size));have Y:Hid (∀ W,Below o.heap.size o W->Calls Tryz.prog 146 #[.slice (some ⟨g,0,none⟩) n cap,.agg #[.int .i64 d,.int .i64 p,.int .u32 q]] W fun e w'=>e=.returned (.bool fo)/\Below W.heap.size W w'):=fun W t=>z.out W (k.out.trans (t.mono k.out.size));have y:Below o.heap.size o o.drew:=(Below.refl _ _).drew;have srefl:∀ (W:World),W.grownBy W none:=fun W=>World.grownBy.refl _ _;clear R O z C;by_cases A:d=m
 ·have Z:Hid (r=fo):=by unfold Hid;rw [HR.out,decide_eq_false (fun h=>h A),Bool.false_or]
  have ad:(d != m)=false:=by simp [A]
  have an:decide (d=m)=true:=decide_eq_true A;clear A;refine ax (JI M s g n cap d p q m fo) (fun _ W=>Below o.heap.size o W) (fun _ w w'=>w.grownBy w' none) Hc Hc (fun i j v w w' _ _ h hs=>by unfold JI at *;exact h) y ?_;clear y;simp only [cf];refine ⟨?_,?_,?_,?_,?_,?_,?_,?_,?_,?_,?_,?_,?_,?_,?_,?_⟩
  ·refine aa.of rfl fun T W L hag c hJ a hd=>?_;have e3:=Hf hag 3;exact Hi
  ·refine aa.of rfl fun T W L hag c hJ a hd=>?_;have d5:T.getD 5 undef=_:=Hg hd 0 rfl;have l:=(H.out W hJ).cells.1;exact Hi
  ·refine aa.of rfl fun T W L hag c hJ a hd=>?_;have e0:=Hf hag 0;exact Hi
  ·refine aa.of rfl fun T W L hag c hJ a hd=>?_;have d7:T.getD 7 undef=_:=Hg hd 2 rfl;exact Hi
  ·refine aa.of rfl fun T W L hag c hJ a hd=>?_;have d8:T.getD 8 undef=_:=Hg hd 3 rfl;exact Hi
  ·refine aa.of rfl fun T W L hag c hJ a hd=>?_;have d9:T.getD 9 undef=_:=Hg hd 4 rfl;have l:=(X.out W hJ).c0;exact Hi
  ·refine aa.of rfl fun T W L hag c hJ a hd=>?_;have d6:T.getD 6 undef=_:=Hg hd 1 rfl;have a0:T.getD 10 undef=_:=Hg hd 5 rfl;exact Hi
  ·refine aa.of rfl fun T W L hag c hJ a hd=>?_;have a1:T.getD 11 undef=_:=Hg hd 6 rfl;exact Hi
  ·refine aa.want rfl rfl rfl Hc (fun v w h=>h) fun T W L hag c hJ a hd=>?_;have e0:=Hf hag 0;exact Hi
  ·refine aa.want rfl rfl rfl Hc (fun v w h=>h) fun T W L hag c hJ a hd=>?_;have a3:T.getD 13 undef=_:=Hg hd 8 rfl;exact Hi
  ·refine aa.want rfl rfl rfl Hc (fun v w h=>h) fun T W L hag c hJ a hd=>?_;have a4:T.getD 14 undef=_:=Hg hd 9 rfl;exact Hi
  ·refine aa.want rfl rfl rfl Hc (fun v w h=>h) fun T W L hag c hJ a hd=>?_;have a5:T.getD 15 undef=_:=Hg hd 10 rfl;have l:=(X.out W hJ).c1;exact Hi
  ·refine aa.want rfl rfl rfl Hc (fun v w h=>h) fun T W L hag c hJ a hd=>?_;have e3:=Hf hag 3;refine lD (.tmp 3) rfl M e3 d p q (H.out W hJ) ?_;exact ⟨_,rfl,rfl,hJ,srefl _⟩
  ·refine aa.want rfl rfl rfl Hc (fun v w h=>h) fun T W L hag c hJ a hd=>?_;have a6:T.getD 16 undef=_:=Hg hd 11 rfl;have a7:T.getD 17 undef=_:=Hg hd 12 rfl;clear hag hd;go_simp;refine (Y.out W hJ).mono ?_;rintro en w' ⟨rfl,t⟩;exact ⟨_,rfl,rfl,hJ.trans (t.mono hJ.size),dZ t⟩
  ·refine aa.of rfl fun T W L hag c hJ a hd=>?_;have a2:T.getD 12 undef=_:=Hg hd 7 rfl;have a8:T.getD 18 undef=_:=Hg hd 13 rfl;exact Hi
  ·refine bm.of rfl fun T W L hag a c hJ hd=>?_;have u:T.getD 19 undef=_:=hd 14 _ Hb rfl;obtain ⟨f,S,U⟩:=aJ hag;have I:=(S 19).trans u;have HJ:=He hJ;clear hag hd u hJ S;rw [U];clear U;simp only [List.pop_toArray,List.dropLast_cons_cons,List.dropLast_singleton,List.filterMap_cons,List.filterMap_nil,List.foldl_cons,List.foldl_nil,List.setIfInBounds_toArray,List.set_cons_succ,List.set_cons_zero,I];have K:=He HJ.out;go_wp2_with fail
   go_ret;exact ⟨aj Z.out.symm,k.out.trans (K.out.mono k.out.size)⟩
 ·have Z:Hid (r=true):=by unfold Hid;rw [HR.out,decide_eq_true (show d≠m from A),Bool.true_or]
  have ad:(d != m)=true:=by simp [A]
  have an:decide (d=m)=false:=decide_eq_false A;clear A;refine ax (JH M s d m) (fun _ W=>Below o.heap.size o W) (fun _ w w'=>w.grownBy w' none) Hc Hc (fun i j v w w' _ _ h hs=>by unfold JH at *;exact h) y ?_;clear y;simp only [cf];refine ⟨?_,?_,?_,?_,?_,?_,?_,?_,?_,?_,?_,?_,?_,?_,?_,?_⟩
  ·refine aa.of rfl fun T W L hag c hJ a hd=>?_;have e3:=Hf hag 3;exact Hi
  ·refine aa.of rfl fun T W L hag c hJ a hd=>?_;have d5:T.getD 5 undef=_:=Hg hd 0 rfl;have l:=(H.out W hJ).cells.1;exact Hi
  ·refine aa.of rfl fun T W L hag c hJ a hd=>?_;have e0:=Hf hag 0;exact Hi
  ·refine aa.of rfl fun T W L hag c hJ a hd=>?_;have d7:T.getD 7 undef=_:=Hg hd 2 rfl;exact Hi
  ·refine aa.of rfl fun T W L hag c hJ a hd=>?_;have d8:T.getD 8 undef=_:=Hg hd 3 rfl;exact Hi
  ·refine aa.of rfl fun T W L hag c hJ a hd=>?_;have d9:T.getD 9 undef=_:=Hg hd 4 rfl;have l:=(X.out W hJ).c0;exact Hi
  ·refine aa.of rfl fun T W L hag c hJ a hd=>?_;have d6:T.getD 6 undef=_:=Hg hd 1 rfl;have a0:T.getD 10 undef=_:=Hg hd 5 rfl;exact Hi
  ·refine aa.of rfl fun T W L hag c hJ a hd=>?_;have a1:T.getD 11 undef=_:=Hg hd 6 rfl;exact Hi
  ·exact aa.skip rfl rfl rfl Hc (fun v w x=>x) (fun W=>trivial) (fun L W hJ=>hJ)
  ·exact aa.skip rfl rfl rfl Hc (fun v w x=>x) (fun W=>trivial) (fun L W hJ=>hJ)
  ·exact aa.skip rfl rfl rfl Hc (fun v w x=>x) (fun W=>trivial) (fun L W hJ=>hJ)
  ·exact aa.skip rfl rfl rfl Hc (fun v w x=>x) (fun W=>trivial) (fun L W hJ=>hJ)
  ·exact aa.skip rfl rfl rfl Hc (fun v w x=>x) (fun W=>trivial) (fun L W hJ=>hJ)
  ·exact aa.skip rfl rfl rfl Hc (fun v w x=>x) (fun W=>trivial) (fun L W hJ=>hJ)
  ·refine aa.of rfl fun T W L hag c hJ a hd=>?_;have a2:T.getD 12 undef=_:=Hg hd 7 rfl;have a9:=Hg hd 13 rfl;exact Hi
  ·refine bm.of rfl fun T W L hag a c hJ hd=>?_;have u:T.getD 19 undef=_:=hd 14 _ Hb rfl;obtain ⟨f,S,U⟩:=aJ hag;have I:=(S 19).trans u;have HJ:=He hJ;clear hag hd u hJ S;rw [U];clear U;simp only [List.pop_toArray,List.dropLast_cons_cons,List.dropLast_singleton,List.filterMap_cons,List.filterMap_nil,List.foldl_cons,List.foldl_nil,List.setIfInBounds_toArray,List.set_cons_succ,List.set_cons_zero,I];have K:=He HJ.out;go_wp2_with fail
   go_ret;exact ⟨aj Z.out.symm,k.out.trans (K.out.mono k.out.size)⟩
section
variable {w W W':World} {a b:Bool} {e:Nd} {p:Value}
end
section
variable {w W W':World} {g n cap p:Nat} {b:List Bk} {v v':Value} {tk:List Int} {nd:Nd}
end
theorem lQ.ne {w:World} {B s g n cap:Nat} {b:List Bk} {A:Array Value} {c:Nat × Nat} (d:w.heap[s]?=some (.cells A 58 c)) (e:cE w B g n cap b):s≠g:=by
 rintro rfl;obtain ⟨_,a,_⟩:=iG e.own;rw [d] at a;injection a with a
 injection a with _ f _
 exact absurd f Hd
theorem lQ.put {w W:World} {B s g n cap f a:Nat} {m:Int} {b o:List Bk} (h:lQ w B s g n cap m b) (q:Below w.heap.size w W) (i:cE W B f n a o):lQ (W.setCell ⟨s,1,none⟩ (.slice (some ⟨f,0,none⟩) n a)) B s f n a m o/\w.grownBy (W.setCell ⟨s,1,none⟩ (.slice (some ⟨f,0,none⟩) n a)) (some s):=by
 have c:=(h.below q).box;have d:=dZ q;refine ⟨⟨?_,i.grown (p:=some s) ⟨rfl,rfl,rfl,Hb,fun k _ j=>heap_setCell_other _ _ _ _ (fun e=>j (by rw [e]))⟩ (by intro e;injection e with e;exact lQ.ne c i e),lQ.ne c i,h.sB⟩,⟨d.os,d.tape,d.output,by simpa using d.size,fun k j l=>?_⟩⟩
 ·exact ai c _
 ·rw [heap_setCell_other _ _ _ _ (fun e=>l (by rw [e]))];exact d.block k j Hb
theorem lQ.same {w W:World} {B s g n cap:Nat} {c:Int} {b:List Bk} (h:lQ w B s g n cap c b) (d:Below w.heap.size w W):lQ W B s g n cap c b/\w.grownBy W (some s):=by
 have a:=dZ d;exact ⟨h.below d,a.os,a.tape,a.output,a.size,fun k e _=>a.block k e Hb⟩
theorem AH {o:Oper} {ac:Act} {w:World} {Q:Exit->Act->World->Prop} {K:Act->World->Prop} (x y z u:Operand) (b:o.op=.build 168 #[(0,x),(1,y),(2,z),(3,u)]) (l a g:Int) (t:List Int) (p n:Int)
 (c:ac.eval x=jO l a g) (d:ac.eval y=.string (strOfNums t)) (e:ac.eval z=.int .i64 p) (f:ac.eval u=.int .u32 n) (h:K (ac.put o.dst (.agg (dL ⟨l,a,g,t,p,n⟩))) w):o.wp Tryz.prog ac w K Q:=by
 unfold Oper.wp execOp;have i:=run_build (P:=Tryz.prog) w 168 #[(0,jO l a g),(1,.string (strOfNums t)),(2,.int .i64 p),(3,.int .u32 n)] _ (Bx l a g t p n);simp only [b,List.map_toArray,List.map_cons,List.map_nil,Sem.run_bind,c,d,e,f,i,Result.andThen_ok];exact h
section
variable {ops:Array Oper} {rest:List Oper} {o:Oper} {a:Act} {w:World} {K:Act->World->Prop} {Q:Exit->Act->World->Prop}
end
end Go.Proofs.YtegjelaejbacnaaGreat
