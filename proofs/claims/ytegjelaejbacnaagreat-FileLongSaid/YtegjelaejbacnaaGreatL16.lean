/- For FileLong: contracts and facts, part 16. -/
import Derived.BigRegion
import Derived.Test.YtegjelaejbacnaaGreatL02
import Derived.Test.YtegjelaejbacnaaGreatL13
import Derived.Test.YtegjelaejbacnaaGreatL14
import Derived.Test.YtegjelaejbacnaaGreatL15
set_option maxRecDepth 100000
set_option maxHeartbeats 25600000
set_option linter.unusedVariables false
open Go.ChangeShapes Go.WideShapes Go.ChangeAt Go.RowKit Go.Deep
namespace Go.Proofs.YtegjelaejbacnaaGreat
def pcM (o n:Int):List Pc:=if 0<=o/\0<=n/\n<=1120-o then pL o.toNat (o+n).toNat else []
theorem om (w:World) (E:TypeId) (B:Nat):w.ownsRow B E 3 (.slice none 0 0) 0 (rowL encP []):=⟨rfl,.inl ⟨rfl,rfl⟩⟩
theorem nk (o n:Int) (w:World) (ho : -9223372036854775808<=o/\o<=9223372036854775807) (hn : -9223372036854775808<=n/\n<=9223372036854775807):Calls Tryz.prog 72 #[.int .i64 o,.int .i64 n] w fun e w' =>
 ∃ v,e=.returned v/\w'.ownsRow w.heap.size 152 3 v (pcM o n).length (rowL encP (pcM o n))/\Below w.heap.size w w':=by
 by_cases h1:o<0
 ·have c:pcM o n=[]:=by unfold pcM;rw [if_neg Ha]
  rw [c];have g:=om w 152 w.heap.size;clear c;go_enter Tryz.func72,Tryz.ntmps72;go_wp2;go_ret;exact ⟨_,rfl,g,Below.refl _ _⟩
 by_cases h2:n<0
 ·have c:pcM o n=[]:=by unfold pcM;rw [if_neg Ha]
  rw [c];have g:=om w 152 w.heap.size;clear c;go_enter Tryz.func72,Tryz.ntmps72;go_wp2;go_ret;exact ⟨_,rfl,g,Below.refl _ _⟩
 have e1:IntKind.i64.wrap (1120-o)=1120-o:=IntWalk.i64_in _ Ha;by_cases h3:n > 1120-o
 ·have c:pcM o n=[]:=by unfold pcM;rw [if_neg Ha]
  rw [c];have g:=om w 152 w.heap.size;clear c;go_enter Tryz.func72,Tryz.ntmps72;go_wp2;go_ret;exact ⟨_,rfl,g,Below.refl _ _⟩
 obtain ⟨x,rfl⟩:∃ x:Nat,o=x:=⟨o.toNat,Ha⟩
 obtain ⟨y,hy⟩:∃ y:Nat,(x:Int)+n=y:=⟨((x:Int)+n).toNat,Ha⟩
 have c:pcM x n=pL x y:=by unfold pcM;rw [if_pos Ha,hy];rfl
 rw [c];have I:x<=y:=Ha;have h:y<=1120:=Ha;have e2:IntKind.i64.wrap ((x:Int)+n)=y:=by rw [hy];exact IntWalk.i64_in _ Ha
 have HR:=He (fun W=>CX x y W);have g:Hid (w.ownsRow w.heap.size 152 3 (.slice none 0 0) ([]:List Pc).length (rowL encP [])):=om w _ _;clear c hy;go_enter Tryz.func72,Tryz.ntmps72;go_wp2_with fail
 refine (HR.out _).mono ?_;rintro e w' ⟨rfl,rfl⟩;clear HR h1 h2 h3 e1 e2;go_wp2_with fail
 go_loopw [5,6,26] (fun v z i wr=>∃ k:Nat,∃ l:List Pc,k<=20/\i=.int .i64 k/\(∃ a b:Int,z=o8 a b/\Hid (a=(x:Int)-56*k)/\Hid (b=(y:Int)-56*k))/\Hid (l=(pL x y).take (k-x/56))/\Hid (wr.ownsRow w.heap.size 152 3 v l.length (rowL encP l))/\Hid (Below w.heap.size w wr)) (fun _ _ i _=>(20-intOf i).toNat)
 case atStart=>exact ⟨0,[],Ha,rfl,⟨_,_,rfl,by unfold Hid;omega,by unfold Hid;omega⟩,(by unfold Hid;rw [Nat.zero_sub];rfl),g,Below.refl _ _⟩
 case round =>
  obtain ⟨k,l,hk,rfl,⟨a,b,rfl,j,HB⟩,K,Y,Z⟩:=hrel;clear g;have a1:x/56<=20:=Ha;have r:(-1150<=a/\a<=1150)/\(-1150<=b/\b<=1150):=by
   have h1:=j.out;have h2:=HB.out;unfold Hid at *;omega
  by_cases a2:k<20
  ·have H1:=He (fun W=>Ip a b Ha Ha W);have HN:=He (fun W=>zU a b Ha Ha W);have L:=He (show a-56=(x:Int)-56*(k+1:Nat) by have:=j.out;unfold Hid at *;omega);have M:=He (show b-56=(y:Int)-56*(k+1:Nat) by have:=HB.out;unfold Hid at *;omega);by_cases s:(if a<0 then 0 else a)<(if b<56 then b else 56)
   ·obtain ⟨p,q,hp,hq,d,N⟩:=Iq x y k a b I h j.out HB.out s;have H:=He (fun W=>xY (p:Int) (q:Int) Ha (by split at hq <;> omega) W);have H3:=He (fun W=>xZ k (p:Int) (q:Int) Ha (by split at hq <;> omega) W);rw [hp,hq] at s H1;rw [decide_eq_true s] at H;rw [<- K.out] at d N;have t:=He d;have O:Hid (l.length<=20):=by unfold Hid;omega
    clear hp hq s d N j HB r;go_wp2_with fail
    refine (H1.out _).mono ?_;rintro e w' ⟨rfl,rfl⟩;go_wp2_with fail
    refine (H.out _).mono ?_;rintro e w' ⟨rfl,rfl⟩;go_wp2_with fail
    refine (H3.out _).mono ?_;rintro e R ⟨rfl,u⟩;have S:=He (ic Y.out u);have T:=He (aR Z.out u);have A:=He (aM (w:=R) (.cells (jt k p q) 152));have f:=He (ic S.out A.out);have B:=He (aR T.out A.out);have U:=He (heap_alloc_new R (.cells (jt k p q) 152));have V:Hid (w.heap.size<=(R.alloc (.cells (jt k p q) 152)).heap.size):=B.out.size;clear u Y Z S T A H1 H H3 K;obtain ⟨m,C⟩:∃ m,m=l.length:=⟨_,rfl⟩
    rw [<- C] at f O;have ad:=He C.symm;clear C;go_wp2_with (first
     | (refine ya rfl (.tmp 36) rfl k p q rfl ?_)
     | (at_builtin
        go_loud (refine yb (R.alloc (.cells (jt k p q) 152)) rfl (.tmp 33) (.tmp 37) rfl w.heap.size u5 m l rfl f.out R.heap.size 1 (k,p,q) rfl U.out (by have:=O.out;omega) V.out ?_)
        intro v4 w4 h4 X;have an:=He h4;have a0:=He (JO B.out f.out X);clear h4 X f B U V))
    refine (HN.out _).mono ?_;rintro e w' ⟨rfl,rfl⟩;go_wp2_with fail
    go_roundw
    case rel =>
     refine ⟨k+1,l++[(k,p,q)],Ha,by go_num,⟨_,_,rfl,L.out,M.out⟩,t.out.symm,?_,a0.out⟩;unfold Hid;rw [List.length_append,List.length_singleton,ad.out];exact an.out
    case measure=>simp [intOf];omega
   ·have H:=He (fun W=>xY (if a<0 then 0 else a) (if b<56 then b else 56) (by split <;> omega) (by split <;> omega) W);have d:=Ir x y k a b I h j.out HB.out s;rw [decide_eq_false s] at H;rw [<- K.out] at d;have t:=He d;clear d s j HB r;generalize (if a<0 then 0 else a)=p at *;generalize (if b<56 then b else 56)=q at *;go_wp2_with fail
    refine (H1.out _).mono ?_;rintro e w' ⟨rfl,rfl⟩;go_wp2_with fail
    refine (H.out _).mono ?_;rintro e w' ⟨rfl,rfl⟩;go_wp2_with fail
    refine (HN.out _).mono ?_;rintro e w' ⟨rfl,rfl⟩;go_wp2_with fail
    go_roundw
    case rel=>exact ⟨k+1,l,Ha,by go_num,⟨_,_,rfl,L.out,M.out⟩,t.out.symm,Y.out,Z.out⟩
    case measure=>simp [intOf];omega
  ·obtain rfl:k=20:=Ha;have d:=K.out;unfold Hid at d;rw [Ki x y h] at d;subst d;clear j HB r K;go_wp2_with fail
   go_ret;exact ⟨_,rfl,Y.out,Z.out⟩
def E6 (k:Int):Int:=if k<0\/20<=k then 0 else if k<4 then k else -1
def E7 (k:Int):Int:=if k<0\/20<=k then 0 else if k<4 then -1 else k-4
def CZ (k:Int):Value:=.tuple #[.int .i64 (E6 k),.int .i64 (E7 k),.bool (decide (0<=k/\k<20))]
theorem C1 (k:Int) (w:World) (g : -9223372036854775808<=k/\k<=9223372036854775807):Calls Tryz.prog 138 #[.int .i64 k] w fun e w'=>e=.returned (CZ k)/\w=w':=by
 by_cases d:k<0
 ·have e:CZ k=.tuple #[.int .i64 0,.int .i64 0,.bool false]:=by
   unfold CZ E6 E7;rw [if_pos (Or.inl d),if_pos (Or.inl d),decide_eq_false Ha]
  rw [e];clear e;go_enter Tryz.func138,Tryz.ntmps138;go_wp2_with fail
  go_ret3
  exact ⟨rfl,rfl⟩
 by_cases f:20<=k
 ·have e:CZ k=.tuple #[.int .i64 0,.int .i64 0,.bool false]:=by
   unfold CZ E6 E7;rw [if_pos (Or.inr f),if_pos (Or.inr f),decide_eq_false Ha]
  rw [e];clear e;go_enter Tryz.func138,Tryz.ntmps138;go_wp2_with fail
  go_ret3
  exact ⟨rfl,rfl⟩
 by_cases a:k<4
 ·have e:CZ k=.tuple #[.int .i64 k,.int .i64 (-1),.bool true]:=by
   have b:E6 k=k:=by unfold E6;rw [if_neg Ha,if_pos a]
   have c:E7 k = -1:=by unfold E7;rw [if_neg Ha,if_pos a]
   unfold CZ;rw [b,c,decide_eq_true Ha]
  rw [e];clear e;go_enter Tryz.func138,Tryz.ntmps138;go_wp2_with fail
  go_ret3
  exact ⟨rfl,rfl⟩
 ·have e:CZ k=.tuple #[.int .i64 (-1),.int .i64 (k-4),.bool true]:=by
   have b:E6 k = -1:=by unfold E6;rw [if_neg Ha,if_neg a]
   have c:E7 k=k-4:=by unfold E7;rw [if_neg Ha,if_neg a]
   unfold CZ;rw [b,c,decide_eq_true Ha]
  rw [e];have h:IntKind.i64.wrap (k-4)=k-4:=IntWalk.i64_in _ Ha;clear e;go_enter Tryz.func138,Tryz.ntmps138;go_wp2_with fail
  go_ret3
  exact ⟨rfl,rfl⟩
theorem yc (a:Nat) (b:a<18446744073709551616):(BitVec.ofInt 64 (a:Int)).toNat=a:=by
 rw [BitVec.ofInt_natCast,BitVec.toNat_ofNat];exact Nat.mod_eq_of_lt Ha
theorem Kj (a y:Nat) (d:a<16777216) (e:y<256):bits .or .i64 ((a:Int)*256) (y:Int)=((a*256+y:Nat):Int):=by
 rw [show (a:Int)*256=((a*256:Nat):Int) by omega];show IntKind.i64.wrap ((BitVec.ofInt 64 ((a*256:Nat):Int) ||| BitVec.ofInt 64 ((y:Nat):Int)).toNat:Int)=_;have c:=Nat.two_pow_add_eq_or_of_lt (i:=8) (b:=y) Ha a;rw [show (2 ^ 8*a:Nat)=a*256 by omega] at c;rw [BitVec.toNat_or,yc _ Ha,yc _ Ha,<- c];exact IntWalk.i64_in _ Ha
theorem s8 (a b:Nat) (ha:a<256) (hb:b<256) (g o n c:Nat) (w:World) (hn:2<=n) (h1:w.cell? ⟨g,o,none⟩=some (.int .u8 a)) (h2:w.cell? ⟨g,o+1,none⟩=some (.int .u8 b)) :
 Calls Tryz.prog 172 #[.slice (some ⟨g,o,none⟩) n c] w fun e w'=>e=.returned (.int .i64 ((a*256+b:Nat)-1))/\Below w.heap.size w w':=by
 have k1:∀ q,(w.drewN q).cell? ⟨g,o,none⟩=some (.int .u8 a):=fun _=>h1;have k2:∀ q,(w.drewN q).cell? ⟨g,o+1,none⟩=some (.int .u8 b):=fun _=>h2;have e1:IntKind.i64.wrap (a:Int)=a:=IntWalk.i64_in _ Ha;have e2:IntKind.i64.wrap (b:Int)=b:=IntWalk.i64_in _ Ha;have e3:IntKind.i64.wrap ((a:Int)*256)=(a:Int)*256:=IntWalk.i64_in _ Ha;have e4:=Kj a b Ha hb;have e5:IntKind.i64.wrap (((a*256+b:Nat):Int) + -1)=((a*256+b:Nat):Int)-1:=IntWalk.i64_in _ Ha;have n0:(0:Nat)<n:=Ha;have n1:(1:Nat)<n:=Ha;have HB:=He (fun q=>DK (Below.refl w.heap.size w) q);generalize a*256+b=m at *;clear h1 h2;go_enter Tryz.func172,Tryz.ntmps172;go_upto_region 1 with fail
 go_quiet (fail)
 rename_i nq;have HB2:=He (HB.out nq);generalize w.drewN nq=W at *;go_wp2_with fail
 go_ret;exact ⟨rfl,HB2.out⟩
theorem vK (x:Int) (a : -1<=x/\x<200) (g o n c:Nat) (u v:Value) (w:World) (b:2<=n) (d:w.cell? ⟨g,o,none⟩=some u) (f:w.cell? ⟨g,o+1,none⟩=some v) (h:∀ i,w.frozen? ⟨g,i,none⟩=false) :
 Calls Tryz.prog 176 #[.slice (some ⟨g,o,none⟩) n c,.int .i64 x] w fun e w'=>e=.returned (.tuple #[])/\w'=(w.setCell ⟨g,o,none⟩ (.int .u8 0)).setCell ⟨g,o+1,none⟩ (.int .u8 (x+1)):=by
 have j:(x+1)/256=0:=Ha;go_enter Tryz.func176,Tryz.ntmps176;go_wp2_with fail
 go_end0
 exact ⟨rfl,rfl⟩
def uo (l:List Int) (j:Nat) (x:Int):Bool:=x == -1||(decide (1<=x)&&decide (x<200)&&!(l.take j).contains x)
def yZ (l:List Int):Nat->Bool
 | 0=>true
 | j+1=>yZ l j&&(match l[j]? with | some x=>uo l j x | none=>true)
def mayB (l:List Int):Bool:=decide (l.length=16)&&yZ l 16
theorem no {l:List Int} {j:Nat} {x:Int} (h:l[j]?=some x):yZ l (j+1)=(yZ l j&&uo l j x):=by
 show (yZ l j&&(match l[j]? with | some x=>uo l j x | none=>true))=_;rw [h]
theorem rP {l:List Int}:∀ {m k:Nat},k<=m->yZ l m=true->yZ l k=true
 | 0,k,h,a=>by rw [show k=0 by omega];rfl
 | m+1,k,h,a=>by
   by_cases e:k=m+1
   ·rw [e];exact a
   ·exact rP (show k<=m by omega) (by
     have b:(yZ l m&&(match l[m]? with | some x=>uo l m x | none=>true))=true:=a;rw [Bool.and_eq_true] at b;exact b.1)
theorem oo {l:List Int} {j:Nat} {x:Int} (hj:j<16) (h:l[j]?=some x) (a:uo l j x=false):mayB l=false:=by
 unfold mayB;cases b:yZ l 16
 ·simp
 ·have:=rP (show j+1<=16 by omega) b;rw [no h,a] at this;simp at this
def NM (l:List Int) (j:Nat):List Value:=(List.range 200).map fun (k:Nat)=>Value.bool ((l.take j).contains (k:Int))
theorem vL (l:List Int):NM l 0=List.replicate 200 (.bool false):=by
 unfold NM;simp only [List.take_zero,List.contains_nil];rw [List.map_const',List.length_range]
theorem E8 {l:List Int} {j k:Nat} (a:k<200):(NM l j)[k]?=some (.bool ((l.take j).contains (k:Int))):=by
 unfold NM;rw [List.getElem?_map,List.getElem?_range a];rfl
theorem It {l:List Int} {j:Nat} {x:Int} (h:l[j]?=some x) (a:x = -1):NM l (j+1)=NM l j:=by
 unfold NM;refine List.map_congr_left fun k _=>?_;rw [aw h,a];simp
theorem Kk {l:List Int} {j k:Nat} (h:l[j]?=some (k:Int)) (b:k<200):(NM l j).set k (.bool true)=NM l (j+1):=by
 apply List.ext_getElem?;intro i;by_cases a:i<200
 ·rw [E8 a,aw h,List.getElem?_set];by_cases e:k=i
  ·subst e;rw [if_pos rfl,if_pos (by unfold NM;simp;exact b)];simp
  ·rw [if_neg e,E8 a];simp;intro c;omega
 ·rw [List.getElem?_eq_none (by unfold NM;simp;omega),List.getElem?_eq_none (by unfold NM;simp;omega)]
theorem Kl:(Tryz.prog.info? 195).map (fun i=>(i.zero,i.size))=some (some (.agg (List.replicate 200 (Value.bool false)).toArray),200):=Hc
theorem qh {ops:Array Oper} {rest:List Oper} {o:Oper} {a:Act} {w:World} {Q:Exit->Act->World->Prop} (c:o.guard=none) (e:o.op=.alloc 195)
 (h:wpList Tryz.prog ops Q rest (a.put o.dst (.pointer (some ⟨w.heap.size,0,none⟩))) (w.alloc (.cells (NM [] 0).toArray 195))):wpList Tryz.prog ops Q (o :: rest) a w:=by
 have b:=Kl;cases d:Tryz.prog.info? 195 with
 | none=>rw [d] at b;cases b
 | some i =>
   rw [d] at b;injection b with b;injection b with f j
   rw [vL] at h;exact wpList_plain c fun _ g=>ce 195 e i _ d f (g _ _ h)
theorem C2 (A:Option Addr) (l:List Int) (n d:Nat) (w:World) (y:l.length=n) (z:jF w A l) :
 Calls Tryz.prog 175 #[.slice A n d] w fun e w'=>e=.returned (.bool (mayB l))/\Below w.heap.size w w':=by
 by_cases t:n=16
 ·subst t;have B:=He y;have K:=He z;have q:=He (aM (w:=w) (.cells (NM [] 0).toArray 195));have r:Hid ((w.alloc (.cells (NM [] 0).toArray 195)).heap[w.heap.size]?=some (.cells (NM l 0).toArray 195 (0,0))):=by
   rw [show NM l 0=NM [] 0 by rw [vL,vL]];exact heap_alloc_new _ _
  clear y z;go_enter Tryz.func175,Tryz.ntmps175;go_upto_region 4 with (refine qh rfl rfl ?_)
  generalize w.alloc (.cells (NM [] 0).toArray 195)=W at *;go_wp2_with fail
  go_loopw [11] (fun i wr=>∃ j:Nat,j<=16/\i=.int .i64 j/\Hid (yZ l j=true)/\Hid (wr.heap[w.heap.size]?=some (.cells (NM l j).toArray 195 (0,0)))/\Hid (Below w.heap.size w wr)) (fun i _=>(16-intOf i).toNat)
  case atStart=>exact ⟨0,Ha,rfl,rfl,r,q⟩
  case round =>
   obtain ⟨j,hj,rfl,u,s,HB⟩:=hrel;clear r q;by_cases f:j<16
   ·obtain ⟨x,b⟩:∃ x,l[j]?=some x:=⟨_,List.getElem?_eq_getElem (by rw [B.out];exact f)⟩
    obtain ⟨N,rfl,C⟩:=K.out j x b;have L:=cO HB.out C;clear C;by_cases o:x = -1
    ·have g:Hid (yZ l (j+1)=true):=by unfold Hid;rw [no b,u.out];unfold uo;simp [o]
     have h:Hid (wr.heap[w.heap.size]?=some (.cells (NM l (j+1)).toArray 195 (0,0))):=by rw [It b o];exact s
     subst o;clear b;go_wp2_with fail
     go_roundw
     case rel=>exact ⟨j+1,Ha,by go_num,g.out,h.out,HB.out⟩
     case measure=>simp [intOf];omega
    ·by_cases O:x<1
     ·have c:=oo f b (by unfold uo;simp [o];omega);have m:=He c;clear c b;go_wp2_with fail
      go_ret;exact ⟨by rw [m.out];rfl,HB.out⟩
     by_cases R:200<=x
     ·have c:=oo f b (by unfold uo;simp [o];omega);have m:=He c;clear c b;go_wp2_with fail
      go_ret;exact ⟨by rw [m.out];rfl,HB.out⟩
     obtain ⟨k,rfl⟩:∃ k:Nat,x=k:=⟨x.toNat,Ha⟩
     have H:k<200:=Ha;have I:wr.cell? ⟨w.heap.size,k,none⟩=some (.bool ((l.take j).contains (k:Int))):=by
      rw [af s.out,List.getElem?_toArray];exact E8 H
     have S:wr.frozen? ⟨w.heap.size,k,none⟩=false:=aA s.out _;cases a:(l.take j).contains (k:Int)
     ·have g:Hid (yZ l (j+1)=true):=by unfold Hid;rw [no b,u.out];unfold uo;rw [a];simp;omega
      have h:Hid ((wr.setCell ⟨w.heap.size,k,none⟩ (.bool true)).heap[w.heap.size]?=some (.cells (NM l (j+1)).toArray 195 (0,0))):=by
       unfold Hid;rw [ai s.out,List.setIfInBounds_toArray,Kk b H]
      have v:=He (HB.out.setCell (p:=⟨w.heap.size,k,none⟩) (Nat.le_refl _) (.bool true));rw [a] at I;clear a b;go_wp2_with fail
      go_roundw
      case rel=>exact ⟨j+1,Ha,by go_num,g.out,h.out,v.out⟩
      case measure=>simp [intOf];omega
     ·have c:=oo f b (by unfold uo;rw [a];simp [o]);have m:=He c;rw [a] at I;clear c b a;go_wp2_with fail
      go_ret;exact ⟨by rw [m.out];rfl,HB.out⟩
   ·obtain rfl:j=16:=Ha;have c:mayB l=true:=by unfold mayB;rw [u.out,decide_eq_true B.out];rfl
    have m:=He c;clear c;go_wp2_with fail
    go_ret;exact ⟨by rw [m.out];rfl,HB.out⟩
 ·have c:mayB l=false:=by unfold mayB;rw [decide_eq_false Ha];rfl
  have M:¬ ((n:Int)=16):=Ha;rw [c];go_enter Tryz.func175,Tryz.ntmps175;go_wp2;go_ret;exact ⟨rfl,Below.refl _ _⟩
def cD:List Int->List Int
 | []=>[]
 | x :: l=>0 :: (x+1) :: cD l
theorem dR:∀ l:List Int,(cD l).length=l.length*2
 | []=>rfl
 | x :: l=>by simp [cD,dR l];omega
theorem mg:∀ (l:List Int) (x:Int),cD (l++[x])=cD l++[0,x+1]
 | [],x=>rfl
 | y :: l,x=>by simp [cD,mg l x]
theorem Iu {l:List Int} {j:Nat} {x:Int} (h:uo l j x=true) : -1<=x/\x<200:=by
 unfold uo at h;simp at h;omega
theorem yd {l:List Int} (h:mayB l=true) {j:Nat} {x:Int} (a:l[j]?=some x) : -1<=x/\x<200:=by
 unfold mayB at h;rw [Bool.and_eq_true] at h;have c:=of_decide_eq_true h.1;have hj:=(List.getElem?_eq_some_iff.1 a).1;have b:=rP (show j+1<=16 by omega) h.2;rw [no a,Bool.and_eq_true] at b;exact Iu b.2
theorem uq:∀ {l:List Int},(∀ x∈l,-1<=x/\x<200)->ay (cD l)
 | [],_=>fun x a=>by cases a
 | y :: l,h=>fun x a=>by
   have c:=h y Hb;simp only [cD,List.mem_cons] at a;rcases a with rfl | rfl | a
   ·omega
   ·omega
   ·exact uq (fun z b=>h z (by simp [b])) x a
theorem oq {l:List Int} (h:mayB l=true):l.length=16:=by
 unfold mayB at h;rw [Bool.and_eq_true] at h;exact of_decide_eq_true h.1
theorem lC {l:List Int} (h:mayB l=true):∀ x∈l,-1<=x/\x<200:=fun x a=>by
 obtain ⟨j,hj⟩:=List.getElem?_of_mem a;exact yd h hj
def j9 (l:List Int):Int:=if mayB l=true then 5 else 0
def j0 (l:List Int):List Int:=if mayB l=true then bH (cD l) else az
theorem vM (l:List Int):(j0 l).length=56:=by
 unfold j0;split
 ·rename_i h;exact fV (by rw [dR,oq h];omega)
 ·exact ak
theorem rQ (l:List Int):ay (j0 l):=by
 unfold j0;split
 ·rename_i h;exact rA (uq (lC h))
 ·exact fc
def DL (l:List Int):Value:=.tuple #[.agg (ab (j9 l) (j0 l)),.bool (mayB l)]
theorem ur (A:Option Addr) (l:List Int) (n d:Nat) (w:World) (C:l.length=n) (V:jF w A l) :
 Calls Tryz.prog 141 #[.slice A n d] w fun e w'=>e=.returned (DL l)/\Below w.heap.size w w':=by
 have H:=He (fun W h=>C2 A l n d W C h);have X:=He C;have HY:=He V;have k:=He (heap_alloc_new w (.cells (ab 0 az) 37));have o:=He (aM (w:=w) (.cells (ab 0 az) 37));have I:=He (V.alloc (.cells (ab 0 az) 37));cases f:mayB l
 ·have K:DL l=.tuple #[.agg (ab 0 az),.bool false]:=by
   have Y:j9 l=0:=by unfold j9;rw [if_neg (by rw [f];simp)]
   have Z:j0 l=az:=by unfold j0;rw [if_neg (by rw [f];simp)]
   unfold DL;rw [Y,Z,f]
  rw [K];rw [f] at H;clear K f C V;go_enter Tryz.func141,Tryz.ntmps141;go_upto_region 1 with (refine aq rfl rfl ?_)
  generalize w.alloc (.cells (ab 0 az) 37)=W at *;go_wp2_with fail
  refine (H.out _ I.out).mono ?_;rintro e g ⟨rfl,b⟩;have a:=He (kb b k.out);have c:=He (aR o.out b);clear b k o;go_wp2_with (first
   | (refine bN rfl rfl ?_)
   | (refine ap rfl (.tmp 2) (.tmp 10) rfl w.heap.size rfl 0 0 az az rfl ak ak a.out ?_))
  refine bodyPost_ret (aY rfl _ _ w.heap.size 0 az rfl ak (am a.out)) rfl ?_;exact ⟨rfl,below_setRow c.out (Nat.le_refl _) _⟩
 ·have Y:j9 l=5:=by unfold j9;rw [if_pos f]
  have Z:j0 l=bH (cD l):=by unfold j0;rw [if_pos f]
  have K:DL l=.tuple #[.agg (ab 5 (bH (cD l))),.bool true]:=by unfold DL;rw [Y,Z,f]
  rw [K];rw [f] at H;have an:=He (fun j x (B:l[j]?=some x)=>yd f B);have s:=oq f;rw [C] at s;subst s;clear K f C V Y Z;go_enter Tryz.func141,Tryz.ntmps141;go_upto_region 1 with (refine aq rfl rfl ?_)
  generalize w.alloc (.cells (ab 0 az) 37)=W at *;go_wp2_with fail
  refine (H.out _ I.out).mono ?_;rintro e g ⟨rfl,b⟩;have a:=He (kb b k.out);have c:=He (aR o.out b);have t:w.heap.size<g.heap.size:=ah a.out;clear b k o H;have h3:=heap_alloc_new g (.cells (ab 0 az) 37);have L:Hid (((g.alloc (.cells (ab 0 az) 37)).setRow g.heap.size (ab 5 az)).heap[w.heap.size]?=some (.cells (ab 0 az) 37 (0,0))):=by
   unfold Hid;rw [setRow_other _ _ _ _ Ha];exact kb (aM _) a.out
  have M:Hid (((g.alloc (.cells (ab 0 az) 37)).setRow g.heap.size (ab 5 az)).heap[g.heap.size]?=some (.cells (ab 5 (bH [])) 37 (0,0))):=am h3;have N:=He (below_setRow (aR c.out (aM (.cells (ab 0 az) 37))) (Nat.le_of_lt t) (ab 5 az));go_upto_region 4 with (first
   | (refine aq rfl rfl ?_)
   | (refine jl rfl (.const (.int .i64 5)) 5 rfl rfl ?_)
   | (refine ap rfl (.tmp 4) (.tmp 11) rfl g.heap.size rfl 5 0 az az rfl ak ak h3 ?_))
  clear h3 a c;generalize (g.alloc (.cells (ab 0 az) 37)).setRow g.heap.size (ab 5 az)=w3 at *;generalize g.heap.size=r at *;go_wp2_with fail
  go_loopw [14] (fun i wr=>∃ j:Nat,j<=16/\i=.int .i64 j/\Hid (wr.heap[r]?=some (.cells (ab 5 (bH (cD (l.take j)))) 37 (0,0)))/\Hid (wr.heap[w.heap.size]?=some (.cells (ab 0 az) 37 (0,0)))/\Hid (Below w.heap.size w wr)) (fun i _=>(16-intOf i).toNat)
  case atStart=>exact ⟨0,Ha,rfl,by rw [List.take_zero];exact M,L,N⟩
  case round =>
   obtain ⟨j,hj,rfl,O,HR,HB⟩:=hrel;clear M L N;by_cases a0:j<16
   ·obtain ⟨x,B⟩:∃ x,l[j]?=some x:=⟨_,List.getElem?_eq_getElem (by rw [X.out];exact a0)⟩
    obtain ⟨ad,rfl,hc⟩:=HY.out j x B;have a3:=cO HB.out hc;have R:=an.out j x B;have q:(cD (l.take j)).length=j*2:=by rw [dR,List.length_take,X.out,Nat.min_eq_left Ha]
    have a4:∀ W,(Instr.sliceAt 35 (.pointer (some ⟨r,1,none⟩)) (some (.int .i64 ((j:Int)*2))) none none).run Tryz.prog W=.ok (.slice (some ⟨r,1+j*2,none⟩) (56-j*2) (56-j*2)) W:=fun W=>by
     have h:=jZ r (m:=j*2) Ha W
     rwa [Int.natCast_mul] at h
    have hp1:=qt (ys:=cD (l.take j)) (y:=0) Ha;have hp2:=qt (ys:=cD (l.take j)++[0]) (y:=x+1) (by rw [List.length_append,q];simp;omega);rw [q] at hp1;rw [List.length_append,q,List.length_singleton,List.append_assoc] at hp2;have S:cD (l.take (j+1))=cD (l.take j)++([0]++[x+1]):=by rw [aw B,mg];rfl
    have v:=ai (i:=1+j*2) O.out (.int .u8 0);rw [lV,hp1] at v;have z:=ai (i:=1+j*2+1) v (.int .u8 (x+1));rw [Nat.add_assoc,lV,hp2,<- S] at z;have a1:=He z;have a:Hid (((wr.setCell ⟨r,1+j*2,none⟩ (.int .u8 0)).setCell ⟨r,1+(j*2+1),none⟩ (.int .u8 (x+1))).heap[w.heap.size]?=some (.cells (ab 0 az) 37 (0,0))):=by
     unfold Hid;rw [heap_setCell_other _ _ _ _ (show w.heap.size≠r by omega),heap_setCell_other _ _ _ _ (show w.heap.size≠r by omega)];exact HR.out
    have c:=He ((HB.out.setCell (p:=⟨r,1+j*2,none⟩) (Nat.le_of_lt t) (.int .u8 0)).setCell (p:=⟨r,1+(j*2+1),none⟩) (Nat.le_of_lt t) (.int .u8 (x+1)));have cx:∀ i,i<56->∃ u,wr.cell? ⟨r,1+i,none⟩=some u:=fun i hi=>by
     have hp:=fV (ys:=cD (l.take j)) Ha;exact ⟨_,(af O.out _).trans (Array.getElem?_eq_getElem (by rw [aP hp];omega))⟩
    obtain ⟨u1,T⟩:=cx (j*2) Ha;obtain ⟨u2,U⟩:=cx (j*2+1) Ha;have a2:=He (vK x R r (1+j*2) (56-j*2) (56-j*2) u1 u2 wr Ha T (by rw [Nat.add_assoc];exact U) (fun i=>aA O.out i));clear hp1 hp2 S v z cx T U q B hc R;go_wp2_with fail
    refine a2.out.mono ?_;rintro e w4 ⟨rfl,rfl⟩;rw [Nat.add_assoc];generalize (wr.setCell ⟨r,1+j*2,none⟩ (.int .u8 0)).setCell ⟨r,1+(j*2+1),none⟩ (.int .u8 (x+1))=w5 at *;go_wp2_with fail
    go_roundw
    case rel=>exact ⟨j+1,Ha,by go_num,a1.out,a.out,c.out⟩
    case measure=>simp [intOf];omega
   ·obtain rfl:j=16:=Ha;have e:l.take 16=l:=List.take_of_length_le (by rw [X.out];omega);rw [e] at O;have HL:=He (fV (ys:=cD l) (by rw [dR,X.out];omega));clear e;go_wp2_with (first
     | (refine aT rfl (.tmp 4) rfl r rfl 5 (bH (cD l)) HL.out O.out ?_)
     | (refine ap rfl (.tmp 2) (.tmp 26) rfl w.heap.size rfl 5 0 (bH (cD l)) az rfl HL.out ak HR.out ?_))
    refine bodyPost_ret (aY rfl _ _ w.heap.size 5 (bH (cD l)) rfl HL.out (am HR.out)) rfl ?_;exact ⟨rfl,below_setRow HB.out (Nat.le_refl _) _⟩
def Br (bs:List Int) (i:Nat):Int:=bs.getD (i*2) 0*256+bs.getD (i*2+1) 0-1
def dh (bs:List Int):List Int:=(List.range 16).map (Br bs)
def E9 (bs:List Int) (j:Nat):List Int:=(List.range 16).map fun i=>if i<j then Br bs i else 0
theorem dq (bs:List Int):(dh bs).length=16:=by unfold dh;simp
theorem np (bs:List Int) (j:Nat):(E9 bs j).length=16:=by unfold E9;simp
theorem Fa (bs:List Int) {i:Nat} (h:i<16):(dh bs)[i]?=some (Br bs i):=by
 unfold dh;rw [List.getElem?_map,List.getElem?_range h];rfl
theorem zY (bs:List Int) (j:Nat) {i:Nat} (h:i<16):(E9 bs j)[i]?=some (if i<j then Br bs i else 0):=by
 unfold E9;rw [List.getElem?_map,List.getElem?_range h];rfl
def K5:List Int:=List.replicate 16 0
theorem Iv (bs:List Int):E9 bs 16=dh bs:=by
 unfold E9 dh;refine List.map_congr_left fun i a=>?_;rw [if_pos (List.mem_range.1 a)]
theorem Iw (bs:List Int) {j:Nat} (h:j<16):(E9 bs j).set j (Br bs j)=E9 bs (j+1):=by
 apply List.ext_getElem?;intro i;by_cases a:i<16
 ·rw [zY bs (j+1) a,List.getElem?_set,np];by_cases e:j=i
  ·subst e;rw [if_pos rfl,if_pos h,if_pos Ha]
  ·rw [if_neg e,zY bs j a];by_cases b:i<j
   ·rw [if_pos b,if_pos Ha]
   ·rw [if_neg b,if_neg Ha]
 ·rw [List.getElem?_eq_none (by simp [np];omega),List.getElem?_eq_none (by rw [np];omega)]
theorem Km (L:List Int) (j:Nat) (x:Int):(Is L).toArray.setIfInBounds j (.int .i64 x)=(Is (L.set j x)).toArray:=by
 unfold Is;simp [List.map_set]
def pU (k:Int) (bs:List Int):Bool:=mayB (dh bs)&&decide (k=5/\bH (cD (dh bs))=bs)
def tkL (k:Int) (bs:List Int):List Int:=if pU k bs=true then dh bs else []
theorem Fb:madeCells (Value.int .i64 0).cells 16=(Is K5).toArray:=Hc
theorem s9 {ops:Array Oper} {rest:List Oper} {o:Oper} {a:Act} {w:World} {Q:Exit->Act->World->Prop} (b:o.guard=none) (g:o.op=.makeSlice 33 (.const (.int .i64 16)) (.const (.int .i64 16)))
 (h:wpList Tryz.prog ops Q rest (a.put o.dst (.slice (some ⟨w.heap.size,0,none⟩) 16 16)) (w.alloc (.cells (Is K5).toArray 3))):wpList Tryz.prog ops Q (o :: rest) a w:=by
 obtain ⟨i,j,c,d,e⟩:=info_parts AO;refine wpList_plain b fun _ k=>jT ?_ (k _ _ h);have f:=run_make (P:=Tryz.prog) w 33 3 i _ Tryz.underlying33 j c .i64 .i64 16 16 Ha Ha (by rw [e];decide) Ha;rw [d,show (16:Int).toNat=16 from rfl,Nat.mul_one,Fb] at f;unfold execOp;simp only [g,Act.eval,Sem.run_bind,f,Result.andThen_ok,Sem.run_pure]
theorem vN {W:World} {q:Nat} {L:List Int} (h:W.heap[q]?=some (.cells (Is L).toArray 3 (0,0))):jF W (some ⟨q,0,none⟩) L:=AN h Hb
theorem Kn {W:World} {q B n:Nat} {L:List Int} (b:L.length=n) (c:n<=1000000) (h:W.heap[q]?=some (.cells (Is L).toArray 3 (0,0))) (a:B<=q):W.ownsRow B 3 1 (.slice (some ⟨q,0,none⟩) n n) n (Is L) :=
 ⟨by rw [cy];omega,.inr ⟨q,n,_,rfl,a,h,Nat.le_refl _,by simp only [maxLen];omega,by simp [cy];omega,by simp;rw [List.take_of_length_le (by rw [cy];omega)]⟩⟩
theorem rR (k:Int) (bs:List Int) (w:World) (K:bs.length=56) (hB:ay bs) :
 Calls Tryz.prog 131 #[.agg (ab k bs)] w fun e w'=>∃ v,e=.returned (.tuple #[v,.bool (pU k bs)])/\w'.ownsRow w.heap.size 3 1 v (tkL k bs).length (Is (tkL k bs))/\Below w.heap.size w w':=by
 have n:=He (heap_alloc_new w (.cells (ab k bs) 37));have L:=He (aM (w:=w) (.cells (ab k bs) 37));have f:=He K;have y:=He hB;clear K hB;go_enter Tryz.func131,Tryz.ntmps131;go_upto_region 1 with fail
 generalize w.alloc (.cells (ab k bs) 37)=W at *;have hp:=ah n.out;have M:Hid ((W.alloc (.cells (Is K5).toArray 3)).heap[W.heap.size]?=some (.cells (Is (E9 bs 0)).toArray 3 (0,0))):=heap_alloc_new W _;have N:=He (kb (aM (.cells (Is K5).toArray 3)) n.out);have O:=He (aR L.out (aM (.cells (Is K5).toArray 3)));go_upto_region 2 with (refine s9 rfl rfl ?_)
 clear n L;generalize W.alloc (.cells (Is K5).toArray 3)=W1 at *;generalize W.heap.size=q at *;have hq:w.heap.size<=q:=Nat.le_of_lt hp;go_wp2_with fail
 go_loopw [11] (fun i wr=>∃ j:Nat,j<=16/\i=.int .i64 j/\Hid (wr.heap[q]?=some (.cells (Is (E9 bs j)).toArray 3 (0,0)))/\Hid (wr.heap[w.heap.size]?=some (.cells (ab k bs) 37 (0,0)))/\Hid (Below w.heap.size w wr)) (fun i _=>(16-intOf i).toNat)
 case atStart=>exact ⟨0,Ha,rfl,M,N,O⟩
 case round =>
  obtain ⟨j,hj,rfl,I,n,HB⟩:=hrel;clear M N O;by_cases R:j<16
  ·have a3:∀ W,(Instr.sliceAt 35 (.pointer (some ⟨w.heap.size,1,none⟩)) (some (.int .i64 ((j:Int)*2))) none none).run Tryz.prog W=.ok (.slice (some ⟨w.heap.size,1+j*2,none⟩) (56-j*2) (56-j*2)) W:=fun W=>by
    have h:=jZ w.heap.size (m:=j*2) Ha W
    rwa [Int.natCast_mul] at h
   have bt:∀ i,i<56->∃ a:Nat,a<256/\bs.getD i 0=a/\wr.cell? ⟨w.heap.size,1+i,none⟩=some (.int .u8 a):=fun i hi=>by
    obtain ⟨x,hx⟩:∃ x,bs[i]?=some x:=⟨_,List.getElem?_eq_getElem (by rw [f.out];exact hi)⟩
    have h1:=y.out x (List.mem_of_getElem? hx);refine ⟨x.toNat,Ha,by rw [List.getD,hx];show x=_;omega,?_⟩;rw [af n.out,show ((x.toNat:Nat):Int)=x by omega];show (ab k bs)[1+i]?=_;unfold ab blkL;rw [List.getElem?_toArray,Nat.add_comm,List.getElem?_cons_succ];exact kR hx
   obtain ⟨a,ha,ea,ca⟩:=bt (j*2) Ha;obtain ⟨b,hb,eb,cb⟩:=bt (j*2+1) Ha;have HX:Hid (Br bs j=((a*256+b:Nat):Int)-1):=by unfold Hid Br;rw [ea,eb];omega
   have g:=He (s8 a b ha hb w.heap.size (1+j*2) (56-j*2) (56-j*2) wr Ha ca (by rw [Nat.add_assoc];exact cb));rw [<- HX.out] at g;have S:=He (Iw bs R);generalize Br bs j=x at *;clear bt ea eb ca cb HX;go_wp2_with fail
   refine g.out.mono ?_;rintro e w2 ⟨rfl,o⟩;have r:=He (kb o I.out);have T:=He (kb o n.out);have U:=He (aR HB.out o);have c1:w2.cell? ⟨q,j,none⟩=some (.int .i64 0):=by
    rw [af r.out,List.getElem?_toArray];have h:=zY bs j R;rw [if_neg Ha] at h;exact wI h
   have f1:w2.frozen? ⟨q,j,none⟩=false:=aA r.out _;have ad:Hid ((w2.setCell ⟨q,j,none⟩ (.int .i64 x)).heap[q]?=some (.cells (Is (E9 bs (j+1))).toArray 3 (0,0))):=by
    unfold Hid;rw [ai r.out,Km,S.out]
   have an:Hid ((w2.setCell ⟨q,j,none⟩ (.int .i64 x)).heap[w.heap.size]?=some (.cells (ab k bs) 37 (0,0))):=by
    unfold Hid;rw [heap_setCell_other _ _ _ _ (show w.heap.size≠q by omega)];exact T.out
   have a0:=He (U.out.setCell (p:=⟨q,j,none⟩) (Nat.le_of_lt hp) (.int .i64 x));clear o I n HB r T U;go_wp2_with fail
   go_roundw
   case rel=>exact ⟨j+1,Ha,by go_num,ad.out,an.out,a0.out⟩
   case measure=>simp [intOf];omega
  ·obtain rfl:j=16:=Ha;rw [Iv] at I;have t:=He (fun W h=>ur (some ⟨q,0,none⟩) (dh bs) 16 16 W (dq bs) h);have HY:=He (vN I.out);have H5:=He (dq bs);clear hp;go_wp2_with fail
   refine (t.out _ HY.out).mono ?_;rintro e d ⟨rfl,s⟩;have z:=He (kb s I.out);have A:=He (kb s n.out);have V:=He (aR HB.out s);have a1:=ah A.out;have a4:=ah z.out;clear s I n HB HY t;have l:=He (vM (dh bs));have X:=He (rQ (dh bs));have h6:=heap_alloc_new d (.cells (ab 0 az) 37);have Y:Hid (((d.alloc (.cells (ab 0 az) 37)).setRow d.heap.size (ab (j9 (dh bs)) (j0 (dh bs)))).heap[d.heap.size]?=some (.cells (ab (j9 (dh bs)) (j0 (dh bs))) 37 (0,0))):=am h6;have Z:Hid (((d.alloc (.cells (ab 0 az) 37)).setRow d.heap.size (ab (j9 (dh bs)) (j0 (dh bs)))).heap[w.heap.size]?=some (.cells (ab k bs) 37 (0,0))):=by
    unfold Hid;rw [setRow_other _ _ _ _ Ha];exact kb (aM _) A.out
   have a2:Hid (((d.alloc (.cells (ab 0 az) 37)).setRow d.heap.size (ab (j9 (dh bs)) (j0 (dh bs)))).heap[q]?=some (.cells (Is (dh bs)).toArray 3 (0,0))):=by
    unfold Hid;rw [setRow_other _ _ _ _ Ha];exact kb (aM _) z.out
   have C:=He (below_setRow (aR V.out (aM (.cells (ab 0 az) 37))) (Nat.le_of_lt a1) (ab (j9 (dh bs)) (j0 (dh bs))));unfold DL;go_upto_region 8 with (first
    | (refine aq rfl rfl ?_)
    | (refine ap rfl (.tmp 6) (.tmp 26) rfl d.heap.size rfl (j9 (dh bs)) 0 (j0 (dh bs)) az rfl l.out ak h6 ?_))
   clear h6 z A V;generalize (d.alloc (.cells (ab 0 az) 37)).setRow d.heap.size (ab (j9 (dh bs)) (j0 (dh bs)))=w5 at *;generalize d.heap.size=c at *;cases u:mayB (dh bs)
   ·have g:Hid (pU k bs=false):=by unfold Hid pU;rw [u];rfl
    have HL:Hid (tkL k bs=[]):=by unfold Hid tkL;rw [if_neg (by rw [g.out];simp)]
    clear u;go_wp2_with fail
    go_ret2
    refine ⟨_,by rw [g.out];rfl,?_,C.out⟩;rw [HL.out];exact ⟨rfl,.inl ⟨rfl,rfl⟩⟩
   ·have e1:j9 (dh bs)=5:=by unfold j9;rw [if_pos u]
    have e2:j0 (dh bs)=bH (cD (dh bs)):=by unfold j0;rw [if_pos u]
    by_cases H:5=k/\bH (cD (dh bs))=bs
    ·have g:Hid (pU k bs=true):=by unfold Hid pU;rw [u,decide_eq_true ⟨H.1.symm,H.2⟩];rfl
     have HL:Hid (tkL k bs=dh bs):=by unfold Hid tkL;rw [if_pos g.out]
     have HD:Hid ((!(decide (j9 (dh bs)=k/\j0 (dh bs)=bs)))=false):=by unfold Hid;rw [e1,e2,decide_eq_true H];rfl
     have HO:=He (Kn (B:=w.heap.size) (dq bs) Ha a2.out hq);clear u H e1 e2;go_wp2_with (first
      | (refine aQ Hl (.tmp 6) rfl c rfl (j9 (dh bs)) (j0 (dh bs)) l.out Y.out ?_)
      | (refine aQ Hl (.tmp 1) rfl w.heap.size rfl k bs f.out Z.out ?_)
      | (refine cI Hl (.tmp 31) (.tmp 32) _ rfl (j9 (dh bs)) k (j0 (dh bs)) bs rfl rfl l.out f.out X.out y.out ?_;rw [HD.out]))
     go_ret2
     refine ⟨_,by rw [g.out];rfl,?_,C.out⟩;rw [HL.out,H5.out];exact HO.out
    ·have g:Hid (pU k bs=false):=by unfold Hid pU;rw [u,decide_eq_false (fun h=>H ⟨h.1.symm,h.2⟩)];rfl
     have HL:Hid (tkL k bs=[]):=by unfold Hid tkL;rw [if_neg (by rw [g.out];simp)]
     have HD:Hid ((!(decide (j9 (dh bs)=k/\j0 (dh bs)=bs)))=true):=by unfold Hid;rw [e1,e2,decide_eq_false H];rfl
     clear u H e1 e2;go_wp2_with (first
      | (refine aQ Hl (.tmp 6) rfl c rfl (j9 (dh bs)) (j0 (dh bs)) l.out Y.out ?_)
      | (refine aQ Hl (.tmp 1) rfl w.heap.size rfl k bs f.out Z.out ?_)
      | (refine cI Hl (.tmp 31) (.tmp 32) _ rfl (j9 (dh bs)) k (j0 (dh bs)) bs rfl rfl l.out f.out X.out y.out ?_;rw [HD.out]))
     go_ret2
     refine ⟨_,by rw [g.out];rfl,?_,C.out⟩;rw [HL.out];exact ⟨rfl,.inl ⟨rfl,rfl⟩⟩
theorem zZ {l:List Int} (h:mayB l=false):DL l=.tuple #[.agg (ab 0 az),.bool false]:=by
 have a:j9 l=0:=by unfold j9;rw [if_neg (by rw [h];simp)]
 have b:j0 l=az:=by unfold j0;rw [if_neg (by rw [h];simp)]
 unfold DL;rw [a,b,h]
theorem Ix {l:List Int} (h:mayB l=true):DL l=.tuple #[.agg (ab 5 (bH (cD l))),.bool true]:=by
 have a:j9 l=5:=by unfold j9;rw [if_pos h]
 have b:j0 l=bH (cD l):=by unfold j0;rw [if_pos h]
 unfold DL;rw [a,b,h]
theorem ye {x:Int} (h : -1<=x/\x<200):be (x+1).toNat 2=[0,x+1]:=by
 rw [DV]
 congr 1
 ·omega
 ·congr 1;omega
structure Fc (w:World) (p:Nat) (v:Value) (n:Nat) (ys:List Int) (W:World):Prop where
 bel:Below p w W
 sz:p+1<=W.heap.size
 res:W.heap[p]?=some (.cells (ab 0 az) 37 (0,0))
 own:W.ownsRow (p+1) 5 1 v n (Bs ys)
theorem Fc.below {w W W':World} {p n:Nat} {v:Value} {ys:List Int} (h:Fc w p v n ys W) (a:Below W.heap.size W W'):Fc w p v n ys W' :=
 ⟨h.bel.trans (a.mono (by have:=h.sz;omega)),Nat.le_trans h.sz a.size,kb a h.res,ic h.own a⟩
theorem Fc.push {w W W':World} {p n m:Nat} {v v':Value} {ys b:List Int} (h:Fc w p v n ys W) (c:W'.ownsRow (p+1) 5 1 v' m (Bs b)) (a:W.grownBy W' v.ownBlock):Fc w p v' m b W' :=
 ⟨h.bel.grown a (by have:=h.sz;omega) (fun j e=>by have:=(h.own.lt j e).1;omega),Nat.le_trans h.sz a.size,by rw [a.block p (ah h.res) (fun e=>by have:=(h.own.lt p e.symm).1;omega)];exact h.res,c⟩
theorem pV (W:World) (q:Nat):Below W.heap.size W (W.drewN q):=DK (Below.refl _ _) q
theorem Aa (A:Option Addr) (l:List Int) (n d:Nat) (w:World) (hn:l.length=n) (hy:jF w A l) :
 Calls Tryz.prog 79 #[.slice A n d] w fun e w'=>e=.returned (DL l)/\Below w.heap.size w w':=by
 have HR0:=He (heap_alloc_new w (.cells (ab 0 az) 37));have HB0:=He (aM (w:=w) (.cells (ab 0 az) 37));by_cases h16:n=16
 ·subst h16;have HN:=He hn;have HY:=He hy;have hs0:w.heap.size+1<=(w.alloc (.cells (ab 0 az) 37)).heap.size:=by rw [al];exact Nat.le_refl _
  have HJ0:Hid (Fc w w.heap.size (.slice none 0 0) 0 (cD (l.take 0)) (w.alloc (.cells (ab 0 az) 37))):=⟨HB0.out,hs0,HR0.out,⟨rfl,.inl ⟨rfl,rfl⟩⟩⟩
  clear hn hy HR0 HB0 hs0;go_enter Tryz.func79,Tryz.ntmps79;go_upto_region 1 with (refine aq rfl rfl ?_)
  generalize w.alloc (.cells (ab 0 az) 37)=W at *;go_wp2_with fail
  go_loopw [4,5] (fun v i wr=>∃ j:Nat,j<=16/\i=.int .i64 j/\Hid (yZ l j=true)/\Hid (Fc w w.heap.size v (j*2) (cD (l.take j)) wr)) (fun _ i _=>(16-intOf i).toNat)
  case atStart=>exact ⟨0,Ha,rfl,rfl,HJ0⟩
  case round =>
   obtain ⟨j,hj,rfl,HO,HJ⟩:=hrel;clear HJ0;by_cases hlt:j<16
   ·obtain ⟨x,hx⟩:∃ x,l[j]?=some x:=⟨_,List.getElem?_eq_getElem (by rw [HN.out];exact hlt)⟩
    obtain ⟨ad,rfl,hc⟩:=HY.out j x hx;have HW:Hid (∀ W',Below w.heap.size w W'->∀ i y,l[i]?=some y->W'.cell? (ad.add i)=some (.int .i64 y)):=fun W' hb i y hi=>by
     obtain ⟨a,e,h⟩:=HY.out i y hi;injection e with e;subst e
     exact cO hb h
    have hc0:=HW.out wr HJ.out.bel j x hx;clear hc;by_cases h1:x = -1
    ·have hrg : -1<=x/\x<200:=Ha;have hok:uo l j x=true:=by unfold uo;simp [h1]
     have hne:(x != -1)=false:=by simp [h1]
     go_wp2_with fail
     clear h1
     go_loopw [6] (fun i wk=>∃ k:Nat,k<=j/\i=.int .i64 k/\Hid (Fc w w.heap.size u4 (j*2) (cD (l.take j)) wk)) (fun i _=>(j-intOf i).toNat)
     case atStart=>exact ⟨0,Ha,rfl,HJ⟩
     case round =>
      obtain ⟨k,hk,rfl,HJk⟩:=hrel;clear HJ;obtain ⟨wk,rfl⟩:∃ wk,wk=wr:=⟨wr,rfl⟩
      by_cases hkj:k<j
      ·have hcq:∀ q,(wk.drewN q).cell? (ad.add j)=some (.int .i64 x):=fun q=>HW.out wk HJk.out.bel j x hx;have HJd:=He (fun q=>HJk.out.below (pV wk q));go_upto_region 12 with fail
       go_quiet (fail)
       rename_i nq;have HJd2:=He (HJd.out nq);clear HJk HJd hcq;generalize wk.drewN nq=wk2 at *;go_wp2_with fail
       go_roundw
       case rel=>exact ⟨k+1,Ha,by go_num,HJd2.out⟩
       case measure=>simp [intOf];omega
      ·obtain rfl:j=k:=Ha;have HT2:Hid (cD (l.take (j+1))=cD (l.take j)++be (x+1).toNat 2):=by
        unfold Hid;rw [aw hx,mg,ye hrg]
       have HO2:Hid (yZ l (j+1)=true):=by unfold Hid;rw [no hx,HO.out];exact hok
       have wx1:IntKind.i64.wrap (x+1)=x+1:=IntWalk.i64_in _ Ha;have wx2:IntKind.u64.wrap (x+1)=x+1:=IntWalk.u64_in _ Ha;have hc1:=HW.out wk HJk.out.bel j x hx;have HHI:Hid (∀ W:World,Calls Tryz.prog 128 #[.int .u64 (x+1),.int .i64 2] W fun e w'=>∃ u,e=.returned u/\aD w' W.heap.size u (be (x+1).toNat 2)/\Below W.heap.size W w'):=fun W=>oe (x+1) 2 W Ha Ha;clear hx hc0 HW;go_wp2_with fail
       refine (HHI.out _).mono ?_;rintro e w4 ⟨uu,rfl,hfull,hb4⟩;obtain ⟨q,rfl,hby⟩:=hfull.byt;have HJ4:=He (HJk.out.below hb4);have HBY:=He hby
       clear hb4 hfull hby
       rw [au];go_wp2_with (first
        | (at_builtin
           go_loud (refine cd w4 rfl (.tmp 53) (.tmp 60) rfl (w.heap.size+1) u4 (j*2) _ rfl HJ4.out.own (some ⟨q,0,none⟩) 2 2 (be (x+1).toNat 2) rfl HBY.out (au _ _) Ha HJ4.out.sz ?_)
           intro v5 w5 h1 h2 _;have HJ5:=He (HJ4.out.push h1 h2);clear h1 h2 HJ4))
       go_roundw
       case rel=>exact ⟨j+1,Ha,by go_num,HO2.out,by unfold Hid;rw [HT2.out,Nat.add_mul,Nat.one_mul];exact HJ5.out⟩
       case measure=>simp [intOf];omega
    by_cases h2:1<=x/\x<200
    ·have hrg : -1<=x/\x<200:=Ha;have hne:(x != -1)=true:=by simp;exact h1
     have HMA:=He (fun W=>mc x W);rw [decide_eq_true h2] at HMA;go_wp2_with fail
     refine (HMA.out _).mono ?_;rintro e w1 ⟨rfl,rfl⟩;go_wp2_with fail
     clear h1 HMA
     go_loopw [6] (fun i wk=>∃ k:Nat,k<=j/\i=.int .i64 k/\Hid (∀ m y,m<k->l[m]?=some y->y≠x)/\Hid (Fc w w.heap.size u4 (j*2) (cD (l.take j)) wk)) (fun i _=>(j-intOf i).toNat)
     case atStart=>exact ⟨0,Ha,rfl,(fun m y h _=>absurd h Ha),HJ⟩
     case round =>
      obtain ⟨k,hk,rfl,HNE,HJk⟩:=hrel;clear HJ;obtain ⟨wk,rfl⟩:∃ wk,wk=wr:=⟨wr,rfl⟩
      by_cases hkj:k<j
      ·obtain ⟨y,hyk⟩:∃ y,l[k]?=some y:=⟨_,List.getElem?_eq_getElem (by rw [HN.out];omega)⟩
       have hcq:∀ q,(wk.drewN q).cell? (ad.add j)=some (.int .i64 x):=fun q=>HW.out wk HJk.out.bel j x hx;have hck:∀ q,(wk.drewN q).cell? (ad.add k)=some (.int .i64 y):=fun q=>HW.out wk HJk.out.bel k y hyk;have HJd:=He (fun q=>HJk.out.below (pV wk q));by_cases hxy:y=x
       ·have hm:mayB l=false:=oo hlt hx (by
         have hmem:x∈l.take j:=List.mem_of_getElem? (i:=k) (by rw [List.getElem?_take,if_pos hkj,hyk,hxy]);unfold uo;simp [hmem];simpa using hne)
        have HV:=He (zZ hm);have heq:(y==x)=true:=by simp [hxy]
        clear hm hxy hx hyk;go_upto_region 12 with fail
        go_quiet (fail)
        rename_i nq;have HJd2:=He (HJd.out nq);clear HJk HJd hcq hck;generalize wk.drewN nq=wk2 at *;go_wp2_with (first
         | (refine bN rfl rfl ?_)
         | (refine ap rfl (.tmp 2) (.tmp 52) rfl w.heap.size rfl 0 0 az az rfl ak ak HJd2.out.res ?_))
        refine bodyPost_ret (aY rfl _ _ w.heap.size 0 az rfl ak (am HJd2.out.res)) rfl ?_;exact ⟨by rw [HV.out];rfl,below_setRow HJd2.out.bel (Nat.le_refl _) _⟩
       ·have heq:(y==x)=false:=by simp [hxy]
        have HNE2:Hid (∀ m y,m<k+1->l[m]?=some y->y≠x):=fun m z hm hz=>by
         by_cases e:m=k
         ·subst e;rw [hyk] at hz;injection hz with hz;rw [<- hz];exact hxy
         ·exact HNE.out m z Ha hz
        clear hxy hyk HNE;go_upto_region 12 with fail
        go_quiet (fail)
        rename_i nq;have HJd2:=He (HJd.out nq);clear HJk HJd hcq hck;generalize wk.drewN nq=wk2 at *;go_wp2_with fail
        go_roundw
        case rel=>exact ⟨k+1,Ha,by go_num,HNE2.out,HJd2.out⟩
        case measure=>simp [intOf];omega
      ·obtain rfl:j=k:=Ha;have hok:uo l j x=true:=by
        have hmem:x ∉ l.take j:=fun hm=>by
         obtain ⟨m,hm2⟩:=List.getElem?_of_mem hm;rw [List.getElem?_take] at hm2;split at hm2
         ·exact HNE.out m x Ha hm2 rfl
         ·cases hm2
        unfold uo;simp [h2.1,h2.2,hmem]
       clear HNE;have HT2:Hid (cD (l.take (j+1))=cD (l.take j)++be (x+1).toNat 2):=by
        unfold Hid;rw [aw hx,mg,ye hrg]
       have HO2:Hid (yZ l (j+1)=true):=by unfold Hid;rw [no hx,HO.out];exact hok
       have wx1:IntKind.i64.wrap (x+1)=x+1:=IntWalk.i64_in _ Ha;have wx2:IntKind.u64.wrap (x+1)=x+1:=IntWalk.u64_in _ Ha;have hc1:=HW.out wk HJk.out.bel j x hx;have HHI:Hid (∀ W:World,Calls Tryz.prog 128 #[.int .u64 (x+1),.int .i64 2] W fun e w'=>∃ u,e=.returned u/\aD w' W.heap.size u (be (x+1).toNat 2)/\Below W.heap.size W w'):=fun W=>oe (x+1) 2 W Ha Ha;clear hx hc0 HW;go_wp2_with fail
       refine (HHI.out _).mono ?_;rintro e w4 ⟨uu,rfl,hfull,hb4⟩;obtain ⟨q,rfl,hby⟩:=hfull.byt;have HJ4:=He (HJk.out.below hb4);have HBY:=He hby
       clear hb4 hfull hby
       rw [au];go_wp2_with (first
        | (at_builtin
           go_loud (refine cd w4 rfl (.tmp 53) (.tmp 60) rfl (w.heap.size+1) u4 (j*2) _ rfl HJ4.out.own (some ⟨q,0,none⟩) 2 2 (be (x+1).toNat 2) rfl HBY.out (au _ _) Ha HJ4.out.sz ?_)
           intro v5 w5 h1 h2 _;have HJ5:=He (HJ4.out.push h1 h2);clear h1 h2 HJ4))
       go_roundw
       case rel=>exact ⟨j+1,Ha,by go_num,HO2.out,by unfold Hid;rw [HT2.out,Nat.add_mul,Nat.one_mul];exact HJ5.out⟩
       case measure=>simp [intOf];omega
    ·have hm:mayB l=false:=oo hlt hx (by
      unfold uo;simp [h1];intro h3 h4;omega)
     have HV:=He (zZ hm);have hne:(x != -1)=true:=by simp;exact h1
     have HMA:=He (fun W=>mc x W);rw [decide_eq_false h2] at HMA;clear hm hx;go_wp2_with fail
     refine (HMA.out _).mono ?_;rintro e w1 ⟨rfl,rfl⟩;go_wp2_with (first
      | (refine bN rfl rfl ?_)
      | (refine ap rfl (.tmp 2) (.tmp 30) rfl w.heap.size rfl 0 0 az az rfl ak ak HJ.out.res ?_))
     refine bodyPost_ret (aY rfl _ _ w.heap.size 0 az rfl ak (am HJ.out.res)) rfl ?_;exact ⟨by rw [HV.out];rfl,below_setRow HJ.out.bel (Nat.le_refl _) _⟩
   ·obtain rfl:j=16:=Ha;have e:l.take 16=l:=List.take_of_length_le (by rw [HN.out];omega);rw [e] at HJ;have hm:mayB l=true:=by unfold mayB;rw [HO.out,decide_eq_true HN.out];rfl
    have HV:=He (Ix hm);clear hm e;obtain ⟨B,cap,hv,_,_,hby⟩:=bM (bs:=cD l) HJ.out.own (by rw [dR,HN.out]);rw [dR,HN.out] at hv;have HL:=He (fV (ys:=cD l) (by rw [dR,HN.out];omega));have HBD:=He (fun W h=>rF 5 B (cD l) 32 cap W (by rw [dR,HN.out]) Ha h);have HBY:=He hby
    subst hv;clear hby
    go_wp2_with fail
    refine (HBD.out _ HBY.out).mono ?_;rintro e w4 ⟨rfl,hb4⟩;have HJ4:=He (HJ.out.below hb4);clear hb4 HJ HBY;go_wp2_with (refine ap rfl (.tmp 2) (.tmp 63) rfl w.heap.size rfl 5 0 (bH (cD l)) az rfl HL.out ak HJ4.out.res ?_)
    refine bodyPost_ret (aY rfl _ _ w.heap.size 5 (bH (cD l)) rfl HL.out (am HJ4.out.res)) rfl ?_;exact ⟨by rw [HV.out];rfl,below_setRow HJ4.out.bel (Nat.le_refl _) _⟩
 ·have hm:mayB l=false:=by unfold mayB;rw [decide_eq_false Ha];rfl
  have hn2:¬ ((n:Int)=16):=Ha;have HV:=He (zZ hm);have HJ:Hid (Fc w w.heap.size (.slice none 0 0) 0 [] (w.alloc (.cells (ab 0 az) 37))):=⟨HB0.out,by rw [al];exact Nat.le_refl _,HR0.out,⟨rfl,.inl ⟨rfl,rfl⟩⟩⟩
  clear hn hy HR0 HB0 hm;go_enter Tryz.func79,Tryz.ntmps79;go_upto_region 1 with (refine aq rfl rfl ?_)
  generalize w.alloc (.cells (ab 0 az) 37)=W at *;go_wp2_with (first
   | (refine bN rfl rfl ?_)
   | (refine ap rfl (.tmp 2) (.tmp 10) rfl w.heap.size rfl 0 0 az az rfl ak ak HJ.out.res ?_))
  refine bodyPost_ret (aY rfl _ _ w.heap.size 0 az rfl ak (am HJ.out.res)) rfl ?_;exact ⟨by rw [HV.out];rfl,below_setRow HJ.out.bel (Nat.le_refl _) _⟩
theorem vO (g m:Nat) (h:m<=54) (w:World):(Instr.sliceAt 35 (.pointer (some ⟨g,1,none⟩)) (some (.int .i64 m)) (some (.int .i64 ((m:Int)+2))) none).run Tryz.prog w=.ok (.slice (some ⟨g,1+m,none⟩) 2 (56-m)) w:=by
 have b:=Tryz.sizeOf5;have a:Tryz.prog.arrayLen 35=56:=Hc;have c:Tryz.prog.elem 35=5:=Hc;have d:Tryz.prog.underlying 35=some (.array (Tryz.prog.arrayLen 35) (Tryz.prog.elem 35)):=Hc;rw [run_sliceAt_array_lh w 35 _ d .i64 .i64 (m:Int) ((m:Int)+2) Ha Ha (by rw [a];omega),a,c];have e:¬ 56=m:=Ha;have f:((m:Int)+2).toNat=m+2:=Ha;simp [b,slicedAt,cZ,e,f]
theorem Fd (a b:Nat):aB [(a:Int),(b:Int)]=a*256+b:=by
 simp [aB]
structure Iy (w:World) (p:Nat) (k:Int) (bs:List Int) (v:Value) (n:Nat) (ys:List Int) (W:World):Prop where
 bel:Below p w W
 sz:p+1<=W.heap.size
 blk:W.heap[p]?=some (.cells (ab k bs) 37 (0,0))
 own:W.ownsRow (p+1) 3 1 v n (Is ys)
theorem Iy.below {w W W':World} {p n:Nat} {k:Int} {bs:List Int} {v:Value} {ys:List Int} (h:Iy w p k bs v n ys W) (a:Below W.heap.size W W'):Iy w p k bs v n ys W' :=
 ⟨h.bel.trans (a.mono (by have:=h.sz;omega)),Nat.le_trans h.sz a.size,kb a h.blk,ic h.own a⟩
theorem Iy.push {w W W':World} {p n m:Nat} {k:Int} {bs:List Int} {v v':Value} {ys b:List Int} (h:Iy w p k bs v n ys W) (c:W'.ownsRow (p+1) 3 1 v' m (Is b)) (a:W.grownBy W' v.ownBlock):Iy w p k bs v' m b W' :=
 ⟨h.bel.grown a (by have:=h.sz;omega) (fun j e=>by have:=(h.own.lt j e).1;omega),Nat.le_trans h.sz a.size,by rw [a.block p (ah h.blk) (fun e=>by have:=(h.own.lt p e.symm).1;omega)];exact h.blk,c⟩
theorem yf (k:Int) (bs:List Int) (w:World) (I:bs.length=56) (hB:ay bs) :
 Calls Tryz.prog 68 #[.agg (ab k bs)] w fun e w'=>∃ v,e=.returned (.tuple #[v,.bool (pU k bs)])/\w'.ownsRow w.heap.size 3 1 v (tkL k bs).length (Is (tkL k bs))/\Below w.heap.size w w':=by
 have f:=He I;have u:=He hB;have K:Hid (Iy w w.heap.size k bs (.slice none 0 0) 0 ((dh bs).take 0) (w.alloc (.cells (ab k bs) 37))):=⟨aM _,by rw [al];exact Nat.le_refl _,heap_alloc_new w _,⟨rfl,.inl ⟨rfl,rfl⟩⟩⟩
 clear I hB;go_enter Tryz.func68,Tryz.ntmps68;go_upto_region 1 with fail
 generalize w.alloc (.cells (ab k bs) 37)=W at *;go_wp2_with fail
 go_loopw [4,5] (fun v i wr=>∃ j:Nat,j<=16/\i=.int .i64 j/\Hid (Iy w w.heap.size k bs v j ((dh bs).take j) wr)) (fun _ i _=>(16-intOf i).toNat)
 case atStart=>exact ⟨0,Ha,rfl,K⟩
 case round =>
  obtain ⟨j,hj,rfl,C⟩:=hrel;clear K;by_cases Z:j<16
  ·have a0:∀ W,(Instr.sliceAt 35 (.pointer (some ⟨w.heap.size,1,none⟩)) (some (.int .i64 (2*(j:Int)))) (some (.int .i64 (2*(j:Int)+2))) none).run Tryz.prog W=.ok (.slice (some ⟨w.heap.size,1+j*2,none⟩) 2 (56-j*2)) W:=fun W=>by
    have h:=vO w.heap.size (j*2) Ha W
    rwa [Int.natCast_mul,Int.mul_comm] at h
   have bt:∀ i,i<56->∃ a:Nat,a<256/\bs.getD i 0=a/\wr.cell? ⟨w.heap.size,1+i,none⟩=some (.int .u8 a):=fun i g=>by
    obtain ⟨x,H⟩:∃ x,bs[i]?=some x:=⟨_,List.getElem?_eq_getElem (by rw [f.out];exact g)⟩
    have h1:=u.out x (List.mem_of_getElem? H);refine ⟨x.toNat,Ha,by rw [List.getD,H];show x=_;omega,?_⟩;rw [af C.out.blk,show ((x.toNat:Nat):Int)=x by omega];show (ab k bs)[1+i]?=_;unfold ab blkL;rw [List.getElem?_toArray,Nat.add_comm,List.getElem?_cons_succ];exact kR H
   obtain ⟨a,ha,ea,ca⟩:=bt (j*2) Ha;obtain ⟨b,hb,eb,cb⟩:=bt (j*2+1) Ha;have L:Hid (dK wr (some ⟨w.heap.size,1+j*2,none⟩) [(a:Int),(b:Int)]):=fun i x g=>by
    refine ⟨_,rfl,?_⟩
    match i,g with
    | 0,g=>injection g with g;subst g;rw [cZ];exact ca
    | 1,g=>injection g with g;subst g;rw [cZ];exact cb
   have l:Hid (ay [(a:Int),(b:Int)]):=fun x H=>by
    simp only [List.mem_cons,List.not_mem_nil,or_false] at H;rcases H with rfl | rfl <;> omega
   have q:Hid (Calls Tryz.prog 126 #[.slice (some ⟨w.heap.size,1+j*2,none⟩) 2 (56-j*2)] wr fun e w'=>e=.returned (.int .u64 ((a*256+b:Nat):Int))/\wr=w'):=by
    have h:=kW (some ⟨w.heap.size,1+j*2,none⟩) [(a:Int),(b:Int)] 2 (56-j*2) wr rfl Ha l.out L.out
    rwa [Fd] at h
   have hX:((a*256+b:Nat):Int)-1=Br bs j:=by unfold Br;rw [ea,eb];omega
   have ad:Hid ((dh bs).take (j+1)=(dh bs).take j++[Br bs j]):=aw (Fa bs Z);have w1:IntKind.i64.wrap ((a*256+b:Nat):Int)=((a*256+b:Nat):Int):=IntWalk.i64_in _ Ha;have w2:IntKind.i64.wrap (((a*256+b:Nat):Int)-1)=Br bs j:=by rw [<- hX];exact IntWalk.i64_in _ Ha
   generalize a*256+b=m at *;generalize Br bs j=x at *;clear hX bt ea eb ca cb ha hb L l;go_wp2_with fail
   refine q.out.mono ?_;rintro e w3 ⟨rfl,rfl⟩;clear q;have d:=He (C.out.below (aM (.cells (Is [x]).toArray 3)));have M:Hid (jF (wr.alloc (.cells (Is [x]).toArray 3)) (some ⟨wr.heap.size,0,none⟩) [x]):=vN (heap_alloc_new wr _);obtain ⟨V,y⟩:∃ V,V=wr.alloc (.cells (Is [x]).toArray 3):=⟨_,rfl⟩
   rw [<- y] at d M;have an:Hid (wr.alloc (.cells #[.int .i64 x] 3)=V):=y.symm;clear y;go_wp2_with (first
    | (at_builtin
       rw [an.out]
       go_loud (refine dC V rfl (.tmp 12) (.tmp 23) rfl (w.heap.size+1) u4 j _ rfl d.out.own (some ⟨wr.heap.size,0,none⟩) 1 1 [x] rfl M.out rfl Ha d.out.sz ?_)
       intro v5 w5 h1 h2 _;have n:=He (d.out.push h1 h2);clear h1 h2 d))
   go_roundw
   case rel=>exact ⟨j+1,Ha,by go_num,by unfold Hid;rw [ad.out];exact n.out⟩
   case measure=>simp [intOf];omega
  ·obtain rfl:j=16:=Ha;have e:(dh bs).take 16=dh bs:=List.take_of_length_le (by rw [dq];omega);rw [e] at C;have H5:=He (dq bs);obtain ⟨A,N,hv,_,_,O⟩:=kC (bs:=dh bs) C.out.own H5.out;rw [H5.out] at hv;have r:=He (fun W h=>Aa A (dh bs) 16 N W (dq bs) h);have L:=He O;subst hv;clear O e;go_wp2_with fail
   refine (r.out _ L.out).mono ?_;rintro e o ⟨rfl,R⟩;have d:=He (C.out.below R);have a1:w.heap.size<o.heap.size:=ah d.out.blk;clear R C L r;have p:=He (vM (dh bs));have l:=He (rQ (dh bs));have h6:=heap_alloc_new o (.cells (ab 0 az) 37);have S:Hid (((o.alloc (.cells (ab 0 az) 37)).setRow o.heap.size (ab (j9 (dh bs)) (j0 (dh bs)))).heap[o.heap.size]?=some (.cells (ab (j9 (dh bs)) (j0 (dh bs))) 37 (0,0))):=am h6;have n:Hid (Iy w w.heap.size k bs (.slice A 16 N) 16 (dh bs) ((o.alloc (.cells (ab 0 az) 37)).setRow o.heap.size (ab (j9 (dh bs)) (j0 (dh bs))))):=d.out.below (below_setRow (aM _) (Nat.le_refl _) _);unfold DL;go_upto_region 7 with (first
    | (refine aq rfl rfl ?_)
    | (refine ap rfl (.tmp 6) (.tmp 28) rfl o.heap.size rfl (j9 (dh bs)) 0 (j0 (dh bs)) az rfl p.out ak h6 ?_))
   clear h6 d;generalize (o.alloc (.cells (ab 0 az) 37)).setRow o.heap.size (ab (j9 (dh bs)) (j0 (dh bs)))=w5 at *;generalize o.heap.size=c at *;have z:=He n.out.bel;have T:=He n.out.blk;cases s:mayB (dh bs)
   ·have t:Hid (pU k bs=false):=by unfold Hid pU;rw [s];rfl
    have U:Hid (tkL k bs=[]):=by unfold Hid tkL;rw [if_neg (by rw [t.out];simp)]
    clear s;go_wp2_with fail
    go_ret2
    refine ⟨_,by rw [t.out];rfl,?_,z.out⟩;rw [U.out];exact ⟨rfl,.inl ⟨rfl,rfl⟩⟩
   ·have X:j9 (dh bs)=5:=by unfold j9;rw [if_pos s]
    have Y:j0 (dh bs)=bH (cD (dh bs)):=by unfold j0;rw [if_pos s]
    by_cases B:5=k/\bH (cD (dh bs))=bs
    ·have t:Hid (pU k bs=true):=by unfold Hid pU;rw [s,decide_eq_true ⟨B.1.symm,B.2⟩];rfl
     have U:Hid (tkL k bs=dh bs):=by unfold Hid tkL;rw [if_pos t.out]
     have HD:Hid ((!(decide (j9 (dh bs)=k/\j0 (dh bs)=bs)))=false):=by unfold Hid;rw [X,Y,decide_eq_true B];rfl
     have HO:=He (n.out.own.mono (Nat.le_succ _));clear s B X Y;go_wp2_with (first
      | (refine aQ Hl (.tmp 6) rfl c rfl (j9 (dh bs)) (j0 (dh bs)) p.out S.out ?_)
      | (refine aQ Hl (.tmp 1) rfl w.heap.size rfl k bs f.out T.out ?_)
      | (refine cI Hl (.tmp 33) (.tmp 34) _ rfl (j9 (dh bs)) k (j0 (dh bs)) bs rfl rfl p.out f.out l.out u.out ?_;rw [HD.out]))
     go_ret2
     refine ⟨_,by rw [t.out];rfl,?_,z.out⟩;rw [U.out,H5.out];exact HO.out
    ·have t:Hid (pU k bs=false):=by unfold Hid pU;rw [s,decide_eq_false (fun h=>B ⟨h.1.symm,h.2⟩)];rfl
     have U:Hid (tkL k bs=[]):=by unfold Hid tkL;rw [if_neg (by rw [t.out];simp)]
     have HD:Hid ((!(decide (j9 (dh bs)=k/\j0 (dh bs)=bs)))=true):=by unfold Hid;rw [X,Y,decide_eq_false B];rfl
     clear s B X Y;go_wp2_with (first
      | (refine aQ Hl (.tmp 6) rfl c rfl (j9 (dh bs)) (j0 (dh bs)) p.out S.out ?_)
      | (refine aQ Hl (.tmp 1) rfl w.heap.size rfl k bs f.out T.out ?_)
      | (refine cI Hl (.tmp 33) (.tmp 34) _ rfl (j9 (dh bs)) k (j0 (dh bs)) bs rfl rfl p.out f.out l.out u.out ?_;rw [HD.out]))
     go_ret2
     refine ⟨_,by rw [t.out];rfl,?_,z.out⟩;rw [U.out];exact ⟨rfl,.inl ⟨rfl,rfl⟩⟩
theorem Iz (k:Int) (bs:List Int):(tkL k bs).length<=16:=by
 unfold tkL;split
 ·rw [dq];omega
 ·simp
section
variable {H:Type} {enc:TypeId × Value->H} {w:World} {base:Nat} {spare:Nat->Bool} {held:Bool}
end
theorem yg:∀ (l:List Int) (i:Nat) (x:Int),l[i]?=some x->(cD l)[i*2]?=some 0/\(cD l)[i*2+1]?=some (x+1)
 | [],i,x,h=>by cases h
 | y :: l,0,x,h=>by injection h with h;subst h;exact ⟨rfl,rfl⟩
 | y :: l,i+1,x,h=>by
   have a:=yg l i x h;rw [show (i+1)*2=i*2+1+1 by omega];exact ⟨by simpa [cD] using a.1,by simpa [cD] using a.2⟩
theorem Fe {l:List Int} (h:l.length=16):dh (bH (cD l))=l:=by
 apply List.ext_getElem?;intro i;by_cases d:i<16
 ·obtain ⟨x,a⟩:∃ x,l[i]?=some x:=⟨_,List.getElem?_eq_getElem Ha⟩
  obtain ⟨b,c⟩:=yg l i x a;rw [Fa _ d,a]
  congr 1
  unfold Br bH;rw [List.getD,List.getD,List.getElem?_append_left (List.getElem?_eq_some_iff.1 b).1,List.getElem?_append_left (List.getElem?_eq_some_iff.1 c).1,b,c];show (0:Int)*256+(x+1)-1=x;omega
 ·rw [List.getElem?_eq_none (by rw [dq];omega),List.getElem?_eq_none Ha]
theorem Ff {l:List Int} (h:mayB l=true):pU 5 (bH (cD l))=true/\tkL 5 (bH (cD l))=l:=by
 have e:=Fe (oq h);have a:pU 5 (bH (cD l))=true:=by unfold pU;rw [e,h];simp
 exact ⟨a,by unfold tkL;rw [if_pos a,e]⟩
end Go.Proofs.YtegjelaejbacnaaGreat
