/- For FileLong: contracts and facts, part 12. -/
import Derived.Deep.Slices
import Derived.Deep.Fields
import Derived.ChangeSame
import Derived.OpenShut
import Derived.Deep.DeepCutAuto
import Derived.StillTailTactics
import Derived.Test.YtegjelaejbacnaaGreatL02
import Derived.Test.YtegjelaejbacnaaGreatL03
import Derived.Test.YtegjelaejbacnaaGreatL11
set_option maxRecDepth 100000
set_option maxHeartbeats 25600000
set_option linter.unusedVariables false
open Go.ChangeShapes Go.WideShapes Go.ChangeAt Go.RowKit Go.Deep
namespace Go.Proofs.YtegjelaejbacnaaGreat
theorem xI {m:DM} (h:m.stops=false):aG m=false:=by unfold aG;rw [h];rfl
theorem n6 (m:DM) (r i:Int) (b:List Int):(m.doWrite r i b).stops=m.stops:=by unfold DM.doWrite;split <;> rfl
theorem m7 (m:DM) (r:Int):(m.doBarrier r).stops=m.stops:=by unfold DM.doBarrier;split <;> rfl
theorem rr (m:DM) (r:Int) (e:Nat):(m.doBegin r e).stops=m.stops:=by unfold DM.doBegin;rw [m7,n6,m7]
theorem zL (r:Int):∀ (l:List (List Int)) (m:DM) (o:Nat),(jD r m o l).stops=m.stops
 | [],_,_=>rfl
 | b :: l,m,o=>by show (jD r _ (o+1) l).stops=_;rw [zL r l,n6]
theorem xJ (r:Int) (g:Nat):∀ (l:List HB) (m:DM) (o:Nat),(bR r g m o l).stops=m.stops
 | [],_,_=>rfl
 | x :: l,m,o=>by
   show (bR r g _ (o+1) l).stops=_;rw [xJ r g l];split
   ·exact n6 _ _ _ _
   ·rfl
theorem vy (m:DM) (v:VM):(fE m v).stops=m.stops:=by unfold fE;rw [rr,xJ]
theorem If (m:DM) (v:VM):(iS m v).stops=m.stops:=by unfold iS;rw [vy,m7]
theorem LC (m:DM) (v:VM) (l:List Wr):(sH m v l).stops=m.stops:=by
 unfold sH oY;split
 ·split
  ·rw [zL,If]
  ·rw [zL]
 ·rfl
theorem n7 (r:Int) (g:Nat) (m:DM):∀ k,(dp r g m k).stops=m.stops
 | 0=>rfl
 | k+1=>by show (DM.doWrite _ _ _ _).stops=_;rw [n6,n7 r g m k]
theorem Ig (m:DM) (r:Int) (n g:Nat):(kU m r n g).stops=m.stops:=by unfold kU;rw [rr,n7]
def gF (n:Nat):List Bk:=(List.range n).map fun i=>⟨ir i,gV i⟩
theorem tZ {n i:Nat} {x:Bk} (h:(gF n)[i]?=some x):i<n/\x=⟨ir i,gV i⟩:=by
 unfold gF at h;rw [List.getElem?_map] at h;obtain ⟨j,hj,rfl⟩:=Option.map_eq_some_iff.1 h;have a:=(List.getElem?_eq_some_iff.1 hj).1;rw [List.length_range] at a;rw [List.getElem?_range a] at hj;injection hj with hj;subst hj
 exact ⟨a,rfl⟩
theorem m8 (n:Nat):(gF n).length=n:=by unfold gF;simp
theorem CM (n:Nat):dO (gF n):=fun x a=>by
 obtain ⟨i,b⟩:=List.getElem?_of_mem a;rw [(tZ b).2];exact ⟨oZ i,jn i,oV i⟩
theorem t4 {r g N:Nat} {m:DM} (c:lA m r N) (a:m.stops=false):∀ k,2+g+k<=N->lA (dp r g m k) r N/\(∀ j,(j<2+g\/2+g+k<=j)->(aF (dp r g m k) r)[j]?=(aF m r)[j]?)/\∀ i,i<k->(aF (dp r g m k) r)[2+g+i]?=some (cL 0 (ir i) i (gV i))
 | 0,_=>⟨c,fun _ _=>rfl,fun i e=>Ha⟩
 | k+1,p=>by
   obtain ⟨f,h,l⟩:=t4 (g:=g) c a k Ha;have n:aG (dp r g m k)=false:=xI (by rw [n7];exact a);obtain ⟨o,_,d,_⟩:=f.write n (i:=2+g+k) Ha (tX k (oZ k) (jn k) (oV k));refine ⟨o,fun j hj=>?_,fun i e=>?_⟩
   ·show (aF (DM.doWrite _ _ _ _) r)[j]?=_;rw [d,if_neg Ha];exact h j Ha
   ·show (aF (DM.doWrite _ _ _ _) r)[2+g+i]?=_;rw [d];by_cases b:i=k
    ·subst b;rw [if_pos rfl]
    ·rw [if_neg Ha];exact l i Ha
theorem rt:kq CL 0=false:=by
 unfold kq;rw [decide_eq_false]
 ·rfl
 ·rintro ⟨_,_,h⟩;have a:=congrArg (fun b:List Int=>b[0]?) h;rw [show (bg 0 (Bb CL))[0]?=some 65 from rfl] at a;exact absurd a Hd
theorem t5 {m:DM} {r n g:Nat} (q:lA m r (2+g+n)) (c:m.stops=false) (s:n<=200) (j:∀ i b,i<2+g->(aF m r)[i]?=some b->b=CL):iT (kU m r n g) r n g 1 (gF n) [] 0 [] 0/\iH (kU m r n g) r:=by
 obtain ⟨t,k,u⟩:=t4 (g:=g) q c n (Nat.le_refl _);have f:aG ((dp r g m n).doBegin r 1)=false:=xI (by rw [rr,n7];exact c);obtain ⟨v,l,e⟩:=tY t Ha f;refine ⟨pP v l Ha Ha (m8 n) (CM n) s (by show (aF ((dp r g m n).doBegin r 1) r)[1%2]?=_;rw [e,if_pos rfl]) (fun b h o=>?_) (fun i x w=>?_) (fun i p b h=>?_),l⟩
 ·have a:(aF ((dp r g m n).doBegin r 1) r)[0]?=some b:=h;rw [e,if_neg Ha,k _ Ha] at a;rw [j 0 b Ha a] at o;have d:kq CL 0=true:=o;rw [rt] at d;cases d
 ·obtain ⟨p,rfl⟩:=tZ w;show (aF ((dp r g m n).doBegin r 1) r)[2+g+i]?=_;rw [e,if_neg Ha];exact u i p
 ·have a:(aF ((dp r g m n).doBegin r 1) r)[2+i]?=some b:=h;rw [e,if_neg Ha,k _ Ha] at a;exact Or.inl (j _ b Ha a)
theorem xK {e:Nat} (a:e<65000):kq (bg 0 e) (e%2)=true:=by
 unfold kq;rw [kL a,decide_eq_true ((mE (lb:=0) (lb':=0) (e:=e) Ha).2 ⟨rfl,Ha⟩),decide_eq_true rfl];rfl
theorem Bj.epN {m:DM} {r n g e:Nat} {S0:List Bk} {Rs:List (List Wr)} (h:Bj m r n g e S0 Rs):epN (iY m r) 2=(e,true):=by
 have q:=h.fit.rV 0;have s:=h.fit.rV 1;obtain ⟨d,b⟩:=h.fit.get (i:=0) Ha;obtain ⟨f,c⟩:=h.fit.get (i:=1) Ha;rw [b] at q;rw [c] at s;have t:=h.e2;have l:=xK t;have o:=kL t;have u:Proofs.YtegjelaejbacnaaGreat.epN (iY m r) 1=if kq d 0 then (max 0 (dD 0 d),true) else (0,false):=by
  show (if kq ((iY m r ((0:Nat):Int)).getD []) 0 then (max _ (dD 0 ((iY m r ((0:Nat):Int)).getD [])),true) else _)=_;rw [q];rfl
 have v:Proofs.YtegjelaejbacnaaGreat.epN (iY m r) 2=if kq f 1 then (max (Proofs.YtegjelaejbacnaaGreat.epN (iY m r) 1).1 (dD 0 f),true) else Proofs.YtegjelaejbacnaaGreat.epN (iY m r) 1:=by
  show (if kq ((iY m r ((1:Nat):Int)).getD []) 1 then (max _ (dD 0 ((iY m r ((1:Nat):Int)).getD [])),true) else _)=_;rw [s];rfl
 rcases Nat.mod_two_eq_zero_or_one e with j | j
 ·have a:=h.an;rw [j,b] at a;injection a with a
  rw [j,<- a] at l;rw [<- a] at o;rw [v,u,l,if_pos rfl,o];have k:=h.ao f (by rw [show (e+1)%2=1 by omega];exact c);rw [show (e+1)%2=1 by omega] at k;split
  ·rename_i p;have:=k p;show (max (max 0 e) (dD 0 f),true)=_;rw [show max (max 0 e) (dD 0 f)=e by omega]
  ·show (max 0 e,true)=_;rw [show max 0 e=e by omega]
 ·have a:=h.an;rw [j,c] at a;injection a with a
  rw [j,<- a] at l;rw [<- a] at o;rw [v,l,if_pos rfl,o,u];have k:=h.ao d (by rw [show (e+1)%2=0 by omega];exact b);rw [show (e+1)%2=0 by omega] at k;split
  ·rename_i p;have:=k p;show (max (max 0 (dD 0 d)) e,true)=_;rw [show max (max 0 (dD 0 d)) e=e by omega]
  ·show (max 0 e,true)=_;rw [show max 0 e=e by omega]
def ku (m:DM) (r g:Nat) (i:Nat):List Int:=(aF m r).getD (2+g+i) []
def qg (m:DM) (r n g e:Nat) (a:Int) (Rs:List (List Wr)):VM:=⟨r,a,n,g,dE (ku m r g) 0 (cY (List.replicate n zH) Rs.flatten),e,0,0⟩
theorem t6 (n:Nat) (S0:List Bk) (b:S0.length=n):∀ (i:Nat) (x:HB),(List.replicate n zH)[i]?=some x->(x.lg=true->S0[i]?=some (val x))/\(x.lg=false->S0[i]?=S0[i]?):=fun i x a=>by
 have:=List.mem_of_getElem? a;rw [List.eq_of_mem_replicate this];exact ⟨fun h=>(by cases h),fun _=>rfl⟩
theorem Bj.x_at {m:DM} {r n g e:Nat} {S0:List Bk} {Rs:List (List Wr)} (h:Bj m r n g e S0 Rs) {i:Nat} {x:Bk} (a:S0[i]?=some x) (b:kt Rs.flatten i):ku m r g i=cL 0 x.k i x.bs:=by
 unfold ku;rw [List.getD,h.hm i x a b];rfl
theorem Bj.flOk {m:DM} {r n g e:Nat} {S0:List Bk} {Rs:List (List Wr)} (h:Bj m r n g e S0 Rs):bW Rs.flatten/\nZ Rs.flatten:=⟨fun w a=>by
 obtain ⟨l,b,a⟩:=List.mem_flatten.1 a;exact (h.rs l b).2 w a,fun w a=>by
 obtain ⟨l,b,a⟩:=List.mem_flatten.1 a;exact (h.rs l b).1.kinds w a⟩
theorem J8 (n:Nat):mG (List.replicate n zH):=fun x a=>by rw [List.eq_of_mem_replicate a];exact Jq
theorem Bj.tied {m:DM} {r n g e:Nat} {S0:List Bk} {Rs:List (List Wr)} (h:Bj m r n g e S0 Rs) (z:Int) (K:r<1000) (A:g<=1000):qf (qg m r n g e z Rs) r n g e S0 Rs:=by
 have hrel:=n4 Rs.flatten (List.replicate n zH) S0 (fun i=>S0[i]?) (by rw [List.length_replicate,h.len]) (t6 n S0 h.len);have p:(cY (List.replicate n zH) Rs.flatten).length=n:=by rw [iR,List.length_replicate]
 have q:=vt (B:=List.replicate n zH) h.flOk.1 h.flOk.2 (J8 n);have j:∀ (i:Nat) (x:HB),(cY (List.replicate n zH) Rs.flatten)[i]?=some x->val (mv (ku m r g) i x)∈(applyW S0 Rs.flatten)[i]?/\(mv (ku m r g) i x).Ok:=fun i x c=>by
  have v:=hrel i x c;have s:=(List.getElem?_eq_some_iff.1 c).1;cases a:x.lg
  ·obtain ⟨C,H,_⟩:=v.2 a;obtain ⟨y,f⟩:∃ y,S0[i]?=some y:=⟨_,List.getElem?_eq_getElem (by rw [h.len];omega)⟩
   have d:=h.ok y (List.mem_of_getElem? f);have I:=h.x_at f H;have t:mv (ku m r g) i x=⟨y.k,y.bs,false⟩:=by
    unfold mv;rw [a,I,nO,oR d.len];rfl
   rw [t];exact ⟨by rw [C,f];rfl,⟨d.k,d.len,d.b⟩⟩
  ·have t:mv (ku m r g) i x=x:=by unfold mv;rw [a];rfl
   rw [t];exact ⟨by rw [v.1 a];rfl,q x (List.mem_of_getElem? c)⟩
 refine ⟨rfl,rfl,rfl,rfl,⟨?_,fun y f=>?_,h.n200,A,(by show i64 (r:Int);constructor <;> omega),by have:=h.e2;show e<4294967296;omega,by show (0:Nat)<4294967296;omega,by show (0:Nat)<=2000;omega⟩,?_,fun i x c a=>?_⟩
 ·show (dE _ 0 _).length=n;rw [fq,p]
 ·obtain ⟨i,s⟩:=List.getElem?_of_mem f;have l:(dE (ku m r g) 0 (cY (List.replicate n zH) Rs.flatten))[i]?=some y:=s;rw [ma] at l;obtain ⟨x,c,rfl⟩:=Option.map_eq_some_iff.1 l;rw [Nat.zero_add];exact (j i x c).2
 ·apply List.ext_getElem?;intro i;show ((dE (ku m r g) 0 (cY (List.replicate n zH) Rs.flatten)).map val)[i]?=_;rw [List.getElem?_map,ma,Nat.zero_add];by_cases s:i<n
  ·obtain ⟨x,c⟩:∃ x,(cY (List.replicate n zH) Rs.flatten)[i]?=some x:=⟨_,List.getElem?_eq_getElem Ha⟩
   rw [c];exact ((j i x c).1).symm
  ·rw [List.getElem?_eq_none Ha,List.getElem?_eq_none (by rw [bZ,h.len];omega)];rfl
 ·have o:(dE (ku m r g) 0 (cY (List.replicate n zH) Rs.flatten))[i]?=some x:=c;rw [ma,Nat.zero_add] at o;obtain ⟨y,f,rfl⟩:=Option.map_eq_some_iff.1 o;have u:y.lg=false:=by
   cases w:y.lg
   ·rfl
   ·have:mv (ku m r g) i y=y:=by unfold mv;rw [w];rfl
    rw [this,w] at a;cases a
  exact ((hrel i y f).2 u).2.1
theorem CN {w0 W:World} {P:Nat->Prop} {q:Nat} {m:DM} (h:DS w0 W P q m) {r n g e:Nat} {S0:List Bk} {Rs:List (List Wr)} (a:Bj m r n g e S0 Rs) (B:r<1000) (u:g<=1000) (l:Int) (o:Rs.length<=1000000) (d:m.done.length<=999000) :
 Calls Tryz.prog 43 #[.pointer (some ⟨q,0,none⟩),.int .i64 r,qq 0 0 n g l] W fun v w'=>∃ hp rb,v=.returned (.tuple #[.pointer (some ⟨hp,0,none⟩),.int .i64 0]) /\
  SV w0 w' (fun k=>P k\/k=hp\/k=rb) q (fE m (qg m r n g e l Rs)) hp rb (gX (qg m r n g e l Rs))/\bz P W w'/\W.heap.size<=hp/\W.heap.size<=rb:=by
 obtain ⟨rest,w,z⟩:=a.lg;have hrel:=n4 Rs.flatten (List.replicate n zH) S0 (fun i=>S0[i]?) (by rw [List.length_replicate,a.len]) (t6 n S0 a.len);refine zJ h r (by constructor <;> omega) n g l a.n200 u e a.epN (by have:=a.e2;omega) (fun i b c=>a.fit.rV_blk i b c) (((aF m r).drop 2).take g) (Bl a.fit Ha) (fun i b c=>?_) (fun b c=>?_) Rs rest a.rs w z o (ku m r g) (fun i f=>?_) (fun i x s p=>?_) d
 ·rw [a.fit.rV];exact (vx c).2
 ·obtain ⟨i,f⟩:=List.getElem?_of_mem c;exact a.fit.blk (vx f).2
 ·obtain ⟨b,c⟩:=a.fit.get (i:=2+g+i) Ha;rw [a.fit.rV];unfold ku;rw [List.getD,c];exact ⟨rfl,a.fit.blk c⟩
 ·obtain ⟨_,A,_⟩:=(hrel i x s).2 p;have f:=(List.getElem?_eq_some_iff.1 s).1;rw [iR,List.length_replicate] at f;obtain ⟨y,t⟩:∃ y,S0[i]?=some y:=⟨_,List.getElem?_eq_getElem (by rw [a.len];exact f)⟩
  have j:=a.ok y (List.mem_of_getElem? t);have:=a.n200;rw [a.x_at t A];exact (Cr j.len j.k Ha Ha).2 ⟨rfl,rfl⟩
structure iZ (m:DM) (v:VM) (r n g e:Nat) (S0:List Bk) (Rs:List (List Wr)) (k:Nat):Prop where
 idle:iT m r n g e S0 Rs k [] 0
 tied:qf v r n g e S0 Rs
 sq:v.sq=Rs.length
 us:v.us=(aL e 0 Rs).length
theorem t7 (B:List HB):(B.map kr).map val=B.map val:=by rw [List.map_map];rfl
theorem qf.home {v:VM} {r n g e:Nat} {S0:List Bk} {Rs:List (List Wr)} (h:qf v r n g e S0 Rs) (b:e+1<65000):qf (gX v) r n g (e+1) (applyW S0 Rs.flatten) [] :=
 ⟨h.vr,h.vn,h.vg,by show v.ep+1=_;rw [h.ve],Ez h.vok (by rw [h.ve];omega),by show (v.B.map kr).map Proofs.YtegjelaejbacnaaGreat.val=applyW _ [].flatten;rw [t7,h.val];rfl,fun i x _ _ w a=>by simp at a⟩
theorem Bj.live {m:DM} {r n g e:Nat} {S0:List Bk} {Rs:List (List Wr)} {v:VM} (h:Bj m r n g e S0 Rs) (b:qf v r n g e S0 Rs) (c:e+1<65000) (a:aG (fE m v)=false):iZ (fE m v) (gX v) r n g (e+1) (applyW S0 Rs.flatten) [] 0/\iH (fE m v) r :=
 ⟨⟨(h.home b c a).1,b.home c,rfl,rfl⟩,(h.home b c a).2⟩
theorem iZ.sync {m:DM} {v:VM} {r n g e:Nat} {S0:List Bk} {Rs:List (List Wr)} {k:Nat} (h:iZ m v r n g e S0 Rs k) (a:aG m=false):iZ (m.doBarrier r) v r n g e S0 Rs Rs.length/\iH (m.doBarrier r) r :=
 ⟨⟨(h.idle.bar a).1,h.tied,h.sq,h.us⟩,(h.idle.bar a).2⟩
theorem CO {m:DM} (a:aG m=true) (v:VM):iS m v=m:=by
 unfold iS fE;rw [jc a,m5 a,m6 a]
theorem iZ.tidy {m:DM} {v:VM} {r n g e:Nat} {S0:List Bk} {Rs:List (List Wr)} {k:Nat} (h:iZ m v r n g e S0 Rs k) (c:e+1<65000) (a:aG (iS m v)=false):iZ (iS m v) (gX v) r n g (e+1) (applyW S0 Rs.flatten) [] 0/\iH (iS m v) r:=by
 have b:aG m=false:=by
  cases b:aG m
  ·rfl
  ·rw [CO b,b] at a;cases a
 have d:=h.sync b;unfold iS at a ⊢;rw [h.tied.vr] at a ⊢;exact d.1.idle.mtb_now.live h.tied c a
theorem CP (e:Nat):∀ (Rs:List (List Wr)) (s:Nat) (l:List Wr),(aL e s (Rs++[l])).length=(aL e s Rs).length+(1+l.length):=fun Rs s l=>by
 rw [jb,tU,List.length_append,bG]
theorem qf.put {v:VM} {r n g e:Nat} {S0:List Bk} {Rs:List (List Wr)} (h:qf v r n g e S0 Rs) {l:List Wr} (k:bQ l/\bW l) (c:v.sq+1<4294967296) (d:v.us+(1+l.length)<=2000):qf (vw v l) r n g e S0 (Rs++[l]):=by
 have a:(Rs++[l]).flatten=Rs.flatten++l:=Hb;refine ⟨h.vr,h.vn,h.vg,h.ve,{ h.vok with len:=(by show (cY v.B l).length=v.n;rw [iR];exact h.vok.len),ok:=vt k.2 k.1.kinds h.vok.ok,sq:=c,us:=d },?_,fun i x m f=>?_⟩
 ·show (cY v.B l).map Proofs.YtegjelaejbacnaaGreat.val=_;rw [rk,h.val,a,sS]
 ·have j:(cY v.B l)[i]?=some x:=m;have o:=n4 l v.B (v.B.map Proofs.YtegjelaejbacnaaGreat.val) (fun i=>(v.B.map Proofs.YtegjelaejbacnaaGreat.val)[i]?) Hb (fun i y p=>⟨fun _=>by rw [List.getElem?_map,p];rfl,fun _=>rfl⟩) i x j;obtain ⟨_,q,y,s,t⟩:=o.2 f;have h5:=h.fl i y s t;rw [a];intro w b;rcases List.mem_append.1 b with b | b
  ·exact h5 w b
  ·exact q w b
theorem iZ.put {m:DM} {v:VM} {r n g e:Nat} {S0:List Bk} {Rs:List (List Wr)} {k:Nat} (h:iZ m v r n g e S0 Rs k) {l:List Wr} (i:bQ l/\bW l) (c:v.us+(1+l.length)<=g) (f:v.sq+1<4294967296) (a:aG (oY m v l)=false):iZ (oY m v l) (vw v l) r n g e S0 (Rs++[l]) k:=by
 have d:aG m=false:=by
  cases d:aG m
  ·rfl
  ·unfold oY at a;rw [o5 d,d] at a;cases a
 have j:=h.tied.vok.g;rw [h.tied.vg] at j;have b:=J7 (F:=fun _=>True) i (by rw [<- h.us];exact c) (fun _ _ _=>trivial) (fun _ _=>trivial) l.length m 0 Ha (show LB m (fun m=>iT m r n g e S0 Rs k l 0) (fun _=>True) from Or.inl ⟨d,h.idle.relabel l⟩);have o:jD (r:Int) m ((aL e 0 Rs).length+0) ((putL 0 e Rs.length l).drop 0)=oY m v l:=by
  unfold oY;rw [h.tied.vr,h.us,h.tied.ve,h.sq];rfl
 rw [o] at b;rcases b with ⟨_,b⟩ | ⟨b,_⟩
 ·refine ⟨b,h.tied.put i f Ha,?_,?_⟩
  ·show v.sq+1=_;rw [h.sq,List.length_append];rfl
  ·show v.us+(1+l.length)=_;rw [CP,h.us]
 ·rw [a] at b;cases b
def zM (n g:Nat) (f:Int):Array Value:=#[.int .i64 0,.int .i64 0,.int .i64 n,.int .i64 g,.int .i64 f]
theorem Ih (n g:Nat) (f:Int):(zM n g f).all (·.oneCell')=true:=by
 refine Array.all_eq_true_iff_forall_mem.2 fun v a=>?_;unfold zM at a;simp only [List.mem_toArray,List.mem_cons,List.not_mem_nil,or_false] at a;rcases a with rfl | rfl | rfl | rfl | rfl <;> rfl
theorem zN:(Tryz.prog.info? 97).map (·.size)=some 5:=Hc
section
variable {ops:Array Oper} {rest:List Oper} {o:Oper} {a:Act} {w:World} {Q:Exit->Act->World->Prop}
theorem sU (c:o.guard=none) (x y:Operand) (e:o.op=.store 97 x y) (p:Nat) (i:a.eval x=.pointer (some ⟨p,0,none⟩)) (n g:Nat) (f:Int) (j:a.eval y=.agg (zM n g f)) (b:Array Value) (d:b.size=5) (k:w.heap[p]?=some (.cells b 97 (0,0)))
 (h:wpList Tryz.prog ops Q rest (a.put o.dst undef) (w.setRow p (zM n g f))):wpList Tryz.prog ops Q (o :: rest) a w :=
 wpList_store_row c 97 x y e p _ i j _ _ k (by rw [show (zM n g f).size=5 from rfl];exact zN) (by rw [d];rfl) (Ih _ _ _) h
theorem n8 (b:o.guard=none) (x:Operand) (c:o.op=.load 97 x) (p:Nat) (d:a.eval x=.pointer (some ⟨p,0,none⟩)) (n g:Nat) (f:Int) (e:w.heap[p]?=some (.cells (zM n g f) 97 (0,0)))
 (h:wpList Tryz.prog ops Q rest (a.put o.dst (.agg (zM n g f))) w):wpList Tryz.prog ops Q (o :: rest) a w :=
 wpList_load_row b 97 x c p d _ _ _ _ e Tryz.underlying97 rfl (by rw [show (zM n g f).size=5 from rfl];exact zN) h
theorem sV (b:Region.wanted o (yielded ops a.tmps)=true) (x:Operand) (c:o.op=.load 97 x) (p:Nat) (d:a.eval x=.pointer (some ⟨p,0,none⟩)) (n g:Nat) (f:Int) (e:w.heap[p]?=some (.cells (zM n g f) 97 (0,0)))
 (h:wpList Tryz.prog ops Q rest (a.put o.dst (.agg (zM n g f))) w):wpList Tryz.prog ops Q (o :: rest) a w :=
 BigFrame.wpList_want b fun _ i=>wp_load_row 97 x c p d _ _ _ _ e Tryz.underlying97 rfl (by rw [show (zM n g f).size=5 from rfl];exact zN) (i _ _ h)
end
def jf (v:VM):List Bk:=v.B.map val
theorem EH (v:VM):jf (gX v)=jf v:=t7 v.B
theorem Bm (v:VM) (l:List Wr):jf (vw v l)=applyW (jf v) l:=rk l v.B
theorem EI {v:VM} {l:List Wr} (h:gE v l):jf (qe v l)=applyW (jf v) l:=by
 unfold qe;rw [if_pos h];split
 ·rw [Bm,EH]
 ·exact Bm _ _
theorem vz {v:VM} {l:List Wr} (h:¬ gE v l):qe v l=v:=if_neg h
theorem t8 (e:Nat):∀ (Rs:List (List Wr)) (s:Nat),Rs.length<=(aL e s Rs).length
 | [],_=>Nat.le_refl _
 | l :: Rs,s=>by
   show Rs.length+1<=(putL 0 e s l++aL e (s+1) Rs).length;rw [List.length_append,bG];have:=t8 e Rs (s+1);omega
section
variable {m:DM} {v:VM} {r n g e:Nat} {S0:List Bk} {Rs:List (List Wr)} {k:Nat}
theorem iZ.usg (h:iZ m v r n g e S0 Rs k):v.us<=v.g:=by rw [h.us,h.tied.vg];have:=h.idle.fits;omega
theorem iZ.sqg (h:iZ m v r n g e S0 Rs k):v.sq<=v.g:=by
 have b:=t8 e Rs 0;have a:=h.usg;rw [h.us] at a;rw [h.sq];omega
theorem iZ.st (h:iZ m v r n g e S0 Rs k):jf v=applyW S0 Rs.flatten:=h.tied.val
theorem iZ.gle (h:iZ m v r n g e S0 Rs k):g<=1000:=by rw [<- h.tied.vg];exact h.tied.vok.g
def Lv (m:DM) (v:VM) (r n g:Nat):Prop:=∃ a Rs k,iZ m v r n g v.ep a Rs k
theorem iZ.lv (h:iZ m v r n g e S0 Rs k):Lv m v r n g:=⟨S0,Rs,k,by have:=h.tied.ve;rw [this];exact h⟩
theorem xL {v:VM} {l:List Wr} (h:gE v l):1<=l.length/\l.length<=12:=h.1.1
theorem iZ.change (h:iZ m v r n g e S0 Rs k) {l:List Wr} (d:bW l) (c:gE v l) (x:13<=g) (p:e+1<65000) (a:aG (sH m v l)=false):∃ i Rs' q,iZ (sH m v l) (qe v l) r n g (if jL v l then e+1 else e) i Rs' q:=by
 have y:=xL c;have s:=h.gle;by_cases b:jL v l
 ·have j:sH m v l=oY (iS m v) (gX v) l:=by unfold sH;rw [if_pos c,if_pos b]
  have o:qe v l=vw (gX v) l:=by unfold qe;rw [if_pos c,if_pos b]
  rw [j] at a ⊢;rw [o,if_pos b];have f:aG (iS m v)=false:=by
   cases f:aG (iS m v)
   ·rfl
   ·unfold oY at a;rw [o5 f,f] at a;cases a
  have t:=(h.tidy p f).1;exact ⟨_,_,_,t.put ⟨c.1,d⟩ (by show 0+(1+l.length)<=g;omega) (by show 0+1<4294967296;omega) a⟩
 ·have j:sH m v l=oY m v l:=by unfold sH;rw [if_pos c,if_neg b]
  have o:qe v l=vw v l:=by unfold qe;rw [if_pos c,if_neg b]
  rw [j] at a ⊢;rw [o,if_neg b];have u:=h.usg;have w:=h.sqg;unfold jL at b;rw [h.tied.vg] at b u w;exact ⟨_,_,_,h.put ⟨c.1,d⟩ Ha Ha a⟩
theorem J9 (v:VM) (l:List Wr):(qe v l).ep=if gE v l/\jL v l then v.ep+1 else v.ep:=by
 unfold qe;by_cases a:gE v l
 ·rw [if_pos a];by_cases b:jL v l
  ·rw [if_pos b,if_pos ⟨a,b⟩];rfl
  ·rw [if_neg b,if_neg (fun h=>b h.2)];rfl
 ·rw [if_neg a,if_neg (fun h=>a h.1)]
theorem Lv.change (h:Lv m v r n g) {l:List Wr} (b:bW l) (f:13<=g) (i:v.ep+1<65000) (c:m.stops=false):Lv (sH m v l) (qe v l) r n g/\v.ep<=(qe v l).ep/\(qe v l).ep<=v.ep+1/\(sH m v l).stops=false:=by
 obtain ⟨j,Rs,k,h⟩:=h;have e:(sH m v l).stops=false:=by rw [LC];exact c
 have a:=J9 v l;refine ⟨?_,by rw [a];split <;> omega,by rw [a];split <;> omega,e⟩;by_cases d:gE v l
 ·obtain ⟨o,Rs',s,p⟩:=h.change b d f i (xI e);exact p.lv
 ·have q:sH m v l=m:=if_neg d;rw [q,vz d];exact ⟨j,Rs,k,h⟩
theorem Lv.usg (h:Lv m v r n g):v.us<=v.g:=by obtain ⟨_,_,_,h⟩:=h;exact h.usg
theorem Lv.sqg (h:Lv m v r n g):v.sq<=v.g:=by obtain ⟨_,_,_,h⟩:=h;exact h.sqg
theorem Lv.parts (h:Lv m v r n g):v.r=(r:Int)/\v.n=n/\v.g=g/\v.Ok/\g<=1000/\n<=200:=by
 obtain ⟨_,_,_,h⟩:=h;exact ⟨h.tied.vr,h.tied.vn,h.tied.vg,h.tied.vok,h.gle,h.idle.n200⟩
end
theorem ua (m:DM) (v:VM) (l:List Wr):(oY m v l).done.length<=m.done.length+(1+l.length):=by
 unfold oY;have:=oX v.r (putL 0 v.ep v.sq l) m v.us;rw [bG] at this;exact this
theorem EJ (m:DM) (v:VM) (l:List Wr):(sH m v l).done.length<=m.done.length+v.B.length+17:=by
 unfold sH;by_cases a:gE v l
 ·have c:=xL a;rw [if_pos a];split
  ·have b:=ua (iS m v) (gX v) l;have d:=rj m v;omega
  ·have b:=ua m v l;omega
 ·rw [if_neg a];omega
theorem pQ (m:DM) (r n g e:Nat) (a:Int) (Rs:List (List Wr)):(fE m (qg m r n g e a Rs)).done.length<=m.done.length+n+3:=by
 have b:=rh m (qg m r n g e a Rs);have c:(qg m r n g e a Rs).B.length=n:=by show (dE _ 0 _).length=n;rw [fq,iR,List.length_replicate]
 omega
theorem m9 (m:DM) (r:Int) (n g:Nat):(kU m r n g).done.length<=m.done.length+n+3:=by
 have a:=jM r g m n;have b:=cR (dp r g m n) r;have c:=fQ ((dp r g m n).doBarrier r) r ((1%2:Nat):Int) (bg 0 1);have d:=cR (((dp r g m n).doBarrier r).doWrite r ((1%2:Nat):Int) (bg 0 1)) r;unfold kU DM.doBegin;omega
theorem xM {a:List Int} {r:Nat} {z:Int} (h:a[r]?=some z):aF (DM.make a) r=zeroRow z:=by
 unfold aF DM.make;show (a.map zeroRow).getD r []=_;rw [List.getD,List.getElem?_map,h];rfl
theorem ru {a:List Int} (b:nJ a=true) {r:Nat} {z:Int} (h:a[r]?=some z) {N:Nat} (c:N<=z.toNat):lA (DM.make a) r N:=by
 refine ⟨DM.make_ok b,qI.make a,?_,?_⟩
 ·show r<(a.map zeroRow).length;rw [List.length_map];exact (List.getElem?_eq_some_iff.1 h).1
 ·rw [xM h];unfold zeroRow;rw [List.length_replicate];exact c
theorem ub {c:List Int} {r:Nat} {z:Int} (h:c[r]?=some z) {i:Nat} {b:List Int} (a:(aF (DM.make c) r)[i]?=some b):b=CL:=by
 rw [xM h] at a;unfold zeroRow at a;exact List.eq_of_mem_replicate (List.mem_of_getElem? a)
theorem xN {a:List Int} (d:nJ a=true) {r:Nat} {z:Int} (h:a[r]?=some z) {n g:Nat} (e:2+g+n<=z.toNat) (f:n<=200):iT (kU (DM.make a) r n g) r n g 1 (gF n) [] 0 [] 0/\iH (kU (DM.make a) r n g) r/\(kU (DM.make a) r n g).stops=false :=
 ⟨(t5 (ru d h e) rfl f (fun i b _ c=>ub h c)).1,(t5 (ru d h e) rfl f (fun i b _ c=>ub h c)).2,by rw [Ig];rfl⟩
section
variable {ops:Array Oper} {rest:List Oper} {o:Oper} {a:Act} {w:World} {Q:Exit->Act->World->Prop}
end
def sW (n g:Nat):DM:=DM.make [((2+g+n:Nat):Int)]
def sX (n g:Nat):DM:=kU (sW n g) (0:Int) n g
def MN (n g:Nat):DM:=fE (sX n g) (qg (sX n g) 0 n g 1 3 [])
def MZ (n g:Nat):VM:=gX (qg (sX n g) 0 n g 1 3 [])
theorem Mt (n g:Nat) (a:n<=40) (b:g<=60):nJ [((2+g+n:Nat):Int)]=true:=by
 have h:dx ((2+g+n:Nat):Int)=false:=by
  unfold dx;simp only [Bool.or_eq_false_iff,decide_eq_false_iff_not];omega
 unfold nJ;rw [show ([((2+g+n:Nat):Int)].any dx)=false by rw [List.any_cons,h];rfl];rfl
structure Started (m:DM) (v:VM) (n g:Nat):Prop where
 live:iZ m v 0 n g 2 (gF n) [] 0
 sure:iH m 0
 stops:m.stops=false
 done:m.done.length<=2*n+6
 us:v.us=0
 sq:v.sq=0
 n_:v.n=n
 g_:v.g=g
 ep:v.ep=2
 r_:v.r=((0:Nat):Int)
theorem EK {n g:Nat} (a:n<=40) (b:g<=60):iT (sX n g) 0 n g 1 (gF n) [] 0 [] 0/\(sX n g).stops=false:=by
 obtain ⟨c,e,d⟩:=xN (r:=0) (z:=((2+g+n:Nat):Int)) (n:=n) (g:=g) (Mt n g a b) rfl Ha Ha;exact ⟨c,d⟩
theorem started {n g:Nat} (e:n<=40) (f:g<=60):Started (MN n g) (MZ n g) n g:=by
 obtain ⟨h,i⟩:=EK e f;have a:=h.mtb_now;have d:=a.tied 3 Ha Ha;have b:(fE (sX n g) (qg (sX n g) 0 n g 1 3 [])).stops=false:=by rw [vy];exact i
 have c:=a.live d Ha (xI b);have j:=m9 (sW n g) (0:Int) n g;have k:=pQ (sX n g) 0 n g 1 3 [];have l:(sW n g).done.length=0:=rfl;exact ⟨c.1,c.2,b,by unfold MN;unfold sX at *;omega,rfl,rfl,rfl,rfl,rfl,rfl⟩
section
variable {ops:Array Oper} {rest:List Oper} {o:Oper} {a:Act} {w:World} {Q:Exit->Act->World->Prop}
end
section
variable {H:Type} {enc:TypeId × Value->H} {w:World} {base:Nat} {spare:Nat->Bool} {held:Bool}
end
def bksL:List Bk->List Value
 | []=>[]
 | x :: l=>blkL x.k x.bs++bksL l
theorem qs:∀ {l:List Bk},dO l->∀ {i:Nat} {x:Bk},l[i]?=some x->∀ {j:Nat} {v:Value},(blkL x.k x.bs)[j]?=some v->(bksL l)[i*57+j]?=some v
 | [],_,i,x,h,_,_,_=>by cases h
 | y :: l,b,0,x,h,j,v,hj=>by
   injection h with h;subst h
   show (blkL y.k y.bs++bksL l)[0*57+j]?=some v;rw [Nat.zero_mul,Nat.zero_add,List.getElem?_append_left (List.getElem?_eq_some_iff.1 hj).1];exact hj
 | y :: l,b,i+1,x,h,j,v,hj=>by
   show (blkL y.k y.bs++bksL l)[(i+1)*57+j]?=some v;have a:(blkL y.k y.bs).length=57:=bf (b y Hb).len;rw [List.getElem?_append_right Ha,a,show (i+1)*57+j-57=i*57+j by omega];exact qs (l:=l) (fun z c=>b z (by simp [c])) (show l[i]?=some x from h) hj
theorem EL (k:Int) (bs:List Int):∀ v∈blkL k bs,v.oneCell'=true:=by
 have h:=ke k bs;rw [Array.all_eq_true_iff_forall_mem] at h;exact fun v a=>h v (by unfold ab;simpa using a)
theorem xO:∀ (l:List Bk),∀ v∈bksL l,v.oneCell'=true
 | [],v,h=>by cases h
 | x :: l,v,h=>by
   rcases List.mem_append.1 (show v∈blkL x.k x.bs++bksL l from h) with h | h
   ·exact EL _ _ v h
   ·exact xO l v h
def rv (w:World) (A:Option Addr) (l:List Bk):Prop:=∀ i x,l[i]?=some x->∃ g,A=some ⟨g,0,none⟩/\w.rangeAt g (i*57) (blkL x.k x.bs)
theorem rv.keep {w w':World} {A:Option Addr} {l:List Bk} (h:rv w A l) (a:Below w.heap.size w w'):rv w' A l:=fun i x b =>
 let ⟨g,e,h1⟩:=h i x b;⟨g,e,fun j v hj=>cO a (h1 j v hj)⟩
section
variable {ops:Array Oper} {rest:List Oper} {o:Oper} {a:Act} {w:World} {Q:Exit->Act->World->Prop}
end
theorem Lv.step {m:DM} {v:VM} {r n g:Nat} (h:Lv m v r n g) {l:List Wr} (a:bW l) (d:13<=g) (e:v.ep+1<65000) (b:m.stops=false):Lv (sH m v l) (qe v l) r n g/\(qe v l).ep<=v.ep+1/\(sH m v l).stops=false:=by
 have c:=h.change a d e b;exact ⟨c.1,c.2.2.1,c.2.2.2⟩
theorem Ii {v:VM} (h:v.Ok):dO (jf v):=fun x a=>by
 unfold jf at a;obtain ⟨y,c,rfl⟩:=List.mem_map.1 a;have:=h.ok y c;exact ⟨this.k,this.len,this.b⟩
theorem iw {v:VM} (h:v.Ok):(jf v).length=v.n:=by unfold jf;rw [List.length_map,h.len]
structure Nd where
 g:Int
 l:Int
 s:Int
 a:Int
 b:Int
 c:Int
 d:Int
 x:Int
 t:List Int
theorem Nd.ext_iff' (n m:Nd):n=m↔(n.g=m.g/\n.l=m.l/\n.s=m.s/\(n.a=m.a/\n.b=m.b/\n.c=m.c/\n.d=m.d)/\n.x=m.x/\n.t=m.t):=by
 cases n;cases m;simp only [Nd.mk.injEq];constructor <;> (intro h;simp only [h,and_self])
instance (n m:Nd):Decidable (n=m):=decidable_of_iff _ (Nd.ext_iff' n m).symm
def bF (n:Nd):Array Value:=#[.int .u32 n.g,.int .i64 n.l,.int .i64 n.s,.int .i64 n.a,.int .i64 n.b,.int .i64 n.c,.int .i64 n.d,.int .i64 n.x,.string (strOfNums n.t)]
structure jY (n:Nd):Prop where
 g:u32 n.g
 l:i64 n.l
 s:i64 n.s
 a:i64 n.a
 b:i64 n.b
 c:i64 n.c
 d:i64 n.d
 x:i64 n.x
 t:ay n.t
 tl:n.t.length<=9223372036854775807
def nd0:Nd:=⟨0,0,0,0,0,0,0,0,[]⟩
theorem Ka:jY nd0:=⟨⟨Hd,Hd⟩,⟨Hd,Hd⟩,⟨Hd,Hd⟩,⟨Hd,Hd⟩,⟨Hd,Hd⟩,⟨Hd,Hd⟩,⟨Hd,Hd⟩,⟨Hd,Hd⟩,(fun x a=>by cases a),Hd⟩
theorem Bn (n:Nd):(bF n).all (·.oneCell')=true:=by unfold bF;simp [Value.oneCell']
theorem Js:(Tryz.prog.info? 137).map (fun i=>(i.zero,i.size))=some (some (.agg (bF nd0)),9):=Hc
theorem ud:(Tryz.prog.info? 137).map (·.size)=some 9:=Hc
theorem Kb:Tryz.prog.built 137 []=some (bF nd0):=Hc
def aV (w:World) (p:Nat) (n:Nd):Prop:=w.heap[p]?=some (.cells (bF n) 137 (0,0))
theorem aV.below {w w':World} {p:Nat} {n:Nd} (h:aV w p n) (a:Below w.heap.size w w'):aV w' p n:=kb a h
theorem aV.new (w:World) (n:Nd):aV (w.alloc (Obj.cells (bF n) 137)) w.heap.size n:=heap_alloc_new _ _
theorem aV.alloc {w:World} {p:Nat} {n:Nd} (h:aV w p n) (o:Obj):aV (w.alloc o) p n:=kb (aM o) h
theorem aV.grown {w w':World} {p:Nat} {n:Nd} {r:Option Nat} (h:aV w p n) (a:w.grownBy w' r) (b:r≠some p):aV w' p n:=by
 unfold aV;rw [a.block p (ah h) (fun e=>b e.symm)];exact h
theorem aV.set {w:World} {p:Nat} {n:Nd} (h:aV w p n) (m:Nd):aV (w.setRow p (bF m)) p m:=am h
theorem aV.other {w:World} {p q:Nat} {n:Nd} (h:aV w p n) (C:Array Value) (a:p≠q):aV (w.setRow q C) p n:=by
 unfold aV;rw [setRow_other w q p C a];exact h
theorem aV.cell {w:World} {p:Nat} {n:Nd} (h:aV w p n) (i:Nat):w.cell? ⟨p,i,none⟩=(bF n)[i]?:=af h i
theorem aV.cells {w:World} {p:Nat} {n:Nd} (h:aV w p n):w.cell? ⟨p,0,none⟩=some (.int .u32 n.g)/\w.cell? ⟨p,1,none⟩=some (.int .i64 n.l)/\w.cell? ⟨p,2,none⟩=some (.int .i64 n.s)/\w.cell? ⟨p,7,none⟩=some (.int .i64 n.x)/\w.cell? ⟨p,8,none⟩=some (.string (strOfNums n.t)):=⟨h.cell 0,h.cell 1,h.cell 2,h.cell 7,h.cell 8⟩
section
variable {ops:Array Oper} {rest:List Oper} {o:Oper} {ac:Act} {w:World} {Q:Exit->Act->World->Prop}
theorem bC (a:o.guard=none) (d:o.op=.alloc 137)
 (h:wpList Tryz.prog ops Q rest (ac.put o.dst (.pointer (some ⟨w.heap.size,0,none⟩))) (w.alloc (.cells (bF nd0) 137))):wpList Tryz.prog ops Q (o :: rest) ac w:=by
 obtain ⟨e,f,b,g⟩:∃ i,Tryz.prog.info? 137=some i/\i.zero=some (.agg (bF nd0))/\i.size=9:=by
  have h:=Js;cases c:Tryz.prog.info? 137 with
  | none=>rw [c] at h;cases h
  | some i=>rw [c] at h;simp only [Option.map_some,Option.some.injEq,Prod.mk.injEq] at h;exact ⟨i,rfl,h.1,h.2⟩
 exact wpList_plain a fun _ j=>ce 137 d e _ f b (j _ _ h)
theorem cT (a:o.guard=none) (b:o.op=.build 137 #[])
 (h:wpList Tryz.prog ops Q rest (ac.put o.dst (.agg (bF nd0))) w):wpList Tryz.prog ops Q (o :: rest) ac w :=
 wpList_plain a fun _ c=>by
  unfold Oper.wp execOp;have d:=run_build (P:=Tryz.prog) w 137 #[] _ Kb;simp only [b,List.map_toArray,List.map_nil,Sem.run_bind,d,Result.andThen_ok];exact c _ _ h
theorem aN (a:o.guard=none) (x y:Operand) (b:o.op=.store 137 x y) (p:Nat) (c:ac.eval x=.pointer (some ⟨p,0,none⟩)) (n m:Nd) (d:ac.eval y=.agg (bF n)) (e:aV w p m)
 (h:wpList Tryz.prog ops Q rest (ac.put o.dst undef) (w.setRow p (bF n))):wpList Tryz.prog ops Q (o :: rest) ac w :=
 wpList_store_row a 137 x y b p _ c d _ _ e ud rfl (Bn _) h
theorem aZ (a:o.guard=none) (x:Operand) (b:o.op=.load 137 x) (p:Nat) (c:ac.eval x=.pointer (some ⟨p,0,none⟩)) (n:Nd) (d:aV w p n)
 (h:wpList Tryz.prog ops Q rest (ac.put o.dst (.agg (bF n))) w):wpList Tryz.prog ops Q (o :: rest) ac w :=
 wpList_load_row a 137 x b p c _ _ _ _ d Tryz.underlying137 rfl ud h
theorem ue {K:Act->World->Prop} (x y:Operand) (a:o.op=.store 137 x y) (p:Nat) (b:ac.eval x=.pointer (some ⟨p,0,none⟩)) (n m:Nd) (c:ac.eval y=.agg (bF n)) (d:aV w p m)
 (h:K (ac.put o.dst undef) (w.setRow p (bF n))):o.wp Tryz.prog ac w K Q :=
 wp_store_row 137 x y a p _ b c _ _ d ud rfl (Bn _) h
end
theorem zO {a:Func} {p:Tmp} (h:a.results=#[.cell p 137]) (tmps:Array Value) (w:World) (q:Nat) (n:Nd) (hp:tmps.getD p undef=.pointer (some ⟨q,0,none⟩)) (b:aV w q n) :
 (results a tmps).run Tryz.prog w=.ok (.agg (bF n)) w :=
 results_cell_row h tmps w q _ _ _ _ hp b Tryz.underlying137 rfl ud
theorem dP {a:Func} {p u:Tmp} (h:a.results=#[.cell p 137,.tmp u]) (tmps:Array Value) (w:World) (q:Nat) (n:Nd) (hp:tmps.getD p undef=.pointer (some ⟨q,0,none⟩)) (b:aV w q n) :
 (results a tmps).run Tryz.prog w=.ok (.tuple #[.agg (bF n),tmps.getD u undef]) w:=by
 rw [results_cell_tmp h,hp];simp only [asAddr,Sem.run_pure,Result.andThen_ok];rw [run_loadVar_row w q _ _ _ _ _ b Tryz.underlying137 rfl ud];rfl
theorem vA {b:Func} {p:Tmp} (h:b.results=#[.cell p 37]) (tmps:Array Value) (w:World) (g:Nat) (k:Int) (bs:List Int) (hp:tmps.getD p undef=.pointer (some ⟨g,0,none⟩)) (a:bs.length=56) (c:w.heap[g]?=some (.cells (ab k bs) 37 (0,0))) :
 (results b tmps).run Tryz.prog w=.ok (.agg (ab k bs)) w :=
 results_cell_row h tmps w g _ _ _ _ hp c Tryz.underlying37 rfl (by rw [aP a];exact db)
def Nd.ps (n:Nd):List Int:=[n.a,n.b,n.c,n.d,n.x]
def yY (n:Nd):Array Value:=#[.int .i64 n.a,.int .i64 n.b,.int .i64 n.c,.int .i64 n.d,.int .i64 n.x]
theorem Mu (a b c d x f g h j l:Int) (k:Nat) (w:World):(Op.equalIn (k+3) 256 (.agg #[.int .i64 a,.int .i64 b,.int .i64 c,.int .i64 d,.int .i64 x]) (.agg #[.int .i64 f,.int .i64 g,.int .i64 h,.int .i64 j,.int .i64 l])).run Tryz.prog w=.ok (decide (a=f)&&(decide (b=g)&&(decide (c=h)&&(decide (d=j)&&decide (x=l))))) w:=by
 have s:=Tryz.underlying3;have t:=Tryz.isAgg3;have u:=Tryz.sizeOf3;obtain ⟨i,m⟩:∃ i,Tryz.prog.info? 3=some i:=by
  cases n:Tryz.prog.info? 3 with
  | none=>exact absurd n (by have:(Tryz.prog.info? 3).isSome=true:=Hc
                             intro e;rw [e] at this;cases this)
  | some i=>exact ⟨i,rfl⟩
 rw [run_equalIn_array w (k+2) _ _ Tryz.underlying256 m,GH,show List.range 5=[0,1,2,3,4] from rfl];clear m;simp only [Op.eqItems];go_simp;by_cases o:a=f <;> by_cases p:b=g <;> by_cases q:c=h <;> by_cases r:d=j <;> by_cases h5:x=l <;> simp [o,p,q,r,h5]
theorem Kc (k j:Int) (bs cs:List Int) (a:bs.length=56) (b:cs.length=56) (c:ay bs) (d:ay cs) (w:World):(binOp .neq 37 (.agg (ab k bs)) (.agg (ab j cs))).run Tryz.prog w=.ok (.bool (!(decide (k=j/\bs=cs)))) w:=by
 rw [qb,Ld k j bs cs a b c d w];rfl
theorem cI {ops:Array Oper} {rest:List Oper} {o:Oper} {a:Act} {w:World} {Q:Exit->Act->World->Prop} (b:Region.wanted o (yielded ops a.tmps)=true) (x y:Operand) (t:TypeId) (c:o.op=.binOp .neq 37 x y t) (k j:Int) (bs cs:List Int) (d:a.eval x=.agg (ab k bs)) (e:a.eval y=.agg (ab j cs)) (f:bs.length=56) (g:cs.length=56) (i:ay bs) (l:ay cs)
 (h:wpList Tryz.prog ops Q rest (a.put o.dst (.bool (!(decide (k=j/\bs=cs))))) w):wpList Tryz.prog ops Q (o :: rest) a w :=
 BigFrame.wpList_want b fun _ m=>by
  have n:=run_eqGuard_agg (P:=Tryz.prog) w .neq 37 x y (ab k bs) (ab j cs) va;have p:=Kc k j bs cs f g i l w;unfold Oper.wp execOp;simp only [c,d,e,Sem.run_bind,n,p,Result.andThen_ok];exact m _ _ h
theorem Ij (n:Nd) (w:World):(binOp .eql 256 (.agg (yY n)) (.agg #[.int .i64 (-1),.int .i64 (-1),.int .i64 (-1),.int .i64 (-1),.int .i64 (-1)])).run Tryz.prog w=.ok (.bool (decide (n.ps=[-1,-1,-1,-1,-1]))) w:=by
 unfold yY;rw [run_eql_struct,show (10000:Nat)=9997+3 from rfl,Mu];simp only [Result.andThen_ok]
 congr 2
 rw [Bool.eq_iff_iff];unfold Nd.ps;simp
theorem CQ (x:Int) (w:World) (a : -1<=x/\x<200):Calls Tryz.prog 180 #[.int .i64 x] w fun e w'=>e=.returned (.int .u32 (x+1))/\w=w':=by
 have b:IntKind.i64.wrap (x - -1)=x+1:=IntWalk.i64_in _ Ha;have c:IntKind.u32.wrap (x+1)=x+1:=IntWalk.u32_in _ Ha;go_enter Tryz.func180,Tryz.ntmps180;go_wp2;go_ret;exact ⟨rfl,rfl⟩
theorem iU (x:Int) (w:World) (a:0<=x/\x<4294967296):Calls Tryz.prog 201 #[.int .u32 x] w fun e w'=>e=.returned (.int .i64 (x-1))/\w=w':=by
 have b:IntKind.i64.wrap (x + -1)=x-1:=IntWalk.i64_in _ Ha;have c:IntKind.i64.wrap x=x:=IntWalk.i64_in _ Ha;go_enter Tryz.func201,Tryz.ntmps201;go_wp2;go_ret;exact ⟨rfl,rfl⟩
theorem mc (x:Int) (w:World):Calls Tryz.prog 145 #[.int .i64 x] w fun e w'=>e=.returned (.bool (decide (1<=x/\x<200)))/\w=w':=by
 by_cases b:1<=x
 ·have a:decide (1<=x/\x<200)=decide (x<200):=by simp [b]
  rw [a];go_enter Tryz.func145,Tryz.ntmps145;go_wp2;go_ret;exact ⟨rfl,rfl⟩
 ·have a:decide (1<=x/\x<200)=false:=by simp [b]
  rw [a];go_enter Tryz.func145,Tryz.ntmps145;go_wp2;go_ret;exact ⟨rfl,rfl⟩
theorem Jt:(Tryz.prog.info? 3).map (·.size)=some 1:=Hc
theorem ry:(Tryz.prog.info? 256).map (·.size)=some 5:=Hc
def z5:Array Value:=#[.int .i64 0,.int .i64 0,.int .i64 0,.int .i64 0,.int .i64 0]
theorem vB {ops:Array Oper} {rest:List Oper} {o:Oper} {a:Act} {w:World} {Q:Exit->Act->World->Prop} (f:o.guard=none) (s x:Operand) (k:o.op=.call { callee:=.builtin .copy,args:=#[s,x],argTypes:=#[33,33] })
 (g p:Nat) (n:Nd) (l:a.eval s=.slice (some ⟨g,0,none⟩) 5 5) (m:w.heap[g]?=some (.cells z5 256 (0,0))) (q:a.eval x=.slice (some ⟨p,3,none⟩) 4 4) (r:aV w p n)
 (h:wpList Tryz.prog ops Q rest (a.put o.dst (goInt 4)) (w.setRow g #[.int .i64 n.a,.int .i64 n.b,.int .i64 n.c,.int .i64 n.d,.int .i64 0])):wpList Tryz.prog ops Q (o :: rest) a w :=
 wpList_plain f fun _ t=>by
  have u:=run_copy_row (P:=Tryz.prog) w 33 33 o.type 3 g 0 5 5 ⟨p,3,none⟩ 4 4 z5 256 [.int .i64 n.a,.int .i64 n.b,.int .i64 n.c,.int .i64 n.d] Tryz.underlying33 Jt m rfl
   (fun j v hj=>by
     rw [cZ,r.cell];have e:=(List.getElem?_eq_some_iff.1 hj).1;simp only [List.length_cons,List.length_nil] at e
     match j,e,hj with
     | 0,_,hj=>exact hj
     | 1,_,hj=>exact hj
     | 2,_,hj=>exact hj
     | 3,_,hj=>exact hj) (show 0+4<=5 by omega) (fun v i=>by
     simp only [List.mem_cons,List.not_mem_nil,or_false] at i;rcases i with rfl | rfl | rfl | rfl <;> rfl)
  unfold Oper.wp execOp;simp only [k,resolve,invoke,builtin,Sem.run_bind,Sem.run_pure,Result.andThen_ok,List.map_toArray,List.map_cons,List.map_nil,l,q,u];exact t _ _ h
theorem Bo (n:Nd):(yY n).all (·.oneCell')=true:=by unfold yY;simp [Value.oneCell']
def K1 (n:Nd):Array Value:=#[.int .i64 n.a,.int .i64 n.b,.int .i64 n.c,.int .i64 n.d,.int .i64 0]
theorem n9 (n:Nd) (w:World):Calls Tryz.prog 179 #[.agg (bF n)] w fun e w'=>e=.returned (.agg (yY n))/\Below w.heap.size w w':=by
 have h:=aV.new w n;have o:(w.alloc (Obj.cells (bF n) 137)).heap.size=w.heap.size+1:=al _ _;have p:=aM (w:=w) (Obj.cells (bF n) 137);have i:=h.alloc (Obj.cells z5 256);have C:=heap_alloc_new (w.alloc (Obj.cells (bF n) 137)) (Obj.cells z5 256);have r:=p.alloc p.size (Obj.cells z5 256);have H:((w.alloc (Obj.cells (bF n) 137)).alloc (Obj.cells z5 256)).heap.size=w.heap.size+1+1:=by rw [al,o]
 have a:=i.alloc (Obj.cells z5 256);have s:=heap_alloc_new ((w.alloc (Obj.cells (bF n) 137)).alloc (Obj.cells z5 256)) (Obj.cells z5 256);have c:=kb (aM (Obj.cells z5 256)) C;have I:=r.alloc r.size (Obj.cells z5 256);rw [o] at c;rw [H] at s;have t:=He a;have u:=He c;have v:=He s;have HB:=He I;clear h i a C c s p r I o H;go_enter Tryz.func179,Tryz.ntmps179;go_upto_region 2 with fail
 unfold z5 at t u v HB;generalize ((w.alloc (Obj.cells (bF n) 137)).alloc _).alloc _=W at *
 go_still_tail 3,Hc
 change wpList _ _ _ _ _ W.drew;have d:Hid (aV W.drew w.heap.size n):=t;have j:Hid (W.drew.heap[w.heap.size+1]?=some (.cells z5 256 (0,0))):=u;have f:Hid (W.drew.heap[w.heap.size+1+1]?=some (.cells z5 256 (0,0))):=v;have k:Hid (Below w.heap.size w W.drew):=HB.out.drew;clear t u v HB;generalize W.drew=m at *;have g:=He (am (D:=K1 n) f.out);have y:Hid ((m.setRow (w.heap.size+1+1) (K1 n)).heap[w.heap.size+1]?=some (.cells z5 256 (0,0))):=by
  unfold Hid;rw [setRow_other m _ _ _ Ha];exact j.out
 have a:=He (d.out.other (q:=w.heap.size+1+1) (K1 n) Ha);have z:=He (below_setRow k.out (show w.heap.size<=w.heap.size+1+1 by omega) (K1 n));refine vB rfl (.tmp 4) (.tmp 6) rfl (w.heap.size+1+1) w.heap.size n rfl f.out rfl d.out ?_;change wpList _ _ _ _ _ (m.setRow (w.heap.size+1+1) (K1 n));clear d j f k;generalize m.setRow (w.heap.size+1+1) (K1 n)=b at *;have K:b.cell? ⟨w.heap.size,7,none⟩=some (.int .i64 n.x):=a.out.cell 7;have L:b.cell? ⟨w.heap.size+1+1,4,none⟩=some (.int .i64 0):=(af g.out 4).trans rfl;have M:b.frozen? ⟨w.heap.size+1+1,4,none⟩=false:=aA g.out 4;have A:Hid ((b.setCell ⟨w.heap.size+1+1,4,none⟩ (.int .i64 n.x)).heap[w.heap.size+1+1]?=some (.cells (yY n) 256 (0,0))):=ai g.out _;have l:Hid ((b.setCell ⟨w.heap.size+1+1,4,none⟩ (.int .i64 n.x)).heap[w.heap.size+1]?=some (.cells z5 256 (0,0))):=by
  unfold Hid;rw [heap_setCell_other b _ _ _ (show w.heap.size+1≠w.heap.size+1+1 by omega)];exact y.out
 have B:Hid (Below w.heap.size w (b.setCell ⟨w.heap.size+1+1,4,none⟩ (.int .i64 n.x))):=z.out.setCell (show w.heap.size<=w.heap.size+1+1 by omega) _;go_upto_region 4 with fail
 generalize b.setCell ⟨w.heap.size+1+1,4,none⟩ (.int .i64 n.x)=N at *;go_wp2_with (first
  | (refine wpList_load_row rfl 256 (.tmp 3) rfl (w.heap.size+1+1) rfl _ _ _ _ A.out Tryz.underlying256 rfl ry ?_)
  | (refine wpList_store_row rfl 256 (.tmp 2) (.tmp 11) rfl (w.heap.size+1) (yY n) rfl rfl _ _ l.out ry rfl (Bo n) ?_))
 refine bodyPost_ret (results_cell_row rfl _ _ (w.heap.size+1) _ _ _ _ rfl (am (D:=yY n) l.out) Tryz.underlying256 rfl ry) rfl ?_;exact ⟨rfl,below_setRow B.out Ha _⟩
theorem vC (w:World):Calls Tryz.prog 206 #[] w fun e w'=>e=.returned (.agg #[.int .i64 (-1),.int .i64 (-1),.int .i64 (-1),.int .i64 (-1),.int .i64 (-1)])/\Below w.heap.size w w':=by
 have j:=heap_alloc_new w (Obj.cells z5 256);have f:=aM (w:=w) (Obj.cells z5 256);have g:=heap_alloc_new (w.alloc (Obj.cells z5 256)) (Obj.cells z5 256);have b:=kb (aM (Obj.cells z5 256)) j;have l:=f.alloc f.size (Obj.cells z5 256);rw [al] at g;have a:=He b;have m:=g;have n:=l;clear j f g b l;go_enter Tryz.func206,Tryz.ntmps206;go_upto_region 2 with fail
 unfold z5 at a m n;generalize (w.alloc _).alloc _=W at *;go_wp2_with fail
 go_loopw [2,3] (fun _ i wr=>∃ (k:Nat),i=.int .i64 k/\k<=5/\wr.heap[w.heap.size+1]?=some (.cells ((List.replicate k (Value.int .i64 (-1)))++(List.replicate (5-k) (Value.int .i64 0))).toArray 256 (0,0))/\wr.heap[w.heap.size]?=some (.cells z5 256 (0,0))/\Below w.heap.size w wr) (fun _ i _=>(5-intOf i).toNat)
 case atStart=>exact ⟨0,rfl,Ha,m,a.out,n⟩
 case round =>
  obtain ⟨k,rfl,r,o,p,q⟩:=hrel;have c:=He o;have a:=He p;have HB:=He q;clear o p q;by_cases d:k<5
  ·have s:wr.cell? ⟨w.heap.size+1,k,none⟩=some (.int .i64 0):=(af c.out k).trans (by
    match k,d with
    | 0,_=>rfl
    | 1,_=>rfl
    | 2,_=>rfl
    | 3,_=>rfl
    | 4,_=>rfl)
   have t:wr.frozen? ⟨w.heap.size+1,k,none⟩=false:=aA c.out k;go_wp2
   go_roundw
   case rel =>
    refine ⟨k+1,by go_num,Ha,?_,by rw [heap_setCell_other wr _ _ _ (show w.heap.size≠w.heap.size+1 by omega)];exact a.out,HB.out.setCell (show w.heap.size<=w.heap.size+1 by omega) _⟩;rw [ai c.out]
    congr 2
    match k,d with
    | 0,_=>rfl
    | 1,_=>rfl
    | 2,_=>rfl
    | 3,_=>rfl
    | 4,_=>rfl
   case measure=>simp [intOf];omega
  ·obtain rfl:k=5:=Ha;have h:Hid (wr.heap[w.heap.size+1]?=some (.cells #[.int .i64 (-1),.int .i64 (-1),.int .i64 (-1),.int .i64 (-1),.int .i64 (-1)] 256 (0,0))):=c;clear c;go_wp2_with (first
    | (refine wpList_load_row rfl 256 (.tmp 1) rfl (w.heap.size+1) rfl _ _ _ _ h.out Tryz.underlying256 rfl ry ?_)
    | (refine wpList_store_row rfl 256 (.tmp 0) (.tmp 9) rfl w.heap.size #[.int .i64 (-1),.int .i64 (-1),.int .i64 (-1),.int .i64 (-1),.int .i64 (-1)] rfl rfl _ _ a.out ry rfl (Bo ⟨0,0,0,-1,-1,-1,-1,-1,[]⟩) ?_))
   refine bodyPost_ret (results_cell_row rfl _ _ w.heap.size _ _ _ _ rfl (am (D:=#[.int .i64 (-1),.int .i64 (-1),.int .i64 (-1),.int .i64 (-1),.int .i64 (-1)]) a.out) Tryz.underlying256 rfl ry) rfl ?_;exact ⟨rfl,below_setRow HB.out (Nat.le_refl _) _⟩
theorem CR (A:Option Addr) (xs:List Int) (n c:Nat) (v:Int) (w:World) (g:xs.length=n) (t:n<=100) (j:jF w A xs) :
 Calls Tryz.prog 216 #[.slice A n c,.int .i64 v] w fun e w'=>∃ r:Int,e=.returned (.int .i64 r)/\(0<=r↔v∈xs)/\w=w':=by
 have q:=He j;have l:=He g;clear g j;go_enter Tryz.func216,Tryz.ntmps216;go_wp2
 go_loop [8] (fun i=>∃ k:Nat,k<=n/\i=.int .i64 k/\v ∉ xs.take k) (fun i=>n-(intOf i).toNat)
 case atStart=>exact ⟨0,Nat.zero_le _,rfl,Hb⟩
 case round =>
  obtain ⟨k,u,rfl,a⟩:=hrel;have m:=He a;clear a;by_cases b:k<n
  ·obtain ⟨x,d⟩:∃ x,xs[k]?=some x:=⟨_,List.getElem?_eq_getElem (by rw [l.out];exact b)⟩
   obtain ⟨y,rfl,s⟩:=q.out k x d;have o:=He d;clear d;by_cases p:v=x
   ·go_wp2;go_ret;refine ⟨k,rfl,?_,rfl⟩;have:=List.mem_of_getElem? o.out;exact ⟨fun _=>by simpa [p] using this,fun _=>Ha⟩
   ·go_wp2
    go_round
    case rel =>
     refine ⟨k+1,Ha,by go_num,?_⟩;rw [aw o.out];simp only [List.mem_append,List.mem_singleton];rintro (h | h)
     ·exact m.out h
     ·exact p h
    case measure=>simp [intOf];omega
  ·go_wp2;go_ret;refine ⟨-1,rfl,?_,rfl⟩;have h:=m.out;rw [List.take_of_length_le (by rw [l.out];omega)] at h;exact ⟨fun f=>absurd f Ha,fun f=>absurd f h⟩
theorem vD (A:Option Addr) (xs:List Int) (n c:Nat) (v:Int) (w:World) (a:xs.length=n) (d:n<=100) (b:jF w A xs) :
 Calls Tryz.prog 213 #[.slice A n c,.int .i64 v] w fun e w'=>e=.returned (.bool (decide (v∈xs)))/\w=w':=by
 have f:=He (CR A xs n c v w a d b);clear a b;go_enter Tryz.func213,Tryz.ntmps213;go_wp2_with fail
 refine f.out.mono ?_;rintro e g ⟨r,rfl,h,rfl⟩;go_wp2_with fail
 go_ret;exact ⟨aj Hb,rfl⟩
def oc (a:List Int) (i:Nat):Prop:=a.getD i 0 = -1\/((1<=a.getD i 0/\a.getD i 0<200)/\a.getD i 0 ∉ a.take i)
instance (a:List Int) (i:Nat):Decidable (oc a i):=by unfold oc;infer_instance
def CS (a:List Int):Prop:=∀ i,i<5->oc a i
instance (a:List Int):Decidable (CS a):=by unfold CS;infer_instance
theorem EM (n:Nd) {k:Nat} (h:k<5):(yY n)[k]?=some (.int .i64 (n.ps.getD k 0)):=by
 match k,h with
 | 0,_=>rfl
 | 1,_=>rfl
 | 2,_=>rfl
 | 3,_=>rfl
 | 4,_=>rfl
theorem rz (n:Nd) {k:Nat} (h:k<5) (w:World):(Instr.index 256 (.agg (yY n)) (.int .i64 k)).run Tryz.prog w=.ok (.int .i64 (n.ps.getD k 0)) w:=by
 have e:=Tryz.underlying3;have a:=Tryz.isAgg3;have b:=Tryz.sizeOf3;have c:=Tryz.underlying256;have d:=EM n h;have f:(0:Int)<=k/\(k:Int)<5:=Ha;simp [Instr.index,run_underlying c,asIntOf,part,a,b,h,d]
theorem nb (t:List Int) (c:ay t) {k:Nat} {y:Int} (h:t[k]?=some y) (w:World):(Instr.index 9 (.string (strOfNums t)) (.int .i64 k)).run Tryz.prog w=.ok (.int .u8 y) w:=by
 have e:=(List.getElem?_eq_some_iff.1 h).1;have f:=c y (List.mem_of_getElem? h);rw [run_index_string w _ _ _ _ Tryz.underlying9,dif_pos ⟨Ha,by rw [strOfNums_size];omega⟩]
 congr 2
 have a:(strOfNums t).data.toList[k]?=some (UInt8.ofNat y.toNat):=by rw [strOfNums_data,List.getElem?_map,h];rfl
 have b:k<(strOfNums t).data.size:=by
  have:=strOfNums_size t;show k<(strOfNums t).size;omega
 have d:(strOfNums t).data[k]'b=UInt8.ofNat y.toNat:=by
  rw [Array.getElem?_toList,Array.getElem?_eq_getElem b] at a;injection a
 show (((strOfNums t).data[(k:Int).toNat]'_).toNat:Int)=y;simp only [Int.toNat_natCast];rw [d,UInt8.toNat_ofNat'];omega
theorem vE (p:Nat) {k:Nat} (h:k<=5) (w:World):(Instr.sliceAt 256 (.pointer (some ⟨p,0,none⟩)) none (some (.int .i64 k)) none).run Tryz.prog w=.ok (.slice (some ⟨p,0,none⟩) k 5) w:=by
 have b:=Tryz.sizeOf3;have a:Tryz.prog.arrayLen 256=5:=Hc;have c:Tryz.prog.elem 256=3:=Hc;have d:Tryz.prog.underlying 256=some (.array (Tryz.prog.arrayLen 256) (Tryz.prog.elem 256)):=Hc;rw [run_sliceAt_array_h w 256 _ d .i64 (k:Int) Ha (by rw [a];omega),a,c];simp [b,slicedAt,dU]
theorem sY (n:Nd) (w:World):Calls Tryz.prog 204 #[.agg (yY n)] w fun e w'=>e=.returned (.bool (decide (CS n.ps)))/\Below w.heap.size w w':=by
 have r:=He (heap_alloc_new w (Obj.cells (yY n) 256));have HB:=He (aM (w:=w) (Obj.cells (yY n) 256));go_enter Tryz.func204,Tryz.ntmps204;go_upto_region 1 with fail
 generalize w.alloc (Obj.cells (yY n) 256)=W at *;go_wp2_with (refine wpList_load_row rfl 256 (.tmp 1) rfl w.heap.size rfl _ _ _ _ r.out Tryz.underlying256 rfl ry ?_)
 go_loop [6] (fun i=>∃ k:Nat,k<=5/\i=.int .i64 k/\∀ j,j<k->oc n.ps j) (fun i=>5-(intOf i).toNat)
 case atStart=>exact ⟨0,Nat.zero_le _,rfl,fun j hj=>absurd hj Ha⟩
 case round =>
  obtain ⟨k,u,rfl,f⟩:=hrel;have s:=He f;clear f;by_cases g:k<5
  ·have K:=rz n g W;have y:=vE w.heap.size u W;have l:Hid (oc n.ps k↔(n.ps.getD k 0 = -1\/((1<=n.ps.getD k 0/\n.ps.getD k 0<200)/\n.ps.getD k 0 ∉ n.ps.take k))):=Iff.rfl;have z:Hid (jF W (some ⟨w.heap.size,0,none⟩) (n.ps.take k)):=fun i x m=>by
    rw [List.getElem?_take] at m;split at m
    ·refine ⟨_,rfl,?_⟩;rw [dU,af r.out,EM n Ha];rw [List.getD,m];rfl
    ·cases m
   have A:Hid ((n.ps.take k).length=k):=by unfold Hid;rw [List.length_take];exact Nat.min_eq_left (show k<=5 by omega)
   have t:=He (fun (v:Int) c=>vD (some ⟨w.heap.size,0,none⟩) (n.ps.take k) k c v W A.out Ha z.out);have o:Hid (oc n.ps k->∀ j,j<k+1->oc n.ps j):=fun h j hj=>by
    rcases Nat.lt_or_ge j k with p | p
    ·exact s.out j p
    ·obtain rfl:j=k:=Ha;exact h
   have a:Hid (¬ oc n.ps k->decide (CS n.ps)=false):=fun h=>decide_eq_false fun B=>h (B k g);generalize n.ps.getD k 0=x at *;generalize n.ps.take k=C at *;generalize oc n.ps k=L at *;by_cases p:x = -1
   ·go_wp2
    go_round
    case rel=>exact ⟨k+1,Ha,by go_num,o.out (l.out.2 (Or.inl p))⟩
    case measure=>simp [intOf];omega
   ·by_cases M:x<1
    ·have b:=He (a.out fun h=>by have:=l.out.1 h;omega);go_wp2;go_ret;exact ⟨aj b.out.symm,HB.out⟩
    ·by_cases N:200<=x
     ·have b:=He (a.out fun h=>by have:=l.out.1 h;omega);go_wp2;go_ret;exact ⟨aj b.out.symm,HB.out⟩
     ·by_cases d:x∈C
      ·have b:=He (a.out fun h=>by
        rcases l.out.1 h with h5 | h5
        ·exact p h5
        ·exact h5.2 d)
       have q:=He (decide_eq_true d);clear d;go_wp2_with fail
       refine (t.out _ _).mono ?_;rintro e H ⟨rfl,rfl⟩;rw [q.out];go_wp2;go_ret;exact ⟨aj b.out.symm,HB.out⟩
      ·have b:=He (o.out (l.out.2 (Or.inr ⟨Ha,d⟩)));have q:=He (decide_eq_false d);clear d;go_wp2_with fail
       refine (t.out _ _).mono ?_;rintro e H ⟨rfl,rfl⟩;rw [q.out];go_wp2
       go_round
       case rel=>exact ⟨k+1,Ha,by go_num,b.out⟩
       case measure=>simp [intOf];omega
  ·have I:Hid (decide (CS n.ps)=true):=decide_eq_true fun i m=>s.out i Ha;go_wp2;go_ret;exact ⟨aj I.out.symm,HB.out⟩
def nc (t:List Int) (i:Nat):Prop:=33<=t.getD i 0/\t.getD i 0<=126
instance (t:List Int) (i:Nat):Decidable (nc t i):=by unfold nc;infer_instance
def uf (t:List Int):Prop:=(1<=t.length/\t.length<=32)/\∀ i,i<t.length->nc t i
instance (t:List Int):Decidable (uf t):=by unfold uf;infer_instance
theorem sZ (t:List Int) (w:World) (B:ay t):Calls Tryz.prog 205 #[.string (strOfNums t)] w fun e w'=>e=.returned (.bool (decide (uf t)))/\w=w':=by
 have L:=strOfNums_size t;have C:=He (fun k y h w=>nb t B (k:=k) (y:=y) h w);have a:Hid (¬ (1<=t.length/\t.length<=32)->decide (uf t)=false):=fun h=>decide_eq_false fun l=>h l.1;have n:Hid (∀ i,i<t.length->¬ nc t i->decide (uf t)=false):=fun i s h=>decide_eq_false fun l=>h (l.2 i s);have u:Hid ((1<=t.length/\t.length<=32)->(∀ i,i<t.length->nc t i)->decide (uf t)=true):=fun v x=>decide_eq_true ⟨v,x⟩;have H:Hid (∀ k,k<t.length->∃ y,t[k]?=some y/\t.getD k 0=y):=fun k o=>⟨t[k],List.getElem?_eq_getElem o,by rw [List.getD,List.getElem?_eq_getElem o];rfl⟩
 generalize strOfNums t=S at *;generalize I:t.length=m at *;clear I;generalize decide (uf t)=D at *;by_cases v:m<1
 ·have p:=He (a.out Ha);go_enter Tryz.func205,Tryz.ntmps205;go_wp2;go_ret;exact ⟨aj p.out.symm,rfl⟩
 ·by_cases x:32<m
  ·have p:=He (a.out Ha);go_enter Tryz.func205,Tryz.ntmps205;go_wp2;go_ret;exact ⟨aj p.out.symm,rfl⟩
  ·have q:=He (u.out Ha);clear u a;go_enter Tryz.func205,Tryz.ntmps205;go_wp2
   go_loop [14] (fun i=>∃ k:Nat,k<=m/\i=.int .i64 k/\∀ j,j<k->nc t j) (fun i=>m-(intOf i).toNat)
   case atStart=>exact ⟨0,Nat.zero_le _,rfl,fun j hj=>absurd hj Ha⟩
   case round =>
    obtain ⟨k,o,rfl,c⟩:=hrel;have z:=He c;clear c;by_cases d:k<m
    ·obtain ⟨y,A,f⟩:=H.out k d;have K:=fun w=>C.out k y A w;have r:Hid (nc t k↔(33<=y/\y<=126)):=by unfold Hid nc;rw [f]
     have g:=He (n.out k d);clear A f;by_cases M:y<33
     ·have b:=He (g.out fun h=>by have:=r.out.1 h;omega);go_wp2;go_ret;exact ⟨aj b.out.symm,rfl⟩
     ·by_cases N:126<y
      ·have b:=He (g.out fun h=>by have:=r.out.1 h;omega);go_wp2;go_ret;exact ⟨aj b.out.symm,rfl⟩
      ·have b:Hid (∀ j,j<k+1->nc t j):=fun j hj=>by
        rcases Nat.lt_or_ge j k with h5 | h5
        ·exact z.out j h5
        ·obtain rfl:j=k:=Ha;exact r.out.2 Ha
       go_wp2
       go_round
       case rel=>exact ⟨k+1,Ha,by go_num,b.out⟩
       case measure=>simp [intOf];omega
    ·have b:=He (q.out fun i s=>z.out i Ha);go_wp2;go_ret;exact ⟨aj b.out.symm,rfl⟩
theorem mH (t:List Int) (w:World) (z:ay t) (K:t.length<=100):Calls Tryz.prog 84 #[.string (strOfNums t)] w fun e w'=>e=.returned (.bool (decide (uf t)))/\w=w':=by
 have L:=strOfNums_size t;have A:=He (fun k y h w=>nb t z (k:=k) (y:=y) h w);have c:Hid (¬ (1<=t.length/\t.length<=32)->decide (uf t)=false):=fun h=>decide_eq_false fun n=>h n.1;have o:Hid (∀ i,i<t.length->¬ nc t i->decide (uf t)=false):=fun i u h=>decide_eq_false fun n=>h (n.2 i u);have B:Hid ((1<=t.length/\t.length<=32)->(∀ i,i<t.length->nc t i)->decide (uf t)=true):=fun p q=>decide_eq_true ⟨p,q⟩;have C:Hid (∀ k,k<t.length->∃ y,t[k]?=some y/\t.getD k 0=y):=fun k r=>⟨t[k],List.getElem?_eq_getElem r,by rw [List.getD,List.getElem?_eq_getElem r];rfl⟩
 generalize strOfNums t=S at *;generalize H:t.length=m at *;clear H;generalize decide (uf t)=D at *;go_enter Tryz.func84,Tryz.ntmps84;go_wp2
 go_loop [3] (fun i=>∃ k:Nat,k<=m/\i=.int .i64 k/\∀ j,j<k->nc t j) (fun i=>m-(intOf i).toNat)
 case atStart=>exact ⟨0,Nat.zero_le _,rfl,fun j hj=>absurd hj Ha⟩
 case round =>
  obtain ⟨k,r,rfl,d⟩:=hrel;have v:=He d;clear d;by_cases f:k<m
  ·obtain ⟨y,x,g⟩:=C.out k f;have I:=fun w=>A.out k y x w;have s:Hid (nc t k↔(33<=y/\y<=126)):=by unfold Hid nc;rw [g]
   have l:=He (o.out k f);clear x g;by_cases M:y<33
   ·have b:=He (l.out fun h=>by have:=s.out.1 h;omega);go_wp2;go_ret;exact ⟨aj b.out.symm,rfl⟩
   ·by_cases N:126<y
    ·have b:=He (l.out fun h=>by have:=s.out.1 h;omega);go_wp2;go_ret;exact ⟨aj b.out.symm,rfl⟩
    ·have b:Hid (∀ j,j<k+1->nc t j):=fun j hj=>by
      rcases Nat.lt_or_ge j k with h5 | h5
      ·exact v.out j h5
      ·obtain rfl:j=k:=Ha;exact s.out.2 Ha
     go_wp2
     go_round
     case rel=>exact ⟨k+1,Ha,by go_num,b.out⟩
     case measure=>simp [intOf];omega
  ·have b:=He (fun h=>B.out h fun i u=>v.out i Ha);by_cases p:1<=m
   ·by_cases q:m<=32
    ·have a:=He (b.out ⟨p,q⟩);go_wp2;go_ret;exact ⟨aj (by first | exact a.out.symm | (rw [a.out];simp;omega)),rfl⟩
    ·have a:=He (c.out Ha);go_wp2;go_ret;exact ⟨aj (by first | exact a.out.symm | (rw [a.out];simp;omega)),rfl⟩
   ·have a:=He (c.out Ha);go_wp2;go_ret;exact ⟨aj (by first | exact a.out.symm | (rw [a.out];simp;omega)),rfl⟩
end Go.Proofs.YtegjelaejbacnaaGreat
