/- For FileLong: contracts and facts, part 23. -/
import Derived.WalkKit
import Derived.Test.YtegjelaejbacnaaGreatL02
import Derived.Test.YtegjelaejbacnaaGreatL17
import Derived.Test.YtegjelaejbacnaaGreatL22
set_option maxRecDepth 100000
set_option maxHeartbeats 25600000
set_option linter.unusedSimpArgs false
set_option linter.unusedVariables false
open Go Go.ChangeShapes Go.WideShapes Go.ChangeAt Go.RowKit
namespace Go.Proofs.YtegjelaejbacnaaGreat
abbrev PV:=Value->World->Prop
abbrev EV:=List (Nat × Option Nat × PV)
def gg:EV->Nat->Option (Option Nat × PV)
 | [],_=>none
 | (j,x) :: E,k=>if k=j then some x else gg E k
def dX (E:EV) (T:Array Value) (w:World):List Edge->Prop
 | []=>True
 | e :: a=>if Region.binds .any e=true then (match gg E e.on with | some (some d,V)=>V (T.getD d undef) w/\dX E T w a | _=>dX E T w a) else dX E T w a
def ny (w:World):EV->(Array Value->Prop)->Array Value->Prop
 | [],G=>G
 | (_,some d,V) :: E,G=>ny w E fun T=>∀ v,V v w->G (T.setIfInBounds d v)
 | (_,none,_) :: E,G=>ny w E G
def Gw (i:Nat) (L:Nat->Bool):Nat->Bool:=fun j=>if i=j then true else L j
def IM (ds:List Nat) (T0 T:Array Value):Prop:=∀ s,(∀ d∈ds,d≠s)->T.getD s undef=T0.getD s undef
def FQ (x:Value) (w0:World) (v:Value) (w:World):Prop:=v=x/\w=w0
section
variable {P:Program} {ops:Array Oper} {ds:List Nat} {T0 T:Array Value} {D:List Deferred} {J:(Nat->Bool)->World->Prop} {S:Nat->World->World->Prop} {Q:Exit->Act->World->Prop} {E:EV} {i:Nat} {o o2:Oper} {l:List Oper} {w:World} {L:Nat->Bool}
def LW (P:Program) (ops:Array Oper) (ds:List Nat) (T0:Array Value) (D:List Deferred) (J:(Nat->Bool)->World->Prop) (S:Nat->World->World->Prop) (Q:Exit->Act->World->Prop) (E:EV) (V:PV) (i:Nat) (o:Oper):Prop :=
 ∀ T w L,(∀ k d V,gg E k=some (d,V)->(ops[k]?).bind (fun o=>o.dst)=d)->IM ds T0 T->L i=false->J L w->(∀ e∈o.after,Region.binds .any e=true->L e.on=true)->dX E T w o.after.toList->(if Region.wanted o (yielded ops T)=true then o.wp P ⟨T,D⟩ w (fun b a=>∃ v,b=(⟨T,D⟩:Act).put o.dst v/\V (match o.dst with | some _=>v | none=>undef) a/\J (Gw i L) a/\S i w a) Q else V undef w/\J (Gw i L) w)
def XK (P:Program) (ops:Array Oper) (ds:List Nat) (T0:Array Value) (D:List Deferred) (J:(Nat->Bool)->World->Prop) (S:Nat->World->World->Prop) (Q:Exit->Act->World->Prop):Nat->EV->List Oper->Prop
 | _,_,[]=>True
 | i,E,[o]=>∀ w L,(∀ j,j<i->L j=true)->L i=false->J L w->ny w E (fun T=>if Region.wanted o (yielded ops T)=true then o.wp P ⟨T,D⟩ w (fun a w'=>Q .normal a w') Q else Q .normal ((⟨T,D⟩:Act).put o.dst undef) w) T0
 | i,E,o :: o2 :: l=>∃ V:PV,(∀ j v w w',j≠i->jU ops i j=true->V v w->S j w w'->V v w')/\LW P ops ds T0 D J S Q E V i o/\XK P ops ds T0 D J S Q (i+1) ((i,o.dst,V) :: E) (o2 :: l)
theorem pp:∀ (b:List Edge),dX E T w b↔(∀ e∈b,Region.binds .any e=true->∀ d V,gg E e.on=some (some d,V)->V (T.getD d undef) w)
 | []=>⟨(fun _ e j=>by cases j),fun _=>trivial⟩
 | e :: b=>by
   unfold dX;by_cases c:Region.binds .any e=true
   ·rw [if_pos c];simp only [List.mem_cons,forall_eq_or_imp];split
    ·rename_i d V f;rw [pp b];exact ⟨fun h=>⟨fun _ m n a=>by rw [f] at a;injection a with a;injection a with g k;injection g with g;subst g k;exact h.1,h.2⟩,fun h=>⟨h.1 c d V f,h.2⟩⟩
    ·rename_i l;rw [pp b];exact ⟨fun h=>⟨fun _ d V f=>absurd f (l d V),h⟩,fun h=>h.2⟩
   ·rw [if_neg c,pp b];simp only [List.mem_cons,forall_eq_or_imp];exact ⟨fun h=>⟨fun i=>absurd i c,h⟩,fun h=>h.2⟩
theorem pq {G G':Array Value->Prop}:∀ (E:EV),ny w E G T0->(∀ T,G T->G' T)->ny w E G' T0
 | [],h,k=>k _ h
 | (_,some d,V) :: E,h,k=>pq E (G:=fun T=>∀ v,V v w->G (T.setIfInBounds d v)) h fun T h v a=>k _ (h v a)
 | (_,none,_) :: E,h,k=>pq E (G:=G) h k
theorem yD {g d:Nat} {c:Bool} {V:PV} (e:gg E g=some (some d,V)) (a:∀ k d V,gg E k=some (d,V)->(ops[k]?).bind (fun o=>o.dst)=d) (h:T.getD d undef=.bool c):yielded ops T g=some c:=by
 have f:T[d]?=some (.bool c):=by
  rw [Array.getD_eq_getD_getElem?] at h;cases b:T[d]? with
  | none=>rw [b] at h;cases h
  | some x=>rw [b] at h;rw [show x=_ from h]
 unfold yielded;rw [a g _ _ e];simp [f]
theorem uF {g d:Nat} {c:Bool} (b:gg E g=some (some d,fun v _=>v=.bool c)) (a:o.after.any (fun e=>e.on==g&&Region.binds .any e)=true) (hd:∀ e∈o.after.toList,Region.binds .any e=true->∀ d V,gg E e.on=some (some d,V)->V (T.getD d undef) w):T.getD d undef=.bool c:=by
 simp only [Array.any_eq_true',Bool.and_eq_true,beq_iff_eq] at a;obtain ⟨e,f,h,i⟩:=a;subst h;exact hd e (by simpa using f) i d _ b
theorem Dw {g d:Nat} {b c:Bool} (i:o.guard=some (g,b)) (h:gg E g=some (some d,fun v _=>v=.bool c)) (a:o.after.any (fun e=>e.on==g&&Region.binds .any e)=true) (f:∀ k d V,gg E k=some (d,V)->(ops[k]?).bind (fun o=>o.dst)=d) (hd:∀ e∈o.after.toList,Region.binds .any e=true->∀ d V,gg E e.on=some (some d,V)->V (T.getD d undef) w) (j:c=b):Region.wanted o (yielded ops T)=true:=by
 unfold Region.wanted;rw [i];simp only [yD h f (uF h a hd),j,beq_self_eq_true]
theorem Dx {g d:Nat} {b c:Bool} (j:o.guard=some (g,b)) (i:gg E g=some (some d,fun v _=>v=.bool c)) (a:o.after.any (fun e=>e.on==g&&Region.binds .any e)=true) (f:∀ k d V,gg E k=some (d,V)->(ops[k]?).bind (fun o=>o.dst)=d) (hd:∀ e∈o.after.toList,Region.binds .any e=true->∀ d V,gg E e.on=some (some d,V)->V (T.getD d undef) w) (h:Region.wanted o (yielded ops T)=true):c=b:=by
 unfold Region.wanted at h;rw [j] at h;simpa [yD i f (uF i a hd)] using h
def DP (V:Nat->PV):List Oper->EV
 | []=>[]
 | o :: l=>(l.length,o.dst,V l.length) :: DP V l
theorem sn {V:Nat->PV}:∀ (r:List Oper) {k d b},gg (DP V r) k=some (d,b)->∃ o,r.reverse[k]?=some o/\d=o.dst/\b=V k
 | [],k,d,b,a=>by cases a
 | o :: l,k,d,b,a=>by
   unfold DP gg at a;rw [List.reverse_cons];split at a
   ·rename_i e;injection a with a;injection a with f g
    subst f g e;exact ⟨o,by rw [List.getElem?_append_right Hb];simp,rfl,rfl⟩
   ·obtain ⟨h,c,i,j⟩:=sn l a;exact ⟨h,by rw [List.getElem?_append_left (List.getElem?_eq_some_iff.1 c).1];exact c,i,j⟩
theorem yE {V a:Nat->PV}:∀ (r:List Oper),(∀ k,k<r.length->a k=V k)->DP a r=DP V r
 | [],_=>rfl
 | o :: l,b=>by unfold DP;rw [b l.length Hb,yE l fun k c=>b k (by simp;omega)]
theorem wi {V:Nat->PV} (f:Nat->Value):∀ (r:List Oper) {G:Array Value->Prop},ny w (DP V r) G T0->(∀ k o d,r.reverse[k]?=some o->o.dst=some d->V k (f d) w)->G ((r.reverse.filterMap (fun o=>o.dst)).foldl (fun A d=>A.setIfInBounds d (f d)) T0)
 | [],G,h,_=>h
 | o :: l,G,h,b=>by
   have a:∀ k o d,l.reverse[k]?=some o->o.dst=some d->V k (f d) w:=fun k e d c hd=>b k e d (by rw [List.reverse_cons,List.getElem?_append_left (List.getElem?_eq_some_iff.1 c).1];exact c) hd;rw [List.reverse_cons,List.filterMap_append,List.foldl_append];unfold DP at h;cases hd:o.dst with
   | none =>
     rw [hd] at h;have:=wi f l (G:=G) h a;simpa [hd] using this
   | some d =>
     rw [hd] at h;have:=wi f l (G:=fun T=>∀ v,V l.length v w->G (T.setIfInBounds d v)) h a;have h5:V l.length (f d) w:=b l.length o d Hb hd;simpa [hd] using this _ h5
theorem XK.out {a:List Oper} (b:ops=a.toArray) (C:a.dropLast.filterMap (fun o=>o.dst)=ds):∀ (l:List Oper) (i:Nat) (r:List Oper) (V:Nat->PV),XK P ops ds T0 D J S Q i (DP V r) l->a=r.reverse++l->r.length=i->∃ q:Nat->PV,(∀ k,k<i->q k=V k)/\(∀ k,i<=k->∀ j v w w',j≠k->jU ops k j=true->q k v w->S j w w'->q k v w') /\
 (∀ k o,i<=k->a[k]?=some o->k+1<a.length->aa P ops T0 D q J (S k) Q k o)/\(l≠[]->∀ o,a[a.length-1]?=some o->bm P ops T0 D q J Q o)
 | [],i,r,V,_,g,c=>⟨fun k=>if k<i then V k else fun _ _=>True,fun _ h=>if_pos h,fun k n j v w w' _ _ h _=>by simp only [if_neg (show ¬ k<i by omega)],fun k o n _ t=>by subst g;simp at t;omega,fun h=>absurd rfl h⟩
 | [o],i,r,V,h,g,c=>by
   have u:a.length=i+1:=by rw [g];simp [c]
   refine ⟨fun k=>if k<i then V k else fun _ _=>True,fun _ h=>if_pos h,fun k n j v w w' _ _ h _=>by simp only [if_neg (show ¬ k<i by omega)],fun k o n _ t=>Ha,fun _ x m=>?_⟩;have:x=o:=by
    rw [u,Nat.add_sub_cancel,g,List.getElem?_append_right (by simp [c])] at m;simpa [c] using m.symm
   subst this;intro T w L n t H I h5;obtain ⟨f,hf,Z⟩:=aJ n;have K:ops.size=i+1:=by rw [b];simpa using u
   have M:ops.pop.toList=r.reverse:=by rw [b,g];simp
   have hx:=h w L (fun j hj=>t j Ha) (by rw [K] at H;exact H) I;have:=wi f r hx (fun k o d p hd=>by
    have y:k<i:=by have:=(List.getElem?_eq_some_iff.1 p).1;simpa [c] using this
    have N:=h5 k o Ha (by rw [b,g];simp [List.getElem?_append_left (List.getElem?_eq_some_iff.1 p).1,p]);unfold cG at N;rw [hd,if_pos y] at N;rw [hf d];exact N)
   rw [M] at Z;rw [<- Z] at this;exact this
 | o :: o2 :: l,i,r,V,h,g,c=>by
   obtain ⟨O,R,U,z⟩:=h;have W:a[i]?=some o:=by rw [g,List.getElem?_append_right (by simp [c])];simp [c]
   obtain ⟨q,X,g2,g3,g4⟩:=XK.out b C (o2 :: l) (i+1) (o :: r) (fun k=>if k=i then O else V k) (by
    have e:DP (fun k=>if k=i then O else V k) r=DP V r:=yE r fun k y=>if_neg Ha;unfold DP;rw [e,if_pos c,c];exact z) (by rw [g];simp) (by simp [c])
   have hV:q i=O:=by rw [X i Ha,if_pos rfl]
   refine ⟨q,fun k y=>by rw [X k Ha,if_neg Ha],fun k n=>?_,fun k x n p t=>?_,fun _=>g4 Hb⟩
   ·by_cases y:k=i
    ·subst y;rw [hV];exact R
    ·exact g2 k Ha
   ·by_cases y:k=i
    ·subst y;rw [W] at p;injection p with p;subst p
     intro T w L n t H I h5;rw [hV];refine U T w L (fun k' d V' A=>?_) (fun s U=>n.2 s fun x m hd=>?_) t H I ((pp _).2 fun e he hb d V' A=>?_)
     ·obtain ⟨x,B,Y,q3⟩:=sn r A;rw [b,g];simp [List.getElem?_append_left (List.getElem?_eq_some_iff.1 B).1,B,Y]
     ·refine U s ?_ rfl;rw [<- C];refine List.mem_filterMap.2 ⟨x,?_,hd⟩;rw [b] at m;simpa using m
     ·obtain ⟨x,B,Y,q3⟩:=sn r A;have ad:e.on<k:=by have:=(List.getElem?_eq_some_iff.1 B).1;simpa [c] using this
      have:=h5 e (by simpa using he) hb x (by rw [b,g];simp [List.getElem?_append_left (List.getElem?_eq_some_iff.1 B).1,B]);unfold cG at this;rw [<- Y,X e.on Ha,if_neg Ha] at this;rw [q3];exact this
    ·exact g3 k x Ha p t
theorem cf.of {a:Nat->Oper->Prop} {b:Oper->Prop}:∀ {l:List Oper} {i:Nat},(∀ j o,l[j]?=some o->j+1<l.length->a (i+j) o)->(∀ o,l[l.length-1]?=some o->b o)->cf a b i l
 | [],_,_,_=>trivial
 | [x],_,_,h=>h x rfl
 | x :: y :: rest,i,c,d=>⟨c 0 x rfl Hb,cf.of (fun j o hj e=>by
    have:=c (j+1) o (by simpa using hj) (by simpa using e)
    rwa [show i+(j+1)=i+1+j by omega] at this) (fun o f=>d o (by simpa using f))⟩
theorem dS {id:Nat} (J:(Nat->Bool)->World->Prop) (S:Nat->World->World->Prop) (hJ:J (fun _=>false) w.drew) (h:XK P l.toArray ds T0 D J S Q 0 [] l) (a:l.dropLast.filterMap (fun o=>o.dst)=ds:=by simp only [List.dropLast_cons_cons,List.dropLast_singleton,List.filterMap_cons,List.filterMap_nil];rfl) (d:P.follows .mixedOrders=true:=by kernel_rfl) (c:Jj T0.size l.toArray=true:=by kernel_rfl):(Code.region id l.toArray true).wp P Q ⟨T0,D⟩ w:=by
 have f:=(qx c).1;obtain ⟨g,_,k,m,n⟩:=XK.out rfl a l 0 [] (fun _ _ _=>True) h rfl rfl;exact ax g J S d c (fun i j v w p b q r s=>k j (Nat.zero_le _) i v w p b q r s) hJ (cf.of (fun j o hj t=>by rw [Nat.zero_add];exact m j o (Nat.zero_le _) hj t) (n (fun e=>by subst e;simp at f)))
theorem XK.cst (x:Value) (c:o.guard=none) (hj:∀ L w,J L w->J (Gw i L) w) (d:∀ w,S i w w) (e:∀ T w L,IM ds T0 T->J L w->dX E T w o.after.toList->(o.wp P ⟨T,D⟩ w (fun a w'=>∃ v,a=(⟨T,D⟩:Act).put o.dst v/\FQ x w (match o.dst with | some _=>v | none=>undef) w') Q)) (rest:XK P ops ds T0 D J S Q (i+1) ((i,o.dst,fun v _=>v=x) :: E) (o2 :: l)):XK P ops ds T0 D J S Q i E (o :: o2 :: l):=by
 refine ⟨fun v _=>v=x,fun j v w w' _ _ h _=>h,fun T w L _ f n b p h5=>?_,rest⟩;have h:=e T w L f b h5;rw [if_pos (by unfold Region.wanted;rw [c])];refine Oper.wp_mono (fun a w' ⟨v,g,k,m⟩=>?_) h;subst m;exact ⟨v,g,k,hj _ _ b,d _⟩
theorem XK.cstw {g d:Nat} {b:Bool} (x:Value) (m:o.guard=some (g,b)) (n:gg E g=some (some d,fun v _=>v=.bool b)) (a:o.after.any (fun e=>e.on==g&&Region.binds .any e)=true) (hj:∀ L w,J L w->J (Gw i L) w) (p:∀ w,S i w w) (q:∀ T w L,IM ds T0 T->J L w->dX E T w o.after.toList->(o.wp P ⟨T,D⟩ w (fun f w'=>∃ v,f=(⟨T,D⟩:Act).put o.dst v/\FQ x w (match o.dst with | some _=>v | none=>undef) w') Q)) (rest:XK P ops ds T0 D J S Q (i+1) ((i,o.dst,fun v _=>v=x) :: E) (o2 :: l)):XK P ops ds T0 D J S Q i E (o :: o2 :: l):=by
 refine ⟨fun v _=>v=x,fun j v w w' _ _ h _=>h,fun T w L c r y k z h5=>?_,rest⟩;rw [if_pos (Dw m n a c ((pp _).1 h5) rfl)];refine Oper.wp_mono (fun f w' ⟨v,s,t,u⟩=>?_) (q T w L r k h5);subst u;exact ⟨v,s,t,hj _ _ k,p _⟩
theorem XK.skip {g d:Nat} {b c:Bool} (k:o.guard=some (g,b)) (m:gg E g=some (some d,fun v _=>v=.bool c)) (n:c≠b) (a:o.after.any (fun e=>e.on==g&&Region.binds .any e)=true) (hj:∀ L w,J L w->J (Gw i L) w) (rest:XK P ops ds T0 D J S Q (i+1) ((i,o.dst,fun _ _=>True) :: E) (o2 :: l)):XK P ops ds T0 D J S Q i E (o :: o2 :: l):=by
 refine ⟨fun _ _=>True,fun j v w q _ _ h _=>h,fun T w L f r s p t h5=>?_,rest⟩;rw [if_neg (fun h=>n (Dx k m a f ((pp _).1 h5) h))];exact ⟨trivial,hj _ _ p⟩
theorem XK.op (V:PV) (a:∀ j v w w',j≠i->jU ops i j=true->V v w->S j w w'->V v w') (b:∀ T w L,IM ds T0 T->L i=false->J L w->(∀ e∈o.after,Region.binds .any e=true->L e.on=true)->dX E T w o.after.toList->(o.wp P ⟨T,D⟩ w (fun c w'=>∃ v,c=(⟨T,D⟩:Act).put o.dst v/\V (match o.dst with | some _=>v | none=>undef) w'/\J (Gw i L) w'/\S i w w') Q)) (rest:XK P ops ds T0 D J S Q (i+1) ((i,o.dst,V) :: E) (o2 :: l)) (d:o.guard=none:=by rfl):XK P ops ds T0 D J S Q i E (o :: o2 :: l):=by
 refine ⟨V,a,fun T w L _ f g k m h5=>?_,rest⟩;have h:=b T w L f g k m h5;rw [if_pos (by unfold Region.wanted;rw [d])];exact h
theorem XK.last (a:∀ w L,(∀ j,j<i->L j=true)->L i=false->J L w->ny w E (fun T=>o.wp P ⟨T,D⟩ w (fun b w'=>Q .normal b w') Q) T0) (c:o.guard=none:=by rfl):XK P ops ds T0 D J S Q i E [o]:=fun w L d e f=>by
 refine pq E (a w L d e f) fun T h=>?_;rw [if_pos (by unfold Region.wanted;rw [c])];exact h
theorem XK.c {x:Value} (rest:XK P ops ds T0 D J S Q (i+1) ((i,o.dst,fun v _=>v=x) :: E) (o2 :: l)) (a:o.guard=none:=by rfl) (hj:∀ L w,J L w->J (Gw i L) w:=by exact fun _ _ h=>h) (b:∀ w,S i w w:=by exact srefl) (d:∀ T w L,IM ds T0 T->J L w->dX E T w o.after.toList->(o.wp P ⟨T,D⟩ w (fun e f=>∃ v,e=(⟨T,D⟩:Act).put o.dst v/\FQ x w (match o.dst with | some _=>v | none=>undef) f) Q):=by
 intro T w L hag hJ hd
 try dsimp only at hJ
 unfold IM at hag;simp only [dX,gg,Region.binds,List.toList_toArray,Nat.reduceEqDiff,↓reduceIte,reduceCtorEq] at hd;go_simp;exact ⟨_,rfl,rfl,rfl⟩):XK P ops ds T0 D J S Q i E (o :: o2 :: l):=.cst x a hj b d rest
theorem XK.cw {g d:Nat} {b:Bool} {x:Value} (rest:XK P ops ds T0 D J S Q (i+1) ((i,o.dst,fun v _=>v=x) :: E) (o2 :: l)) (c:o.guard=some (g,b):=by rfl) (f:gg E g=some (some d,fun v _=>v=.bool b):=by rfl) (a:o.after.any (fun e=>e.on==g&&Region.binds .any e)=true:=by kernel_rfl) (hj:∀ L w,J L w->J (Gw i L) w:=by exact fun _ _ h=>h) (j:∀ w,S i w w:=by exact srefl) (k:∀ T w L,IM ds T0 T->J L w->dX E T w o.after.toList->(o.wp P ⟨T,D⟩ w (fun m n=>∃ v,m=(⟨T,D⟩:Act).put o.dst v/\FQ x w (match o.dst with | some _=>v | none=>undef) n) Q):=by
 intro T w L hag hJ hd
 try dsimp only at hJ
 unfold IM at hag;simp only [dX,gg,Region.binds,List.toList_toArray,Nat.reduceEqDiff,↓reduceIte,reduceCtorEq] at hd;go_simp;exact ⟨_,rfl,rfl,rfl⟩):XK P ops ds T0 D J S Q i E (o :: o2 :: l):=XK.cstw x c f a hj j k rest
theorem XK.k {g d:Nat} {b c:Bool} (rest:XK P ops ds T0 D J S Q (i+1) ((i,o.dst,fun _ _=>True) :: E) (o2 :: l)) (f:o.guard=some (g,b):=by rfl) (j:gg E g=some (some d,fun v _=>v=.bool c):=by rfl) (a:o.after.any (fun e=>e.on==g&&Region.binds .any e)=true:=by kernel_rfl) (m:c≠b:=by decide) (hj:∀ L w,J L w->J (Gw i L) w:=by exact fun _ _ h=>h):XK P ops ds T0 D J S Q i E (o :: o2 :: l):=XK.skip f j m a hj rest
theorem XK.v (x:Value) (a:∀ T w L,IM ds T0 T->J L w->dX E T w o.after.toList->(o.wp P ⟨T,D⟩ w (fun b w'=>∃ v,b=(⟨T,D⟩:Act).put o.dst v/\FQ x w (match o.dst with | some _=>v | none=>undef) w') Q)) (rest:XK P ops ds T0 D J S Q (i+1) ((i,o.dst,fun v _=>v=x) :: E) (o2 :: l)) (c:o.guard=none:=by rfl) (hj:∀ L w,J L w->J (Gw i L) w:=by exact fun _ _ h=>h) (d:∀ w,S i w w:=by exact srefl):XK P ops ds T0 D J S Q i E (o :: o2 :: l):=.cst x c hj d a rest
end
theorem xr {G R:Prop} (k:R) (h:R->G:=by
 intro k
 repeat ((first | refine XK.c ?_ | refine XK.cw ?_ | refine XK.k ?_);dsimp only [Nat.reduceAdd])
 exact k):G:=h k
structure TC where
 w0:World
 F:Nat->Prop
 (q hp rb n c:Nat)
 m:DM
 v:VM
 (tb kb:Nat)
abbrev TC.K (C:TC) (W:World) (pv:Value) (P:List Wr) (T:List Bool):Prop:=KT C.w0 W C.F C.q C.hp C.rb C.n C.c C.m C.v C.tb C.kb pv P T
structure BN where
 b:List Bk
 n:Nat
def BN.N (B:BN) (P:List Wr):List Bk:=applyW B.b P
abbrev TC.bn (C:TC):BN:=⟨jf C.v,C.n⟩
abbrev TC.N (C:TC) (P:List Wr):List Bk:=C.bn.N P
section
variable {C:TC} {W W':World} {pv:Value} {P:List Wr} {T:List Bool}
theorem KT.bl (h:C.K W pv P T):C.bn.b.length=C.n:=by rw [iw h.ks.vol.toOk,h.vn]
theorem KT.nl (h:C.K W pv P T):(C.N P).length=C.n:=by unfold TC.N BN.N;rw [bZ,h.bl]
theorem KT.typ {k:Nat} {Z:Array Value} {ty:TypeId} {b:Nat × Nat} (h:C.K W pv P T) (a:W.heap[k]?=some (.cells Z ty b)) (c:ty≠107) (d:ty≠197) (f:ty≠52):k≠C.tb/\k≠C.kb/\pv.ownBlock≠some k :=
 ⟨bc a h.ks.tx.hd c,bc a h.ks.tx.bits.hp d,fun e=>by
   obtain ⟨Y,g⟩:=bU h.ks.tx.own e;exact bc a g f rfl⟩
theorem KT.cell {j:Nat} {Z:Array Value} {ty:TypeId} {d:Nat × Nat} (h:C.K W pv P T) (a:W.grownBy W' (some j)) (hj:W.heap[j]?=some (.cells Z ty d)) (f:ty≠107) (g:ty≠197) (i:ty≠52) (l:ty≠118) (h5:ty≠113) (m:¬ C.F j) (n:C.w0.heap.size<=j):C.K W' pv P T:=by
 obtain ⟨o,p,q⟩:=h.typ hj f g i;have b:=h.tv.touch a m (bc hj h.ks.vol.hd l) (bc hj h.ks.vol.row h5) n;exact { h with tv:=b,ks:=⟨⟨br a h.ks.tx.hd (fun e=>o (by injection e)),fh h.ks.tx.own (fun k c=>a.block k (by obtain ⟨Y,r⟩:=bU h.ks.tx.own c;exact ah r) (fun e=>q (by rw [c,e]))),h.ks.tx.ok,h.ks.tx.srt,h.ks.tx.few,⟨h.ks.tx.bits.len,br a h.ks.tx.bits.hp (fun e=>p (by injection e))⟩⟩,b.at_,h.ks.inn⟩ }
end
structure dJ (C:TC) (W0:World) (o0:Option Nat) (W:World) (ob:Option Nat):Prop where
 sz:W0.heap.size<=W.heap.size
 fr:∀ k,k<W0.heap.size->k≠C.tb->k≠C.kb->o0≠some k->W.heap[k]?=W0.heap[k]?
 pn:∀ k,ob=some k->o0=some k\/W0.heap.size<=k
section
variable {C:TC} {G:Nat->Obj->Prop} {W0 W W':World} {o0 ob ob':Option Nat}
theorem dJ.refl (C:TC) (W:World) (o:Option Nat):dJ C W o W o:=⟨Nat.le_refl _,fun _ _ _ _ _=>rfl,fun _ h=>.inl h⟩
theorem dJ.trans (h:dJ C W0 o0 W ob) (b:dJ C W ob W' ob'):dJ C W0 o0 W' ob' :=
 ⟨Nat.le_trans h.sz b.sz,fun k a c d f=>(b.fr k (Nat.lt_of_lt_of_le a h.sz) c d (fun e=>by rcases h.pn k e with h5 | h5;exact f h5;omega)).trans (h.fr k a c d f),fun k a=>by
   rcases b.pn k a with h5 | h5
   ·exact h.pn k h5
   ·exact .inr (Nat.le_trans h.sz h5)⟩
theorem dJ.below (h:dJ C W0 o0 W ob) (a:Below W.heap.size W W'):dJ C W0 o0 W' ob:=h.trans ⟨a.size,fun k b _ _ _=>a.block k b,fun _ h=>.inl h⟩
theorem dJ.own (h:dJ C W0 o0 W ob) {j:Nat} (a:W.grownBy W' (some j)) (hj:W0.heap.size<=j\/j=C.kb\/j=C.tb):dJ C W0 o0 W' ob :=
 ⟨Nat.le_trans h.sz a.size,fun k b c d f=>(a.block k (Nat.lt_of_lt_of_le b h.sz) (fun e=>by injection e with e;subst e;rcases hj with h5 | h5 | h5;omega;exact d h5;exact c h5)).trans (h.fr k b c d f),h.pn⟩
end
section
variable {C:TC} {W:World} {pv:Value} {P:List Wr} {T:List Bool}
theorem KT.get1 (h:C.K W pv P T) (t:Int) (a:i64 t):Calls Tryz.prog 23 #[.pointer (some ⟨C.tb,0,none⟩),.int .i64 t] W fun e w'=>e=.returned (.tuple #[.agg (ab (gB (C.N P) t).k (gB (C.N P) t).bs),.bool (decide (0<=t/\t<C.n))])/\Below W.heap.size W w':=h.get _ rfl t a
theorem KT.take1 (h:C.K W pv P T) (b:0<C.n) (a:C.n<=200):Calls Tryz.prog 18 #[.pointer (some ⟨C.tb,0,none⟩)] W fun e w'=>e=.returned (oC (bX (C.N P) T))/\C.K w' pv P (gf (C.N P) T)/\W.grownBy w' (some C.kb):=h.take _ rfl b a
theorem KT.put1 (h:C.K W pv P T) (t:Int) (s:i64 t) (x:Bk) (j:x.Wk) (i:P.length<200):Calls Tryz.prog 21 #[.pointer (some ⟨C.tb,0,none⟩),.int .i64 t,.agg (ab x.k x.bs)] W fun e w'=>e=.returned (.bool (decide (0<=t/\t<C.n)))/\∃ c,C.K w' c (if 0<=t/\t<C.n then fL P ⟨t,x.k,x.bs⟩ else P) T/\dJ C W pv.ownBlock w' c.ownBlock/\∀ k,k<W.heap.size->k≠C.tb->pv.ownBlock≠some k->w'.heap[k]?=W.heap[k]?:=by
 have r:=Dt h.ks t s x j.k j.len j.b i;rw [h.vn] at r;refine r.mono ?_;rintro e w' ⟨rfl,c,u,g,l⟩;have d:∀ k,c.ownBlock=some k->pv.ownBlock=some k\/W.heap.size<=k:=fun k a=>by
  rcases l with m | ⟨v,m,o⟩
  ·exact .inl (by rw [<- m];exact a)
  ·rw [m] at a;injection a with a;subst a;exact .inr o
 refine ⟨rfl,c,⟨h.tv.put g h.ft h.fo h.lt h.lo h.hne.1 h.hne.2.1 (fun e=>(h.one _ e).1 rfl) (fun e=>(h.one _ e).2 rfl),u,h.ft,h.fk,fun k a=>?_,h.lt,h.lk,fun k a=>?_⟩,⟨g.size,fun k f p _ q=>g.block k f p (fun e=>q e.symm),d⟩,fun k f p q=>g.block k f p (fun e=>q e.symm)⟩
 ·rcases d k a with f | f
  ·exact h.fo k f
  ·exact h.tv.new f
 ·rcases d k a with f | f
  ·exact h.lo k f
  ·exact Nat.le_trans h.tv.bel.size f
end
def pT (C:BN) (P:List Wr) (a:Int) (x:Bk):List Wr:=if 0<=a/\a<C.n then fL P ⟨a,x.k,x.bs⟩ else P
def BO (tb:Nat) (t:Int) (nd:Nd) (e:Value):Array Value:=#[.pointer (some ⟨tb,0,none⟩),.int .i64 t,.int .u32 nd.g,.int .i64 nd.l,.int .i64 nd.s,.int .i64 nd.a,.int .i64 nd.b,.int .i64 nd.c,.int .i64 nd.d,.int .i64 nd.x,.string (strOfNums nd.t),e]
def Gx:Nat->Obj->Prop:=fun _ _=>False
structure FS (C:TC) (G:Nat->Obj->Prop) (W0:World) (o0:Option Nat) (W:World) (pv:Value) (P:List Wr) (T:List Bool) (ob:Nat) (t:Int) (nd:Nd) (ib cap:Nat) (ix:List Int):Prop where
 k:C.K W pv P T
 s:dJ C W0 o0 W pv.ownBlock
 hd:W.heap[ob]?=some (.cells (BO C.tb t nd (.slice (some ⟨ib,0,none⟩) 16 cap)) 157 (0,0))
 row:W.ownsRow W0.heap.size 3 1 (.slice (some ⟨ib,0,none⟩) 16 cap) 16 (Is ix)
 lo:W0.heap.size<=ob
 fo:¬ C.F ob
 fi:¬ C.F ib
 ok:jY nd
 il:ix.length=16
 ii:∀ p∈ix,i64 p
 ti:i64 t
 gd:∀ k o,G k o->W.heap[k]?=some o/\k≠ob/\k≠ib/\k≠C.tb/\k≠C.kb/\pv.ownBlock≠some k
section
variable {C:TC} {G:Nat->Obj->Prop} {W0 W W':World} {o0:Option Nat} {pv:Value} {P:List Wr} {T:List Bool} {ob ib cap:Nat} {t:Int} {nd:Nd} {ix:List Int}
theorem FS.below (h:FS C G W0 o0 W pv P T ob t nd ib cap ix) (a:Below W.heap.size W W'):FS C G W0 o0 W' pv P T ob t nd ib cap ix:={ h with k:=h.k.below a,s:=h.s.below a,hd:=kb a h.hd,row:=ic h.row a,gd:=fun k o b=>(h.gd k o b).imp_left (kb a) }
theorem FS.rb (h:FS C G W0 o0 W pv P T ob t nd ib cap ix):∃ Z,W.heap[ib]?=some (.cells Z 3 (0,0)):=bU h.row rfl
theorem FS.bi (h:FS C G W0 o0 W pv P T ob t nd ib cap ix):W0.heap.size<=ib:=by
 rcases h.row.2 with ⟨e,_⟩ | ⟨g,c,a,e,b,_⟩
 ·cases e
 ·injection e with e _ _;injection e with e;injection e with e _ _;subst e;exact b
theorem FS.oi (h:FS C G W0 o0 W pv P T ob t nd ib cap ix):ib≠ob:=by
 obtain ⟨Z,a⟩:=h.rb;exact bc a h.hd Hd
theorem FS.lw (h:FS C G W0 o0 W pv P T ob t nd ib cap ix) (a:C.w0.heap.size<=W0.heap.size):C.w0.heap.size<=ob/\C.w0.heap.size<=ib:=⟨Nat.le_trans a h.lo,Nat.le_trans a h.bi⟩
theorem FS.put (h:FS C G W0 o0 W pv P T ob t nd ib cap ix) (a:Int) (l:i64 a) (x:Bk) (m:x.Wk) (c:P.length<200):Calls Tryz.prog 21 #[.pointer (some ⟨C.tb,0,none⟩),.int .i64 a,.agg (ab x.k x.bs)] W fun e w'=>e=.returned (.bool (decide (0<=a/\a<C.n)))/\∃ b,FS C G W0 o0 w' b (pT C.bn P a x) T ob t nd ib cap ix:=by
 refine (h.k.put1 a l x m c).mono ?_;rintro e w' ⟨rfl,b,d,g,f⟩;obtain ⟨Z,i⟩:=h.rb;obtain ⟨p,v,q⟩:=h.k.typ h.hd Hd Hd Hd;obtain ⟨r,w,u⟩:=h.k.typ i Hd Hd Hd;exact ⟨rfl,b,{ h with k:=d,s:=h.s.trans g,hd:=(f ob (ah h.hd) p q).trans h.hd,row:=fh h.row fun k e=>by injection e with e;subst e;exact f _ (ah i) r u,gd:=fun k o d=>let ⟨q1,q2,q3,q4,q5,q6⟩:=h.gd k o d;⟨(f k (ah q1) q4 q6).trans q1,q2,q3,q4,q5,fun e=>by rcases g.pn k e with j | j;exact q6 j;have:=ah q1;omega⟩ }⟩
theorem FS.take (h:FS C G W0 o0 W pv P T ob t nd ib cap ix) (f:0<C.n) (a:C.n<=200):Calls Tryz.prog 18 #[.pointer (some ⟨C.tb,0,none⟩)] W fun e w'=>e=.returned (oC (bX (C.N P) T))/\FS C G W0 o0 w' pv P (gf (C.N P) T) ob t nd ib cap ix:=by
 refine (h.k.take1 f a).mono ?_;rintro e w' ⟨rfl,c,b⟩;obtain ⟨Z,d⟩:=h.rb;obtain ⟨j,g,l⟩:=h.k.typ h.hd Hd Hd Hd;obtain ⟨m,i,p⟩:=h.k.typ d Hd Hd Hd;exact ⟨rfl,{ h with k:=c,s:=h.s.own b (.inr (.inl rfl)),hd:=br b h.hd (fun e=>g (by injection e with e;exact e.symm)),row:=fh h.row fun k e=>by injection e with e;subst e;exact b.block _ (ah d) (fun e=>i (by injection e)),gd:=fun k o c=>let ⟨q1,q2,q3,q4,q5,q6⟩:=h.gd k o c;⟨br b q1 (fun e=>q5 (by injection e with e;exact e.symm)),q2,q3,q4,q5,q6⟩ }⟩
theorem FS.set (h:FS C G W0 o0 W pv P T ob t nd ib cap ix) (d:C.w0.heap.size<=W0.heap.size) (j:Nat) (u:Value) (a:Nd) (f:jY a) (g:∀ b,(BO C.tb t nd b).setIfInBounds j u=BO C.tb t a b):FS C G W0 o0 (W.setCell ⟨ob,j,none⟩ u) pv P T ob t a ib cap ix:=by
 have c:=bw W ob j u;exact { h with k:=h.k.cell c h.hd Hd Hd Hd Hd Hd h.fo (h.lw d).1,s:=h.s.own c (.inl h.lo),hd:=(ai h.hd u).trans (by rw [g]),row:=fh h.row fun k e=>by injection e with e;subst e;exact heap_setCell_other _ _ _ _ h.oi,ok:=f,gd:=fun k o i=>let ⟨q1,q2,q3⟩:=h.gd k o i;⟨(heap_setCell_other _ _ _ _ q2).trans q1,q2,q3⟩ }
theorem FS.setI (h:FS C G W0 o0 W pv P T ob t nd ib cap ix) (d:C.w0.heap.size<=W0.heap.size) (j:Nat) (hj:j<16) (x:Int) (f:i64 x):FS C G W0 o0 (W.setCell ⟨ib,j,none⟩ (.int .i64 x)) pv P T ob t nd ib cap (ix.set j x):=by
 have b:=bw W ib j (.int .i64 x);obtain ⟨Z,g⟩:=h.rb;refine { h with k:=h.k.cell b g Hd Hd Hd Hd Hd h.fi (h.lw d).2,s:=h.s.own b (.inl h.bi),hd:=(heap_setCell_other _ _ _ _ (fun e=>h.oi e.symm)).trans h.hd,row:=?_,il:=by rw [List.length_set];exact h.il,ii:=fun p a=>?_,gd:=fun k o i=>?_ }
 ·have:=mX h.row (k:=j) Ha (.int .i64 x)
  rwa [show (Is ix).set j (.int .i64 x)=Is (ix.set j x) by unfold Is;rw [List.map_set]] at this
 ·rcases List.mem_or_eq_of_mem_set a with a | rfl
  ·exact h.ii p a
  ·exact f
 ·obtain ⟨l,m,c,n⟩:=h.gd k o i;exact ⟨(heap_setCell_other _ _ _ _ c).trans l,m,c,n⟩
theorem FS.re (h:FS C G W0 o0 W pv P T ob t nd ib cap ix) {G':Nat->Obj->Prop} (c:∀ k o,G' k o->∃ Z ty b,o=.cells Z ty b/\W.heap[k]?=some o/\ty≠157/\ty≠3/\ty≠107/\ty≠197/\ty≠52):FS C G' W0 o0 W pv P T ob t nd ib cap ix :=
 { h with gd:=fun k o d=>let ⟨Z,ty,b,he,h1,h2,h3,h4,h5,h6⟩:=c k o d;let ⟨Y,hY⟩:=h.rb;have a:W.heap[k]?=some (.cells Z ty b):=he ▸ h1;let ⟨n1,n2,n3⟩:=h.k.typ a h4 h5 h6;⟨h1,bc a h.hd h2,bc a hY h3,n1,n2,n3⟩ }
theorem FS.c (h:FS C G W0 o0 W pv P T ob t nd ib cap ix) (j:Nat):W.cell? ⟨ob,j,none⟩=(BO C.tb t nd (.slice (some ⟨ib,0,none⟩) 16 cap))[j]?:=af h.hd j
theorem FS.f (h:FS C G W0 o0 W pv P T ob t nd ib cap ix) (j:Nat):W.frozen? ⟨ob,j,none⟩=false:=aA h.hd j
theorem FS.ci (h:FS C G W0 o0 W pv P T ob t nd ib cap ix) {j:Nat} {x:Int} (a:ix[j]?=some x):W.cell? ⟨ib,j,none⟩=some (.int .i64 x):=iQ h.row (wI a)
theorem FS.fri (h:FS C G W0 o0 W pv P T ob t nd ib cap ix) (j:Nat):W.frozen? ⟨ib,j,none⟩=false:=rf h.row j
theorem FS.nts (h:FS C G W0 o0 W pv P T ob t nd ib cap ix):jF W (some ⟨ib,0,none⟩) ix:=fun i x a=>⟨_,rfl,by rw [dU];exact h.ci a⟩
theorem FS.lit (h:FS C G W0 o0 W pv P T ob t nd ib cap ix):16<=cap/\cap<=9223372036854775807:=by
 obtain ⟨a,_,b,c,_⟩:=iG h.row;exact ⟨b,by simp only [maxLen] at c;omega⟩
end
def FR (x:Int):Bool:=decide (x ≠ -1)
theorem IN (w:World) (x:Int):Calls Tryz.prog 140 #[.int .i64 x] w fun e w'=>e=.returned (.bool (FR x))/\w=w':=by
 go_enter Tryz.func140,Tryz.ntmps140;go_wp2;go_ret;exact ⟨aj (by unfold FR;by_cases h:x = -1 <;> simp [h]),rfl⟩
theorem IP (A:Option Addr) (d:List Int) (n c:Nat) (w:World) (m:d.length=n) (o:jF w A d) (v:n<=1000) :
 Calls Tryz.prog 174 #[.slice A n c,.func (.func 140) #[] #[]] w fun e w'=>(∃ k:Int,(0<=k↔d.any FR=true)/\i64 k/\e=.returned (.int .i64 k))/\w=w':=by
 have s:=He o;have p:=He m;clear m o;go_enter Tryz.func174,Tryz.ntmps174;go_wp2
 go_loop [8] (fun i=>∃ k:Nat,k<=n/\i=.int .i64 k/\Hid ((d.take k).any FR=false)) (fun i=>n-(intOf i).toNat)
 case atStart=>exact ⟨0,Nat.zero_le _,rfl,He Hb⟩
 case round =>
  obtain ⟨k,y,rfl,q⟩:=hrel;by_cases g:k<n
  ·obtain ⟨x,j⟩:∃ x,d[k]?=some x:=⟨_,List.getElem?_eq_getElem (by rw [p.out];exact g)⟩
   obtain ⟨a,rfl,z⟩:=s.out _ _ j;have r:=He j;have f:=He (IN w x);clear j;cases b:FR x
   ·have l:=He b;rw [b] at f;clear b;go_wp2_with fail
    refine f.out.mono ?_;rintro e w' ⟨rfl,rfl⟩;go_wp2
    go_round
    case rel=>exact ⟨k+1,Ha,by go_num,He (by rw [aw r.out,List.any_append,q.out];simp [l.out])⟩
    case measure=>simp [intOf];omega
   ·have l:=He b;rw [b] at f;clear b;go_wp2_with fail
    refine f.out.mono ?_;rintro e w' ⟨rfl,rfl⟩;go_wp2;go_ret;exact ⟨⟨k,⟨fun _=>List.any_eq_true.2 ⟨x,List.mem_of_getElem? r.out,l.out⟩,fun _=>Ha⟩,by constructor <;> omega,rfl⟩,rfl⟩
  ·obtain rfl:k=n:=Ha;go_wp2;go_ret;have:=q.out;rw [List.take_of_length_le (by rw [p.out];exact Nat.le_refl _)] at this;exact ⟨⟨-1,⟨fun h=>Ha,fun h=>by
    obtain ⟨x,t,u⟩:=h;rw [List.any_eq_true.2 ⟨x,t,u⟩] at this;cases this⟩,by constructor <;> omega,rfl⟩,rfl⟩
theorem IQ (A:Option Addr) (a:List Int) (n c:Nat) (w:World) (d:a.length=n) (f:jF w A a) (h:n<=1000) :
 Calls Tryz.prog 139 #[.slice A n c,.func (.func 140) #[] #[]] w fun e w'=>e=.returned (.bool (a.any FR))/\w=w':=by
 have i:=He (IP A a n c w d f h);clear f d;generalize a.any FR=b at *;go_enter Tryz.func139,Tryz.ntmps139;go_wp2_with fail
 refine i.out.mono ?_;rintro e w' ⟨⟨k,g,l,rfl⟩,rfl⟩;have j:=He g;clear g;go_wp2;go_ret;exact ⟨aj (by rw [Bool.eq_iff_iff,decide_eq_true_eq];exact j.out),rfl⟩
def mostN (off:Nat):Nat:=min ((off/56+4)*56) 1120-off
theorem yF (off:Nat) (h:off<1120) (w:World):Calls Tryz.prog 77 #[.int .i64 (off:Int)] w fun e w'=>e=.returned (.int .i64 (mostN off:Nat))/\w=w':=by
 obtain ⟨q,c⟩:∃ q:Nat,(off:Int).tdiv 56=q/\q=off/56:=⟨off/56,by rw [Int.tdiv_eq_ediv_of_nonneg Ha];omega,rfl⟩
 obtain ⟨c,a⟩:=c;have d:=He a;have f:q<20:=Ha;clear a;by_cases g:(1120:Int)<(q+4)*56
 ·have b:((mostN off:Nat):Int)=1120-off:=by have:=d.out;unfold mostN;rw [Nat.min_def];split <;> omega
  rw [b];clear b;go_enter Tryz.func77,Tryz.ntmps77;go_wp2_with fail
  go_ret;exact ⟨rfl,rfl⟩
 ·have b:((mostN off:Nat):Int)=((q:Int)+4)*56-off:=by have:=d.out;unfold mostN;rw [Nat.min_def];split <;> omega
  rw [b];clear b;go_enter Tryz.func77,Tryz.ntmps77;go_wp2_with fail
  go_ret;exact ⟨rfl,rfl⟩
section
variable {C:TC} {G:Nat->Obj->Prop} {W0 W:World} {o0:Option Nat} {pv:Value} {P:List Wr} {T:List Bool} {ob ib cap:Nat} {t:Int} {nd:Nd} {ix:List Int}
theorem yG (h:FS C G W0 o0 W pv P T ob t nd ib cap ix) (a:Int) (g:i64 a):Calls Tryz.prog 143 #[.pointer (some ⟨ob,0,none⟩),.int .i64 a] W fun e w'=>e=.returned (.bool (decide (0<=a/\a<C.n)))/\Below W.heap.size W w':=by
 have i:=He (h.k.get1 a g);have j:W.cell? ⟨ob,0,none⟩=some (.pointer (some ⟨C.tb,0,none⟩)):=h.c 0;have l:Hid ((gB (C.N P) a).bs.length=56):=(BI (fun y m=>(h.k.ks.wk y m).2) a).1;generalize gB (C.N P) a=x at *;generalize decide (0<=a/\a<(C.n:Int))=b at *;clear h;go_enter Tryz.func143,Tryz.ntmps143;go_wp2_with fail
 refine i.out.mono ?_;rintro e d ⟨rfl,f⟩;have h5:=heap_alloc_new d (.cells (ab 0 az) 37);have HB:=He (f.trans ((below_setRow (aM (w:=d) (.cells (ab 0 az) 37)) (Nat.le_refl _) (ab x.k x.bs)).mono f.size));clear f j;go_upto_region 2 with (first | (refine aq rfl rfl ?_) | (refine ap rfl (.tmp 5) (.tmp 14) rfl d.heap.size rfl x.k 0 x.bs az rfl l.out ak h5 ?_))
 clear h5;generalize (d.alloc (.cells (ab 0 az) 37)).setRow d.heap.size (ab x.k x.bs)=o at *;go_wp2_with fail
 go_ret;exact ⟨rfl,HB.out⟩
def j6 (C:BN) (P:List Wr) (T:List Bool):Nat:=fZ (bX (C.N P) T)
theorem uG (h:FS C G W0 o0 W pv P T ob t nd ib cap ix) (r:0<C.n) (j:C.n<=200) (a:Addr) (o:∀ W',FS C G W0 o0 W' pv P (gf (C.N P) T) ob t nd ib cap ix->(∃ z,W'.cell? a=some (.int .i64 z))/\W'.frozen? a=false):Calls Tryz.prog 144 #[.pointer (some ⟨ob,0,none⟩),.pointer (some a)] W fun e w'=>e=.returned (.bool (decide (j6 C.bn P T<C.n)))/\∃ d,FS C G W0 o0 d pv P (gf (C.N P) T) ob t nd ib cap ix/\w'=if j6 C.bn P T<C.n then d.setCell a (.int .i64 (j6 C.bn P T:Nat)) else d:=by
 have g:=He (h.take r j);have v:W.cell? ⟨ob,0,none⟩=some (.pointer (some ⟨C.tb,0,none⟩)):=h.c 0;have p:(bX (C.N P) T).length=C.n:=by rw [uE,h.k.nl]
 have q:oC (bX (C.N P) T)=if j6 C.bn P T<C.n then .tuple #[.int .i64 (j6 C.bn P T:Nat),.bool true] else .tuple #[.int .i64 0,.bool false]:=by unfold oC j6;rw [p]
 rw [q] at g;have s:=He o;obtain ⟨f,l⟩:∃ f,f=j6 C.bn P T:=⟨_,rfl⟩
 rw [<- l] at g ⊢;clear h q l o p;by_cases b:f<C.n
 ·rw [if_pos b] at g;simp only [if_pos b,decide_eq_true b];clear b;go_enter Tryz.func144,Tryz.ntmps144;go_wp2_with fail
  refine g.out.mono ?_;rintro e d ⟨rfl,i⟩;obtain ⟨⟨z,w⟩,u⟩:=s.out d i;have m:=He i;clear i;go_wp2_with fail
  go_ret;exact ⟨rfl,d,m.out,rfl⟩
 ·rw [if_neg b] at g;simp only [if_neg b,decide_eq_false b];clear b;go_enter Tryz.func144,Tryz.ntmps144;go_wp2_with fail
  refine g.out.mono ?_;rintro e d ⟨rfl,i⟩;have m:=He i;clear i;go_wp2_with fail
  go_ret;exact ⟨rfl,d,m.out,rfl⟩
def DQ (ob ib k:Nat):Addr:=if k<4 then ⟨ob,5+k,none⟩ else ⟨ib,k-4,none⟩
theorem mp (h:FS C G W0 o0 W pv P T ob t nd ib cap ix) (k:Nat) (m:k<20):Calls Tryz.prog 74 #[.pointer (some ⟨ob,0,none⟩),.int .i64 (k:Int)] W fun e w'=>e=.returned (.pointer (some (DQ ob ib k)))/\W=w':=by
 have a:=He (C1 (k:Int) W (by constructor <;> omega));have f:W.cell? ⟨ob,11,none⟩=some (.slice (some ⟨ib,0,none⟩) 16 cap):=h.c 11;have d:=h.lit;clear h;by_cases b:k<4
 ·rw [show CZ (k:Int)=.tuple #[.int .i64 k,.int .i64 (-1),.bool true] by unfold CZ;rw [show E6 (k:Int)=k by unfold E6;rw [if_neg Ha,if_pos Ha],show E7 (k:Int) = -1 by unfold E7;rw [if_neg Ha,if_pos Ha],decide_eq_true Ha]] at a;unfold DQ;rw [if_pos b];have g:(k:Int)<4:=Ha;have n:¬ (k:Int) = -1:=Ha;go_enter Tryz.func74,Tryz.ntmps74;go_wp2_with fail
  refine a.out.mono ?_;rintro e i ⟨rfl,rfl⟩;go_wp2_with fail
  go_ret;exact ⟨rfl,rfl⟩
 ·obtain ⟨j,rfl⟩:∃ j,k=j+4:=⟨k-4,Ha⟩
  rw [show CZ ((j+4:Nat):Int)=.tuple #[.int .i64 (-1),.int .i64 (j:Nat),.bool true] by unfold CZ;rw [show E6 ((j+4:Nat):Int) = -1 by unfold E6;rw [if_neg Ha,if_neg Ha],show E7 ((j+4:Nat):Int)=j by unfold E7;rw [if_neg Ha,if_neg Ha];omega,decide_eq_true Ha]] at a;unfold DQ;rw [if_neg b,Nat.add_sub_cancel];have hj:j<16:=Ha;have l:(j:Int)<16:=Ha;clear b;go_enter Tryz.func74,Tryz.ntmps74;go_wp2_with fail
  refine a.out.mono ?_;rintro e i ⟨rfl,rfl⟩;go_wp2_with fail
  go_ret;exact ⟨rfl,rfl⟩
end
theorem KE (tb:Nat) (t:Int) (nd:Nd) (a:Value):∀ j,j<9->(BO tb t nd a)[2+j]?=(bF nd).toList[j]?
 | 0,_ | 1,_ | 2,_ | 3,_ | 4,_ | 5,_ | 6,_ | 7,_ | 8,_=>rfl
 | n+9,h=>absurd h Ha
def Gy (C:BN) (P:List Wr) (nd:Nd) (ix:List Int):List Wr × Nd:=if ix.any FR then (pT C P nd.x (gx ix),nd) else (P,{ nd with x := -1 })
section
variable {C:TC} {G:Nat->Obj->Prop} {W0 W:World} {o0:Option Nat} {pv:Value} {P:List Wr} {T:List Bool} {ob ib cap:Nat} {t:Int} {nd:Nd} {ix:List Int}
theorem FS.rgN (h:FS C G W0 o0 W pv P T ob t nd ib cap ix):W.rangeAt ob 2 (bF nd).toList:=fun j v hj=>by
 rw [af h.hd,KE _ _ _ _ j (List.getElem?_eq_some_iff.1 hj).1];exact hj
theorem IR (h:jY nd):(dW 1 nd).Wk:=by
 have:=vS (k:=1) (n:=nd) Ha h.t;exact ⟨by have:=this.k;constructor <;> omega,this.len,this.b⟩
theorem IS (l:List Int):(gx l).Wk:=⟨by have:=(ow l).k;constructor <;> omega,(ow l).len,(ow l).b⟩
theorem uH (h:FS C G W0 o0 W pv P T ob t nd ib cap ix) (g:P.length<200):Calls Tryz.prog 76 #[.pointer (some ⟨ob,0,none⟩)] W fun e w'=>e=.returned (.tuple #[])/\∃ b,FS C G W0 o0 w' b (pT C.bn P t (dW 1 nd)) T ob t nd ib cap ix:=by
 have m:=He (xT 1 nd W h.ok);have n:=He (IR h.ok);change Hid (Calls Tryz.prog _ _ W fun e w'=>e=.returned (.tuple #[.agg (ab (dW 1 nd).k (dW 1 nd).bs),_])/\_) at m;generalize dW 1 nd=x at *;generalize decide (aS 1 nd)=B at *;have o:=He h;clear h;go_enter Tryz.func76,Tryz.ntmps76;go_wp2_with (first | (refine wpList_load_mid rfl 137 (.tmp 7) rfl ob 2 rfl (bF nd).toList _ o.out.rgN Tryz.underlying137 rfl ud ?_))
 refine m.out.mono ?_;rintro e a ⟨rfl,d⟩;have j:=heap_alloc_new a (.cells (ab 0 az) 37);have i:Below W.heap.size W ((a.alloc (.cells (ab 0 az) 37)).setRow a.heap.size (ab x.k x.bs)):=d.trans ((below_setRow (aM (w:=a) (.cells (ab 0 az) 37)) (Nat.le_refl _) (ab x.k x.bs)).mono d.size);have q:=He (am (D:=ab x.k x.bs) j);have l:=He (o.out.below i);clear d m i;go_upto_region 1 with (first | (refine aq rfl rfl ?_) | (refine ap rfl (.tmp 2) (.tmp 10) rfl a.heap.size rfl x.k 0 x.bs az rfl n.out.len ak j ?_))
 clear j;generalize (a.alloc (.cells (ab 0 az) 37)).setRow a.heap.size (ab x.k x.bs)=f at *;generalize a.heap.size=r at *;have s:∀ W,Below f.heap.size f W->W.cell? ⟨ob,0,none⟩=some (.pointer (some ⟨C.tb,0,none⟩)):=fun W d=>(l.out.below d).c 0;have u:∀ W,Below f.heap.size f W->W.cell? ⟨ob,1,none⟩=some (.int .i64 t):=fun W d=>(l.out.below d).c 1;have srefl:∀ W:World,W.grownBy W none:=fun W=>World.grownBy.refl _ _;refine dS (fun _ W=>Below f.heap.size f W) (fun _ w w'=>w.grownBy w' none) (Below.refl _ _).drew ?_;refine xr ?_;refine XK.v (.agg (ab x.k x.bs)) (fun T w L hag hJ hd=>?_) ?_
 ·have y:=hag 2 Hb;exact wp_load_mid 37 (.tmp 2) rfl r 0 y (blkL x.k x.bs) _ (rangeB (Go.Proofs.YtegjelaejbacnaaGreat.kb hJ q.out)) Tryz.underlying37 rfl (bT n.out.len) ⟨_,rfl,rfl,rfl⟩
 refine XK.last ?_;intro H L I j hJ;simp only [ny,forall_eq,List.setIfInBounds_toArray,List.set_cons_succ,List.set_cons_zero];have z:=He ((l.out.below hJ).put t l.out.ti x n.out g);clear s u srefl;go_wp2_with fail
 refine z.out.mono ?_;rintro e K ⟨rfl,b,p⟩;have A:=He p;clear p;go_wp2_with fail
 go_end0
 exact ⟨rfl,b,A.out⟩
theorem uI (h:FS C G W0 o0 W pv P T ob t nd ib cap ix) (z:C.w0.heap.size<=W0.heap.size) (i:P.length<200):Calls Tryz.prog 75 #[.pointer (some ⟨ob,0,none⟩)] W fun e w'=>e=.returned (.tuple #[])/\∃ b,FS C G W0 o0 w' b (Gy C.bn P nd ix).1 T ob t (Gy C.bn P nd ix).2 ib cap ix:=by
 have l:=He (IQ (some ⟨ib,0,none⟩) ix 16 cap W h.il h.nts Ha);have A:=He h;have p:W.cell? ⟨ob,11,none⟩=some (.slice (some ⟨ib,0,none⟩) 16 cap):=h.c 11;have q:W.cell? ⟨ob,9,none⟩=some (.int .i64 nd.x):=h.c 9;have B:=h.f 9;unfold Gy;cases m:ix.any FR with
 | false =>
   rw [m] at l;have r:=He (h.set z 9 (.int .i64 (-1)) { nd with x := -1 } { h.ok with x:=(show i64 (-1) from ⟨Hd,Hd⟩) } (fun R=>rfl));simp only [Bool.false_eq_true,if_false];generalize ({ nd with x := -1 }:Nd)=H at *;clear h m;go_enter Tryz.func75,Tryz.ntmps75;go_wp2_with fail
   refine l.out.mono ?_;rintro e a ⟨rfl,rfl⟩;go_wp2_with fail
   refine bodyPost_ret (results_none rfl _ _ _) rfl ?_;exact ⟨rfl,pv,r.out⟩
 | true =>
   rw [m] at l;simp only [if_true];have u:=He (ur (some ⟨ib,0,none⟩) ix 16 cap W h.il h.nts);have s:=He (IS ix);change Hid (Calls Tryz.prog _ _ W fun e w'=>e=.returned (.tuple #[.agg (ab (gx ix).k (gx ix).bs),_])/\_) at u;generalize gx ix=x at *;generalize mayB ix=S at *;clear h m;go_enter Tryz.func75,Tryz.ntmps75;go_wp2_with fail
   refine l.out.mono ?_;rintro e U ⟨rfl,rfl⟩;go_wp2_with fail
   refine u.out.mono ?_;rintro e a ⟨rfl,d⟩;have n:=heap_alloc_new a (.cells (ab 0 az) 37);have j:Below W.heap.size W ((a.alloc (.cells (ab 0 az) 37)).setRow a.heap.size (ab x.k x.bs)):=d.trans ((below_setRow (aM (w:=a) (.cells (ab 0 az) 37)) (Nat.le_refl _) (ab x.k x.bs)).mono d.size);have I:=He (am (D:=ab x.k x.bs) n);have o:=He (A.out.below j);clear d j p q B;go_upto_region 3 with (first | (refine aq rfl rfl ?_) | (refine ap rfl (.tmp 2) (.tmp 20) rfl a.heap.size rfl x.k 0 x.bs az rfl s.out.len ak n ?_))
   clear n;generalize (a.alloc (.cells (ab 0 az) 37)).setRow a.heap.size (ab x.k x.bs)=g at *;generalize a.heap.size=K at *;have M:∀ W,Below g.heap.size g W->W.cell? ⟨ob,0,none⟩=some (.pointer (some ⟨C.tb,0,none⟩)):=fun W d=>(o.out.below d).c 0;have q:∀ W,Below g.heap.size g W->W.cell? ⟨ob,9,none⟩=some (.int .i64 nd.x):=fun W d=>(o.out.below d).c 9;have srefl:∀ W:World,W.grownBy W none:=fun W=>World.grownBy.refl _ _;refine dS (fun _ W=>Below g.heap.size g W) (fun _ w w'=>w.grownBy w' none) (Below.refl _ _).drew ?_;refine xr ?_;refine XK.v (.agg (ab x.k x.bs)) (fun T w L hag hJ hd=>?_) ?_
   ·have N:=hag 2 Hb;exact wp_load_mid 37 (.tmp 2) rfl K 0 N (blkL x.k x.bs) _ (rangeB (Go.Proofs.YtegjelaejbacnaaGreat.kb hJ I.out)) Tryz.underlying37 rfl (bT s.out.len) ⟨_,rfl,rfl,rfl⟩
   refine XK.last ?_;intro V L X n hJ;simp only [ny,forall_eq,List.setIfInBounds_toArray,List.set_cons_succ,List.set_cons_zero];have O:=He ((o.out.below hJ).put nd.x o.out.ok.x x s.out i);clear M q srefl;go_wp2_with fail
   refine O.out.mono ?_;rintro e Y ⟨rfl,b,y⟩;have r:=He y;clear y;go_wp2_with fail
   go_end0
   exact ⟨rfl,b,r.out⟩
end
theorem Dy (k:Int) (bs:List Int) (h:bs.length=56) (f:Nat) (a:List Int) (b:f+a.length<=56):((ab k bs).toList.take (1+f)++Bs a++(ab k bs).toList.drop (1+f+(Bs a).length)).toArray=ab k (qi bs a f):=by
 rw [bu,ar];unfold ab blkL qi
 congr 1
 rw [show 1+f=f+1 by omega,List.take_succ_cons,show f+1+a.length=(f+a.length)+1 by omega,List.drop_succ_cons];unfold Bs;simp only [List.map_append,List.map_take,List.map_drop,List.cons_append,List.append_assoc]
theorem wj {ops:Array Oper} {rest:List Oper} {o:Oper} {a:Act} {w:World} {Q:Exit->Act->World->Prop} (p:o.guard=none) (s x:Operand) (z:o.op=.call { callee:=.builtin .copy,args:=#[s,x],argTypes:=#[22,22] })
 (g:Nat) (k:Int) (d i:List Int) (f r u:Nat) (q:Addr) (m c:Nat) (A:a.eval s=.slice (some ⟨g,1+f,none⟩) r u) (b:a.eval x=.slice (some q) m c) (l:d.length=56) (B:i.length=m) (O:f+r<=56) (C:dK w (some q) i) (H:w.heap[g]?=some (.cells (ab k d) 37 (0,0)))
 (h:wpList Tryz.prog ops Q rest (a.put o.dst (goInt ((min m r:Nat):Int))) (w.setRow g (ab k (qi d (i.take r) f)))):wpList Tryz.prog ops Q (o :: rest) a w :=
 wpList_plain p fun _ I=>by
  obtain ⟨R,K,L,t,M⟩:=info_parts jE;have n:(i.take r).length=min m r:=by rw [List.length_take,B,Nat.min_comm]
  have y:=run_copy_row Tryz.prog w 22 22 o.type 5 g (1+f) r u q m c (ab k d) 37 (Bs (i.take r)) Tryz.underlying22 (by rw [K];simp [t]) H (by rw [ar,n])
   (fun j v hj=>by
     unfold Bs at hj;rw [List.getElem?_map] at hj;obtain ⟨x,b,rfl⟩:=Option.map_eq_some_iff.1 hj;rw [List.getElem?_take] at b;split at b
     ·obtain ⟨S,e,N⟩:=C j x b;injection e with e;subst e;exact N
     ·cases b) (by rw [ar,aP l,n];omega) (io _)
  rw [Dy k d l f _ (by rw [n];omega),ar,n] at y;unfold Oper.wp execOp;simp only [z,resolve,invoke,builtin,Sem.run_bind,Sem.run_pure,Result.andThen_ok,List.map_toArray,List.map_cons,List.map_nil,A,b,y];exact I _ _ h
theorem mM {ops:Array Oper} {rest:List Oper} {o:Oper} {a:Act} {w:World} {Q:Exit->Act->World->Prop} (b:o.guard=none) (s x y:Operand) (c:o.op=.slice 35 s (some x) (some y) none) (g f t:Nat) (d:a.eval s=.pointer (some ⟨g,1,none⟩)) (e:a.eval x=.int .i64 f) (i:a.eval y=.int .i64 t) (j:f<=t) (k:t<=56) (l:f<56)
 (h:wpList Tryz.prog ops Q rest (a.put o.dst (.slice (some ⟨g,1+f,none⟩) (t-f) (56-f))) w):wpList Tryz.prog ops Q (o :: rest) a w :=
 wpList_plain b fun _ m=>by
  have n:=yj g f t j k l w;unfold Oper.wp execOp;simp only [c,d,e,i,Option.map_some,Option.map_none,Sem.run_bind,n,Result.andThen_ok];exact m _ _ h
def qm (x:Bk) (f t:Nat) (d:List Int):Bk:=⟨x.k,qi x.bs (d.take (t-f)) f⟩
section
variable {C:TC} {G:Nat->Obj->Prop} {W0 W:World} {o0:Option Nat} {pv:Value} {P:List Wr} {T:List Bool} {ob ib cap:Nat} {t:Int} {nd:Nd} {ix:List Int}
def fw (nd:Nd) (ix:List Int) (k:Nat):Int:=if k<4 then nd.dir.getD k 0 else ix.getD (k-4) 0
def fO (nd:Nd) (ix:List Int) (k:Nat) (a:Int):Nd × List Int:=if k<4 then (nd.setDir k a,ix) else (nd,ix.set (k-4) a)
theorem FS.cP (h:FS C G W0 o0 W pv P T ob t nd ib cap ix) (k:Nat) (j:k<20):W.cell? (DQ ob ib k)=some (.int .i64 (fw nd ix k))/\W.frozen? (DQ ob ib k)=false/\i64 (fw nd ix k):=by
 unfold DQ fw;by_cases e:k<4
 ·rw [if_pos e,if_pos e];refine ⟨?_,h.f _,?_⟩
  ·rw [h.c];match k,e with | 0,_ | 1,_ | 2,_ | 3,_=>rfl
  ·match k,e with | 0,_=>exact h.ok.a | 1,_=>exact h.ok.b | 2,_=>exact h.ok.c | 3,_=>exact h.ok.d
 ·rw [if_neg e,if_neg e];have i:k-4<ix.length:=by rw [h.il];omega
  have g:ix[k-4]?=some (ix.getD (k-4) 0):=by rw [List.getD,List.getElem?_eq_getElem i];rfl
  exact ⟨h.ci g,h.fri _,h.ii _ (List.mem_of_getElem? g)⟩
theorem FS.setP (h:FS C G W0 o0 W pv P T ob t nd ib cap ix) (g:C.w0.heap.size<=W0.heap.size) (k:Nat) (i:k<20) (x:Int) (f:i64 x):FS C G W0 o0 (W.setCell (DQ ob ib k) (.int .i64 x)) pv P T ob t (fO nd ix k x).1 ib cap (fO nd ix k x).2:=by
 unfold DQ fO;by_cases e:k<4
 ·rw [if_pos e,if_pos e];refine h.set g (5+k) _ _ ?_ (fun j=>?_)
  ·match k,e with | 0,_=>exact { h.ok with a:=f } | 1,_=>exact { h.ok with b:=f } | 2,_=>exact { h.ok with c:=f } | 3,_=>exact { h.ok with d:=f }
  ·match k,e with | 0,_ | 1,_ | 2,_ | 3,_=>rfl
 ·rw [if_neg e,if_neg e];exact h.setI g (k-4) Ha x f
theorem FS.new (h:FS C G W0 o0 W pv P T ob t nd ib cap ix) {j:Nat} {Z D:Array Value} (hj:W.heap[j]?=some (.cells Z 37 (0,0))) (b:W0.heap.size<=j) (f:C.w0.heap.size<=W0.heap.size) (g:¬ C.F j) (i:∀ o,¬ G j o):FS C G W0 o0 (W.setRow j D) pv P T ob t nd ib cap ix:=by
 have a:=ct W j D;obtain ⟨Z,c⟩:=h.rb;exact { h with k:=h.k.cell a hj Hd Hd Hd Hd Hd g (Nat.le_trans f b),s:=h.s.own a (.inl b),hd:=br a h.hd (fun e=>by injection e with e;exact bc h.hd hj Hd e.symm),row:=fh h.row fun k e=>by injection e with e;subst e;exact a.block _ (ah c) (fun e=>by injection e with e;exact bc c hj Hd e),gd:=fun k o d=>let ⟨q1,q2⟩:=h.gd k o d;⟨br a q1 (fun e=>by injection e with e;subst e;exact i o d),q2⟩ }
theorem yH (h:FS C G W0 o0 W pv P T ob t nd ib cap ix) (h0:C.w0.heap.size<=W0.heap.size) (H:P.length<200) (k f e:Nat) (M:k<20) (bk:f<e) (he:e<=56) (X:Addr) (d:List Int) (m c:Nat) (hm:d.length=m) (hB:ay d) (g:dK W (some X) d):Calls Tryz.prog 73 #[.pointer (some ⟨ob,0,none⟩),.agg (jt k f e),.slice (some X) m c] W fun r w'=>r=.returned (.tuple #[])/\∃ n,FS C G W0 o0 w' n (pT C.bn P (fw nd ix k) (qm (gB (C.N P) (fw nd ix k)) f e d)) T ob t nd ib cap ix:=by
 have Y:=heap_alloc_new W (.cells (jt k f e) 152);have p:=aM (w:=W) (.cells (jt k f e) 152);have b:=He (h.below p);have HY:=He (g.keep p);have HM:=He hm;obtain ⟨hc,Z,O⟩:=b.out.cP k M;have I:=He (mp b.out k M);have an:=He h.k.ks.wk;obtain ⟨a,ha⟩:∃ a,a=fw nd ix k:=⟨_,rfl⟩
 rw [<- ha] at hc O ⊢;have HA:=He ha;have HG:=He (b.out.k.get1 a O);obtain ⟨x,hx⟩:∃ x,x=gB (C.N P) a:=⟨_,rfl⟩
 rw [<- hx] at HG ⊢;have A:Hid (x.bs.length=56/\ay x.bs/\i64 x.k):=by
  rw [hx];unfold gB;split
  ·unfold ik;rw [List.getD];cases hq:(C.N P)[a.toNat]? with
   | none=>exact ⟨ak,fc,Hd⟩
   | some y=>exact (fun h=>⟨h.2.1,h.2.2,h.1⟩) (an.out y (List.mem_of_getElem? hq))
  ·exact ⟨ak,fc,Hd⟩
 have HI:=He O;clear ha hx O;have a0:=He hB;clear h p g hm;go_enter Tryz.func73,Tryz.ntmps73;go_upto_region 1 with fail
 generalize W.alloc (.cells (jt k f e) 152)=B at *;generalize W.heap.size=p4 at *;have c0:B.cell? ⟨ob,0,none⟩=some (.pointer (some ⟨C.tb,0,none⟩)):=b.out.c 0;have a1:B.cell? ⟨p4,0,none⟩=some (.int .i64 k):=(af Y 0).trans rfl;go_wp2_with fail
 refine I.out.mono ?_;rintro r i ⟨rfl,rfl⟩;generalize DQ ob ib k=na at *;go_wp2_with fail
 refine HG.out.mono ?_;rintro r i ⟨rfl,l⟩;have h7:=heap_alloc_new i (.cells (ab 0 az) 37);have j:Below B.heap.size B ((i.alloc (.cells (ab 0 az) 37)).setRow i.heap.size (ab x.k x.bs)):=l.trans ((below_setRow (aM (w:=i) (.cells (ab 0 az) 37)) (Nat.le_refl _) (ab x.k x.bs)).mono l.size);have R:=He (am (D:=ab x.k x.bs) h7);have a2:=He (b.out.below j);have a3:=He (HY.out.keep j);have q:=Go.Proofs.YtegjelaejbacnaaGreat.kb j Y;have a4:Hid (B.heap.size<=i.heap.size):=l.size;have a5:Hid (W0.heap.size<=B.heap.size):=b.out.s.sz;have a6:Hid (∀ o,¬ G i.heap.size o):=fun o M=>by have:=ah (b.out.gd _ o M).1;have:=l.size;omega
 have a7:Hid (¬ C.F i.heap.size):=(b.out.below l).k.tv.new (Nat.le_refl _);have bl:=He j;clear l j hc Z a1 c0 Y HG I b;go_upto_region 3 with (first | (refine aq rfl rfl ?_) | (refine ap rfl (.tmp 7) (.tmp 22) rfl i.heap.size rfl x.k 0 x.bs az rfl A.out.1 ak h7 ?_))
 clear h7;generalize (i.alloc (.cells (ab 0 az) 37)).setRow i.heap.size (ab x.k x.bs)=w3 at *;generalize i.heap.size=S at *;have a8:w3.cell? ⟨p4,1,none⟩=some (.int .i64 f):=(af q 1).trans rfl;have a9:w3.cell? ⟨p4,2,none⟩=some (.int .i64 e):=(af q 2).trans rfl;go_upto_region 4 with (first
  | (refine mM rfl (.tmp 24) (.tmp 26) (.tmp 28) rfl S f e rfl rfl rfl Ha he Ha ?_)
  | (refine wj rfl (.tmp 29) (.tmp 30) rfl S x.k x.bs d f (e-f) (56-f) X m c rfl rfl A.out.1 HM.out Ha a3.out R.out ?_))
 have bb:(d.take (e-f)).length<=e-f:=by rw [List.length_take];exact Nat.min_le_left _ _
 have u:Hid (qm x f e d).Wk:=⟨A.out.2.2,IC A.out.1 Ha,by
  intro y g;unfold qm qi at g;rcases List.mem_append.1 g with g | g
  ·rcases List.mem_append.1 g with g | g
   ·exact A.out.2.1 y (List.mem_of_mem_take g)
   ·exact a0.out y (List.mem_of_mem_take g)
  ·exact A.out.2.1 y (List.mem_of_mem_drop g)⟩
 obtain ⟨z,U⟩:∃ z,z=qm x f e d:=⟨_,rfl⟩
 rw [<- U] at u;have bi:=He (am (D:=ab z.k z.bs) R.out);have K:=He (a2.out.new R.out (D:=ab z.k z.bs) (Nat.le_trans a5.out a4.out) h0 a7.out a6.out);rw [show ab x.k (qi x.bs (d.take (e-f)) f)=ab z.k z.bs by rw [U];rfl];generalize w3.setRow S (ab z.k z.bs)=V at *;have HZ:=He U;clear U a8 a9 q R bb;have c0:∀ W,Below V.heap.size V W->W.cell? ⟨ob,0,none⟩=some (.pointer (some ⟨C.tb,0,none⟩)):=fun W l=>(K.out.below l).c 0;have srefl:∀ W:World,W.grownBy W none:=fun W=>World.grownBy.refl _ _;refine dS (fun _ W=>Below V.heap.size V W) (fun _ w w'=>w.grownBy w' none) (Below.refl _ _).drew ?_;refine xr ?_;refine XK.v (.agg (ab z.k z.bs)) (fun T w L hag hJ hd=>?_) ?_
 ·have e7:=hag 7 Hb;exact wp_load_mid 37 (.tmp 7) rfl S 0 e7 (blkL z.k z.bs) _ (rangeB (Go.Proofs.YtegjelaejbacnaaGreat.kb hJ bi.out)) Tryz.underlying37 rfl (bT u.out.len) ⟨_,rfl,rfl,rfl⟩
 refine XK.last ?_;intro W' L h1 h2 hJ;simp only [ny,forall_eq,List.setIfInBounds_toArray,List.set_cons_succ,List.set_cons_zero];have HP:=He ((K.out.below hJ).put a HI.out z u.out H);clear c0 srefl;go_wp2_with fail
 refine HP.out.mono ?_;rintro r w5 ⟨rfl,n,hs⟩;have HS:=He hs;clear hs;go_wp2_with fail
 go_end0
 exact ⟨rfl,n,by rw [<- HZ.out];exact HS.out⟩
end
end Go.Proofs.YtegjelaejbacnaaGreat
