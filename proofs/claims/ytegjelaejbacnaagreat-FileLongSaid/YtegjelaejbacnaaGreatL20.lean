/- For FileLong: contracts and facts, part 20. -/
import Derived.Deep.Slices
import Derived.Deep.Fields
import Derived.ChangeSame
import Derived.ProofKit
import Derived.OpenShut
import Derived.Carry
import Derived.Laws.BitsLemmas
import Derived.StillTailTactics
import Derived.Test.YtegjelaejbacnaaGreatL01
import Derived.Test.YtegjelaejbacnaaGreatL03
import Derived.Test.YtegjelaejbacnaaGreatL12
import Derived.Test.YtegjelaejbacnaaGreatL16
import Derived.Test.YtegjelaejbacnaaGreatL19
set_option maxRecDepth 100000
set_option maxHeartbeats 25600000
set_option linter.unusedVariables false
open Go.ChangeShapes Go.WideShapes Go.ChangeAt Go.RowKit Go.Deep
namespace Go.Proofs.YtegjelaejbacnaaGreat
theorem jQ (S:List Bk) (x:Wr) (l:List Wr):applyW S (x :: l)=applyW (if 0<=x.t/\x.t<S.length then S.set x.t.toNat ⟨x.k,x.bs⟩ else S) l:=rfl
theorem ky:∀ (P:List Wr) (S:List Bk) (i:Nat),(∀ x∈P,x.t≠i)->(applyW S P)[i]?=S[i]?
 | [],_,_,_=>rfl
 | x :: l,S,i,h=>by
   rw [jQ,ky l _ i (fun y a=>h y (by simp [a]))];split
   ·rename_i b;rw [List.getElem?_set_ne];intro e;exact h x Hb Ha
   ·rfl
theorem iy:∀ (P:List Wr) (S:List Bk),P.Pairwise (fun a b=>a.t<b.t)->∀ x∈P,0<=x.t->x.t<S.length->(applyW S P)[x.t.toNat]?=some ⟨x.k,x.bs⟩
 | [],_,_,_,h,_,_=>by cases h
 | y :: l,S,c,x,d,g,f=>by
   rw [List.pairwise_cons] at c;rw [jQ];rcases List.mem_cons.1 d with rfl | d
   ·rw [if_pos ⟨g,f⟩,ky l _ _ (fun z i e=>by have:=c.1 z i;omega),List.getElem?_set_self Ha]
   ·refine iy l _ c.2 x d g ?_;split
    ·rw [List.length_set];exact f
    ·exact f
def fndI (P:List Wr) (t:Int):Nat:=(P.takeWhile fun x=>decide (x.t<t)).length
def mx (P:List Wr) (t:Int):Bool:=match P[fndI P t]? with | some x=>decide (x.t=t) | none=>false
theorem vT (P:List Wr) (t:Int):fndI P t<=P.length:=(List.takeWhile_prefix _).length_le
theorem vU:∀ {P:List Wr} {t:Int} {k:Nat} {y:Wr},k<fndI P t->P[k]?=some y->y.t<t
 | [],_,_,_,_,a=>by cases a
 | z :: l,t,k,y,b,a=>by
   unfold fndI at b;rw [List.takeWhile_cons] at b;by_cases h:z.t<t
   ·rw [if_pos (decide_eq_true h),List.length_cons] at b;cases k with
    | zero=>injection a with a;subst a;exact h
    | succ k=>exact vU (P:=l) (k:=k) (by unfold fndI;omega) a
   ·rw [if_neg (by simpa using h)] at b;exact absurd b Hb
theorem pm:∀ {P:List Wr} {t:Int} {y:Wr},P[fndI P t]?=some y->¬ y.t<t
 | [],_,_,a=>by cases a
 | z :: l,t,y,a=>by
   unfold fndI at a;rw [List.takeWhile_cons] at a;by_cases h:z.t<t
   ·rw [if_pos (decide_eq_true h),List.length_cons,List.getElem?_cons_succ] at a;exact pm (P:=l) a
   ·rw [if_neg (by simpa using h)] at a;injection a with a;subst a;exact h
theorem lF {P:List Wr} {t:Int} (h:mx P t=true):∃ x,P[fndI P t]?=some x/\x.t=t:=by
 unfold mx at h;cases a:P[fndI P t]? with
 | none=>rw [a] at h;cases h
 | some x=>rw [a] at h;exact ⟨x,rfl,by simpa using h⟩
theorem BF {P:List Wr} {t:Int} (hp:P.Pairwise (fun a b=>a.t<b.t)) (h:mx P t=false):(∀ k y,P[k]?=some y->k<fndI P t->y.t<t)/\(∀ k y,P[k]?=some y->fndI P t<=k->t<y.t):=by
 refine ⟨fun k y c g=>vU g c,fun k y c g=>?_⟩;have f:=(List.getElem?_eq_some_iff.1 c).1;obtain ⟨z,d⟩:∃ z,P[fndI P t]?=some z:=⟨_,List.getElem?_eq_getElem Ha⟩
 have j:=pm d;have l:z.t≠t:=fun e=>by unfold mx at h;rw [d] at h;simp [e] at h
 by_cases e:k=fndI P t
 ·subst e;rw [d] at c;injection c with c;subst c;omega
 ·have i:=List.pairwise_iff_getElem.1 hp (fndI P t) k Ha f Ha;rw [(List.getElem?_eq_some_iff.1 d).2,(List.getElem?_eq_some_iff.1 c).2] at i;omega
theorem Dg {P:List Wr} {t:Int} (hp:P.Pairwise (fun a b=>a.t<b.t)) (h:mx P t=false):∀ x∈P,x.t≠t:=fun x f e=>by
 obtain ⟨k,d⟩:=List.getElem?_of_mem f;have:=BF hp h;by_cases c:k<fndI P t
 ·have:=this.1 k x d c;omega
 ·have:=this.2 k x d Ha;omega
def fL (P:List Wr) (w:Wr):List Wr:=if mx P w.t then P.set (fndI P w.t) w else P.take (fndI P w.t)++w :: P.drop (fndI P w.t)
theorem lG {P:List Wr} {w x:Wr} (h:x∈fL P w):x=w\/x∈P:=by
 unfold fL at h;split at h
 ·rcases List.mem_or_eq_of_mem_set h with h | h
  ·exact .inr h
  ·exact .inl h
 ·rcases List.mem_append.1 h with h | h
  ·exact .inr (List.mem_of_mem_take h)
  ·rcases List.mem_cons.1 h with h | h
   ·exact .inl h
   ·exact .inr (List.mem_of_mem_drop h)
theorem Dh (P:List Wr) (w:Wr):w∈fL P w:=by
 unfold fL;split
 ·rename_i h;obtain ⟨x,a,_⟩:=lF h;exact List.mem_of_getElem? (List.getElem?_set_self (List.getElem?_eq_some_iff.1 a).1)
 ·simp
theorem Di {P:List Wr} {w x:Wr} (b:x∈P) (c:x.t≠w.t):x∈fL P w:=by
 unfold fL;split
 ·rename_i h;obtain ⟨y,d,e⟩:=lF h;obtain ⟨k,a⟩:=List.getElem?_of_mem b;have:fndI P w.t≠k:=fun f=>by subst f;rw [d] at a;injection a with a;subst a;exact c e
  exact List.mem_of_getElem? ((List.getElem?_set_ne this).trans a)
 ·have:=List.take_append_drop (fndI P w.t) P;rw [<- this] at b;rcases List.mem_append.1 b with h | h
  ·exact List.mem_append.2 (.inl h)
  ·exact List.mem_append.2 (.inr (List.mem_cons_of_mem _ h))
theorem jR {P:List Wr} (hp:P.Pairwise (fun a b=>a.t<b.t)) (w:Wr):(fL P w).Pairwise (fun a b=>a.t<b.t):=by
 unfold fL;by_cases h:mx P w.t=true
 ·rw [if_pos h];obtain ⟨x,s,e⟩:=lF h;rw [List.pairwise_iff_getElem] at hp ⊢;intro i j u hj f;have g:i<P.length:=by simpa using u
  have l:j<P.length:=by simpa using hj
  have m:=hp i j g l f;have d:=(List.getElem?_eq_some_iff.1 s).2;rw [List.getElem_set,List.getElem_set];split
  ·split
   ·omega
   ·rename_i n _;subst n;rw [d] at m;omega
  ·split
   ·rename_i n;subst n;rw [d] at m;omega
   ·exact m
 ·have v:mx P w.t=false:=by simpa using h
  rw [if_neg h];obtain ⟨z,r⟩:=BF hp v;rw [List.pairwise_append];refine ⟨hp.take,?_,?_⟩
  ·rw [List.pairwise_cons];refine ⟨fun y A=>?_,hp.drop⟩;obtain ⟨k,c⟩:=List.getElem?_of_mem A;rw [List.getElem?_drop] at c;exact r _ y c Ha
  ·intro a B b o;obtain ⟨k,c⟩:=List.getElem?_of_mem B;rw [List.getElem?_take] at c;split at c
   ·rename_i p;have q:=z k a c p;rcases List.mem_cons.1 o with rfl | o
    ·exact q
    ·obtain ⟨j,hj⟩:=List.getElem?_of_mem o;rw [List.getElem?_drop] at hj;have:=r _ b hj Ha;omega
   ·cases c
theorem yx (P:List Wr) (w:Wr):(fL P w).length<=P.length+1:=by
 have:=vT P w.t;unfold fL;split
 ·rw [List.length_set];omega
 ·simp;omega
theorem Ap {P:List Wr} (hp:P.Pairwise (fun a b=>a.t<b.t)) {S:List Bk} (g:∀ x∈P,0<=x.t/\x.t<S.length) {w:Wr} (j:0<=w.t) (l:w.t<S.length):applyW S (fL P w)=(applyW S P).set w.t.toNat ⟨w.k,w.bs⟩:=by
 apply List.ext_getElem?;intro i;by_cases h:i=w.t.toNat
 ·subst h;rw [iy _ S (jR hp w) w (Dh P w) j l,List.getElem?_set_self (by rw [bZ];omega)]
 ·rw [List.getElem?_set_ne (fun e=>h e.symm)];by_cases d:∃ x∈P,x.t=i
  ·obtain ⟨x,d,e⟩:=d;have c:=g x d;have m:i=x.t.toNat:=Ha;rw [m,iy _ S (jR hp w) x (Di d Ha) c.1 c.2,iy _ S hp x d c.1 c.2]
  ·rw [ky _ S i (fun y f e=>?_),ky _ S i (fun y f e=>d ⟨y,f,e⟩)];rcases lG f with rfl | f
   ·omega
   ·exact d ⟨y,f,e⟩
def gB (N:List Bk) (t:Int):Bk:=if 0<=t then ik N t else zB
theorem po {N:List Bk} {t:Int} (h:¬ (0<=t/\t<N.length)):gB N t=zB:=by
 unfold gB;split
 ·unfold ik;rw [List.getD,List.getElem?_eq_none Ha];rfl
 ·rfl
theorem BG {N:List Bk} {i:Nat} {x:Bk} (h:N[i]?=some x):gB N i=x:=by
 unfold gB;rw [if_pos Ha];exact kN h
theorem Dj {P:List Wr} {S:List Bk} (hp:P.Pairwise (fun a b=>a.t<b.t)) (c:∀ x∈P,0<=x.t/\x.t<S.length) {t:Int} (h:mx P t=true):∃ x,P[fndI P t]?=some x/\gB (applyW S P) t=⟨x.k,x.bs⟩/\(0<=t/\t<S.length):=by
 obtain ⟨x,d,e⟩:=lF h;have f:=List.mem_of_getElem? d;have g:=c x f;have:=iy P S hp x f g.1 g.2;refine ⟨x,d,?_,Ha⟩;have i:t=(x.t.toNat:Int):=Ha;rw [i];exact BG this
theorem IF {P:List Wr} {v:VM} (c:v.Ok) (hp:P.Pairwise (fun a b=>a.t<b.t)) {t:Int} (h:mx P t=false):gB (applyW (jf v) P) t=⟨(mu v t).k,(mu v t).bs⟩/\it v t=decide (0<=t/\t<v.n):=by
 have f:=iw c;refine ⟨?_,by unfold it;simp⟩;by_cases g:0<=t/\t<v.n
 ·obtain ⟨i,rfl⟩:∃ i:Nat,t=i:=⟨t.toNat,Ha⟩
  obtain ⟨x,d⟩:∃ x,v.B[i]?=some x:=⟨_,List.getElem?_eq_getElem (by rw [c.len];omega)⟩
  have e:=ky P (jf v) i (fun y j=>Dg hp h y j);have l:(jf v)[i]?=some (val x):=by unfold jf;rw [List.getElem?_map,d];rfl
  rw [l] at e;rw [BG e,(vq c.len d).2];rfl
 ·rw [po (by rw [bZ,f];exact g)];have:it v t=false:=by unfold it;simp;omega
  unfold mu;rw [if_neg (by rw [this];decide)];rfl
def oB (S:List Bool):List Value:=(S++List.replicate (200-S.length) false).map Value.bool
def jw (S:List Bool):Array Value:=(Value.int .i64 S.length :: (oB S++[.int .i64 (S.count false)])).toArray
structure bp (w:World) (g:Nat) (S:List Bool):Prop where
 len:S.length<=200
 hp:w.heap[g]?=some (.cells (jw S) 197 (0,0))
def Aq (S:List Bool) (i:Int):Bool:=decide (0<=i)&&decide (i<S.length)
def Gv (S:List Bool) (i:Int):Bool:=Aq S i&&S.getD i.toNat false
def setB (S:List Bool) (i:Int) (b:Bool):List Bool:=if Aq S i then S.set i.toNat b else S
theorem iA {S:List Bool} (h:S.length<=200):(oB S).length=200:=by unfold oB;simp;omega
theorem FB {S:List Bool} {i:Nat} {b:Bool} (h:S[i]?=some b):(oB S)[i]?=some (.bool b):=by
 unfold oB;have a:=(List.getElem?_eq_some_iff.1 h).1;rw [List.getElem?_map,List.getElem?_append_left a,h];rfl
theorem FC (S:List Bool):(jw S)[0]?=some (.int .i64 S.length):=rfl
theorem FD {S:List Bool} (a:S.length<=200) {i:Nat} {b:Bool} (h:S[i]?=some b):(jw S)[i+1]?=some (.bool b):=by
 have c:=(List.getElem?_eq_some_iff.1 h).1;unfold jw;rw [List.getElem?_toArray,List.getElem?_cons_succ,List.getElem?_append_left (by rw [iA a];omega)];exact FB h
theorem Ar {S:List Bool} (a:S.length<=200):(jw S)[201]?=some (.int .i64 (S.count false)):=by
 unfold jw;rw [List.getElem?_toArray,List.getElem?_cons_succ,List.getElem?_append_right (by rw [iA a];omega),iA a];rfl
theorem Dk (S:List Bool) {i:Nat} (a:i<S.length) (b:Bool):(oB S).set i (.bool b)=oB (S.set i b):=by
 unfold oB;rw [<- List.map_set,List.length_set,List.set_append_left _ _ a]
theorem Dl {S:List Bool} (a:S.length<=200) {i:Nat} (c:i<S.length) (b:Bool) :
 ((jw S).setIfInBounds (1+i) (.bool b)).setIfInBounds 201 (.int .i64 ((S.set i b).count false))=jw (S.set i b):=by
 rw [Nat.add_comm 1 i];unfold jw;simp only [List.setIfInBounds_toArray,List.set_cons_succ];rw [List.set_append_left _ _ (by rw [iA a];omega),Dk S c,List.set_append_right _ _ (by rw [iA (by simpa using a)];exact Nat.le_refl _),iA (by simpa using a),List.length_set];rfl
section
variable {w w':World} {g:Nat} {S:List Bool}
theorem bp.below (h:bp w g S) (a:Below w.heap.size w w'):bp w' g S:=⟨h.len,by rw [a.block g (ah h.hp)];exact h.hp⟩
theorem bp.c0 (h:bp w g S):w.cell? ⟨g,0,none⟩=some (.int .i64 S.length):=(af h.hp 0).trans (FC S)
theorem bp.cAt (h:bp w g S) {i:Nat} {b:Bool} (a:S[i]?=some b):w.cell? ⟨g,1+i,none⟩=some (.bool b):=by rw [Nat.add_comm];exact (af h.hp _).trans (FD h.len a)
theorem bp.cl (h:bp w g S):w.cell? ⟨g,201,none⟩=some (.int .i64 (S.count false)):=(af h.hp 201).trans (Ar h.len)
theorem bp.fz (h:bp w g S) (i:Nat):w.frozen? ⟨g,i,none⟩=false:=aA h.hp i
end
theorem r9 {S:List Bool}:∀ {i:Nat},S[i]?=some false->(S.set i true).count false+1=S.count false:=by
 induction S with
 | nil=>intro i h;cases h
 | cons x T ih =>
   intro i h;cases i with
   | zero=>simp at h;subst h;simp
   | succ i =>
     rw [List.getElem?_cons_succ] at h;have:=ih h;rw [List.set_cons_succ,List.count_cons,List.count_cons];omega
theorem bp.put {w:World} {g:Nat} {S:List Bool} (h:bp w g S) {i:Nat} (a:i<S.length) (b:Bool) {c:Int} (d:c=((S.set i b).count false:Nat)) :
 bp ((w.setCell ⟨g,1+i,none⟩ (.bool b)).setCell ⟨g,201,none⟩ (.int .i64 c)) g (S.set i b)/\aE (fun k=>k=g) w ((w.setCell ⟨g,1+i,none⟩ (.bool b)).setCell ⟨g,201,none⟩ (.int .i64 c)):=by
 subst d;refine ⟨⟨by simpa using h.len,?_⟩,((aE.refl (fun k=>k=g) w).setCell (p:=⟨g,1+i,none⟩) rfl _).setCell (p:=⟨g,201,none⟩) rfl _⟩;rw [<- Dl h.len a b];exact ai (ai h.hp _) _
theorem As (n:Int):Tryz.prog.built 197 [(0,.int .i64 n),(2,.int .i64 n)]=some (.int .i64 n :: ((List.replicate 200 (Value.bool false))++[.int .i64 n])).toArray:=Hc
theorem Dm (k:Nat) (a:k<=200):(Value.int .i64 (k:Int) :: ((List.replicate 200 (Value.bool false))++[.int .i64 (k:Int)])).toArray=jw (List.replicate k false):=by
 unfold jw oB;rw [List.length_replicate,List.count_replicate_self,List.replicate_append_replicate,List.map_replicate,show k+(200-k)=200 by omega]
section
variable {ops:Array Oper} {rest:List Oper} {o:Oper} {a:Act} {w:World} {Q:Exit->Act->World->Prop}
theorem iB (b:o.guard=none) (d e:Operand) (f:o.op=.build 197 #[(0,d),(2,e)]) (n:Int) (C:Array Value) (c:Tryz.prog.built 197 [(0,.int .i64 n),(2,.int .i64 n)]=some C) (g:a.eval d=.int .i64 n) (i:a.eval e=.int .i64 n)
 (h:wpList Tryz.prog ops Q rest (a.put o.dst (.agg C)) w):wpList Tryz.prog ops Q (o :: rest) a w :=
 wpList_plain b fun _ j=>by
  unfold Oper.wp execOp;have c:=run_build (P:=Tryz.prog) w 197 #[(0,.int .i64 n),(2,.int .i64 n)] _ c;simp only [f,List.map_toArray,List.map_cons,List.map_nil,g,i,Sem.run_bind,c,Result.andThen_ok,Sem.run_pure];exact j _ _ h
end
theorem BH (x:Int) (o:i64 x) (w:World):Calls Tryz.prog 108 #[.int .i64 x] w fun e w'=>∃ g,e=.returned (.pointer (some ⟨g,0,none⟩))/\g=w.heap.size/\bp w' g (List.replicate (min (max x 0) 200).toNat false)/\Below w.heap.size w w':=by
 obtain ⟨k,m,a⟩:∃ k:Nat,(min (max x 0) 200)=(k:Int)/\k<=200:=⟨(min (max x 0) 200).toNat,Ha,Ha⟩
 have h:=As (k:Int);rw [Dm k a] at h;have i:(jw (List.replicate k false)).size=202:=by
  have j:=iA (S:=List.replicate k false) (by simpa using a);unfold jw;simp [j]
 have HB:=He h;have p:=He i;generalize d:jw (List.replicate k false)=C at *;have b:=He d;rw [m];clear h i d;have c:Hid (jw (List.replicate k false)=C)->k<=200->∃ g,Ending.returned (.pointer (some ⟨w.heap.size,0,none⟩))=Ending.returned (.pointer (some ⟨g,0,none⟩))/\g=w.heap.size/\bp (w.alloc (.cells C 197)) g (List.replicate (k:Int).toNat false)/\Below w.heap.size w (w.alloc (.cells C 197)):=fun l n =>
  ⟨_,rfl,rfl,⟨by simpa using n,by rw [Int.toNat_natCast,l.out];exact heap_alloc_new w _⟩,(Below.refl _ _).alloc (Nat.le_refl _) _⟩
 by_cases j:x<0
 ·have f:k=0:=Ha;subst f;go_enter Tryz.func108,Tryz.ntmps108;go_wp2_with (refine iB rfl _ _ rfl (0:Int) C HB.out rfl rfl ?_)
  go_ret;exact c b a
 ·by_cases l:200<x
  ·have f:k=200:=Ha;subst f;go_enter Tryz.func108,Tryz.ntmps108;go_wp2_with (refine iB rfl _ _ rfl (200:Int) C HB.out rfl rfl ?_)
   go_ret;exact c b a
  ·have f:x=k:=Ha;subst f;go_enter Tryz.func108,Tryz.ntmps108;go_wp2_with (refine iB rfl _ _ rfl (k:Int) C HB.out rfl rfl ?_)
   go_ret;exact c b a
theorem vV {w:World} {g:Nat} {S:List Bool} (h:bp w g S) (i:Int):Calls Tryz.prog 113 #[.pointer (some ⟨g,0,none⟩),.int .i64 i] w fun e w'=>e=.returned (.bool (Aq S i))/\w=w':=by
 have b:=h.c0;have c:=h.len;unfold Aq;clear h;go_enter Tryz.func113,Tryz.ntmps113;by_cases a:0<=i
 ·go_wp2;go_ret;exact ⟨by rw [decide_eq_true a];rfl,rfl⟩
 ·go_wp2;go_ret;exact ⟨by rw [decide_eq_false (by omega:¬ 0<=i)];rfl,rfl⟩
theorem vW {S:List Bool} {i:Int} (h:Aq S i=true):∃ j:Nat,i=j/\j<S.length:=by
 unfold Aq at h;simp at h;exact ⟨i.toNat,Ha,Ha⟩
theorem At {S:List Bool} {j:Nat} (h:j<S.length):Aq S (j:Int)=true:=by unfold Aq;simp;omega
theorem lH {S:List Bool} {j:Nat} (h:j<S.length):S[j]?=some (S.getD j false):=by
 rw [List.getD_eq_getElem?_getD,List.getElem?_eq_getElem h];rfl
theorem Kw {w:World} {g:Nat} {S:List Bool} (h:bp w g S) (i:Int) (d:i64 i):Calls Tryz.prog 111 #[.pointer (some ⟨g,0,none⟩),.int .i64 i] w fun e w'=>e=.returned (.bool (Gv S i))/\w=w':=by
 have a:=He (vV h i);unfold Gv;cases c:Aq S i
 ·rw [c] at a;clear h;go_enter Tryz.func111,Tryz.ntmps111;go_wp2_with fail
  refine a.out.mono ?_;rintro e w' ⟨rfl,rfl⟩;go_wp2_with fail
  go_ret;exact ⟨rfl,rfl⟩
 ·obtain ⟨j,rfl,hj⟩:=vW c;rw [c] at a;have f:=h.cAt (lH hj);have k:=h.len;rw [Int.toNat_natCast];generalize S.getD j false=b at *;clear h c;go_enter Tryz.func111,Tryz.ntmps111;go_wp2_with fail
  refine a.out.mono ?_;rintro e w' ⟨rfl,rfl⟩;go_wp2_with fail
  go_ret;exact ⟨rfl,rfl⟩
theorem jx {w:World} {g:Nat} {S:List Bool} (h:bp w g S) (i:Int) (y:i64 i):Calls Tryz.prog 49 #[.pointer (some ⟨g,0,none⟩),.int .i64 i] w fun e w'=>e=.returned (.bool (Aq S i&&!Gv S i))/\bp w' g (setB S i true)/\aE (fun k=>k=g) w w':=by
 have d:=He (vV h i);unfold Gv setB;cases f:Aq S i
 ·rw [f] at d;have H:=He h;clear h;go_enter Tryz.func49,Tryz.ntmps49;go_wp2_with fail
  refine d.out.mono ?_;rintro e w' ⟨rfl,rfl⟩;go_wp2_with fail
  go_ret;exact ⟨rfl,H.out,aE.refl _ _⟩
 ·obtain ⟨j,rfl,hj⟩:=vW f;rw [f] at d;have r:=h.cAt (lH hj);have z:=h.len;have s:=h.cl;have n:=h.fz;rw [Int.toNat_natCast];cases b:S.getD j false
  ·have m:S[j]?=some false:=by rw [lH hj,b]
   have o:=r9 m;have p:=List.count_le_length (a:=false) (l:=S);have H:=He (h.put hj true (c:=((S.count false:Nat):Int)-1) Ha);rw [b] at r;have t:IntKind.i64.wrap (((S.count false:Nat):Int)-1)=((S.count false:Nat):Int)-1:=IntWalk.i64_in _ Ha;generalize S.count false=u at *;have A:=n (1+j);have x:=n 201;have B:∀ v,(w.setCell ⟨g,1+j,none⟩ v).cell? ⟨g,201,none⟩=some (.int .i64 u):=fun v=>by rw [World.cell?_setCell_other _ _ _ _ Hb];exact s
   have f3:∀ v,(w.setCell ⟨g,1+j,none⟩ v).frozen? ⟨g,201,none⟩=false:=fun v=>by simpa using x
   clear h f n o m p b;go_enter Tryz.func49,Tryz.ntmps49;go_wp2_with fail
   refine d.out.mono ?_;rintro e w' ⟨rfl,rfl⟩;go_wp2_with fail
   go_ret;exact ⟨rfl,H.out⟩
  ·rw [b] at r;have H:=He h;have C:S.set j true=S:=by
    apply List.ext_getElem?;intro q;by_cases e:q=j
    ·subst e;rw [List.getElem?_set_self hj,lH hj,b]
    ·rw [List.getElem?_set_ne (fun h=>e h.symm)]
   clear h f n b;go_enter Tryz.func49,Tryz.ntmps49;go_wp2_with fail
   refine d.out.mono ?_;rintro e w' ⟨rfl,rfl⟩;go_wp2_with fail
   go_ret;exact ⟨rfl,H.out,aE.refl _ _⟩
def fZ (S:List Bool):Nat:=(S.takeWhile id).length
theorem vX:∀ {S:List Bool} {i:Nat},(∀ j,j<i->S[j]?=some true)->(S[i]?=some false\/S.length=i)->fZ S=i
 | [],i,h,a=>by
   rcases Nat.eq_zero_or_pos i with e | e
   ·subst e;rfl
   ·have:=h 0 e;cases this
 | true :: T,i,h,a=>by
   cases i with
   | zero=>rcases a with a | a <;> simp at a
   | succ i =>
     have:=vX (S:=T) (i:=i) (fun j hj=>by have:=h (j+1) Ha;rwa [List.getElem?_cons_succ] at this) (by rcases a with a | a;exact Or.inl (by rwa [List.getElem?_cons_succ] at a);exact Or.inr (by simpa using a));unfold fZ at this ⊢;simp [this]
 | false :: T,i,h,a=>by
   cases i with
   | zero=>rfl
   | succ i=>have:=h 0 Ha;simp at this
theorem IG (S:List Bool):fZ S<=S.length:=by
 unfold fZ;exact (List.takeWhile_prefix _).length_le
def oC (S:List Bool):Value:=if fZ S<S.length then .tuple #[.int .i64 (fZ S),.bool true] else .tuple #[.int .i64 0,.bool false]
theorem Dn {w:World} {g:Nat} {S:List Bool} (h:bp w g S):Calls Tryz.prog 48 #[.pointer (some ⟨g,0,none⟩)] w fun e w'=>e=.returned (oC S)/\w=w':=by
 have H:=He h;have K:=h.len;clear h;go_enter Tryz.func48,Tryz.ntmps48;go_wp2;refine bq (fun r w'=>w=w'/\∃ k:Nat,k<=S.length/\Hid (∀ j,j<k->S[j]?=some true)/\∃ u v x y z d f i l m n o p:Value,r={ tmps:=#[.pointer (some ⟨g,0,none⟩),undef,.int .i64 0,.bool false,.int .i64 k,u,v,x,y,z,d,f,i,l,m,n,o,p],defers:=[] })
  (fun r _=>S.length-(intOf (r.tmps.getD 4 undef)).toNat) rfl ?_ ?_
 ·intro B;go_wp2;go_step3;rename_i C;exact C _ _ (B _ _ ⟨rfl,0,Nat.zero_le _,(fun j hj=>Ha),_,_,_,_,_,_,_,_,_,_,_,_,_,rfl⟩)
 ·rintro r W ⟨rfl,k,L,s,u,v,x,y,z,d,f,i,l,m,n,o,p,rfl⟩;have q:=He (vV H.out k);by_cases a:k<S.length
  ·have b:=At a;rw [b] at q;have A:=H.out.cAt (lH a);cases c:S.getD k false
   ·have t:=He (vX s.out (.inl (by rw [lH a,c])));rw [c] at A;clear c b;go_wp2_with fail
    refine q.out.mono ?_;rintro e w' ⟨rfl,rfl⟩;go_wp2_with fail
    simp only [Exit.jump]
    go_ret2
    exact ⟨by show _=Ending.returned (oC S);unfold oC;rw [t.out,if_pos a];rfl,rfl⟩
   ·rw [c] at A;have I:Hid (∀ j,j<k+1->S[j]?=some true):=fun j hj=>by
     by_cases e:j=k
     ·subst e;rw [lH a,c]
     ·exact s.out j Ha
    have M:IntKind.i64.wrap ((k:Int)+1)=(k:Int)+1:=IntWalk.i64_in _ Ha;clear c b;go_wp2_with fail
    refine q.out.mono ?_;rintro e w' ⟨rfl,rfl⟩;go_wp2_with fail
    go_step3;refine ⟨rfl,⟨rfl,k+1,Ha,I,_,_,_,_,_,_,_,_,_,_,_,_,_,rfl⟩,?_⟩;simp [intOf];omega
  ·have b:Aq S (k:Int)=false:=by unfold Aq;simp;omega
   rw [b] at q;have t:=He (vX s.out (.inr Ha));clear b;go_wp2_with fail
   refine q.out.mono ?_;rintro e w' ⟨rfl,rfl⟩;go_wp2_with fail
   simp only [Exit.jump]
   go_ret2
   exact ⟨by show _=Ending.returned (oC S);unfold oC;rw [t.out,if_neg a];rfl,rfl⟩
theorem jy (S:List Bool) (i:Int) (b:Bool):(setB S i b).length=S.length:=by unfold setB;split <;> simp
theorem Kx {S:List Bool} {j:Nat} {b:Bool} (h:S[j]?=some b):Gv S (j:Int)=b:=by
 have a:=(List.getElem?_eq_some_iff.1 h).1;unfold Gv;rw [At a,Bool.true_and,Int.toNat_natCast,List.getD_eq_getElem?_getD,h];rfl
section
variable {H:Type} {enc:TypeId × Value->H} {w:World} {base:Nat} {spare:Nat->Bool} {held:Bool}
end
structure tg (W:World) (tb hp kb:Nat) (pv:Value) (P:List Wr) (T:List Bool):Prop where
 hd:W.heap[tb]?=some (.cells #[.pointer (some ⟨hp,0,none⟩),pv,.pointer (some ⟨kb,0,none⟩)] 107 (0,0))
 own:W.ownsRow 0 52 58 pv P.length (rowL wrL P)
 ok:bW P
 srt:P.Pairwise (fun a b=>a.t<b.t)
 few:P.length<=200
 bits:bp W kb T
theorem FE {v:VM} (h:v.Ok) (t:Int):(mu v t).bs.length=56:=by
 unfold mu;split
 ·rename_i b;rw [List.getD];cases a:v.B[t.toNat]? with
  | none=>rfl
  | some x=>exact (h.ok x (List.mem_of_getElem? a)).len
 ·exact ak
section
variable {W W':World} {tb hp kb:Nat} {pv:Value} {P:List Wr} {T:List Bool}
theorem tg.below (h:tg W tb hp kb pv P T) (a:Below W.heap.size W W'):tg W' tb hp kb pv P T:=⟨Go.Proofs.YtegjelaejbacnaaGreat.kb a h.hd,ic h.own a,h.ok,h.srt,h.few,h.bits.below a⟩
theorem tg.c0 (h:tg W tb hp kb pv P T):W.cell? ⟨tb,0,none⟩=some (.pointer (some ⟨hp,0,none⟩)):=(af h.hd 0).trans rfl
theorem tg.c1 (h:tg W tb hp kb pv P T):W.cell? ⟨tb,1,none⟩=some pv:=(af h.hd 1).trans rfl
theorem tg.c2 (h:tg W tb hp kb pv P T):W.cell? ⟨tb,2,none⟩=some (.pointer (some ⟨kb,0,none⟩)):=(af h.hd 2).trans rfl
theorem tg.lit (h:tg W tb hp kb pv P T):∃ A cap,pv=.slice A P.length cap/\P.length<=cap/\cap<=9223372036854775807/\((A=none/\P.length=0/\cap=0)\/∃ c,A=some ⟨c,0,none⟩):=by
 rcases h.own.2 with ⟨rfl,b⟩ | ⟨g,cap,d,rfl,f,i,a,e,j,k⟩
 ·exact ⟨none,0,by rw [b],Ha,Ha,.inl ⟨rfl,b,rfl⟩⟩
 ·exact ⟨some ⟨g,0,none⟩,cap,rfl,a,by simp only [maxLen] at e;omega,.inr ⟨g,rfl⟩⟩
theorem vY (h:bW P):lu wrL 58 P:=fun x a=>bA (h x a).len
theorem tg.cell {a m cap k:Nat} {x:Wr} (h:tg W tb hp kb (.slice (some ⟨a,0,none⟩) m cap) P T) (b:P[k]?=some x) {j:Nat} {v:Value} (hj:(wrL x)[j]?=some v):W.cell? ⟨a,k*58+j,none⟩=some v:=by
 have:=h.own.cells (g:=a) rfl _ _ (nX (vY h.ok) b hj)
 rwa [dU] at this
theorem tg.range {a m cap k:Nat} {x:Wr} (h:tg W tb hp kb (.slice (some ⟨a,0,none⟩) m cap) P T) (b:P[k]?=some x):W.rangeAt a (k*58+1) (blkL x.k x.bs):=fun j v hj=>by
 have:=h.cell b (j:=j+1) (v:=v) hj;rw [show k*58+1+j=k*58+(j+1) by omega];exact this
end
theorem sa {W:World} {tb hp kb:Nat} {pv:Value} {P:List Wr} {T:List Bool} (h:tg W tb hp kb pv P T) (t:Int) (ht:i64 t) :
 Calls Tryz.prog 51 #[.pointer (some ⟨tb,0,none⟩),.int .i64 t] W fun e w'=>e=.returned (.tuple #[.int .i64 (fndI P t:Nat),.bool (mx P t)])/\W=w':=by
 obtain ⟨A,b0,rfl,bk,bt,g⟩:=h.lit;obtain ⟨m,n⟩:∃ m,m=P.length:=⟨_,rfl⟩
 rw [<- n] at h bk g;have HM:=He n;have HA:=He g;have H:=He h;have o:=h.few;rw [<- n] at o;have c1:=h.c1;have p:=vT P t;rw [<- n] at p;obtain ⟨K,l⟩:∃ K,K=fndI P t:=⟨_,rfl⟩
 obtain ⟨fb,a⟩:∃ fb,fb=mx P t:=⟨_,rfl⟩
 rw [<- l] at p;have HK:=He l;have HF:=He a;rw [<- l,<- a];clear n g h l a;go_enter Tryz.func51,Tryz.ntmps51;go_wp2_with fail
 refine bq (fun a' w'=>W=w'/\∃ k:Nat,k<=K/\∃ u7 u8 u9 q r s u w y z B C I L M N O R S U V X Y Z ad u32 an a0 a1 a2 a3 a4 a5:Value,a'={ tmps:=#[.pointer (some ⟨tb,0,none⟩),.int .i64 t,undef,undef,.int .i64 0,.bool false,.int .i64 k,u7,u8,u9,q,r,s,u,w,y,z,B,C,I,L,M,N,O,R,S,U,V,X,Y,Z,ad,u32,an,a0,a1,a2,a3,a4,a5],defers:=[] })
  (fun a' _=>m-(intOf (a'.tmps.getD 6 undef)).toNat) rfl ?_ ?_
 ·intro bl;go_wp2_with fail
  go_step3;rename_i l;exact l _ _ (bl _ _ ⟨rfl,0,Nat.zero_le _,_,_,_,_,_,_,_,_,_,_,_,_,_,_,_,_,_,_,_,_,_,_,_,_,_,_,_,_,_,_,_,_,_,rfl⟩)
 ·rintro a' W' ⟨rfl,k,hk,u7,u8,u9,q,r,s,u,w,y,z,B,C,I,L,M,N,O,R,S,U,V,X,Y,Z,ad,u32,an,a0,a1,a2,a3,a4,a5,rfl⟩;by_cases bn:k<K
  ·obtain ⟨gl,rfl⟩:∃ gl,A=some ⟨gl,0,none⟩:=by
    rcases HA.out with ⟨_,h0,_⟩ | h
    ·omega
    ·exact h
   obtain ⟨x,d⟩:∃ x,P[k]?=some x:=⟨_,List.getElem?_eq_getElem (by rw [<- HM.out];omega)⟩
   have a6:=vU (by rw [<- HK.out];exact bn) d;have hc:=H.out.cell d (j:=0) (v:=.int .i64 x.t) rfl;rw [Nat.add_zero] at hc;generalize x.t=i at *;clear d;have c:(k:Int)<m:=Ha;have a7:((k:Int)==(m:Int))=false:=beq_eq_false_iff_ne.2 Ha;have f:decide ((k:Int)=(m:Int))=false:=decide_eq_false Ha;have a8:decide (k=m)=false:=decide_eq_false Ha;have a9:decide (m<=k)=false:=decide_eq_false Ha;have bb:decide (t<i)=false:=decide_eq_false Ha;have bs:decide (i<t)=true:=decide_eq_true a6;have wk:IntKind.i64.wrap ((k:Int)+1)=(k:Int)+1:=IntWalk.i64_in _ Ha;go_wp2_with fail
   go_step3;refine ⟨rfl,⟨rfl,k+1,Ha,_,_,_,_,_,_,_,_,_,_,_,_,_,_,_,_,_,_,_,_,_,_,_,_,_,_,_,_,_,_,_,_,_,rfl⟩,?_⟩;simp [intOf];omega
  ·obtain rfl:k=K:=Ha;by_cases c:k=m
   ·have a:fb=false:=by
     rw [HF.out];unfold mx;rw [<- HK.out,List.getElem?_eq_none (by rw [<- HM.out];omega)]
    subst a;have a7:((k:Int)==(m:Int))=true:=beq_iff_eq.2 Ha;have f:decide ((k:Int)=(m:Int))=true:=decide_eq_true Ha;have a8:decide (k=m)=true:=decide_eq_true Ha;clear c;go_wp2_with fail
    simp only [Exit.jump]
    go_ret2
    exact ⟨rfl,rfl⟩
   ·obtain ⟨gl,rfl⟩:∃ gl,A=some ⟨gl,0,none⟩:=by
     rcases HA.out with ⟨_,h0,_⟩ | h
     ·omega
     ·exact h
    obtain ⟨x,d⟩:∃ x,P[k]?=some x:=⟨_,List.getElem?_eq_getElem (by rw [<- HM.out];omega)⟩
    have a6:=pm (by rw [<- HK.out];exact d);have a:fb=decide (x.t=t):=by
     rw [HF.out];unfold mx;rw [<- HK.out,d]
    have hc:=H.out.cell d (j:=0) (v:=.int .i64 x.t) rfl;rw [Nat.add_zero] at hc;generalize x.t=i at *;clear d;have bx:(k:Int)<m:=Ha;have a7:((k:Int)==(m:Int))=false:=beq_eq_false_iff_ne.2 Ha;have f:decide ((k:Int)=(m:Int))=false:=decide_eq_false Ha;have a8:decide (k=m)=false:=decide_eq_false Ha;have a9:decide (m<=k)=false:=decide_eq_false Ha;by_cases bi:t<i
    ·have b:fb=false:=by rw [a];exact decide_eq_false Ha
     subst b;have bb:decide (t<i)=true:=decide_eq_true bi;clear c a;go_wp2_with fail
     simp only [Exit.jump]
     go_ret2
     exact ⟨rfl,rfl⟩
    ·have b:fb=true:=by rw [a];exact decide_eq_true Ha
     subst b;have bb:decide (t<i)=false:=decide_eq_false bi;have bs:decide (i<t)=false:=decide_eq_false Ha;clear c a;go_wp2_with fail
     simp only [Exit.jump]
     go_ret2
     exact ⟨rfl,rfl⟩
theorem ml {W:World} {tb hp kb q rb:Nat} {pv:Value} {P:List Wr} {T:List Bool} {v:VM} (h:tg W tb hp kb pv P T) (u:aO W q hp rb v) (w:∀ x∈P,0<=x.t/\x.t<v.n) (t:Int) (ht:i64 t) :
 Calls Tryz.prog 23 #[.pointer (some ⟨tb,0,none⟩),.int .i64 t] W fun e w'=>e=.returned (.tuple #[.agg (ab (gB (applyW (jf v) P) t).k (gB (applyW (jf v) P) t).bs),.bool (decide (0<=t/\t<v.n))])/\Below W.heap.size W w':=by
 have K:Below W.heap.size W (W.alloc (Obj.cells (ab 0 az) 37)):=aM _;have L:=heap_alloc_new W (Obj.cells (ab 0 az) 37);have p:=He (h.below K);have HV:=He (u.below K);have M:=He (sa p.out t ht);have N:=iw u.toOk;have O:=He (fun d=>Dj h.srt (fun x s=>by rw [N];exact w x s) (t:=t) d);have f:=He (fun d=>IF u.toOk h.srt (t:=t) d);have R:=He N;obtain ⟨r,S⟩:∃ r,r=gB (applyW (jf v) P) t:=⟨_,rfl⟩
 obtain ⟨ib,i⟩:∃ ib,ib=decide (0<=t/\t<(v.n:Int)):=⟨_,rfl⟩
 rw [<- S,<- i];have b:=He S;have c:=He i;clear N h u w S i;go_enter Tryz.func23,Tryz.ntmps23;go_upto_region 1 with (refine aq rfl rfl ?_)
 obtain ⟨g,U⟩:∃ g,g=W.heap.size:=⟨_,rfl⟩
 rw [<- U] at L ⊢;have HB:=He K;have y:=He U;clear K U;generalize W.alloc (Obj.cells (ab 0 az) 37)=W1 at *;go_wp2_with fail
 refine M.out.mono ?_;rintro e w' ⟨rfl,rfl⟩;cases d:mx P t with
 | true =>
   obtain ⟨x,s,z,V,B⟩:=O.out d;have j:Hid (r=⟨x.k,x.bs⟩):=b.out.trans z;have l:Hid (ib=true):=by unfold Hid;rw [c.out];rw [R.out] at B;exact decide_eq_true ⟨V,B⟩
   clear b c z;have an:=(List.getElem?_eq_some_iff.1 s).1;have HX:=He s;have a:=He (p.out.ok x (List.mem_of_getElem? s)).len;obtain ⟨A,a0,rfl,a1,ad,C⟩:=p.out.lit;obtain ⟨X,rfl⟩:∃ X,A=some ⟨X,0,none⟩:=by
    rcases C with ⟨_,h0,_⟩ | h
    ·omega
    ·exact h
   have c1:=p.out.c1;have HR:=He (p.out.range HX.out);clear s C d M O f;generalize fndI P t=k at *;generalize hm:P.length=m at *;have a2:(k:Int)<m:=Ha;clear hm;go_wp2_with (first | (with_reducible refine wpList_load_mid rfl 37 (.tmp 24) rfl X (k*58+1) rfl (blkL x.k x.bs) _ HR.out Tryz.underlying37 rfl (by rw [bf a.out];exact db) ?_) | (refine ap rfl (.tmp 4) (.tmp 25) rfl g rfl x.k 0 x.bs az rfl a.out ak L ?_))
   refine bodyPost_ret (aY rfl _ _ g x.k x.bs rfl a.out (am L)) rfl ?_;rw [j.out,l.out];exact ⟨rfl,by rw [y.out];exact below_setRow HB.out (Nat.le_refl _) _⟩
 | false =>
   obtain ⟨e1,H⟩:=f.out d;have j:Hid (r=⟨(mu v t).k,(mu v t).bs⟩):=b.out.trans e1;have l:Hid (ib=it v t):=c.out.trans H.symm;clear b c;have Y:=He (xz HV.out t ht);have c0:=p.out.c0;have a:Hid ((mu v t).bs.length=56):=by unfold Hid;exact FE HV.out.toOk t
   clear e1 H d O f M;generalize (mu v t).k=gk at *;generalize (mu v t).bs=I at *;generalize it v t=u at *;generalize fndI P t=k at *;go_wp2_with fail
   refine Y.out.mono ?_;rintro e w2 ⟨rfl,o⟩;have Z:=He (HB.out.trans (o.mono HB.out.size));have H:w2.heap[g]?=some (.cells (ab 0 az) 37 (0,0)):=Go.Proofs.YtegjelaejbacnaaGreat.kb o L;clear o;go_wp2_with (first | (refine ap rfl (.tmp 4) (.tmp 32) rfl g rfl gk 0 I az rfl a.out ak H ?_))
   refine bodyPost_ret (aY rfl _ _ g gk I rfl a.out (am H)) rfl ?_;rw [j.out,l.out];exact ⟨rfl,by rw [y.out];exact below_setRow Z.out (Nat.le_refl _) _⟩
theorem th {b:List Bk} {x:Bk} {p:Int} (h:p∈namedL b x):0<=p:=by
 unfold namedL at h;split at h
 ·rename_i d;have e:=d.2.may;have c:=fun i f=>e.at_ (i:=i) f;unfold ia at h;have hd:∀ q∈realL (cW x.bs).dir,0<=q:=fun q g=>by
   obtain ⟨a,j⟩:=hU.1 g;rw [BD] at a;have k:=c 0 Ha;have l:=c 1 Ha;have m:=c 2 Ha;have n:=c 3 Ha;simp only [Nd.ps,List.getD_eq_getElem?_getD,List.getElem?_cons_zero,List.getElem?_cons_succ,Option.getD_some] at k l m n;omega
  rcases List.mem_append.1 h with h | h
  ·split at h
   ·cases h
   ·rename_i o;rcases List.mem_cons.1 h with h | h
    ·have r:=c 4 Ha;simp only [Nd.ps,List.getD_eq_getElem?_getD,List.getElem?_cons_zero,List.getElem?_cons_succ,Option.getD_some] at r;omega
    ·unfold mw at h;split at h
     ·obtain ⟨a,j⟩:=hU.1 h;unfold tkL at a;split at a
      ·rename_i s;have:=lC (Fw s).2 p a;omega
      ·cases a
     ·cases h
  ·exact hd p h
 ·cases h
def cV (S:List Bool) (l:List Int):List Bool:=l.foldl (fun S p=>setB S p true) S
theorem lI (S:List Bool) (l:List Int) (p:Int):cV S (l++[p])=setB (cV S l) p true:=by unfold cV;rw [List.foldl_append];rfl
theorem nv:∀ (l:List Int) (S:List Bool),(cV S l).length=S.length
 | [],_=>rfl
 | p :: l,S=>by show (cV (setB S p true) l).length=_;rw [nv l,jy]
theorem lJ {S:List Bool} {i:Nat} (b:i<S.length) (p:Int):(setB S p true)[i]?=some (S.getD i false||decide (p=(i:Int))):=by
 have c:=lH b;unfold setB;by_cases a:Aq S p=true
 ·rw [if_pos a];obtain ⟨j,rfl,hj⟩:=vW a;rw [Int.toNat_natCast];by_cases e:j=i
  ·subst e;rw [List.getElem?_set_self hj];simp
  ·rw [List.getElem?_set_ne e,c,decide_eq_false Ha,Bool.or_false]
 ·rw [if_neg a,c,decide_eq_false,Bool.or_false];intro e;subst e;exact a (At b)
theorem sd:∀ (l:List Int) {S:List Bool} {i:Nat},i<S.length->(cV S l)[i]?=some (S.getD i false||l.contains (i:Int))
 | [],S,i,a=>by show S[i]?=_;rw [lH a];simp
 | p :: l,S,i,a=>by
   show (cV (setB S p true) l)[i]?=_;rw [sd l (by rw [jy];exact a)];have b:=lJ a p;rw [List.getD,b];have c:((i:Int)==p)=decide (p=(i:Int)):=by
    by_cases e:p=(i:Int)
    ·rw [decide_eq_true e,e];exact beq_self_eq_true _
    ·rw [decide_eq_false e];exact beq_eq_false_iff_ne.2 (fun h=>e h.symm)
   rw [Option.getD_some,List.contains_cons,c,Bool.or_assoc]
def Mm (N:List Bk) (x:Bk):List Int:=if aX x.k x.bs then (cW x.bs).dir++(cW x.bs).x :: tkL (gB N (cW x.bs).x).k (gB N (cW x.bs).x).bs else []
theorem FG:tkL zB.k zB.bs=[]:=Hd
theorem mK (l:List Int) (i:Nat):(realL l).contains (i:Int)=l.contains (i:Int):=by
 rw [Bool.eq_iff_iff];simp only [List.contains_iff_mem,hU];constructor
 ·exact fun h=>h.1
 ·exact fun h=>⟨h,Ha⟩
theorem vZ {N:List Bk} {x:Bk} (d:x.k=1) (i:Nat):(Mm N x).contains (i:Int)=(namedL N x).contains (i:Int):=by
 unfold Mm namedL;by_cases a:aX x.k x.bs
 ·rw [if_pos a,if_pos ⟨d,a⟩];unfold ia;have c:(cW x.bs).x = -1\/0<=(cW x.bs).x:=by
   by_cases h:(cW x.bs).x = -1
   ·exact .inl h
   ·refine .inr (th (b:=N) (x:=x) ?_);unfold namedL;rw [if_pos ⟨d,a⟩];unfold ia;rw [if_neg h];simp
  simp only [List.contains_append,mK];rw [Bool.or_comm]
  congr 1
  rcases c with h | h
  ·rw [if_pos h,h,po Ha,FG];simp
  ·rw [if_neg Ha];simp only [List.contains_cons]
   congr 1
   unfold mw;by_cases e:(cW x.bs).x<N.length
   ·rw [if_pos e,mK];unfold gB;rw [if_pos h]
   ·rw [if_neg e,po Ha,FG]
 ·rw [if_neg a,if_neg (fun h=>a h.2)]
structure KS (W:World) (tb hp kb q rb:Nat) (pv:Value) (P:List Wr) (T:List Bool) (v:VM):Prop where
 tx:tg W tb hp kb pv P T
 vol:aO W q hp rb v
 inn:∀ x∈P,0<=x.t/\x.t<v.n
theorem fM {W W':World} {g:Nat} (h:aE (fun k=>k=g) W W'):W.grownBy W' (some g):=⟨h.os,h.tape,h.output,h.size,fun k b a=>h.block k b (fun e=>a (by rw [e]))⟩
section
variable {W W':World} {tb hp kb q rb:Nat} {pv:Value} {P:List Wr} {T:List Bool} {v:VM}
theorem KS.below (h:KS W tb hp kb q rb pv P T v) (a:Below W.heap.size W W'):KS W' tb hp kb q rb pv P T v:=⟨h.tx.below a,h.vol.below a,h.inn⟩
theorem bc {p g:Nat} {C d:Array Value} {t c:TypeId} {f b:Nat × Nat} (h:W.heap[p]?=some (.cells C t f)) (a:W.heap[g]?=some (.cells d c b)) (i:t≠c):p≠g:=by
 intro e;subst e;rw [h] at a;injection a with a;injection a with _ a _;exact i a
theorem KS.grown (h:KS W tb hp kb q rb pv P T v) {g:Nat} (b:W.grownBy W' (some g)) {C:Array Value} {i:Nat × Nat} (d:W.heap[g]?=some (.cells C 197 i)) (c:g≠kb):KS W' tb hp kb q rb pv P T v:=by
 have keep:∀ {p:Nat} {f:Array Value} {t:TypeId} {a:Nat × Nat},W.heap[p]?=some (.cells f t a)->t≠197->W'.heap[p]?=some (.cells f t a):=fun hp j=>br b hp (fun e=>by injection e with e;subst e;exact bc hp d j rfl);refine ⟨⟨keep h.tx.hd Hd,h.tx.own.kept b (.inr (mj h.tx.own d Hd)),h.tx.ok,h.tx.srt,h.tx.few,⟨h.tx.bits.len,br b h.tx.bits.hp (fun e=>by injection e with e;exact c e)⟩⟩,h.vol.keep ?_ ?_,h.inn⟩
 ·exact (keep h.vol.hd Hd).trans h.vol.hd.symm
 ·exact (keep h.vol.row Hd).trans h.vol.row.symm
end
theorem Ky (n:Nd) {k:Nat} (a:k<4):n.dir[k]?=some (n.dir.getD k 0):=by
 obtain rfl | rfl | rfl | rfl:k=0\/k=1\/k=2\/k=3:=Ha
 all_goals rfl
theorem IH {n:Nd} (h:jY n) {k:Nat} (e:k<4):i64 (n.dir.getD k 0):=by
 obtain rfl | rfl | rfl | rfl:k=0\/k=1\/k=2\/k=3:=Ha
 all_goals (unfold Nd.dir;simp only [List.getD_cons_zero,List.getD_cons_succ])
 ·exact h.a
 ·exact h.b
 ·exact h.c
 ·exact h.d
theorem II {k:Int} {bs:List Int} {p:Int} (h:p∈tkL k bs):i64 p:=by
 unfold tkL at h;split at h
 ·rename_i a;have:=lC (Fw a).2 p h;constructor <;> omega
 ·cases h
theorem Au (a:Array Value) (z:Int) {k:Nat} (h:k<4) (b:a[k]?=some (.int .i64 z)) (w:World):(Instr.index 135 (.agg a) (.int .i64 k)).run Tryz.prog w=.ok (.int .i64 z) w:=by
 have f:=Tryz.underlying3;have c:=Tryz.isAgg3;have d:=Tryz.sizeOf3;have e:=Tryz.underlying135;have g:(0:Int)<=k/\(k:Int)<4:=Ha;simp [Instr.index,run_underlying e,asIntOf,part,c,d,h,b]
theorem BI {N:List Bk} (h:∀ y∈N,y.bs.length=56/\ay y.bs) (t:Int):(gB N t).bs.length=56/\ay (gB N t).bs:=by
 have a:zB.bs.length=56/\ay zB.bs:=⟨ak,fc⟩
 unfold gB;split
 ·unfold ik;rw [List.getD];cases b:N[t.toNat]? with
  | none=>exact a
  | some x=>exact h x (List.mem_of_getElem? b)
 ·exact a
theorem Aw {W W':World} {B g:Nat} {A:Option Addr} {d:Nat} {l:List Int} (h:W.ownsRow B 3 1 (.slice A l.length d) l.length (Is l)) (a:(Value.slice A l.length d).ownBlock≠some g) (b:W.grownBy W' (some g)):jF W' A l:=by
 have c:=h.kept b (.inr a);obtain ⟨j,k,e,_,_,f⟩:=kC c rfl;injection e with i m n
 subst i;exact f
theorem Do {W:World} {tb hp kb q rb:Nat} {pv:Value} {P:List Wr} {T:List Bool} {v:VM} (h:KS W tb hp kb q rb pv P T v) (N:List Bk) (hN:N=applyW (jf v) P) (bt:∀ y∈N,y.bs.length=56/\ay y.bs) (kg:Nat) (S:List Bool) (hS:bp W kg S) (bx:kg≠kb) (x:Bk) (cx:i64 x.k) (a0:x.bs.length=56) (hB:ay x.bs) :
 Calls Tryz.prog 112 #[.pointer (some ⟨tb,0,none⟩),.pointer (some ⟨kg,0,none⟩),.agg (ab x.k x.bs)] W fun e w'=>e=.returned (.tuple #[])/\bp w' kg (cV S (Mm N x))/\W.grownBy w' (some kg):=by
 have e5:=heap_alloc_new W (.cells (ab x.k x.bs) 37);have t:=He (aM (w:=W) (.cells (ab x.k x.bs) 37));have HK:=He h;have b0:=He (hS.below t.out);have b1:=He (uk x.k x.bs (W.alloc (.cells (ab x.k x.bs) 37)) cx a0 hB);have cz:=He bt;have HN:=He hN;obtain ⟨L,hL⟩:∃ L,L=Mm N x:=⟨_,rfl⟩
 rw [<- hL];have HL:Hid (L=if aX x.k x.bs then (cW x.bs).dir++(cW x.bs).x :: tkL (gB N (cW x.bs).x).k (gB N (cW x.bs).x).bs else []):=hL;have dv:=He (ah hS.hp);have b2:=He bx;have a1:=He (vJ a0 hB);clear hL h hS hN bt bx;go_enter Tryz.func112,Tryz.ntmps112;go_upto_region 1 with fail
 have cA:=dZ t.out;obtain ⟨p5,a2⟩:∃ p5,p5=W.heap.size:=⟨_,rfl⟩
 have dT:=He a2;rw [<- a2] at e5 ⊢;clear a2 cA;generalize W.alloc (.cells (ab x.k x.bs) 37)=W1 at *;go_wp2_with (refine aT rfl (.tmp 5) rfl p5 rfl x.k x.bs a0 e5 ?_)
 refine b1.out.mono ?_;rintro e w2 ⟨rfl,a3⟩;have h6:=aV.new w2 nd0;go_upto_region 2 with (first | (refine bC rfl rfl ?_) | (refine aN rfl (.tmp 6) (.tmp 19) rfl w2.heap.size rfl (bo x.k x.bs) nd0 rfl h6 ?_))
 have a4:Below W1.heap.size W1 ((w2.alloc (.cells (bF nd0) 137)).setRow w2.heap.size (bF (bo x.k x.bs))):=a3.trans ((below_setRow (aM _) (Nat.le_refl _) _).mono a3.size);have K:=He (t.out.trans (a4.mono t.out.size));have H6:=He (h6.set (bo x.k x.bs));have a5:=He (b0.out.below a4);clear e5 a3 h6 a4 b1 t b0;generalize (w2.alloc (.cells (bF nd0) 137)).setRow w2.heap.size (bF (bo x.k x.bs))=w3 at *;generalize w2.heap.size=p6 at *;by_cases ht:aX x.k x.bs
 case neg =>
  have cP:Hid (L=[]):=by unfold Hid;rw [HL.out,if_neg ht]
  have b3:decide (aX x.k x.bs)=false:=decide_eq_false ht;go_wp2_with fail
  refine bodyPost_ret (results_none rfl _ _ _) rfl ?_;rw [cP.out];have u:=dZ K.out;exact ⟨rfl,a5.out,u.os,u.tape,u.output,u.size,fun k M _=>u.block k M Hb⟩
 have b3:decide (aX x.k x.bs)=true:=decide_eq_true ht;have b4:bo x.k x.bs=cW x.bs:=if_pos ht;have c0:Hid (L=(cW x.bs).dir++(cW x.bs).x :: tkL (gB N (cW x.bs).x).k (gB N (cW x.bs).x).bs):=by unfold Hid;rw [HL.out,if_pos ht]
 rw [b4] at H6 ⊢;clear HL ht b4;generalize cW x.bs=nd at *;go_upto_region 3 with fail
 clear b3;have l:=dZ K.out;have b5:Hid (W.grownBy w3 (some kg)):=⟨l.os,l.tape,l.output,l.size,fun k M _=>l.block k M Hb⟩
 have b6:=He (HK.out.below K.out);clear l K;have q3:w3.cell? ⟨p6,3,none⟩=some (.int .i64 nd.a):=H6.out.cell 3;have q4:w3.cell? ⟨p6,4,none⟩=some (.int .i64 nd.b):=H6.out.cell 4;have q5:w3.cell? ⟨p6,5,none⟩=some (.int .i64 nd.c):=H6.out.cell 5;have q6:w3.cell? ⟨p6,6,none⟩=some (.int .i64 nd.d):=H6.out.cell 6;go_upto_region 4 with fail
 clear q3 q4 q5 q6;obtain ⟨DA,O⟩:∃ DA:Array Value,DA=#[.int .i64 nd.a,.int .i64 nd.b,.int .i64 nd.c,.int .i64 nd.d]:=⟨_,rfl⟩
 rw [<- O];have b8:Hid (∀ k,k<4->DA[k]?=some (.int .i64 (nd.dir.getD k 0))):=fun k M=>by
  rw [O];obtain rfl | rfl | rfl | rfl:k=0\/k=1\/k=2\/k=3:=Ha
  all_goals rfl
 have d1:DA.size=4:=by rw [O];rfl
 clear O;have b9:Hid (∀ k,k<4->i64 (nd.dir.getD k 0)):=fun k M=>IH a1.out M;have ca:Hid (∀ k,k<4->nd.dir[k]?=some (nd.dir.getD k 0)):=fun k M=>Ky nd M;have cb:Hid (nd.dir.take 4=nd.dir):=rfl;have cc:bp w3 kg (cV S (nd.dir.take 0)):=a5.out
 go_loopw [25,9] (fun i _ wr=>∃ k:Nat,k<=4/\i=.int .i64 k/\Hid (bp wr kg (cV S (nd.dir.take k)))/\Hid (W.grownBy wr (some kg))/\Hid (KS wr tb hp kb q rb pv P T v)/\Hid (aV wr p6 nd)) (fun i _ _=>4-(intOf i).toNat)
 case atStart=>exact ⟨0,Ha,rfl,cc,b5,b6,H6⟩
 case round =>
  obtain ⟨k,M,rfl,A,a6,a7,o⟩:=hrel;clear a5 b5 b6 H6 cc;by_cases r:k<4
  ·have d2:(k:Int)<4:=Ha;have d3:decide (4<=k)=false:=decide_eq_false Ha;have d4:=Au DA _ r (b8.out k r) wr;have cg:cV S (nd.dir.take (k+1))=setB (cV S (nd.dir.take k)) (nd.dir.getD k 0) true:=by rw [aw (ca.out k r),lI]
   have a8:=He cg;have g:=He (jx A.out (nd.dir.getD k 0) (b9.out k r));clear cg;generalize nd.dir.getD k 0=z at *;go_wp2_with fail
   refine g.out.mono ?_;rintro e Y ⟨rfl,B,C⟩;have f:=fM C;have R:Hid (bp Y kg (cV S (nd.dir.take (k+1)))):=by unfold Hid;rw [a8.out];exact B
   have U:=He (ba a6.out f);have s:=He (a7.out.grown f A.out.hp b2.out);have V:Hid (aV Y p6 nd):=br f o.out (fun e=>by injection e with e;exact bc (show wr.heap[p6]?=_ from o.out) A.out.hp Hd e.symm);clear f B C g;go_wp2_with fail
   go_roundw
   case rel=>exact ⟨k+1,Ha,by go_num,R,U,s,V⟩
   case measure=>simp [intOf];omega
  ·obtain rfl:k=4:=Ha;have X:Hid (bp wr kg (cV S nd.dir)):=by have:=A.out;rwa [cb.out] at this
   clear A b8 ca b9 cb;go_upto_region 8 with fail
   have q7:wr.cell? ⟨p6,7,none⟩=some (.int .i64 nd.x):=o.out.cells.2.2.2.1;have g:=He (jx X.out nd.x a1.out.x);go_wp2_with fail
   refine g.out.mono ?_;rintro e Y ⟨rfl,B,C⟩;have f:=fM C;have R:Hid (bp Y kg (cV S (nd.dir++[nd.x]))):=by unfold Hid;rw [lI];exact B
   have U:=He (ba a6.out f);have s:=He (a7.out.grown f X.out.hp b2.out);have V:Hid (aV Y p6 nd):=br f o.out (fun e=>by injection e with e;exact bc (show wr.heap[p6]?=_ from o.out) X.out.hp Hd e.symm);clear f B C g q7 X a6 a7 o;go_upto_region 9 with fail
   have q7:Y.cell? ⟨p6,7,none⟩=some (.int .i64 nd.x):=V.out.cells.2.2.2.1;have a9:=He (ml s.out.tx s.out.vol s.out.inn nd.x a1.out.x);rw [<- HN.out] at a9;have ch:Hid ((gB N nd.x).bs.length=56/\ay (gB N nd.x).bs):=BI cz.out nd.x;have c1:Hid (L=(nd.dir++[nd.x])++tkL (gB N nd.x).k (gB N nd.x).bs):=by unfold Hid;rw [c0.out];simp
   generalize gB N nd.x=y at *;generalize decide (0<=nd.x/\nd.x<(v.n:Int))=gi at *;go_wp2_with fail
   refine a9.out.mono ?_;rintro e w5 ⟨rfl,bb⟩;have bi:=heap_alloc_new w5 (.cells (ab 0 az) 37);have H:=ch.out.1;go_upto_region 10 with (first | (refine aq rfl rfl ?_) | (refine ap rfl (.tmp 10) (.tmp 41) rfl w5.heap.size rfl y.k 0 y.bs az rfl H ak bi ?_))
   have bk:Below Y.heap.size Y ((w5.alloc (.cells (ab 0 az) 37)).setRow w5.heap.size (ab y.k y.bs)):=bb.trans ((below_setRow (aM _) (Nat.le_refl _) _).mono bb.size);have ci:=He (am (D:=ab y.k y.bs) bi);have ck:=He (R.out.below bk);have cl:=He (gA U.out bk);clear bb bi bk q7 a9 R U s V;generalize (w5.alloc (.cells (ab 0 az) 37)).setRow w5.heap.size (ab y.k y.bs)=w6 at *;generalize w5.heap.size=p10 at *;have cn:=He (rR y.k y.bs w6 H ch.out.2);go_wp2_with (refine aT rfl (.tmp 10) rfl p10 rfl y.k y.bs H ci.out ?_)
   refine cn.out.mono ?_;rintro e w7 ⟨lv,rfl,Z,bl⟩;have bn:=He (ck.out.below bl);have cp:=He (gA cl.out bl);have c2:Hid (∀ p∈tkL y.k y.bs,i64 p):=fun p hp=>II hp;have c3:=He (Iz y.k y.bs);have I:=He Z;clear bl Z cn ck cl ci;generalize tkL y.k y.bs=tl at *;generalize pU y.k y.bs=d5 at *;obtain ⟨AL,dl,rfl,d6,d7,cq⟩:=kC I.out rfl;have dg:=He cq;have c4:Hid (∀ W',w7.grownBy W' (some kg)->jF W' AL tl):=fun W' hg=>Aw I.out (mj I.out bn.out.hp Hd) hg;clear cq;go_wp2_with fail
   obtain ⟨m,hm⟩:∃ m,m=tl.length:=⟨_,rfl⟩
   rw [<- hm];have HM:=He hm;have dn:m<=16:=by rw [hm];exact c3.out
   have an:Hid (bp w7 kg (cV S ((nd.dir++[nd.x])++tl.take 0))):=by unfold Hid;rw [List.take_zero,List.append_nil];exact bn.out
   have c5:Hid (w7.grownBy w7 (some kg)):=World.grownBy.refl _ _;clear hm
   go_loopw [50,15] (fun i _ wr=>∃ k:Nat,k<=m/\i=.int .i64 k/\Hid (bp wr kg (cV S ((nd.dir++[nd.x])++tl.take k)))/\Hid (W.grownBy wr (some kg))/\Hid (w7.grownBy wr (some kg))) (fun i _ _=>m-(intOf i).toNat)
   case atStart=>exact ⟨0,Ha,rfl,an,cp,c5⟩
   case round =>
    obtain ⟨j,hj,rfl,cr,cs,cu⟩:=hrel;clear an cp bn;by_cases r:j<m
    ·have c6:(j:Int)<m:=Ha;have d8:decide (m<=j)=false:=decide_eq_false Ha;obtain ⟨z,hz⟩:∃ z,tl[j]?=some z:=⟨_,List.getElem?_eq_getElem (by rw [<- HM.out];exact r)⟩
     obtain ⟨ad,rfl,d9⟩:=c4.out wr cu.out j z hz;have c7:=c2.out z (List.mem_of_getElem? hz);have g:=He (jx cr.out z c7);have a8:Hid (cV S ((nd.dir++[nd.x])++tl.take (j+1))=setB (cV S ((nd.dir++[nd.x])++tl.take j)) z true):=by unfold Hid;rw [aw hz,<- List.append_assoc,lI]
     clear hz;go_wp2_with fail
     refine g.out.mono ?_;rintro e w8 ⟨rfl,cv,cw⟩;have f:=fM cw;have c8:Hid (bp w8 kg (cV S ((nd.dir++[nd.x])++tl.take (j+1)))):=by unfold Hid;rw [a8.out];exact cv
     have c9:=He (ba cs.out f);have da:=He (ba cu.out f);clear f cv cw g;go_wp2_with fail
     go_roundw
     case rel=>exact ⟨j+1,Ha,by go_num,c8,c9,da⟩
     case measure=>simp [intOf];omega
    ·obtain rfl:j=m:=Ha;have c6:¬ (j:Int)<j:=Ha;have dc:Hid (bp wr kg (cV S L)):=by
      have h:=cr.out;rw [List.take_of_length_le (by rw [<- HM.out];exact Nat.le_refl _),<- c1.out] at h;exact h
     go_wp2_with fail
     go_end0
     exact ⟨rfl,dc.out,cs.out⟩
def pZ (N:List Bk) (T:List Bool) (m i:Nat):Bool:=decide (i=0)||cJ N m i||(decide (i<m)&&T.getD i false)
def wd (N:List Bk) (T:List Bool) (m:Nat):List Bool:=(List.range N.length).map (pZ N T m)
def bX (N:List Bk) (T:List Bool):List Bool:=(List.range N.length).map fun i=>cJ N N.length i||T.getD i false
theorem mn (N:List Bk) (T:List Bool) (m:Nat):(wd N T m).length=N.length:=by unfold wd;simp
theorem qw {N:List Bk} {T:List Bool} {m i:Nat} (a:i<N.length):(wd N T m)[i]?=some (pZ N T m i):=by unfold wd;simp [a]
theorem yy {N:List Bk} {T:List Bool} {m i:Nat} (a:i<N.length):(wd N T m).getD i false=pZ N T m i:=by rw [List.getD,qw a];rfl
theorem yz (N:List Bk) (i:Nat):cJ N 0 i=false:=by unfold cJ;simp
theorem FH {N:List Bk} (T:List Bool) (h:0<N.length):setB (List.replicate N.length false) 0 true=wd N T 0:=by
 apply List.ext_getElem?;intro i;by_cases a:i<N.length
 ·rw [lJ (by rw [List.length_replicate];exact a),qw a];unfold pZ;rw [yz,decide_eq_false (Nat.not_lt_zero i),Bool.false_and,Bool.or_false,Bool.or_false];have:(List.replicate N.length false).getD i false=false:=by rw [List.getD,List.getElem?_replicate,if_pos a];rfl
  rw [this,Bool.false_or]
  congr 1
  rw [Bool.eq_iff_iff];simp only [decide_eq_true_eq];omega
 ·rw [List.getElem?_eq_none (by rw [jy,List.length_replicate];omega),List.getElem?_eq_none (by rw [mn];omega)]
theorem IJ {N:List Bk} (T:List Bool) (h:0<N.length):wd N T N.length=bX N T:=by
 unfold wd bX;apply List.map_congr_left;intro i b;have a:i<N.length:=List.mem_range.1 b;unfold pZ;rw [decide_eq_true a,Bool.true_and];by_cases e:i=0
 ·subst e;have:cJ N N.length 0=true:=by unfold cJ;rw [decide_eq_true h];simp
  rw [this];simp
 ·rw [decide_eq_false e,Bool.false_or]
theorem qa {N:List Bk} {m:Nat} {x:Bk} (b:N[m]?=some x) (i:Nat):cJ N (m+1) i=(cJ N m i||(decide (i=m)&&(decide (m=0)||decide (ie x.k)||decide (x.k=6)))||(namedL N x).contains (i:Int)):=by
 unfold cJ;rw [aw b,List.any_append];simp only [List.any_cons,List.any_nil,Bool.or_false];have a:ik N (m:Int)=x:=kN b;by_cases e:i=m
 ·subst e;rw [a,decide_eq_true (Nat.lt_succ_self i),decide_eq_false (Nat.lt_irrefl i),decide_eq_true rfl];simp only [Bool.true_and,Bool.false_and,Bool.false_or];cases (decide (i=0)||decide (ie x.k)||decide (x.k=6)) <;> cases ((N.take i).any fun x=>(namedL N x).contains (i:Int)) <;> simp
 ·rw [decide_eq_false e,Bool.false_and,Bool.or_false];have c:decide (i<m+1)=decide (i<m):=by rw [Bool.eq_iff_iff];simp only [decide_eq_true_eq];omega
  rw [c];simp only [Bool.or_assoc]
theorem se (T:List Bool) (m i:Nat):(decide (i<m+1)&&T.getD i false)=((decide (i<m)&&T.getD i false)||(decide (i=m)&&T.getD m false)):=by
 by_cases e:i=m
 ·subst e;rw [decide_eq_true (Nat.lt_succ_self i),decide_eq_false (Nat.lt_irrefl i),decide_eq_true rfl];simp
 ·have a:decide (i<m+1)=decide (i<m):=by rw [Bool.eq_iff_iff];simp only [decide_eq_true_eq];omega
  rw [a,decide_eq_false e];simp
def oD (N:List Bk) (T:List Bool) (m:Nat):List Bool:=if Gv T m=true then setB (wd N T m) m true else wd N T m
theorem lK (N:List Bk) (T:List Bool) (m:Nat):(oD N T m).length=N.length:=by unfold oD;split;rw [jy,mn];exact mn _ _ _
theorem FJ (T:List Bool) (m:Nat):Gv T (m:Int)=T.getD m false:=by
 by_cases h:m<T.length
 ·exact Kx (lH h)
 ·unfold Gv Aq;rw [decide_eq_false (show ¬ (m:Int)<T.length by omega),Bool.and_false,Bool.false_and,List.getD,List.getElem?_eq_none Ha];rfl
theorem uD {N:List Bk} {T:List Bool} {m i:Nat} (a:i<N.length):(oD N T m).getD i false=(pZ N T m i||(decide (i=m)&&T.getD m false)):=by
 unfold oD;rw [FJ];cases b:T.getD m false
 ·rw [if_neg Hd,yy a];simp
 ·rw [if_pos rfl,List.getD,lJ (by rw [mn];exact a),yy a];simp only [Option.getD_some,Bool.and_true]
  congr 1
  rw [Bool.eq_iff_iff];simp only [decide_eq_true_eq];omega
theorem Kz {N:List Bk} {T:List Bool} {m:Nat} {x:Bk} (b:N[m]?=some x) (h:¬ ie x.k/\x.k≠6):oD N T m=wd N T (m+1):=by
 have d:=(List.getElem?_eq_some_iff.1 b).1;apply List.ext_getElem?;intro i;by_cases a:i<N.length
 ·rw [lH (show i<(oD N T m).length by rw [lK];exact a),uD a,qw a];unfold pZ;rw [qa b,se];have f:namedL N x=[]:=by unfold namedL;rw [if_neg];intro g;exact h.1 (.inl g.1)
  rw [f,decide_eq_false h.1,decide_eq_false h.2];simp only [Bool.or_false,List.contains_nil];by_cases e:i=m
  ·subst e;by_cases c:i=0
   ·subst c;simp
   ·rw [decide_eq_false c];simp
  ·rw [decide_eq_false e];simp [Bool.or_assoc]
 ·rw [List.getElem?_eq_none (by rw [lK];omega),List.getElem?_eq_none (by rw [mn];omega)]
theorem IK {N:List Bk} {T:List Bool} {m:Nat} {x:Bk} (c:N[m]?=some x) (h:ie x.k\/x.k=6) {l:List Int} (d:∀ i:Nat,l.contains (i:Int)=(namedL N x).contains (i:Int)):setB (cV (oD N T m) l) m true=wd N T (m+1):=by
 have e:=(List.getElem?_eq_some_iff.1 c).1;have f:(decide (m=0)||decide (ie x.k)||decide (x.k=6))=true:=by rcases h with h | h <;> simp [h]
 apply List.ext_getElem?;intro i;by_cases b:i<N.length
 ·have a:(cV (oD N T m) l).length=N.length:=by rw [nv,lK]
  rw [lJ (by rw [a];exact b),List.getD,sd l (by rw [lK];exact b),Option.getD_some,uD b,qw b,d];unfold pZ;rw [qa c,se,f,Bool.and_true];have g:decide ((m:Int)=(i:Int))=decide (i=m):=by rw [Bool.eq_iff_iff];simp only [decide_eq_true_eq];omega
  rw [g]
  congr 1
  cases decide (i=0) <;> cases cJ N m i <;> cases decide (i=m) <;> cases (namedL N x).contains (i:Int) <;> cases (decide (i<m)&&T.getD i false) <;> cases T.getD m false <;> rfl
 ·rw [List.getElem?_eq_none (by rw [jy,nv,lK];omega),List.getElem?_eq_none (by rw [mn];omega)]
theorem yA {N:List Bk} {x:Bk} (h:x.k≠1) (i:Nat):([]:List Int).contains (i:Int)=(namedL N x).contains (i:Int):=by
 have:namedL N x=[]:=by unfold namedL;rw [if_neg (fun a=>h a.1)]
 rw [this]
theorem Ax {P:Program} {a:Act} {w:World} {Q:Exit->Act->World->Prop} {c o p q:Code} (i n J2:Act->World->Prop) (μ:Act->World->Nat)
 (r:findLabel c 0=some (.seq .skip o)) (s:findLabel c 1=some p) (t:findLabel c 2=some q)
 (first:(∀ a w,i a w->o.wp P (cK (fun l a w=>match l with | 0=>i a w | 1=>n a w | 2=>J2 a w | _=>False) Q) a w)->c.wp P (cK (fun l a w=>match l with | 0=>i a w | 1=>n a w | 2=>J2 a w | _=>False) Q) a w)
 (g:∀ a w,i a w->o.wp P (cK (fun l d w'=>match l with | 1=>n d w'/\μ d w'=μ a w | 2=>J2 d w'/\μ d w'=μ a w | _=>False) Q) a w)
 (j:∀ a w,n a w->p.wp P (cK (fun l d w'=>match l with | 0=>i d w'/\μ d w'<μ a w | _=>False) Q) a w)
 (k:∀ a w,J2 a w->q.wp P (cK (fun l d w'=>match l with | 0=>i d w'/\μ d w'<μ a w | _=>False) Q) a w):(Code.scope c).wp P Q a w:=by
 refine gN (fun l a w=>match l with | 0=>i a w | 1=>n a w | 2=>J2 a w | _=>False) (fun l a w=>match l with | 0=>3*μ a w+2 | 1=>3*μ a w+1 | _=>3*μ a w) ?_ (first fun a w h=>?_) ?_
 ·intro l a w h
  match l,h with
  | 0,_=>exact ⟨_,r⟩
  | 1,_=>exact ⟨_,s⟩
  | 2,_=>exact ⟨_,t⟩
 ·refine wp_mono (g a w h) ?_;intro e d w' b;cases e with
  | goto m=>match m,b with
    | 1,b=>exact b.1
    | 2,b=>exact b.1
  | _=>exact b
 ·intro l rest f a w h
  match l,h with
  | 0,h =>
    rw [r] at f;injection f with f;subst f
    refine wp_seq (wp_skip (wp_mono (g a w h) ?_));intro e d w' b;cases e with
    | goto m=>match m,b with
      | 1,b=>exact ⟨b.1,by show 3*μ d w'+1<3*μ a w+2;have:=b.2;omega⟩
      | 2,b=>exact ⟨b.1,by show 3*μ d w'<3*μ a w+2;have:=b.2;omega⟩
    | _=>exact b
  | 1,h =>
    rw [s] at f;injection f with f;subst f
    refine wp_mono (j a w h) ?_;intro e d w' b;cases e with
    | goto m=>match m,b with
      | 0,b=>exact ⟨b.1,by show 3*μ d w'+2<3*μ a w+1;have:=b.2;omega⟩
    | _=>exact b
  | 2,h =>
    rw [t] at f;injection f with f;subst f
    refine wp_mono (k a w h) ?_;intro e d w' b;cases e with
    | goto m=>match m,b with
      | 0,b=>exact ⟨b.1,by show 3*μ d w'+2<3*μ a w;have:=b.2;omega⟩
    | _=>exact b
end Go.Proofs.YtegjelaejbacnaaGreat
