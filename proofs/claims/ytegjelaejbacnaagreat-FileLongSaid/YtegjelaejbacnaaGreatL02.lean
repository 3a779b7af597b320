/- For FileLong: contracts and facts, part 2. -/
import Derived.WalkKit
import Derived.Orders
import Derived.Deep.Onto
import Derived.Deep.Slices
import Derived.Test.YtegjelaejbacnaaGreatL01
set_option maxRecDepth 100000
set_option maxHeartbeats 25600000
set_option linter.unusedSimpArgs false
set_option linter.unusedVariables false
open Go Go.ChangeShapes Go.WideShapes Go.ChangeAt Go.RowKit Go.Deep
namespace Go.Proofs.YtegjelaejbacnaaGreat
def cG (o:Oper) (T:Array Value):Value:=match o.dst with | some d=>T.getD d undef | none=>undef
def gO (ops:Array Oper) (T0 T:Array Value):Prop:=T.size=T0.size/\∀ s,(∀ o∈ops,o.dst≠some s)->T.getD s undef=T0.getD s undef
def Jj (n:Nat) (ops:Array Oper):Bool :=
 decide (0<ops.size) &&
 ((List.range ops.size).all fun i=>((ops[i]?).map fun o=>o.after.all fun e=>decide (e.on<i)||!Region.binds .any e).getD false) &&
 ((List.range (ops.size-1)).all fun j=>(List.range ops.size).any fun k=>decide (j<k)&&((ops[k]?).map fun o=>o.after.any fun e=>e.on==j&&Region.binds .any e).getD false) &&
 ((List.range ops.size).all fun i=>(List.range ops.size).all fun j=>i==j||(((ops[i]?).bind (·.dst)).isNone||((ops[i]?).bind (·.dst)) != ((ops[j]?).bind (·.dst)))) &&
 ((List.range ops.size).all fun i=>(((ops[i]?).bind (·.dst)).map fun d=>decide (d<n)).getD true)
section
variable {P:Program} {ops:Array Oper} {T0 T:Array Value} {D:List Deferred} {V:Nat->Value->World->Prop} {J:World->Prop} {S:World->World->Prop} {Q:Exit->Act->World->Prop}
def aC (P:Program) (ops:Array Oper) (T0:Array Value) (D:List Deferred) (V:Nat->Value->World->Prop) (J:World->Prop) (S:World->World->Prop) (Q:Exit->Act->World->Prop) (i:Nat) (o:Oper):Prop :=
 ∀ T w,gO ops T0 T->J w->(∀ e∈o.after,Region.binds .any e=true->∀ b,ops[e.on]?=some b->V e.on (cG b T) w) ->
  if Region.wanted o (yielded ops T) then o.wp P ⟨T,D⟩ w (fun c a=>∃ v,c=(⟨T,D⟩:Act).put o.dst v/\V i (match o.dst with | some _=>v | none=>undef) a/\J a/\S w a) Q else V i undef w
def kd (P:Program) (ops:Array Oper) (T0:Array Value) (D:List Deferred) (V:Nat->Value->World->Prop) (J:World->Prop) (Q:Exit->Act->World->Prop) (o:Oper):Prop :=
 ∀ T w,gO ops T0 T->J w->(∀ j a,j+1<ops.size->ops[j]?=some a->V j (cG a T) w) ->
  if Region.wanted o (yielded ops T) then o.wp P ⟨T,D⟩ w (fun b c=>Q .normal b c) Q else Q .normal ((⟨T,D⟩:Act).put o.dst undef) w
structure Ms (ops:Array Oper) (T0:Array Value) (D:List Deferred) (V:Nat->Value->World->Prop) (J:World->Prop) (listed:Array Bool) (a:Act) (w:World):Prop where
 size:listed.size=ops.size
 down:∀ i o,ops[i]?=some o->listed.getD i false=true->∀ e∈o.after,Region.binds .any e=true->listed.getD e.on false=true
 defers:a.defers=D
 frame:gO ops T0 a.tmps
 vals:∀ i o,ops[i]?=some o->listed.getD i false=true->V i (cG o a.tmps) w
 world:J w
 last:listed.getD (ops.size-1) false=false
theorem qx {n:Nat} (h:Jj n ops=true):0<ops.size/\(∀ (i:Nat) (o:Oper),ops[i]?=some o->∀ e∈o.after,Region.binds .any e=true->e.on<i)/\(∀ j,j+1<ops.size->∃ (k:Nat) (o:Oper),j<k/\ops[k]?=some o/\∃ e∈o.after,e.on=j/\Region.binds .any e=true) /\
 (∀ (i j:Nat) (o g:Oper),ops[i]?=some o->ops[j]?=some g->i≠j->∀ d,o.dst=some d->g.dst≠some d)/\(∀ (i:Nat) (o:Oper) (d:Nat),ops[i]?=some o->o.dst=some d->d<n):=by
 unfold Jj at h;simp only [Bool.and_eq_true,decide_eq_true_eq,List.all_eq_true,List.any_eq_true,List.mem_range] at h;obtain ⟨⟨⟨⟨q,r⟩,s⟩,t⟩,u⟩:=h;have lt:∀ {i:Nat} {o:Oper},ops[i]?=some o->i<ops.size:=fun {i o} a=>(Array.getElem?_eq_some_iff.1 a).1;refine ⟨q,fun i o a e l b=>?_,fun j hj=>?_,fun i j o g a c m d hd=>?_,fun i o d a hd=>?_⟩
 ·have:=r i (lt a);rw [a] at this;simp only [Option.map_some,Option.getD_some,Array.all_eq_true',Bool.or_eq_true,decide_eq_true_eq] at this;rcases this e l with h | h
  ·exact h
  ·rw [b] at h;cases h
 ·obtain ⟨k,v,p,b⟩:=s j Ha;have f:ops[k]?=some ops[k]:=Array.getElem?_eq_getElem v;rw [f] at b;simp only [Option.map_some,Option.getD_some,Array.any_eq_true',Bool.and_eq_true,beq_iff_eq] at b;obtain ⟨e,l,h5,w⟩:=b;exact ⟨k,_,p,f,e,l,h5,w⟩
 ·have:=t i (lt a) j (lt c);rw [a,c] at this;simp only [Option.bind_some,Bool.or_eq_true,beq_iff_eq,bne_iff_ne] at this;rcases this with h | h | h
  ·exact absurd h m
  ·rw [hd] at h;cases h
  ·rw [hd] at h;exact fun e=>h e.symm
 ·have:=u i (lt a);rw [a] at this;simp only [Option.bind_some,hd,Option.map_some,Option.getD_some,decide_eq_true_eq] at this;exact this
theorem iW {o:Oper} {T:Array Value} {v:Value} (hd:∀ d,o.dst=some d->d<T.size):cG o ((⟨T,D⟩:Act).put o.dst v).tmps=(match o.dst with | some _=>v | none=>undef):=by
 unfold cG Act.put;cases h:o.dst with
 | none=>rfl
 | some d =>
   have:=hd d h;simp [Array.getD_eq_getD_getElem?,this]
theorem ip {o a:Oper} {T:Array Value} {v:Value} (b:∀ d,o.dst=some d->a.dst≠some d):cG a ((⟨T,D⟩:Act).put o.dst v).tmps=cG a T:=by
 unfold cG Act.put;cases h:o.dst with
 | none=>rfl
 | some d =>
   cases c:a.dst with
   | none=>rfl
   | some f =>
     have:d≠f:=fun e=>b d h (by rw [c,e]);simp [Array.getD_eq_getD_getElem?,Array.getElem?_setIfInBounds,this]
theorem oH {i:Nat} {o:Oper} {T:Array Value} {v:Value} (c:ops[i]?=some o) (h:gO ops T0 T):gO ops T0 ((⟨T,D⟩:Act).put o.dst v).tmps:=by
 unfold Act.put;cases hd:o.dst with
 | none=>exact h
 | some d =>
   refine ⟨by simpa using h.1,fun s b=>?_⟩;have a:d≠s:=fun e=>b o (Array.mem_of_getElem? c) (by rw [hd,e]);rw [<- h.2 s b];simp [Array.getD_eq_getD_getElem?,Array.getElem?_setIfInBounds,a]
theorem mP {a:Option Tmp} {T:Array Value} {v:Value}:((⟨T,D⟩:Act).put a v).defers=D:=by unfold Act.put;split <;> rfl
theorem iq {a:Array Bool} {i:Nat}:i∈Region.ready .any ops a↔i<ops.size/\a.getD i true=false/\∃ o,ops[i]?=some o/\∀ e∈o.after,Region.binds .any e=true->a.getD e.on false=true:=by
 unfold Region.ready;rw [List.mem_filter,List.mem_range,Bool.and_eq_true];constructor
 ·rintro ⟨c,d,b⟩;have j:ops[i]?=some ops[i]:=Array.getElem?_eq_getElem c;rw [j] at b;simp only [Option.map_some,Option.getD_some,Array.all_eq_true',Bool.or_eq_true] at b;refine ⟨c,by simpa using d,_,j,fun e f g=>?_⟩;rcases b e f with h | h
  ·rw [g] at h;cases h
  ·exact h
 ·rintro ⟨c,d,o,k,b⟩;refine ⟨c,by simpa using d,?_⟩;rw [k];simp only [Option.map_some,Option.getD_some,Array.all_eq_true',Bool.or_eq_true];intro e f;cases g:Region.binds .any e with
  | false=>exact Or.inl rfl
  | true=>exact Or.inr (b e f g)
theorem bB {a:Array Bool} {i j:Nat} (b:i<a.size):(a.setIfInBounds i true).getD j false=(if i=j then true else a.getD j false):=by
 by_cases e:i=j
 ·subst e;simp [Array.getD_eq_getD_getElem?,b]
 ·simp [Array.getD_eq_getD_getElem?,Array.getElem?_setIfInBounds,e]
theorem kB {a:Array Bool} {i:Nat} (b:i<a.size):a.getD i true=a.getD i false:=by simp [Array.getD_eq_getD_getElem?,b]
theorem mQ {c:Nat} {b:Array Bool} {a:Act} {w:World} (k:b.size=ops.size) (d:∀ i,i<ops.size->b.getD i false=true) (f:Q .normal a w):wpAny P .any ops Q c b a w:=by
 have g:Region.ready .any ops b=[]:=by
  rw [List.eq_nil_iff_forall_not_mem];intro i e;obtain ⟨j,h,_⟩:=iq.1 e;rw [kB Ha,d i j] at h;cases h
 cases c with
 | zero=>exact ⟨g,f⟩
 | succ c=>exact ⟨fun _=>f,fun i e=>by rw [g] at e;cases e⟩
theorem B8 {n:Nat} {Si:Nat->World->World->Prop} (hB:Jj n ops=true) (hn:T0.size=n) (M:∀ i j v w w',i≠j->V j v w->Si i w w'->V j v w')
 (B:∀ i o,ops[i]?=some o->i+1<ops.size->aC P ops T0 D V J (Si i) Q i o) (C:∀ o,ops[ops.size-1]?=some o->kd P ops T0 D V J Q o) :
 ∀ (c:Nat) (b:Array Bool) (a:Act) (w:World),Ms ops T0 D V J b a w->(List.range ops.size).countP (fun i=>!b.getD i false)<=c->wpAny P .any ops Q c b a w:=by
 obtain ⟨h0,X,H,N,Y⟩:=qx hB;intro c
 induction c with
 | zero =>
   intro b a w f hc;exfalso;have:0<(List.range ops.size).countP (fun i=>!b.getD i false):=List.countP_pos_iff.2 ⟨ops.size-1,List.mem_range.2 Ha,by rw [f.last];rfl⟩;omega
 | succ c ih =>
   intro b a w f hc;obtain ⟨T,D'⟩:=a;have hD:=f.defers;dsimp only at hD;subst hD;refine ⟨fun hr=>?_,fun i Z=>?_⟩
   ·exfalso;have ad:∃ i,i<ops.size/\b.getD i false=false:=⟨ops.size-1,Ha,f.last⟩
    have O:∃ i,(i<ops.size/\b.getD i false=false)/\∀ j,j<i->¬ (j<ops.size/\b.getD j false=false):=by
     obtain ⟨i,Z⟩:=ad
     induction i using Nat.strongRecOn with
     | _ i ih =>
       by_cases I:∃ j,j<i/\(j<ops.size/\b.getD j false=false)
       ·obtain ⟨j,s,K⟩:=I;exact ih j s K
       ·exact ⟨i,Z,fun j hj h=>I ⟨j,hj,h⟩⟩
    obtain ⟨i,⟨s,K⟩,R⟩:=O;have I:i∈Region.ready .any ops b:=iq.2 ⟨s,by rw [kB (by rw [f.size];exact s)];exact K,_,Array.getElem?_eq_getElem s,fun e t u=>by
     have h4:=X i _ (Array.getElem?_eq_getElem s) e t u;cases h5:b.getD e.on false with
     | true=>rfl
     | false=>exact absurd ⟨Ha,h5⟩ (R e.on h4)⟩
    rw [hr] at I;cases I
   ·obtain ⟨s,K,o,y,R⟩:=iq.1 Z;rw [kB (by rw [f.size];exact s)] at K;have q:i<b.size:=by rw [f.size];exact s
    unfold wpOp;rw [y];dsimp only;by_cases hl:i+1<ops.size
    ·have p:=B i o y hl T w f.frame f.world (fun e t u o' an=>f.vals _ _ an (R e t u));have next:∀ v w',V i (match o.dst with | some _=>v | none=>undef) w'->J w'->(∀ j v,i≠j->V j v w->V j v w')->wpAny P .any ops Q c (b.setIfInBounds i true) ((⟨T,D'⟩:Act).put o.dst v) w':=by
      intro v w' hV hJ hS;refine ih _ _ _ ⟨by simpa using f.size,fun j U g hj e t u=>?_,mP,oH y f.frame,fun j U g hj=>?_,hJ,?_⟩ ?_
      ·rw [bB q] at hj ⊢;by_cases L:i=e.on
       ·rw [if_pos L]
       ·rw [if_neg L];by_cases r:i=j
        ·subst r;rw [y] at g;cases g;exact R e t u
        ·rw [if_neg r] at hj;exact f.down j U g hj e t u
      ·rw [bB q] at hj;by_cases r:i=j
       ·subst r;rw [y] at g;cases g;rw [iW (fun d hd=>by rw [f.frame.1,hn];exact Y i o d y hd)];exact hV
       ·rw [if_neg r] at hj;rw [ip (fun d hd=>N i j o U y g r d hd)];exact hS j _ r (f.vals j U g hj)
      ·rw [bB q,if_neg Ha];exact f.last
      ·have:(List.range ops.size).countP (fun j=>!(b.setIfInBounds i true).getD j false)<(List.range ops.size).countP (fun j=>!b.getD j false):=by
        have a0:∀ (l:List Nat),i∈l->l.Nodup->l.countP (fun j=>!(b.setIfInBounds i true).getD j false)<l.countP (fun j=>!b.getD j false):=by
         have le:∀ (l:List Nat),l.countP (fun j=>!(b.setIfInBounds i true).getD j false)<=l.countP (fun j=>!b.getD j false):=fun l =>
          List.countP_mono_left fun j _ hj=>by
           rw [bB q] at hj;by_cases r:i=j
           ·rw [if_pos r] at hj;cases hj
           ·rw [if_neg r] at hj;exact hj
         intro l
         induction l with
         | nil=>intro h;cases h
         | cons x l a1 =>
           intro I a2;rw [List.countP_cons,List.countP_cons];by_cases e:x=i
           ·subst e;have L:(!(b.setIfInBounds x true).getD x false)=false:=by rw [bB q,if_pos rfl];rfl
            have r:(!b.getD x false)=true:=by rw [K];rfl
            rw [L,r];have:=le l;simp only [Bool.false_eq_true,if_false,if_true];omega
           ·have a3:i∈l:=by
             rcases List.mem_cons.1 I with h | h
             ·exact absurd h.symm e
             ·exact h
            have:=a1 a3 (List.nodup_cons.1 a2).2;have L:(b.setIfInBounds i true).getD x false=b.getD x false:=by rw [bB q,if_neg (fun h=>e h.symm)]
            rw [L];omega
        exact a0 _ (List.mem_range.2 s) List.nodup_range
       omega
     by_cases S:Region.wanted o (yielded ops T)=true
     ·rw [if_pos S] at p ⊢;refine Or.inl (Oper.wp_mono (fun W w'=>?_) p);rintro ⟨v,rfl,hV,hJ,hS⟩;exact next v w' hV hJ (fun j v a4 h=>M i j v w w' a4 h hS)
     ·rw [if_neg S] at p ⊢;refine next undef w ?_ f.world (fun j v _ h=>h)
      cases o.dst <;> exact p
    ·have a5:i=ops.size-1:=Ha;subst a5;have A:∀ m j,j+m+1=ops.size->j+1<ops.size->b.getD j false=true:=by
      intro m
      induction m using Nat.strongRecOn with
      | _ m a6 =>
        intro j hj a7;obtain ⟨k,ok,a9,z,e,t,a8,u⟩:=H j a7;subst a8;by_cases hk:k+1<ops.size
        ·exact f.down k ok z (a6 (ops.size-1-k) Ha k Ha hk) e t u
        ·have bb:=(Array.getElem?_eq_some_iff.1 z).1;have:k=ops.size-1:=Ha;subst this;rw [y] at z;cases z;exact R e t u
     have p:=C o y T w f.frame f.world (fun j o' hj g=>f.vals j o' g (A (ops.size-1-j) j Ha hj));have next:∀ W w',Q .normal W w'->wpAny P .any ops Q c (b.setIfInBounds (ops.size-1) true) W w':=fun W w' hq =>
      mQ (by simpa using f.size) (fun j hj=>by
       rw [bB q];by_cases e:ops.size-1=j
       ·rw [if_pos e]
       ·rw [if_neg e];exact A (ops.size-1-j) j Ha Ha) hq
     by_cases S:Region.wanted o (yielded ops T)=true
     ·rw [if_pos S] at p ⊢;exact Or.inl (Oper.wp_mono next p)
     ·rw [if_neg S] at p ⊢;exact next _ _ p
theorem aC.of {i:Nat} {o:Oper} (b:o.guard=none) (h:∀ T w,gO ops T0 T->J w->(∀ e∈o.after,Region.binds .any e=true->∀ a,ops[e.on]?=some a->V e.on (cG a T) w) ->
 o.wp P ⟨T,D⟩ w (fun c w'=>∃ v,c=(⟨T,D⟩:Act).put o.dst v/\V i (match o.dst with | some _=>v | none=>undef) w'/\J w'/\S w w') Q):aC P ops T0 D V J S Q i o:=by
 intro T w d f g;rw [if_pos (by unfold Region.wanted;rw [b])];exact h T w d f g
theorem kd.of {o:Oper} (b:o.guard=none) (h:∀ T w,gO ops T0 T->J w->(∀ j a,j+1<ops.size->ops[j]?=some a->V j (cG a T) w) ->
 o.wp P ⟨T,D⟩ w (fun c w'=>Q .normal c w') Q):kd P ops T0 D V J Q o:=by
 intro T w d e f;rw [if_pos (by unfold Region.wanted;rw [b])];exact h T w d e f
theorem ae (h:gO ops T0 T) (s:Nat) (a:ops.all (fun o=>o.dst != some s)=true):T.getD s undef=T0.getD s undef :=
 h.2 s (fun o b=>by
  have:=Array.all_eq_true'.1 a o b;simpa using this)
theorem Hf {ops:Array Oper} {T0 T:Array Value} (h:gO ops T0 T) (s:Nat) (a:ops.all (fun o=>o.dst != some s)=true:=by kernel_rfl):T.getD s undef=T0.getD s undef:=ae h s a
theorem Hg {ops:Array Oper} {A:Array Edge} {V:Nat->Value->World->Prop} {T:Array Value} {w:World} (hd:∀ e∈A,Region.binds .any e=true->∀ a,ops[e.on]?=some a->V e.on (cG a T) w) (i:Nat) {a:Oper} (b:ops[i]?=some a) (c:(⟨i,.data⟩:Edge)∈A:=by simp):V i (cG a T) w:=hd ⟨i,.data⟩ c rfl a b
theorem Hh {P:Prop} (h:P:=by clear hag hd;go_simp;first | exact ⟨_,rfl,rfl⟩ | exact ⟨_,rfl,rfl,ag _⟩ | exact ⟨_,rfl,rfl,hJ,ag _⟩):P:=h
theorem Hi {P:Prop} (h:P:=by clear hag hd;go_simp;exact ⟨_,rfl,rfl⟩):P:=h
theorem Hj {P:Prop} (h:P:=by clear hag hd;go_simp;first | exact ⟨_,rfl,rfl⟩ | exact ⟨_,rfl,rfl,hJ,srefl _ _⟩):P:=h
theorem Hk {P:Prop} (h:P:=by clear hag hd;go_simp;exact ⟨_,rfl⟩):P:=h
theorem tr (f:Nat->Value):∀ (ds:List Nat) (A:Array Value),(ds.foldl (fun A d=>A.setIfInBounds d (f d)) A).size=A.size
 | [],_=>rfl
 | d :: ds,A=>by rw [List.foldl_cons,tr f ds];simp
theorem AM (f:Nat->Value) (s:Nat):∀ (ds:List Nat) (A:Array Value),s<A.size->(ds.foldl (fun A d=>A.setIfInBounds d (f d)) A)[s]?=if s∈ds then some (f s) else A[s]?
 | [],_,_=>Hb
 | d :: ds,A,h=>by
   rw [List.foldl_cons,AM f s ds _ (by simpa using h)];by_cases a:s∈ds
   ·rw [if_pos a,if_pos (List.mem_cons_of_mem _ a)]
   ·rw [if_neg a,Array.getElem?_setIfInBounds];by_cases b:d=s
    ·subst b;rw [if_pos rfl,if_pos h,if_pos (List.mem_cons_self ..)]
    ·rw [if_neg b,if_neg (fun c=>by
      rcases List.mem_cons.1 c with h | h
      ·exact b h.symm
      ·exact a h)]
theorem aJ (h:gO ops T0 T):∃ f:Nat->Value,(∀ s,f s=T.getD s undef)/\T=(ops.toList.filterMap (fun o=>o.dst)).foldl (fun A d=>A.setIfInBounds d (f d)) T0:=by
 refine ⟨fun s=>T.getD s undef,fun _=>rfl,?_⟩;apply Array.ext
 ·rw [tr];exact h.1
 ·intro s c i;have b:s<T0.size:=by rw [<- h.1];exact c
  have a:=AM (fun s=>T.getD s undef) s (ops.toList.filterMap (fun o=>o.dst)) T0 b;have g:T[s]?=some T[s]:=Array.getElem?_eq_getElem c;rw [Array.getElem?_eq_getElem i] at a;by_cases e:s∈ops.toList.filterMap (fun o=>o.dst)
  ·rw [if_pos e] at a;injection a with a
   rw [a];simp [Array.getD_eq_getD_getElem?,g]
  ·rw [if_neg e,Array.getElem?_eq_getElem b] at a;injection a with a
   rw [a];have:=h.2 s (fun o j hd=>e (List.mem_filterMap.2 ⟨o,by simpa using j,hd⟩));simpa [Array.getD_eq_getD_getElem?,g,b] using this
def cf (a:Nat->Oper->Prop) (b:Oper->Prop):Nat->List Oper->Prop
 | _,[]=>True
 | _,[o]=>b o
 | i,o :: rest=>a i o/\cf a b (i+1) rest
theorem cf.at_ {a:Nat->Oper->Prop} {b:Oper->Prop}:∀ {l:List Oper} {i:Nat},cf a b i l->(∀ j o,l[j]?=some o->j+1<l.length->a (i+j) o)/\(∀ o,l[l.length-1]?=some o->b o)
 | [],_,_=>⟨fun j o h=>(by simp at h),fun o h=>(by simp at h)⟩
 | [x],_,h=>⟨fun j o _ hj=>(by simp at hj),fun o c=>(by simp at c;subst c;exact h)⟩
 | x :: y :: rest,i,h=>by
   have d:=cf.at_ (l:=y :: rest) (i:=i+1) h.2;refine ⟨fun j o hj e=>?_,fun o c=>d.2 o (by simpa using c)⟩;cases j with
   | zero=>simp at hj;subst hj;exact h.1
   | succ j =>
     have:=d.1 j o (by simpa using hj) (by simpa using e)
     rwa [show i+1+j=i+(j+1) by omega] at this
theorem mz (n i:Nat):(Array.replicate n false).getD i false=false:=by
 rw [Array.getD_eq_getD_getElem?,Array.getElem?_replicate];split <;> rfl
theorem gm {id:Nat} {w:World} {l:List Oper} (V:Nat->Value->World->Prop) (J:World->Prop) (Si:Nat->World->World->Prop) (d:P.follows .mixedOrders=true) (e:Jj T0.size l.toArray=true) (a:∀ i j v w w',i≠j->V j v w->Si i w w'->V j v w') (hJ:J w.drew)
 (h:cf (fun i o=>aC P l.toArray T0 D V J (Si i) Q i o) (kd P l.toArray T0 D V J Q) 0 l):(Code.region id l.toArray true).wp P Q ⟨T0,D⟩ w:=by
 obtain ⟨f,g⟩:=h.at_;refine wp_region_any d (B8 e rfl a (fun i o b k=>?_) (fun o b=>g o (by simpa using b)) _ _ _ _ ⟨Hb,fun i o b c=>?_,rfl,⟨rfl,fun _ _=>rfl⟩,fun i o b c=>?_,hJ,?_⟩ ?_)
 ·have:=f i o (by simpa using b) (by simpa using k)
  rwa [Nat.zero_add] at this
 ·rw [mz] at c;cases c
 ·rw [mz] at c;cases c
 ·exact mz _ _
 ·exact Nat.le_trans List.countP_le_length Hb
theorem i7 {id:Nat} {w:World} {l:List Oper} (V:Nat->Value->World->Prop) (J:World->Prop) (S:World->World->Prop) (b:P.follows .mixedOrders=true) (c:Jj T0.size l.toArray=true) (a:∀ j v w w',V j v w->S w w'->V j v w') (hJ:J w.drew)
 (h:cf (aC P l.toArray T0 D V J S Q) (kd P l.toArray T0 D V J Q) 0 l):(Code.region id l.toArray true).wp P Q ⟨T0,D⟩ w :=
 gm V J (fun _=>S) b c (fun _ j v w w' _ h d=>a j v w w' h d) hJ h
end
section
variable {P:Program} {ops:Array Oper} {T0 T:Array Value} {D:List Deferred} {V:Nat->Value->World->Prop} {J:(Nat->Bool)->World->Prop} {S:World->World->Prop} {Q:Exit->Act->World->Prop}
end
section
variable {P:Program} {ops:Array Oper} {T0 T:Array Value} {D:List Deferred} {V:Nat->Value->World->Prop} {J:(Nat->Bool)->World->Prop} {S:World->World->Prop} {Q:Exit->Act->World->Prop}
def aa (P:Program) (ops:Array Oper) (T0:Array Value) (D:List Deferred) (V:Nat->Value->World->Prop) (J:(Nat->Bool)->World->Prop) (S:World->World->Prop) (Q:Exit->Act->World->Prop) (i:Nat) (o:Oper):Prop :=
 ∀ T w (L:Nat->Bool),gO ops.pop T0 T->L i=false->J L w->(∀ e∈o.after,Region.binds .any e=true->L e.on=true)->(∀ e∈o.after,Region.binds .any e=true->∀ b,ops[e.on]?=some b->V e.on (cG b T) w) ->
  if Region.wanted o (yielded ops T) then o.wp P ⟨T,D⟩ w (fun c a=>∃ v,c=(⟨T,D⟩:Act).put o.dst v/\V i (match o.dst with | some _=>v | none=>undef) a/\J (fun j=>if i=j then true else L j) a/\S w a) Q else V i undef w/\J (fun j=>if i=j then true else L j) w
def bm (P:Program) (ops:Array Oper) (T0:Array Value) (D:List Deferred) (V:Nat->Value->World->Prop) (J:(Nat->Bool)->World->Prop) (Q:Exit->Act->World->Prop) (o:Oper):Prop :=
 ∀ T w (L:Nat->Bool),gO ops.pop T0 T->(∀ j,j+1<ops.size->L j=true)->L (ops.size-1)=false->J L w->(∀ j a,j+1<ops.size->ops[j]?=some a->V j (cG a T) w) ->
  if Region.wanted o (yielded ops T) then o.wp P ⟨T,D⟩ w (fun b c=>Q .normal b c) Q else Q .normal ((⟨T,D⟩:Act).put o.dst undef) w
structure Lc (ops:Array Oper) (T0:Array Value) (D:List Deferred) (V:Nat->Value->World->Prop) (J:(Nat->Bool)->World->Prop) (listed:Array Bool) (a:Act) (w:World):Prop where
 size:listed.size=ops.size
 down:∀ i o,ops[i]?=some o->listed.getD i false=true->∀ e∈o.after,Region.binds .any e=true->listed.getD e.on false=true
 defers:a.defers=D
 frame:gO ops.pop T0 a.tmps
 vals:∀ i o,ops[i]?=some o->listed.getD i false=true->V i (cG o a.tmps) w
 world:J (fun i=>listed.getD i false) w
 last:listed.getD (ops.size-1) false=false
def tu (ops:Array Oper) (j i:Nat):Prop:=∀ o,ops[j]?=some o->∀ e∈o.after,Region.binds .any e=true->e.on≠i
def jU (ops:Array Oper) (j i:Nat):Bool:=((ops[j]?).map fun o=>o.after.all fun e=>!(Region.binds .any e)||e.on != i).getD true
theorem tu.b {ops:Array Oper} {j i:Nat} (h:tu ops j i):jU ops j i=true:=by
 unfold jU;cases a:ops[j]? with
 | none=>rfl
 | some o =>
   simp only [Option.map_some,Option.getD_some,Array.all_eq_true',Bool.or_eq_true,Bool.not_eq_true',bne_iff_ne];intro e c;cases d:Region.binds .any e with
   | false=>exact Or.inl rfl
   | true=>exact Or.inr (h o a e c d)
theorem zg {n:Nat} {Si:Nat->World->World->Prop} (hB:Jj n ops=true) (hn:T0.size=n) (O:∀ i j v w w',i≠j->tu ops j i->V j v w->Si i w w'->V j v w')
 (H:∀ i o,ops[i]?=some o->i+1<ops.size->aa P ops T0 D V J (Si i) Q i o) (I:∀ o,ops[ops.size-1]?=some o->bm P ops T0 D V J Q o) :
 ∀ (f:Nat) (b:Array Bool) (a:Act) (w:World),Lc ops T0 D V J b a w->(List.range ops.size).countP (fun i=>!b.getD i false)<=f->wpAny P .any ops Q f b a w:=by
 obtain ⟨h0,Y,K,R,Z⟩:=qx hB;intro f
 induction f with
 | zero =>
   intro b a w g hc;exfalso;have:0<(List.range ops.size).countP (fun i=>!b.getD i false):=List.countP_pos_iff.2 ⟨ops.size-1,List.mem_range.2 Ha,by rw [g.last];rfl⟩;omega
 | succ f ih =>
   intro b a w g hc;obtain ⟨T,D'⟩:=a;have hD:=g.defers;dsimp only at hD;subst hD;refine ⟨fun hr=>?_,fun i hi=>?_⟩
   ·exfalso;have ad:∃ i,i<ops.size/\b.getD i false=false:=⟨ops.size-1,Ha,g.last⟩
    have S:∃ i,(i<ops.size/\b.getD i false=false)/\∀ j,j<i->¬ (j<ops.size/\b.getD j false=false):=by
     obtain ⟨i,hi⟩:=ad
     induction i using Nat.strongRecOn with
     | _ i ih =>
       by_cases L:∃ j,j<i/\(j<ops.size/\b.getD j false=false)
       ·obtain ⟨j,z,C⟩:=L;exact ih j z C
       ·exact ⟨i,hi,fun j hj h=>L ⟨j,hj,h⟩⟩
    obtain ⟨i,⟨z,C⟩,M⟩:=S;have L:i∈Region.ready .any ops b:=iq.2 ⟨z,by rw [kB (by rw [g.size];exact z)];exact C,_,Array.getElem?_eq_getElem z,fun e r s=>by
     have h4:=Y i _ (Array.getElem?_eq_getElem z) e r s;cases h5:b.getD e.on false with
     | true=>rfl
     | false=>exact absurd ⟨Ha,h5⟩ (M e.on h4)⟩
    rw [hr] at L;cases L
   ·obtain ⟨z,C,o,A,M⟩:=iq.1 hi;rw [kB (by rw [g.size];exact z)] at C;have q:i<b.size:=by rw [g.size];exact z
    unfold wpOp;rw [A];dsimp only;by_cases hl:i+1<ops.size
    ·have p:=H i o A hl T w (fun j=>b.getD j false) g.frame C g.world (fun e r s=>M e r s) (fun e r s o' t=>g.vals _ _ t (M e r s));have next:∀ v w',V i (match o.dst with | some _=>v | none=>undef) w'->J (fun j=>if i=j then true else b.getD j false) w'->(∀ j v,i≠j->tu ops j i->V j v w->V j v w')->wpAny P .any ops Q f (b.setIfInBounds i true) ((⟨T,D'⟩:Act).put o.dst v) w':=by
      intro v w' hV hJ hS;refine ih _ _ _ ⟨by simpa using g.size,fun j U c hj e r s=>?_,mP,oH (i:=i) (by rw [Array.getElem?_pop,if_pos Ha];exact A) g.frame,fun j U c hj=>?_,?_,?_⟩ ?_
      ·rw [bB q] at hj ⊢;by_cases N:i=e.on
       ·rw [if_pos N]
       ·rw [if_neg N];by_cases u:i=j
        ·subst u;rw [A] at c;cases c;exact M e r s
        ·rw [if_neg u] at hj;exact g.down j U c hj e r s
      ·rw [bB q] at hj;by_cases u:i=j
       ·subst u;rw [A] at c;cases c;rw [iW (fun d hd=>by rw [g.frame.1,hn];exact Z i o d A hd)];exact hV
       ·rw [if_neg u] at hj;rw [ip (fun d hd=>R i j o U A c u d hd)];exact hS j _ u (fun o' t e r s an=>by
         rw [c] at t;injection t with t;subst t
         have:=g.down j U c hj e r s;rw [an,C] at this;cases this) (g.vals j U c hj)
      ·have e9:(fun j=>(b.setIfInBounds i true).getD j false)=(fun j=>if i=j then true else b.getD j false):=funext fun j=>bB q;rw [e9];exact hJ
      ·rw [bB q,if_neg Ha];exact g.last
      ·have:(List.range ops.size).countP (fun j=>!(b.setIfInBounds i true).getD j false)<(List.range ops.size).countP (fun j=>!b.getD j false):=by
        have a0:∀ (l:List Nat),i∈l->l.Nodup->l.countP (fun j=>!(b.setIfInBounds i true).getD j false)<l.countP (fun j=>!b.getD j false):=by
         have le:∀ (l:List Nat),l.countP (fun j=>!(b.setIfInBounds i true).getD j false)<=l.countP (fun j=>!b.getD j false):=fun l =>
          List.countP_mono_left fun j _ hj=>by
           rw [bB q] at hj;by_cases u:i=j
           ·rw [if_pos u] at hj;cases hj
           ·rw [if_neg u] at hj;exact hj
         intro l
         induction l with
         | nil=>intro h;cases h
         | cons x l a1 =>
           intro L a2;rw [List.countP_cons,List.countP_cons];by_cases e:x=i
           ·subst e;have N:(!(b.setIfInBounds x true).getD x false)=false:=by rw [bB q,if_pos rfl];rfl
            have u:(!b.getD x false)=true:=by rw [C];rfl
            rw [N,u];have:=le l;simp only [Bool.false_eq_true,if_false,if_true];omega
           ·have a3:i∈l:=by
             rcases List.mem_cons.1 L with h | h
             ·exact absurd h.symm e
             ·exact h
            have:=a1 a3 (List.nodup_cons.1 a2).2;have N:(b.setIfInBounds i true).getD x false=b.getD x false:=by rw [bB q,if_neg (fun h=>e h.symm)]
            rw [N];omega
        exact a0 _ (List.mem_range.2 z) List.nodup_range
       omega
     by_cases W:Region.wanted o (yielded ops T)=true
     ·rw [if_pos W] at p ⊢;refine Or.inl (Oper.wp_mono (fun X w'=>?_) p);rintro ⟨v,rfl,hV,hJ,hS⟩;exact next v w' hV hJ (fun j v a4 hd h=>O i j v w w' a4 hd h hS)
     ·rw [if_neg W] at p ⊢;refine next undef w ?_ p.2 (fun j v _ _ h=>h)
      cases o.dst <;> exact p.1
    ·have a5:i=ops.size-1:=Ha;subst a5;have y:∀ m j,j+m+1=ops.size->j+1<ops.size->b.getD j false=true:=by
      intro m
      induction m using Nat.strongRecOn with
      | _ m a6 =>
        intro j hj a7;obtain ⟨k,ok,a9,B,e,r,a8,s⟩:=K j a7;subst a8;by_cases hk:k+1<ops.size
        ·exact g.down k ok B (a6 (ops.size-1-k) Ha k Ha hk) e r s
        ·have bb:=(Array.getElem?_eq_some_iff.1 B).1;have:k=ops.size-1:=Ha;subst this;rw [A] at B;cases B;exact M e r s
     have p:=I o A T w (fun j=>b.getD j false) g.frame (fun j hj=>y (ops.size-1-j) j Ha hj) g.last g.world (fun j o' hj c=>g.vals j o' c (y (ops.size-1-j) j Ha hj));have next:∀ X w',Q .normal X w'->wpAny P .any ops Q f (b.setIfInBounds (ops.size-1) true) X w':=fun X w' hq =>
      mQ (by simpa using g.size) (fun j hj=>by
       rw [bB q];by_cases e:ops.size-1=j
       ·rw [if_pos e]
       ·rw [if_neg e];exact y (ops.size-1-j) j Ha Ha) hq
     by_cases W:Region.wanted o (yielded ops T)=true
     ·rw [if_pos W] at p ⊢;exact Or.inl (Oper.wp_mono next p)
     ·rw [if_neg W] at p ⊢;exact next _ _ p
theorem aa.of {i:Nat} {o:Oper} (b:o.guard=none) (h:∀ T w (L:Nat->Bool),gO ops.pop T0 T->L i=false->J L w->(∀ e∈o.after,Region.binds .any e=true->L e.on=true)->(∀ e∈o.after,Region.binds .any e=true->∀ a,ops[e.on]?=some a->V e.on (cG a T) w) ->
 o.wp P ⟨T,D⟩ w (fun c w'=>∃ v,c=(⟨T,D⟩:Act).put o.dst v/\V i (match o.dst with | some _=>v | none=>undef) w'/\J (fun j=>if i=j then true else L j) w'/\S w w') Q):aa P ops T0 D V J S Q i o:=by
 intro T w L d f g k h5;rw [if_pos (by unfold Region.wanted;rw [b])];exact h T w L d f g k h5
theorem aa.want {i:Nat} {o:Oper} {g:Nat} {b:Bool} {f:Oper} {d:Nat} (m:o.guard=some (g,b)) (a:ops[g]?=some f) (hd:f.dst=some d) (c:o.after.any (fun e=>e.on==g&&Region.binds .any e)=true) (n:∀ v w,V g v w->v=.bool b) (h:∀ T w (L:Nat->Bool),gO ops.pop T0 T->L i=false->J L w->(∀ e∈o.after,Region.binds .any e=true->L e.on=true)->(∀ e∈o.after,Region.binds .any e=true->∀ k,ops[e.on]?=some k->V e.on (cG k T) w) ->
 o.wp P ⟨T,D⟩ w (fun p w'=>∃ v,p=(⟨T,D⟩:Act).put o.dst v/\V i (match o.dst with | some _=>v | none=>undef) w'/\J (fun j=>if i=j then true else L j) w'/\S w w') Q):aa P ops T0 D V J S Q i o:=by
 intro T w L q r s t h5;have u:Region.wanted o (yielded ops T)=true:=by
  simp only [Array.any_eq_true',Bool.and_eq_true,beq_iff_eq] at c;obtain ⟨e,y,z,A⟩:=c;subst z;have:=n _ _ (h5 e y A f a);unfold cG at this;rw [hd] at this;have B:T[d]?=some (.bool b):=by
   simp only at this;rw [Array.getD_eq_getD_getElem?] at this;cases l:T[d]? with
   | none=>rw [l] at this;cases this
   | some x=>rw [l] at this;rw [show x=_ from this]
  unfold Region.wanted yielded;rw [m];simp [a,hd,B]
 rw [if_pos u];exact h T w L q r s t h5
theorem bm.of {o:Oper} (b:o.guard=none) (h:∀ T w (L:Nat->Bool),gO ops.pop T0 T->(∀ j,j+1<ops.size->L j=true)->L (ops.size-1)=false->J L w->(∀ j a,j+1<ops.size->ops[j]?=some a->V j (cG a T) w) ->
 o.wp P ⟨T,D⟩ w (fun c w'=>Q .normal c w') Q):bm P ops T0 D V J Q o:=by
 intro T w L d e f g h5;rw [if_pos (by unfold Region.wanted;rw [b])];exact h T w L d e f g h5
theorem ax {id:Nat} {w:World} {l:List Oper} (V:Nat->Value->World->Prop) (J:(Nat->Bool)->World->Prop) (Si:Nat->World->World->Prop) (f:P.follows .mixedOrders=true) (g:Jj T0.size l.toArray=true) (a:∀ i j v w w',i≠j->jU l.toArray j i=true->V j v w->Si i w w'->V j v w') (hJ:J (fun _=>false) w.drew)
 (h:cf (fun i o=>aa P l.toArray T0 D V J (Si i) Q i o) (bm P l.toArray T0 D V J Q) 0 l):(Code.region id l.toArray true).wp P Q ⟨T0,D⟩ w:=by
 obtain ⟨k,m⟩:=h.at_;have n:(fun i=>(Array.replicate l.toArray.size false).getD i false)=(fun _=>false):=funext fun i=>mz _ _;refine wp_region_any f (zg g rfl (fun i j v w w' e hd=>a i j v w w' e hd.b) (fun i o c p=>?_) (fun o c=>m o (by simpa using c)) _ _ _ _ ⟨Hb,fun i o c d=>?_,rfl,⟨rfl,fun _ _=>rfl⟩,fun i o c d=>?_,by rw [n];exact hJ,?_⟩ ?_)
 ·have:=k i o (by simpa using c) (by simpa using p)
  rwa [Nat.zero_add] at this
 ·rw [mz] at d;cases d
 ·rw [mz] at d;cases d
 ·exact mz _ _
 ·exact Nat.le_trans List.countP_le_length Hb
end
theorem aa.skip {P:Program} {ops:Array Oper} {T0:Array Value} {D:List Deferred} {V:Nat->Value->World->Prop} {J:(Nat->Bool)->World->Prop} {S:World->World->Prop} {Q:Exit->Act->World->Prop} {i:Nat} {o:Oper} {g:Nat} {b:Bool} {f:Oper} {d:Nat} (k:o.guard=some (g,b)) (a:ops[g]?=some f) (hd:f.dst=some d) (c:o.after.any (fun e=>e.on==g&&Region.binds .any e)=true) (l:∀ v w,V g v w->v=.bool (!b)) (m:∀ w,V i undef w) (hJ:∀ L w,J L w->J (fun j=>if i=j then true else L j) w):aa P ops T0 D V J S Q i o:=by
 intro T w L u y n z h5;have p:¬ Region.wanted o (yielded ops T)=true:=by
  simp only [Array.any_eq_true',Bool.and_eq_true,beq_iff_eq] at c;obtain ⟨e,q,r,s⟩:=c;subst r;have:=l _ _ (h5 e q s f a);unfold cG at this;rw [hd] at this;have t:T[d]?=some (.bool (!b)):=by
   simp only at this;rw [Array.getD_eq_getD_getElem?] at this;cases h:T[d]? with
   | none=>rw [h] at this;cases this
   | some x=>rw [h] at this;rw [show x=_ from this]
  unfold Region.wanted yielded;rw [k];cases b <;> simp [a,hd,t]
 rw [if_neg p];exact ⟨m w,hJ L w n⟩
structure bV (n k:Nat) (w w':World):Prop where
 os:w'.os=w.os
 tape:w'.tape=w.tape
 output:w'.output=w.output
 size:w.heap.size<=w'.heap.size
 first:∀ (g:Nat) (C:Array Value) (t:TypeId) (fr:Nat × Nat),w.heap[g]?=some (.cells C t fr)->∃ C':Array Value,w'.heap[g]?=some (.cells C' t fr)/\C'.size=C.size/\∀ i,i<n->C'[i]?=C[i]?
 small:∀ (g:Nat) (C:Array Value) (t:TypeId) (fr:Nat × Nat),w.heap[g]?=some (.cells C t fr)->C.size<k->w'.heap[g]?=some (.cells C t fr)
theorem bV.grown {n k:Nat} {w w':World} (h:w.grownBy w' none):bV n k w w' :=
 ⟨h.os,h.tape,h.output,h.size,fun g C t b a=>⟨C,by rw [h.block g (ah a) Hb];exact a,rfl,fun _ _=>rfl⟩,fun g C t b a _=>by rw [h.block g (ah a) Hb];exact a⟩
theorem aD.keep {n k:Nat} {w w':World} {base:Nat} {v:Value} {xs:List Int} (h:aD w base v xs) (b:bV n k w w') (c:xs.length<k):aD w' base v xs:=by
 obtain ⟨q,C,rfl,d,e,a⟩:=h;exact ⟨q,C,rfl,d,b.small q C _ _ e (by rw [aD.size a];exact c),a⟩
theorem iL {n k m:Nat} {w w':World} {base:Nat} {t:TypeId} {v:Value} {xs:List Value} (h:w.ownsRow base t 1 v m xs) (d:bV n k w w') (y:m<=n):w'.ownsRow base t 1 v m xs:=by
 refine ⟨h.1,?_⟩;rcases h.2 with f | ⟨g,a,b,e,j,l,c,o,p,q⟩
 ·exact Or.inl f
 ·obtain ⟨r,s,u,x⟩:=d.first g b t _ l
  refine Or.inr ⟨g,a,r,e,j,s,c,o,by rw [u];exact p,?_⟩;rw [<- q];apply List.ext_getElem?;intro i;rw [List.getElem?_take,List.getElem?_take];split
  ·rw [Array.getElem?_toList,Array.getElem?_toList];exact x i Ha
  ·rfl
theorem nE (w:World) (ty:TypeId) (base:Nat) (v:Value) (n:Nat) (xs:List Int) (b:w.ownsRow base 5 1 v n (Bs xs)) (A:Option Addr) (m c:Nat) (ys:List Int) (L:dK w A ys) (M:ys.length=m)
 (H:n+m<=1000000) (d:base<=w.heap.size) :
 ∃ v' w',(Builtin.append_ #[22,22] ty #[v,.slice A m c]).run Tryz.prog w=.ok v' w'/\w'.ownsRow base 5 1 v' (n+m) (Bs (xs++ys))/\w.grownBy w' v.ownBlock/\bV n (n+m) w w':=by
 obtain ⟨i0,W,N,I,O⟩:=info_parts jE;rcases b.2 with ⟨rfl,h0⟩ | ⟨g,f,a5,rfl,hb,hg,X,a6,Y,K⟩
 ·obtain ⟨v',w',s,R,r,_⟩:=iK w ty base _ n xs b A m c ys L M H d;exact ⟨v',w',s,R,r,bV.grown r⟩
 ·by_cases Z:m=0
  ·have ad:ys=[]:=List.length_eq_zero_iff.1 Ha;subst ad;obtain ⟨v',w',s,R,r,_⟩:=iK w ty base _ n xs b A m c [] L M H d;have hw:w'=w:=by
    have e:(Builtin.append_ #[22,22] ty #[.slice (some ⟨g,0,none⟩) n f,.slice A m c]).run Tryz.prog w=.ok (.slice (some ⟨g,0,none⟩) n f) w:=by
     subst Z;cases A <;> simp [Builtin.append_,run_underlying Tryz.underlying22,sizeOf,typeInfo,W,Builtin.lenOf,Builtin.firstCells,X,storeCells,loadCells,loadCellsFrom]
    rw [s] at e;injection e
   subst hw;exact ⟨v',w',s,R,r,bV.grown (World.grownBy.refl _ _)⟩
  ·have hA:∃ a,A=some a:=by
    cases ys with
    | nil=>simp at M;omega
    | cons y l=>obtain ⟨a,e,_⟩:=L 0 y rfl;exact ⟨a,e⟩
   obtain ⟨a,rfl⟩:=hA;have h:∀ j u,(Bs ys)[j]?=some u->w.cell? (a.add j)=some u:=fun j u hj=>by
    unfold Bs at hj;rw [List.getElem?_map] at hj;obtain ⟨x,hx,rfl⟩:=Option.map_eq_some_iff.1 hj;obtain ⟨a',e,hc⟩:=L j x hx;injection e with e;subst e;exact hc
   by_cases an:n+m<=f
   ·obtain ⟨v',w',s,R,r,_⟩:=iK w ty base _ n xs b (some a) m c ys L M H d;have S:=jj (w:=w) (w':=w') 22 ty 5 i0 (.int .u8 0) 1 1 Tryz.underlying22 W N I O rfl Hd _ n _ (b.mono (Nat.zero_le _)) a m c (Bs ys) (by rw [ar];omega) h (io _) (by simp only [maxLen];omega) Ha s;refine ⟨v',w',s,R,r,⟨r.os,r.tape,r.output,r.size,fun q C t fr o=>?_,fun q C t fr o a7=>?_⟩⟩
    ·by_cases e:q=g
     ·subst e;rw [hg] at o;injection o with o;injection o with z e2 e3
      subst z;subst e2;subst e3;rcases S.2 with ⟨h',_⟩ | ⟨g',a4,T,h',_,a0,_,_,U,a1⟩
      ·cases h'
      ·injection h' with z e2 e3
       injection z with z;injection z with z
       subst z;subst e3;refine ⟨T,a0,by rw [U,Y],fun i W=>?_⟩;have h5:=congrArg (fun l=>l[i]?) (a1.trans K.symm);simp only [List.getElem?_take] at h5;rw [if_pos Ha,if_pos Ha,Array.getElem?_toList,Array.getElem?_toList] at h5;exact h5
     ·exact ⟨C,by rw [r.block q (ah o) (fun e'=>e (by injection e'))];exact o,rfl,fun _ _=>rfl⟩
    ·have e:q≠g:=fun e=>by
      subst e;rw [hg] at o;injection o with o;injection o with z _ _
      subst z;omega
     rw [r.block q (ah o) (fun e'=>e (by injection e'))];exact o
   ·have a2:=grownCap_ge w (n+m) f 5;have V:grownCap w (n+m) f 5<=maxLen:=grownCap_le_maxLen w (n+m) f _ (by simp only [maxLen];omega);have s:=run_append_grow (P:=Tryz.prog) w 22 ty 5 i0 (.int .u8 0) Tryz.underlying22 W N ⟨g,0,none⟩ n f (Bs xs) (by rw [b.1,I]) (fun j u hj=>b.cells (g:=g) rfl _ _ hj) a m c (Bs ys) (by rw [ar,I];omega) h Ha Ha
     (by rw [O];have:=nextslicecap_le (show f<n+m by omega);omega)
    have B:(Bs (xs++ys)).length=(n+m)*1:=by have:=b.1;rw [ar] at this;rw [ar,List.length_append];omega
    have p:w.grownBy (w.drew.alloc (.cells ((Bs xs).toArray++(Bs ys).toArray++Builtin.zeroCells (Value.int .u8 0).cells (grownCap w (n+m) f 5-(n+m))) 5)) none:=⟨rfl,rfl,rfl,Hb,fun k hk _=>heap_alloc_old w.drew _ hk⟩
    refine ⟨_,_,s,⟨B,.inr ⟨w.heap.size,_,_,rfl,d,heap_alloc_new w.drew _,a2,V,?_,?_⟩⟩,⟨p.os,p.tape,p.output,p.size,fun k hk _=>p.block k hk Hb⟩,bV.grown p⟩
    ·have a3:=b.1;rw [ar] at a3;simp only [Array.size_append,List.size_toArray,size_zeroCells,ar,M];show xs.length+m+(_-(n+m))*1=_*1;omega
    ·simp only [Array.toList_append,List.append_assoc];rw [<- List.append_assoc,<- B,je];exact List.take_left
theorem gI (w:World) {o:Oper} {a:Act} {K:Act->World->Prop} {Q:Exit->Act->World->Prop} (s x:Operand)
 (l:o.op=.call { callee:=.builtin .append,args:=#[s,x],argTypes:=#[22,22] })
 (b:Nat) (v:Value) (n:Nat) (j:List Int) (p:a.eval s=v) (f:w.ownsRow b 5 1 v n (Bs j)) (A:Option Addr) (m c:Nat) (g:List Int) (q:a.eval x=.slice A m c) (r:dK w A g) (t:g.length=m)
 (k:n+m<=1000000) (d:b<=w.heap.size)
 (h:∀ i e,e.ownsRow b 5 1 i (n+m) (Bs (j++g))->w.grownBy e v.ownBlock->bV n (n+m) w e->K (a.put o.dst i) e):o.wp Tryz.prog a w K Q:=by
 obtain ⟨i,e,u,y,z,B⟩:=nE w o.type b v n j f A m c g r t k d;unfold Oper.wp execOp;simp only [l,resolve,invoke,builtin,Sem.run_bind,Sem.run_pure,Result.andThen_ok,List.map_toArray,List.map_cons,List.map_nil,p,q,u];exact h i e y z B
theorem sJ (w:World) (ty:TypeId) (base:Nat) (v:Value) (xs:List Int) (g:aD w base v xs) (A:Option Addr) (m c:Nat) (ys:List Int) (i:dK w A ys) (j:ys.length=m) (t:0<m)
 (f:xs.length+m<=1000000) (a:base<=w.heap.size) :
 ∃ v' w',(Builtin.append_ #[22,22] ty #[v,.slice A m c]).run Tryz.prog w=.ok v' w'/\w'.ownsRow base 5 1 v' (xs.length+m) (Bs (xs++ys))/\w.grownBy w' none:=by
 have b:=g.own (by simp only [maxLen];omega);obtain ⟨q,C,rfl,u,h,l⟩:=g;obtain ⟨v',w',n,o,d,p⟩:=nE w ty base _ _ xs b A m c ys i j f a;refine ⟨v',w',n,o,⟨d.os,d.tape,d.output,d.size,fun k r _=>?_⟩⟩;by_cases e:k=q
 ·subst e;rw [h,p.small k C _ _ h (by rw [aD.size l];omega)]
 ·exact d.block k r (fun s=>e (by injection s))
theorem nG (w:World) {o:Oper} {a:Act} {K:Act->World->Prop} {Q:Exit->Act->World->Prop} (s x:Operand)
 (k:o.op=.call { callee:=.builtin .append,args:=#[s,x],argTypes:=#[22,22] })
 (b:Nat) (v:Value) (e:List Int) (l:a.eval s=v) (n:aD w b v e) (A:Option Addr) (m c:Nat) (g:List Int) (p:a.eval x=.slice A m c) (q:dK w A g) (r:g.length=m) (t:0<m)
 (j:e.length+m<=1000000) (d:b<=w.heap.size)
 (h:∀ i f,f.ownsRow b 5 1 i (e.length+m) (Bs (e++g))->w.grownBy f none->K (a.put o.dst i) f):o.wp Tryz.prog a w K Q:=by
 obtain ⟨i,f,u,y,z⟩:=sJ w o.type b v e n A m c g q r t j d;unfold Oper.wp execOp;simp only [k,resolve,invoke,builtin,Sem.run_bind,Sem.run_pure,Result.andThen_ok,List.map_toArray,List.map_cons,List.map_nil,l,p,u];exact h i f y z
def Is (xs:List Int):List Value:=xs.map (.int .i64)
def jF (w:World) (A:Option Addr) (xs:List Int):Prop:=∀ i x,xs[i]?=some x->∃ a,A=some a/\w.cell? (a.add i)=some (.int .i64 x)
theorem wI {xs:List Int} {i:Nat} {x:Int} (h:xs[i]?=some x):(Is xs)[i]?=some (.int .i64 x):=by unfold Is;rw [List.getElem?_map,h];rfl
theorem cy (xs:List Int):(Is xs).length=xs.length:=by unfold Is;simp
theorem jF.keep {w w':World} {A:Option Addr} {xs:List Int} (h:jF w A xs) (b:Below w.heap.size w w'):jF w' A xs:=fun i x c =>
 let ⟨a,e,hs⟩:=h i x c;⟨a,e,cO b hs⟩
theorem jF.alloc {w:World} {A:Option Addr} {xs:List Int} (h:jF w A xs) (o:Obj):jF (w.alloc o) A xs:=fun i x b =>
 let ⟨a,e,hs⟩:=h i x b;⟨a,e,Ji hs o⟩
theorem AN {W:World} {r:Nat} {C:Array Value} {t:TypeId} {a:Nat × Nat} {bs:List Int} (h:W.heap[r]?=some (.cells C t a)) (b:C.toList=Is bs):jF W (some ⟨r,0,none⟩) bs:=by
 intro i x c;refine ⟨_,rfl,?_⟩;rw [dU,cell_of_row _ _ _ _ _ _ h,<- Array.getElem?_toList,b];exact wI c
theorem kC {W:World} {B:Nat} {t:TypeId} {e:Value} {n:Nat} {bs:List Int} (h:W.ownsRow B t 1 e n (Is bs)) (j:bs.length=n) :
 ∃ A d,e=.slice A bs.length d/\bs.length<=d/\d<=9223372036854775807/\jF W A bs:=by
 subst j;rcases h.2 with ⟨rfl,f⟩ | ⟨g,b,k,rfl,m,o,c,l,p,q⟩
 ·refine ⟨none,0,by rw [f],Ha,Ha,fun i s a=>?_⟩;rw [List.length_eq_zero_iff.1 f] at a;cases a
 ·refine ⟨some ⟨g,0,none⟩,b,rfl,c,by simp only [maxLen] at l;omega,fun i s a=>⟨_,rfl,?_⟩⟩;exact h.cells (g:=g) rfl _ _ (wI a)
theorem AO:(Tryz.prog.info? 3).map (fun i=>(i.zero,i.size,i.bytes))=some (some (.int .i64 0),1,8):=Hc
theorem zh (l:List Int):∀ u∈Is l,u.oneCell'=true:=by
 intro u a;unfold Is at a;obtain ⟨x,_,rfl⟩:=List.mem_map.1 a;rfl
theorem tw (l m:List Int):Is (l++m)=Is l++Is m:=List.map_append
theorem jG (w:World) (ty:TypeId) (base:Nat) (v:Value) (n:Nat) (xs:List Int) (b:w.ownsRow base 3 1 v n (Is xs)) (A:Option Addr) (m c:Nat) (ys:List Int) (q:jF w A ys) (r:ys.length=m)
 (s:n+m<=1000000) (d:base<=w.heap.size) :
 ∃ v' w',(Builtin.append_ #[33,33] ty #[v,.slice A m c]).run Tryz.prog w=.ok v' w'/\w'.ownsRow base 3 1 v' (n+m) (Is (xs++ys))/\w.grownBy w' v.ownBlock /\
  (v'.ownBlock=v.ownBlock\/v'.ownBlock=some w.heap.size):=by
 obtain ⟨t,f,h,i,k⟩:=info_parts AO;rcases A with _ | a
 ·have o:ys=[]:=by
   cases ys with
   | nil=>rfl
   | cons y l=>obtain ⟨a,e,_⟩:=q 0 y rfl;cases e
  subst o;subst r;refine ⟨v,w,?_,by simpa using b,World.grownBy.refl w _,.inl rfl⟩;rcases b.2 with ⟨rfl,rfl⟩ | ⟨g,z,B,rfl,_,_,p,_⟩
  ·simp [Builtin.append_,run_underlying Tryz.underlying33,sizeOf,typeInfo,f,Builtin.lenOf,Builtin.firstCells]
  ·simp [Builtin.append_,run_underlying Tryz.underlying33,sizeOf,typeInfo,f,Builtin.lenOf,Builtin.firstCells,p,storeCells]
 ·obtain ⟨v',w',C,H,I,M,h5⟩:=run_append_own_at (P:=Tryz.prog) w base 33 ty 3 t (.int .i64 0) 1 8 Tryz.underlying33 f h i k rfl Hd v n _ b a m c (Is ys) (by rw [cy];omega)
   (fun j u hj=>by
     unfold Is at hj;rw [List.getElem?_map] at hj;obtain ⟨x,K,rfl⟩:=Option.map_eq_some_iff.1 hj;obtain ⟨N,e,L⟩:=q j x K;injection e with e;subst e;exact L) (zh _) (by simp only [maxLen];omega) Ha d
  exact ⟨v',w',C,by rw [tw];exact H,I,h5⟩
theorem zi (w:World) {o:Oper} {a:Act} {K:Act->World->Prop} {Q:Exit->Act->World->Prop} (s x:Operand)
 (l:o.op=.call { callee:=.builtin .append,args:=#[s,x],argTypes:=#[33,33] })
 (b:Nat) (v:Value) (n:Nat) (j:List Int) (p:a.eval s=v) (f:w.ownsRow b 3 1 v n (Is j)) (A:Option Addr) (m c:Nat) (i:List Int) (q:a.eval x=.slice A m c) (r:jF w A i) (t:i.length=m)
 (k:n+m<=1000000) (d:b<=w.heap.size)
 (h:∀ e g,g.ownsRow b 3 1 e (n+m) (Is (j++i))->w.grownBy g v.ownBlock->(e.ownBlock=v.ownBlock\/e.ownBlock=some w.heap.size)->K (a.put o.dst e) g):o.wp Tryz.prog a w K Q:=by
 obtain ⟨e,g,u,y,z,B⟩:=jG w o.type b v n j f A m c i r t k d;unfold Oper.wp execOp;simp only [l,resolve,invoke,builtin,Sem.run_bind,Sem.run_pure,Result.andThen_ok,List.map_toArray,List.map_cons,List.map_nil,p,q,u];exact h e g y z B
theorem dC (w:World) {ops:Array Oper} {rest:List Oper} {o:Oper} {a:Act} {Q:Exit->Act->World->Prop} (j:o.guard=none) (s x:Operand)
 (p:o.op=.call { callee:=.builtin .append,args:=#[s,x],argTypes:=#[33,33] })
 (b:Nat) (v:Value) (n:Nat) (k:List Int) (q:a.eval s=v) (f:w.ownsRow b 3 1 v n (Is k)) (A:Option Addr) (m c:Nat) (i:List Int) (r:a.eval x=.slice A m c) (t:jF w A i) (u:i.length=m)
 (l:n+m<=1000000) (d:b<=w.heap.size)
 (h:∀ e g,g.ownsRow b 3 1 e (n+m) (Is (k++i))->w.grownBy g v.ownBlock->(e.ownBlock=v.ownBlock\/e.ownBlock=some w.heap.size)->wpList Tryz.prog ops Q rest (a.put o.dst e) g):wpList Tryz.prog ops Q (o :: rest) a w :=
 wpList_plain j fun _ y=>zi w s x p b v n k q f A m c i r t u l d fun e g z B C=>y _ _ (h e g z B C)
theorem mA (w:World) (ty:TypeId) (base:Nat) (v:Value) (n:Nat) (xs:List Int) (b:w.ownsRow base 3 1 v n (Is xs)) (A:Option Addr) (m c:Nat) (ys:List Int) (L:jF w A ys) (M:ys.length=m)
 (H:n+m<=1000000) (d:base<=w.heap.size) :
 ∃ v' w',(Builtin.append_ #[33,33] ty #[v,.slice A m c]).run Tryz.prog w=.ok v' w'/\w'.ownsRow base 3 1 v' (n+m) (Is (xs++ys))/\w.grownBy w' v.ownBlock/\bV n (n+m) w w':=by
 obtain ⟨i0,W,N,I,O⟩:=info_parts AO;rcases b.2 with ⟨rfl,h0⟩ | ⟨g,f,a5,rfl,hb,hg,X,a6,Y,K⟩
 ·obtain ⟨v',w',s,R,r,_⟩:=jG w ty base _ n xs b A m c ys L M H d;exact ⟨v',w',s,R,r,bV.grown r⟩
 ·by_cases Z:m=0
  ·have ad:ys=[]:=List.length_eq_zero_iff.1 Ha;subst ad;obtain ⟨v',w',s,R,r,_⟩:=jG w ty base _ n xs b A m c [] L M H d;have hw:w'=w:=by
    have e:(Builtin.append_ #[33,33] ty #[.slice (some ⟨g,0,none⟩) n f,.slice A m c]).run Tryz.prog w=.ok (.slice (some ⟨g,0,none⟩) n f) w:=by
     subst Z;cases A <;> simp [Builtin.append_,run_underlying Tryz.underlying33,sizeOf,typeInfo,W,Builtin.lenOf,Builtin.firstCells,X,storeCells,loadCells,loadCellsFrom]
    rw [s] at e;injection e
   subst hw;exact ⟨v',w',s,R,r,bV.grown (World.grownBy.refl _ _)⟩
  ·have hA:∃ a,A=some a:=by
    cases ys with
    | nil=>simp at M;omega
    | cons y l=>obtain ⟨a,e,_⟩:=L 0 y rfl;exact ⟨a,e⟩
   obtain ⟨a,rfl⟩:=hA;have h:∀ j u,(Is ys)[j]?=some u->w.cell? (a.add j)=some u:=fun j u hj=>by
    unfold Is at hj;rw [List.getElem?_map] at hj;obtain ⟨x,hx,rfl⟩:=Option.map_eq_some_iff.1 hj;obtain ⟨a',e,hc⟩:=L j x hx;injection e with e;subst e;exact hc
   by_cases an:n+m<=f
   ·obtain ⟨v',w',s,R,r,_⟩:=jG w ty base _ n xs b (some a) m c ys L M H d;have S:=jj (w:=w) (w':=w') 33 ty 3 i0 (.int .i64 0) 1 8 Tryz.underlying33 W N I O rfl Hd _ n _ (b.mono (Nat.zero_le _)) a m c (Is ys) (by rw [cy];omega) h (zh _) (by simp only [maxLen];omega) Ha s;refine ⟨v',w',s,R,r,⟨r.os,r.tape,r.output,r.size,fun q C t fr o=>?_,fun q C t fr o a7=>?_⟩⟩
    ·by_cases e:q=g
     ·subst e;rw [hg] at o;injection o with o;injection o with z e2 e3
      subst z;subst e2;subst e3;rcases S.2 with ⟨h',_⟩ | ⟨g',a4,T,h',_,a0,_,_,U,a1⟩
      ·cases h'
      ·injection h' with z e2 e3
       injection z with z;injection z with z
       subst z;subst e3;refine ⟨T,a0,by rw [U,Y],fun i W=>?_⟩;have h5:=congrArg (fun l=>l[i]?) (a1.trans K.symm);simp only [List.getElem?_take] at h5;rw [if_pos Ha,if_pos Ha,Array.getElem?_toList,Array.getElem?_toList] at h5;exact h5
     ·exact ⟨C,by rw [r.block q (ah o) (fun e'=>e (by injection e'))];exact o,rfl,fun _ _=>rfl⟩
    ·have e:q≠g:=fun e=>by
      subst e;rw [hg] at o;injection o with o;injection o with z _ _
      subst z;omega
     rw [r.block q (ah o) (fun e'=>e (by injection e'))];exact o
   ·have a2:=grownCap_ge w (n+m) f 3;have V:grownCap w (n+m) f 3<=maxLen:=grownCap_le_maxLen w (n+m) f _ (by simp only [maxLen];omega);have s:=run_append_grow (P:=Tryz.prog) w 33 ty 3 i0 (.int .i64 0) Tryz.underlying33 W N ⟨g,0,none⟩ n f (Is xs) (by rw [b.1,I]) (fun j u hj=>b.cells (g:=g) rfl _ _ hj) a m c (Is ys) (by rw [cy,I];omega) h Ha Ha
     (by rw [O];have:=nextslicecap_le (show f<n+m by omega);omega)
    have B:(Is (xs++ys)).length=(n+m)*1:=by have:=b.1;rw [cy] at this;rw [cy,List.length_append];omega
    have p:w.grownBy (w.drew.alloc (.cells ((Is xs).toArray++(Is ys).toArray++Builtin.zeroCells (Value.int .i64 0).cells (grownCap w (n+m) f 3-(n+m))) 3)) none:=⟨rfl,rfl,rfl,Hb,fun k hk _=>heap_alloc_old w.drew _ hk⟩
    refine ⟨_,_,s,⟨B,.inr ⟨w.heap.size,_,_,rfl,d,heap_alloc_new w.drew _,a2,V,?_,?_⟩⟩,⟨p.os,p.tape,p.output,p.size,fun k hk _=>p.block k hk Hb⟩,bV.grown p⟩
    ·have a3:=b.1;rw [cy] at a3;simp only [Array.size_append,List.size_toArray,size_zeroCells,cy,M];show xs.length+m+(_-(n+m))*1=_*1;omega
    ·simp only [Array.toList_append,List.append_assoc];rw [<- List.append_assoc,<- B,tw];exact List.take_left
theorem uZ (w:World) {o:Oper} {a:Act} {K:Act->World->Prop} {Q:Exit->Act->World->Prop} (s x:Operand)
 (l:o.op=.call { callee:=.builtin .append,args:=#[s,x],argTypes:=#[33,33] })
 (b:Nat) (v:Value) (n:Nat) (j:List Int) (p:a.eval s=v) (f:w.ownsRow b 3 1 v n (Is j)) (A:Option Addr) (m c:Nat) (g:List Int) (q:a.eval x=.slice A m c) (r:jF w A g) (t:g.length=m)
 (k:n+m<=1000000) (d:b<=w.heap.size)
 (h:∀ i e,e.ownsRow b 3 1 i (n+m) (Is (j++g))->w.grownBy e v.ownBlock->bV n (n+m) w e->K (a.put o.dst i) e):o.wp Tryz.prog a w K Q:=by
 obtain ⟨i,e,u,y,z,B⟩:=mA w o.type b v n j f A m c g r t k d;unfold Oper.wp execOp;simp only [l,resolve,invoke,builtin,Sem.run_bind,Sem.run_pure,Result.andThen_ok,List.map_toArray,List.map_cons,List.map_nil,p,q,u];exact h i e y z B
theorem wJ (w:World) {o:Oper} {a:Act} {K:Act->World->Prop} {Q:Exit->Act->World->Prop} (s x:Operand)
 (q:o.op=.call { callee:=.builtin .append,args:=#[s,x],argTypes:=#[33,33] })
 (b g:Nat) (r:a.eval s=.slice (some ⟨g,0,none⟩) 0 0) (t:b<=g) (p:w.heap[g]?=some (.cells #[] 3 (0,0))) (A:Option Addr) (m c:Nat) (l:List Int) (u:a.eval x=.slice A m c) (v:jF w A l) (y:l.length=m) (M:0<m)
 (z:m<=1000000) (d:b<=w.heap.size)
 (h:∀ n f,f.ownsRow b 3 1 n m (Is l)->w.grownBy f none->K (a.put o.dst n) f):o.wp Tryz.prog a w K Q:=by
 have i:w.ownsRow b 3 1 (.slice (some ⟨g,0,none⟩) 0 0) 0 (Is []):=⟨rfl,Or.inr ⟨g,0,#[],rfl,t,p,Nat.le_refl _,by simp only [maxLen];omega,rfl,rfl⟩⟩
 obtain ⟨n,f,B,C,j,H⟩:=mA w o.type b _ 0 [] i A m c l v y Ha d;unfold Oper.wp execOp;simp only [q,resolve,invoke,builtin,Sem.run_bind,Sem.run_pure,Result.andThen_ok,List.map_toArray,List.map_cons,List.map_nil,r,u,B];refine h n f (by simpa using C) ⟨j.os,j.tape,j.output,j.size,fun k I _=>?_⟩;by_cases e:k=g
 ·subst e;rw [p,H.small k #[] _ _ p (by show 0<0+m;omega)]
 ·exact j.block k I (fun L=>e (by injection L))
def DX (xs:List Int):Prop:=∀ x∈xs,i64 x
section
variable {H:Type} {enc:TypeId × Value->H} {w:World} {base:Nat} {spare:Nat->Bool} {held:Bool}
end
end Go.Proofs.YtegjelaejbacnaaGreat
