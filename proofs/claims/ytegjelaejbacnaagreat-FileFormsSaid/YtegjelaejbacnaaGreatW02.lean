/- For FileForms: contracts and facts, part 2. -/
import Derived.WalkKit
import Derived.Orders
import Derived.Deep.Onto
import Derived.Deep.Slices
import Derived.Test.YtegjelaejbacnaaGreatW01
set_option maxRecDepth 100000
set_option maxHeartbeats 25600000
set_option linter.unusedSimpArgs false
set_option linter.unusedVariables false
open Go Go.ChangeShapes Go.WideShapes Go.ChangeAt Go.RowKit Go.Deep
namespace Go.Proofs.YtegjelaejbacnaaGreat
def co (o:Oper) (T:Array Value):Value:=match o.dst with | some d=>T.getD d undef | none=>undef
def gq (ops:Array Oper) (T0 T:Array Value):Prop:=T.size=T0.size/\∀ s,(∀ o∈ops,o.dst≠some s)->T.getD s undef=T0.getD s undef
def Gn (n:Nat) (ops:Array Oper):Bool :=
 decide (0<ops.size) &&
 ((List.range ops.size).all fun i=>((ops[i]?).map fun o=>o.after.all fun e=>decide (e.on<i)||!Region.binds .any e).getD false) &&
 ((List.range (ops.size-1)).all fun j=>(List.range ops.size).any fun k=>decide (j<k)&&((ops[k]?).map fun o=>o.after.any fun e=>e.on==j&&Region.binds .any e).getD false) &&
 ((List.range ops.size).all fun i=>(List.range ops.size).all fun j=>i==j||(((ops[i]?).bind (·.dst)).isNone||((ops[i]?).bind (·.dst)) != ((ops[j]?).bind (·.dst)))) &&
 ((List.range ops.size).all fun i=>(((ops[i]?).bind (·.dst)).map fun d=>decide (d<n)).getD true)
section
variable {P:Program} {ops:Array Oper} {T0 T:Array Value} {D:List Deferred} {V:Nat->Value->World->Prop} {J:World->Prop} {S:World->World->Prop} {Q:Exit->Act->World->Prop}
def aA (P:Program) (ops:Array Oper) (T0:Array Value) (D:List Deferred) (V:Nat->Value->World->Prop) (J:World->Prop) (S:World->World->Prop) (Q:Exit->Act->World->Prop) (i:Nat) (o:Oper):Prop :=
 ∀ T w,gq ops T0 T->J w->(∀ e∈o.after,Region.binds .any e=true->∀ o',ops[e.on]?=some o'->V e.on (co o' T) w) ->
  if Region.wanted o (yielded ops T) then o.wp P ⟨T,D⟩ w (fun a' w'=>∃ v,a'=(⟨T,D⟩:Act).put o.dst v/\V i (match o.dst with | some _=>v | none=>undef) w'/\J w'/\S w w') Q else V i undef w
def jK (P:Program) (ops:Array Oper) (T0:Array Value) (D:List Deferred) (V:Nat->Value->World->Prop) (J:World->Prop) (Q:Exit->Act->World->Prop) (o:Oper):Prop :=
 ∀ T w,gq ops T0 T->J w->(∀ j o',j+1<ops.size->ops[j]?=some o'->V j (co o' T) w) ->
  if Region.wanted o (yielded ops T) then o.wp P ⟨T,D⟩ w (fun a' w'=>Q .normal a' w') Q else Q .normal ((⟨T,D⟩:Act).put o.dst undef) w
structure Kx (ops:Array Oper) (T0:Array Value) (D:List Deferred) (V:Nat->Value->World->Prop) (J:World->Prop) (listed:Array Bool) (a:Act) (w:World):Prop where
 size:listed.size=ops.size
 down:∀ i o,ops[i]?=some o->listed.getD i false=true->∀ e∈o.after,Region.binds .any e=true->listed.getD e.on false=true
 defers:a.defers=D
 frame:gq ops T0 a.tmps
 vals:∀ i o,ops[i]?=some o->listed.getD i false=true->V i (co o a.tmps) w
 world:J w
 last:listed.getD (ops.size-1) false=false
theorem py {n:Nat} (h:Gn n ops=true):0<ops.size/\(∀ (i:Nat) (o:Oper),ops[i]?=some o->∀ e∈o.after,Region.binds .any e=true->e.on<i)/\(∀ j,j+1<ops.size->∃ (k:Nat) (o:Oper),j<k/\ops[k]?=some o/\∃ e∈o.after,e.on=j/\Region.binds .any e=true) /\
 (∀ (i j:Nat) (o o':Oper),ops[i]?=some o->ops[j]?=some o'->i≠j->∀ d,o.dst=some d->o'.dst≠some d)/\(∀ (i:Nat) (o:Oper) (d:Nat),ops[i]?=some o->o.dst=some d->d<n):=by
 unfold Gn at h;simp only [Bool.and_eq_true,decide_eq_true_eq,List.all_eq_true,List.any_eq_true,List.mem_range] at h;obtain ⟨⟨⟨⟨h0,h1⟩,h2⟩,h3⟩,h4⟩:=h;have lt:∀ {i:Nat} {o:Oper},ops[i]?=some o->i<ops.size:=fun {i o} ho=>(Array.getElem?_eq_some_iff.1 ho).1;refine ⟨h0,fun i o ho e he hb=>?_,fun j hj=>?_,fun i j o o' ho ho' hij d hd=>?_,fun i o d ho hd=>?_⟩
 ·have:=h1 i (lt ho);rw [ho] at this;simp only [Option.map_some,Option.getD_some,Array.all_eq_true',Bool.or_eq_true,decide_eq_true_eq] at this;rcases this e he with h | h
  ·exact h
  ·rw [hb] at h;cases h
 ·obtain ⟨k,hk,hjk,hb⟩:=h2 j Ha;have hk':ops[k]?=some ops[k]:=Array.getElem?_eq_getElem hk;rw [hk'] at hb;simp only [Option.map_some,Option.getD_some,Array.any_eq_true',Bool.and_eq_true,beq_iff_eq] at hb;obtain ⟨e,he,h5,h6⟩:=hb;exact ⟨k,_,hjk,hk',e,he,h5,h6⟩
 ·have:=h3 i (lt ho) j (lt ho');rw [ho,ho'] at this;simp only [Option.bind_some,Bool.or_eq_true,beq_iff_eq,bne_iff_ne] at this;rcases this with h | h | h
  ·exact absurd h hij
  ·rw [hd] at h;cases h
  ·rw [hd] at h;exact fun e=>h e.symm
 ·have:=h4 i (lt ho);rw [ho] at this;simp only [Option.bind_some,hd,Option.map_some,Option.getD_some,decide_eq_true_eq] at this;exact this
theorem iz {o:Oper} {T:Array Value} {v:Value} (hd:∀ d,o.dst=some d->d<T.size):co o ((⟨T,D⟩:Act).put o.dst v).tmps=(match o.dst with | some _=>v | none=>undef):=by
 unfold co Act.put;cases h:o.dst with
 | none=>rfl
 | some d =>
   have:=hd d h;simp [Array.getD_eq_getD_getElem?,this]
theorem gR {o o':Oper} {T:Array Value} {v:Value} (hne:∀ d,o.dst=some d->o'.dst≠some d):co o' ((⟨T,D⟩:Act).put o.dst v).tmps=co o' T:=by
 unfold co Act.put;cases h:o.dst with
 | none=>rfl
 | some d =>
   cases h':o'.dst with
   | none=>rfl
   | some d' =>
     have:d≠d':=fun e=>hne d h (by rw [h',e]);simp [Array.getD_eq_getD_getElem?,Array.getElem?_setIfInBounds,this]
theorem nO {i:Nat} {o:Oper} {T:Array Value} {v:Value} (ho:ops[i]?=some o) (h:gq ops T0 T):gq ops T0 ((⟨T,D⟩:Act).put o.dst v).tmps:=by
 unfold Act.put;cases hd:o.dst with
 | none=>exact h
 | some d =>
   refine ⟨by simpa using h.1,fun s hs=>?_⟩;have hne:d≠s:=fun e=>hs o (Array.mem_of_getElem? ho) (by rw [hd,e]);rw [<- h.2 s hs];simp [Array.getD_eq_getD_getElem?,Array.getElem?_setIfInBounds,hne]
theorem ma {dst:Option Tmp} {T:Array Value} {v:Value}:((⟨T,D⟩:Act).put dst v).defers=D:=by unfold Act.put;split <;> rfl
theorem gS {listed:Array Bool} {i:Nat}:i∈Region.ready .any ops listed↔i<ops.size/\listed.getD i true=false/\∃ o,ops[i]?=some o/\∀ e∈o.after,Region.binds .any e=true->listed.getD e.on false=true:=by
 unfold Region.ready;rw [List.mem_filter,List.mem_range,Bool.and_eq_true];constructor
 ·rintro ⟨h1,h2,h3⟩;have hi:ops[i]?=some ops[i]:=Array.getElem?_eq_getElem h1;rw [hi] at h3;simp only [Option.map_some,Option.getD_some,Array.all_eq_true',Bool.or_eq_true] at h3;refine ⟨h1,by simpa using h2,_,hi,fun e he hb=>?_⟩;rcases h3 e he with h | h
  ·rw [hb] at h;cases h
  ·exact h
 ·rintro ⟨h1,h2,o,ho,h3⟩;refine ⟨h1,by simpa using h2,?_⟩;rw [ho];simp only [Option.map_some,Option.getD_some,Array.all_eq_true',Bool.or_eq_true];intro e he;cases hb:Region.binds .any e with
  | false=>exact Or.inl rfl
  | true=>exact Or.inr (h3 e he hb)
theorem bz {listed:Array Bool} {i j:Nat} (hi:i<listed.size):(listed.setIfInBounds i true).getD j false=(if i=j then true else listed.getD j false):=by
 by_cases e:i=j
 ·subst e;simp [Array.getD_eq_getD_getElem?,hi]
 ·simp [Array.getD_eq_getD_getElem?,Array.getElem?_setIfInBounds,e]
theorem j1 {listed:Array Bool} {i:Nat} (hi:i<listed.size):listed.getD i true=listed.getD i false:=by simp [Array.getD_eq_getD_getElem?,hi]
theorem mc {fuel:Nat} {listed:Array Bool} {a:Act} {w:World} (hs:listed.size=ops.size) (hall:∀ i,i<ops.size->listed.getD i false=true) (hQ:Q .normal a w):wpAny P .any ops Q fuel listed a w:=by
 have hr:Region.ready .any ops listed=[]:=by
  rw [List.eq_nil_iff_forall_not_mem];intro i hi;obtain ⟨h1,h2,_⟩:=gS.1 hi;rw [j1 Ha,hall i h1] at h2;cases h2
 cases fuel with
 | zero=>exact ⟨hr,hQ⟩
 | succ fuel=>exact ⟨fun _=>hQ,fun i hi=>by rw [hr] at hi;cases hi⟩
theorem Aw {n:Nat} {Si:Nat->World->World->Prop} (hB:Gn n ops=true) (hn:T0.size=n) (stab:∀ i j v w w',i≠j->V j v w->Si i w w'->V j v w')
 (steps:∀ i o,ops[i]?=some o->i+1<ops.size->aA P ops T0 D V J (Si i) Q i o) (hlast:∀ o,ops[ops.size-1]?=some o->jK P ops T0 D V J Q o) :
 ∀ (fuel:Nat) (listed:Array Bool) (a:Act) (w:World),Kx ops T0 D V J listed a w->(List.range ops.size).countP (fun i=>!listed.getD i false)<=fuel->wpAny P .any ops Q fuel listed a w:=by
 obtain ⟨h0,hup,hwait,hdst,hfr⟩:=py hB;intro fuel
 induction fuel with
 | zero =>
   intro listed a w hI hc;exfalso;have:0<(List.range ops.size).countP (fun i=>!listed.getD i false):=List.countP_pos_iff.2 ⟨ops.size-1,List.mem_range.2 Ha,by rw [hI.last];rfl⟩;omega
 | succ fuel ih =>
   intro listed a w hI hc;obtain ⟨T,D'⟩:=a;have hD:=hI.defers;dsimp only at hD;subst hD;refine ⟨fun hr=>?_,fun i hi=>?_⟩
   ·exfalso;have hex:∃ i,i<ops.size/\listed.getD i false=false:=⟨ops.size-1,Ha,hI.last⟩
    have hmin:∃ i,(i<ops.size/\listed.getD i false=false)/\∀ j,j<i->¬ (j<ops.size/\listed.getD j false=false):=by
     obtain ⟨i,hi⟩:=hex
     induction i using Nat.strongRecOn with
     | _ i ih =>
       by_cases hm:∃ j,j<i/\(j<ops.size/\listed.getD j false=false)
       ·obtain ⟨j,h1,h2⟩:=hm;exact ih j h1 h2
       ·exact ⟨i,hi,fun j hj h=>hm ⟨j,hj,h⟩⟩
    obtain ⟨i,⟨h1,h2⟩,h3⟩:=hmin;have hm:i∈Region.ready .any ops listed:=gS.2 ⟨h1,by rw [j1 (by rw [hI.size];exact h1)];exact h2,_,Array.getElem?_eq_getElem h1,fun e he hb=>by
     have h4:=hup i _ (Array.getElem?_eq_getElem h1) e he hb;cases h5:listed.getD e.on false with
     | true=>rfl
     | false=>exact absurd ⟨Ha,h5⟩ (h3 e.on h4)⟩
    rw [hr] at hm;cases hm
   ·obtain ⟨h1,h2,o,ho,h3⟩:=gS.1 hi;rw [j1 (by rw [hI.size];exact h1)] at h2;have hsz:i<listed.size:=by rw [hI.size];exact h1
    unfold wpOp;rw [ho];dsimp only;by_cases hl:i+1<ops.size
    ·have hst:=steps i o ho hl T w hI.frame hI.world (fun e he hb o' ho'=>hI.vals _ _ ho' (h3 e he hb));have next:∀ v w',V i (match o.dst with | some _=>v | none=>undef) w'->J w'->(∀ j v,i≠j->V j v w->V j v w')->wpAny P .any ops Q fuel (listed.setIfInBounds i true) ((⟨T,D'⟩:Act).put o.dst v) w':=by
      intro v w' hV hJ hS;refine ih _ _ _ ⟨by simpa using hI.size,fun j oj hoj hj e he hb=>?_,ma,nO ho hI.frame,fun j oj hoj hj=>?_,hJ,?_⟩ ?_
      ·rw [bz hsz] at hj ⊢;by_cases e1:i=e.on
       ·rw [if_pos e1]
       ·rw [if_neg e1];by_cases e2:i=j
        ·subst e2;rw [ho] at hoj;cases hoj;exact h3 e he hb
        ·rw [if_neg e2] at hj;exact hI.down j oj hoj hj e he hb
      ·rw [bz hsz] at hj;by_cases e2:i=j
       ·subst e2;rw [ho] at hoj;cases hoj;rw [iz (fun d hd=>by rw [hI.frame.1,hn];exact hfr i o d ho hd)];exact hV
       ·rw [if_neg e2] at hj;rw [gR (fun d hd=>hdst i j o oj ho hoj e2 d hd)];exact hS j _ e2 (hI.vals j oj hoj hj)
      ·rw [bz hsz,if_neg Ha];exact hI.last
      ·have:(List.range ops.size).countP (fun j=>!(listed.setIfInBounds i true).getD j false)<(List.range ops.size).countP (fun j=>!listed.getD j false):=by
        have key:∀ (l:List Nat),i∈l->l.Nodup->l.countP (fun j=>!(listed.setIfInBounds i true).getD j false)<l.countP (fun j=>!listed.getD j false):=by
         have le:∀ (l:List Nat),l.countP (fun j=>!(listed.setIfInBounds i true).getD j false)<=l.countP (fun j=>!listed.getD j false):=fun l =>
          List.countP_mono_left fun j _ hj=>by
           rw [bz hsz] at hj;by_cases e2:i=j
           ·rw [if_pos e2] at hj;cases hj
           ·rw [if_neg e2] at hj;exact hj
         intro l
         induction l with
         | nil=>intro h;cases h
         | cons x l ihl =>
           intro hm hnd;rw [List.countP_cons,List.countP_cons];by_cases e:x=i
           ·subst e;have e1:(!(listed.setIfInBounds x true).getD x false)=false:=by rw [bz hsz,if_pos rfl];rfl
            have e2:(!listed.getD x false)=true:=by rw [h2];rfl
            rw [e1,e2];have:=le l;simp only [Bool.false_eq_true,if_false,if_true];omega
           ·have hm':i∈l:=by
             rcases List.mem_cons.1 hm with h | h
             ·exact absurd h.symm e
             ·exact h
            have:=ihl hm' (List.nodup_cons.1 hnd).2;have e1:(listed.setIfInBounds i true).getD x false=listed.getD x false:=by rw [bz hsz,if_neg (fun h=>e h.symm)]
            rw [e1];omega
        exact key _ (List.mem_range.2 h1) List.nodup_range
       omega
     by_cases hw:Region.wanted o (yielded ops T)=true
     ·rw [if_pos hw] at hst ⊢;refine Or.inl (Oper.wp_mono (fun a' w'=>?_) hst);rintro ⟨v,rfl,hV,hJ,hS⟩;exact next v w' hV hJ (fun j v hij h=>stab i j v w w' hij h hS)
     ·rw [if_neg hw] at hst ⊢;refine next undef w ?_ hI.world (fun j v _ h=>h)
      cases o.dst <;> exact hst
    ·have hil:i=ops.size-1:=Ha;subst hil;have hall:∀ m j,j+m+1=ops.size->j+1<ops.size->listed.getD j false=true:=by
      intro m
      induction m using Nat.strongRecOn with
      | _ m ihm =>
        intro j hj hj1;obtain ⟨k,ok,hjk,hok,e,he,he1,hb⟩:=hwait j hj1;subst he1;by_cases hk:k+1<ops.size
        ·exact hI.down k ok hok (ihm (ops.size-1-k) Ha k Ha hk) e he hb
        ·have hkl:=(Array.getElem?_eq_some_iff.1 hok).1;have:k=ops.size-1:=Ha;subst this;rw [ho] at hok;cases hok;exact h3 e he hb
     have hst:=hlast o ho T w hI.frame hI.world (fun j o' hj hoj=>hI.vals j o' hoj (hall (ops.size-1-j) j Ha hj));have next:∀ a' w',Q .normal a' w'->wpAny P .any ops Q fuel (listed.setIfInBounds (ops.size-1) true) a' w':=fun a' w' hq =>
      mc (by simpa using hI.size) (fun j hj=>by
       rw [bz hsz];by_cases e:ops.size-1=j
       ·rw [if_pos e]
       ·rw [if_neg e];exact hall (ops.size-1-j) j Ha Ha) hq
     by_cases hw:Region.wanted o (yielded ops T)=true
     ·rw [if_pos hw] at hst ⊢;exact Or.inl (Oper.wp_mono next hst)
     ·rw [if_neg hw] at hst ⊢;exact next _ _ hst
theorem aA.of {i:Nat} {o:Oper} (hg:o.guard=none) (h:∀ T w,gq ops T0 T->J w->(∀ e∈o.after,Region.binds .any e=true->∀ o',ops[e.on]?=some o'->V e.on (co o' T) w) ->
 o.wp P ⟨T,D⟩ w (fun a' w'=>∃ v,a'=(⟨T,D⟩:Act).put o.dst v/\V i (match o.dst with | some _=>v | none=>undef) w'/\J w'/\S w w') Q):aA P ops T0 D V J S Q i o:=by
 intro T w h1 h2 h3;rw [if_pos (by unfold Region.wanted;rw [hg])];exact h T w h1 h2 h3
theorem jK.of {o:Oper} (hg:o.guard=none) (h:∀ T w,gq ops T0 T->J w->(∀ j o',j+1<ops.size->ops[j]?=some o'->V j (co o' T) w) ->
 o.wp P ⟨T,D⟩ w (fun a' w'=>Q .normal a' w') Q):jK P ops T0 D V J Q o:=by
 intro T w h1 h2 h3;rw [if_pos (by unfold Region.wanted;rw [hg])];exact h T w h1 h2 h3
theorem ae (h:gq ops T0 T) (s:Nat) (hs:ops.all (fun o=>o.dst != some s)=true):T.getD s undef=T0.getD s undef :=
 h.2 s (fun o ho=>by
  have:=Array.all_eq_true'.1 hs o ho;simpa using this)
theorem Hf {ops:Array Oper} {T0 T:Array Value} (h:gq ops T0 T) (s:Nat) (hs:ops.all (fun o=>o.dst != some s)=true:=by kernel_rfl):T.getD s undef=T0.getD s undef:=ae h s hs
theorem Hg {ops:Array Oper} {A:Array Edge} {V:Nat->Value->World->Prop} {T:Array Value} {w:World} (hd:∀ e∈A,Region.binds .any e=true->∀ o',ops[e.on]?=some o'->V e.on (co o' T) w) (i:Nat) {o':Oper} (h2:ops[i]?=some o') (h1:(⟨i,.data⟩:Edge)∈A:=by simp):V i (co o' T) w:=hd ⟨i,.data⟩ h1 rfl o' h2
theorem Hh {P:Prop} (h:P:=by clear hag hd;go_simp;first | exact ⟨_,rfl,rfl⟩ | exact ⟨_,rfl,rfl,ag _⟩ | exact ⟨_,rfl,rfl,hJ,ag _⟩):P:=h
theorem Hi {P:Prop} (h:P:=by clear hag hd;go_simp;exact ⟨_,rfl,rfl⟩):P:=h
theorem Hj {P:Prop} (h:P:=by clear hag hd;go_simp;first | exact ⟨_,rfl,rfl⟩ | exact ⟨_,rfl,rfl,hJ,srefl _ _⟩):P:=h
theorem Hk {P:Prop} (h:P:=by clear hag hd;go_simp;exact ⟨_,rfl⟩):P:=h
theorem sf (f:Nat->Value):∀ (ds:List Nat) (A:Array Value),(ds.foldl (fun A d=>A.setIfInBounds d (f d)) A).size=A.size
 | [],_=>rfl
 | d :: ds,A=>by rw [List.foldl_cons,sf f ds];simp
theorem zi (f:Nat->Value) (s:Nat):∀ (ds:List Nat) (A:Array Value),s<A.size->(ds.foldl (fun A d=>A.setIfInBounds d (f d)) A)[s]?=if s∈ds then some (f s) else A[s]?
 | [],_,_=>Hb
 | d :: ds,A,h=>by
   rw [List.foldl_cons,zi f s ds _ (by simpa using h)];by_cases e1:s∈ds
   ·rw [if_pos e1,if_pos (List.mem_cons_of_mem _ e1)]
   ·rw [if_neg e1,Array.getElem?_setIfInBounds];by_cases e2:d=s
    ·subst e2;rw [if_pos rfl,if_pos h,if_pos (List.mem_cons_self ..)]
    ·rw [if_neg e2,if_neg (fun hm=>by
      rcases List.mem_cons.1 hm with h | h
      ·exact e2 h.symm
      ·exact e1 h)]
theorem aH (h:gq ops T0 T):∃ f:Nat->Value,(∀ s,f s=T.getD s undef)/\T=(ops.toList.filterMap (fun o=>o.dst)).foldl (fun A d=>A.setIfInBounds d (f d)) T0:=by
 refine ⟨fun s=>T.getD s undef,fun _=>rfl,?_⟩;apply Array.ext
 ·rw [sf];exact h.1
 ·intro s h1 h2;have hs0:s<T0.size:=by rw [<- h.1];exact h1
  have key:=zi (fun s=>T.getD s undef) s (ops.toList.filterMap (fun o=>o.dst)) T0 hs0;have g1:T[s]?=some T[s]:=Array.getElem?_eq_getElem h1;rw [Array.getElem?_eq_getElem h2] at key;by_cases e:s∈ops.toList.filterMap (fun o=>o.dst)
  ·rw [if_pos e] at key;injection key with key
   rw [key];simp [Array.getD_eq_getD_getElem?,g1]
  ·rw [if_neg e,Array.getElem?_eq_getElem hs0] at key;injection key with key
   rw [key];have:=h.2 s (fun o ho hd=>e (List.mem_filterMap.2 ⟨o,by simpa using ho,hd⟩));simpa [Array.getD_eq_getD_getElem?,g1,hs0] using this
def bW (step:Nat->Oper->Prop) (last:Oper->Prop):Nat->List Oper->Prop
 | _,[]=>True
 | _,[o]=>last o
 | i,o :: rest=>step i o/\bW step last (i+1) rest
theorem bW.at_ {step:Nat->Oper->Prop} {last:Oper->Prop}:∀ {l:List Oper} {i:Nat},bW step last i l->(∀ j o,l[j]?=some o->j+1<l.length->step (i+j) o)/\(∀ o,l[l.length-1]?=some o->last o)
 | [],_,_=>⟨fun j o h=>(by simp at h),fun o h=>(by simp at h)⟩
 | [x],_,h=>⟨fun j o _ hj=>(by simp at hj),fun o ho=>(by simp at ho;subst ho;exact h)⟩
 | x :: y :: rest,i,h=>by
   have h2:=bW.at_ (l:=y :: rest) (i:=i+1) h.2;refine ⟨fun j o hj hl=>?_,fun o ho=>h2.2 o (by simpa using ho)⟩;cases j with
   | zero=>simp at hj;subst hj;exact h.1
   | succ j =>
     have:=h2.1 j o (by simpa using hj) (by simpa using hl)
     rwa [show i+1+j=i+(j+1) by omega] at this
theorem lN (n i:Nat):(Array.replicate n false).getD i false=false:=by
 rw [Array.getD_eq_getD_getElem?,Array.getElem?_replicate];split <;> rfl
theorem fR {id:Nat} {w:World} {l:List Oper} (V:Nat->Value->World->Prop) (J:World->Prop) (Si:Nat->World->World->Prop) (hm:P.follows .mixedOrders=true) (hB:Gn T0.size l.toArray=true) (stab:∀ i j v w w',i≠j->V j v w->Si i w w'->V j v w') (hJ:J w.drew)
 (h:bW (fun i o=>aA P l.toArray T0 D V J (Si i) Q i o) (jK P l.toArray T0 D V J Q) 0 l):(Code.region id l.toArray true).wp P Q ⟨T0,D⟩ w:=by
 obtain ⟨h1,h2⟩:=h.at_;refine wp_region_any hm (Aw hB rfl stab (fun i o ho hi=>?_) (fun o ho=>h2 o (by simpa using ho)) _ _ _ _ ⟨Hb,fun i o ho hl=>?_,rfl,⟨rfl,fun _ _=>rfl⟩,fun i o ho hl=>?_,hJ,?_⟩ ?_)
 ·have:=h1 i o (by simpa using ho) (by simpa using hi)
  rwa [Nat.zero_add] at this
 ·rw [lN] at hl;cases hl
 ·rw [lN] at hl;cases hl
 ·exact lN _ _
 ·exact Nat.le_trans List.countP_le_length Hb
theorem iI {id:Nat} {w:World} {l:List Oper} (V:Nat->Value->World->Prop) (J:World->Prop) (S:World->World->Prop) (hm:P.follows .mixedOrders=true) (hB:Gn T0.size l.toArray=true) (stab:∀ j v w w',V j v w->S w w'->V j v w') (hJ:J w.drew)
 (h:bW (aA P l.toArray T0 D V J S Q) (jK P l.toArray T0 D V J Q) 0 l):(Code.region id l.toArray true).wp P Q ⟨T0,D⟩ w :=
 fR V J (fun _=>S) hm hB (fun _ j v w w' _ h hs=>stab j v w w' h hs) hJ h
end
section
variable {P:Program} {ops:Array Oper} {T0 T:Array Value} {D:List Deferred} {V:Nat->Value->World->Prop} {J:(Nat->Bool)->World->Prop} {S:World->World->Prop} {Q:Exit->Act->World->Prop}
end
section
variable {P:Program} {ops:Array Oper} {T0 T:Array Value} {D:List Deferred} {V:Nat->Value->World->Prop} {J:(Nat->Bool)->World->Prop} {S:World->World->Prop} {Q:Exit->Act->World->Prop}
def aa (P:Program) (ops:Array Oper) (T0:Array Value) (D:List Deferred) (V:Nat->Value->World->Prop) (J:(Nat->Bool)->World->Prop) (S:World->World->Prop) (Q:Exit->Act->World->Prop) (i:Nat) (o:Oper):Prop :=
 ∀ T w (L:Nat->Bool),gq ops.pop T0 T->L i=false->J L w->(∀ e∈o.after,Region.binds .any e=true->L e.on=true)->(∀ e∈o.after,Region.binds .any e=true->∀ o',ops[e.on]?=some o'->V e.on (co o' T) w) ->
  if Region.wanted o (yielded ops T) then o.wp P ⟨T,D⟩ w (fun a' w'=>∃ v,a'=(⟨T,D⟩:Act).put o.dst v/\V i (match o.dst with | some _=>v | none=>undef) w'/\J (fun j=>if i=j then true else L j) w'/\S w w') Q else V i undef w/\J (fun j=>if i=j then true else L j) w
def bg (P:Program) (ops:Array Oper) (T0:Array Value) (D:List Deferred) (V:Nat->Value->World->Prop) (J:(Nat->Bool)->World->Prop) (Q:Exit->Act->World->Prop) (o:Oper):Prop :=
 ∀ T w (L:Nat->Bool),gq ops.pop T0 T->(∀ j,j+1<ops.size->L j=true)->L (ops.size-1)=false->J L w->(∀ j o',j+1<ops.size->ops[j]?=some o'->V j (co o' T) w) ->
  if Region.wanted o (yielded ops T) then o.wp P ⟨T,D⟩ w (fun a' w'=>Q .normal a' w') Q else Q .normal ((⟨T,D⟩:Act).put o.dst undef) w
structure Jk (ops:Array Oper) (T0:Array Value) (D:List Deferred) (V:Nat->Value->World->Prop) (J:(Nat->Bool)->World->Prop) (listed:Array Bool) (a:Act) (w:World):Prop where
 size:listed.size=ops.size
 down:∀ i o,ops[i]?=some o->listed.getD i false=true->∀ e∈o.after,Region.binds .any e=true->listed.getD e.on false=true
 defers:a.defers=D
 frame:gq ops.pop T0 a.tmps
 vals:∀ i o,ops[i]?=some o->listed.getD i false=true->V i (co o a.tmps) w
 world:J (fun i=>listed.getD i false) w
 last:listed.getD (ops.size-1) false=false
def sh (ops:Array Oper) (j i:Nat):Prop:=∀ o,ops[j]?=some o->∀ e∈o.after,Region.binds .any e=true->e.on≠i
def jv (ops:Array Oper) (j i:Nat):Bool:=((ops[j]?).map fun o=>o.after.all fun e=>!(Region.binds .any e)||e.on != i).getD true
theorem sh.b {ops:Array Oper} {j i:Nat} (h:sh ops j i):jv ops j i=true:=by
 unfold jv;cases ho:ops[j]? with
 | none=>rfl
 | some o =>
   simp only [Option.map_some,Option.getD_some,Array.all_eq_true',Bool.or_eq_true,Bool.not_eq_true',bne_iff_ne];intro e he;cases hb:Region.binds .any e with
   | false=>exact Or.inl rfl
   | true=>exact Or.inr (h o ho e he hb)
theorem xG {n:Nat} {Si:Nat->World->World->Prop} (hB:Gn n ops=true) (hn:T0.size=n) (stab:∀ i j v w w',i≠j->sh ops j i->V j v w->Si i w w'->V j v w')
 (steps:∀ i o,ops[i]?=some o->i+1<ops.size->aa P ops T0 D V J (Si i) Q i o) (hlast:∀ o,ops[ops.size-1]?=some o->bg P ops T0 D V J Q o) :
 ∀ (fuel:Nat) (listed:Array Bool) (a:Act) (w:World),Jk ops T0 D V J listed a w->(List.range ops.size).countP (fun i=>!listed.getD i false)<=fuel->wpAny P .any ops Q fuel listed a w:=by
 obtain ⟨h0,hup,hwait,hdst,hfr⟩:=py hB;intro fuel
 induction fuel with
 | zero =>
   intro listed a w hI hc;exfalso;have:0<(List.range ops.size).countP (fun i=>!listed.getD i false):=List.countP_pos_iff.2 ⟨ops.size-1,List.mem_range.2 Ha,by rw [hI.last];rfl⟩;omega
 | succ fuel ih =>
   intro listed a w hI hc;obtain ⟨T,D'⟩:=a;have hD:=hI.defers;dsimp only at hD;subst hD;refine ⟨fun hr=>?_,fun i hi=>?_⟩
   ·exfalso;have hex:∃ i,i<ops.size/\listed.getD i false=false:=⟨ops.size-1,Ha,hI.last⟩
    have hmin:∃ i,(i<ops.size/\listed.getD i false=false)/\∀ j,j<i->¬ (j<ops.size/\listed.getD j false=false):=by
     obtain ⟨i,hi⟩:=hex
     induction i using Nat.strongRecOn with
     | _ i ih =>
       by_cases hm:∃ j,j<i/\(j<ops.size/\listed.getD j false=false)
       ·obtain ⟨j,h1,h2⟩:=hm;exact ih j h1 h2
       ·exact ⟨i,hi,fun j hj h=>hm ⟨j,hj,h⟩⟩
    obtain ⟨i,⟨h1,h2⟩,h3⟩:=hmin;have hm:i∈Region.ready .any ops listed:=gS.2 ⟨h1,by rw [j1 (by rw [hI.size];exact h1)];exact h2,_,Array.getElem?_eq_getElem h1,fun e he hb=>by
     have h4:=hup i _ (Array.getElem?_eq_getElem h1) e he hb;cases h5:listed.getD e.on false with
     | true=>rfl
     | false=>exact absurd ⟨Ha,h5⟩ (h3 e.on h4)⟩
    rw [hr] at hm;cases hm
   ·obtain ⟨h1,h2,o,ho,h3⟩:=gS.1 hi;rw [j1 (by rw [hI.size];exact h1)] at h2;have hsz:i<listed.size:=by rw [hI.size];exact h1
    unfold wpOp;rw [ho];dsimp only;by_cases hl:i+1<ops.size
    ·have hst:=steps i o ho hl T w (fun j=>listed.getD j false) hI.frame h2 hI.world (fun e he hb=>h3 e he hb) (fun e he hb o' ho'=>hI.vals _ _ ho' (h3 e he hb));have next:∀ v w',V i (match o.dst with | some _=>v | none=>undef) w'->J (fun j=>if i=j then true else listed.getD j false) w'->(∀ j v,i≠j->sh ops j i->V j v w->V j v w')->wpAny P .any ops Q fuel (listed.setIfInBounds i true) ((⟨T,D'⟩:Act).put o.dst v) w':=by
      intro v w' hV hJ hS;refine ih _ _ _ ⟨by simpa using hI.size,fun j oj hoj hj e he hb=>?_,ma,nO (i:=i) (by rw [Array.getElem?_pop,if_pos Ha];exact ho) hI.frame,fun j oj hoj hj=>?_,?_,?_⟩ ?_
      ·rw [bz hsz] at hj ⊢;by_cases e1:i=e.on
       ·rw [if_pos e1]
       ·rw [if_neg e1];by_cases e2:i=j
        ·subst e2;rw [ho] at hoj;cases hoj;exact h3 e he hb
        ·rw [if_neg e2] at hj;exact hI.down j oj hoj hj e he hb
      ·rw [bz hsz] at hj;by_cases e2:i=j
       ·subst e2;rw [ho] at hoj;cases hoj;rw [iz (fun d hd=>by rw [hI.frame.1,hn];exact hfr i o d ho hd)];exact hV
       ·rw [if_neg e2] at hj;rw [gR (fun d hd=>hdst i j o oj ho hoj e2 d hd)];exact hS j _ e2 (fun o' ho' e he hb hei=>by
         rw [hoj] at ho';injection ho' with ho';subst ho'
         have:=hI.down j oj hoj hj e he hb;rw [hei,h2] at this;cases this) (hI.vals j oj hoj hj)
      ·have e9:(fun j=>(listed.setIfInBounds i true).getD j false)=(fun j=>if i=j then true else listed.getD j false):=funext fun j=>bz hsz;rw [e9];exact hJ
      ·rw [bz hsz,if_neg Ha];exact hI.last
      ·have:(List.range ops.size).countP (fun j=>!(listed.setIfInBounds i true).getD j false)<(List.range ops.size).countP (fun j=>!listed.getD j false):=by
        have key:∀ (l:List Nat),i∈l->l.Nodup->l.countP (fun j=>!(listed.setIfInBounds i true).getD j false)<l.countP (fun j=>!listed.getD j false):=by
         have le:∀ (l:List Nat),l.countP (fun j=>!(listed.setIfInBounds i true).getD j false)<=l.countP (fun j=>!listed.getD j false):=fun l =>
          List.countP_mono_left fun j _ hj=>by
           rw [bz hsz] at hj;by_cases e2:i=j
           ·rw [if_pos e2] at hj;cases hj
           ·rw [if_neg e2] at hj;exact hj
         intro l
         induction l with
         | nil=>intro h;cases h
         | cons x l ihl =>
           intro hm hnd;rw [List.countP_cons,List.countP_cons];by_cases e:x=i
           ·subst e;have e1:(!(listed.setIfInBounds x true).getD x false)=false:=by rw [bz hsz,if_pos rfl];rfl
            have e2:(!listed.getD x false)=true:=by rw [h2];rfl
            rw [e1,e2];have:=le l;simp only [Bool.false_eq_true,if_false,if_true];omega
           ·have hm':i∈l:=by
             rcases List.mem_cons.1 hm with h | h
             ·exact absurd h.symm e
             ·exact h
            have:=ihl hm' (List.nodup_cons.1 hnd).2;have e1:(listed.setIfInBounds i true).getD x false=listed.getD x false:=by rw [bz hsz,if_neg (fun h=>e h.symm)]
            rw [e1];omega
        exact key _ (List.mem_range.2 h1) List.nodup_range
       omega
     by_cases hw:Region.wanted o (yielded ops T)=true
     ·rw [if_pos hw] at hst ⊢;refine Or.inl (Oper.wp_mono (fun a' w'=>?_) hst);rintro ⟨v,rfl,hV,hJ,hS⟩;exact next v w' hV hJ (fun j v hij hd h=>stab i j v w w' hij hd h hS)
     ·rw [if_neg hw] at hst ⊢;refine next undef w ?_ hst.2 (fun j v _ _ h=>h)
      cases o.dst <;> exact hst.1
    ·have hil:i=ops.size-1:=Ha;subst hil;have hall:∀ m j,j+m+1=ops.size->j+1<ops.size->listed.getD j false=true:=by
      intro m
      induction m using Nat.strongRecOn with
      | _ m ihm =>
        intro j hj hj1;obtain ⟨k,ok,hjk,hok,e,he,he1,hb⟩:=hwait j hj1;subst he1;by_cases hk:k+1<ops.size
        ·exact hI.down k ok hok (ihm (ops.size-1-k) Ha k Ha hk) e he hb
        ·have hkl:=(Array.getElem?_eq_some_iff.1 hok).1;have:k=ops.size-1:=Ha;subst this;rw [ho] at hok;cases hok;exact h3 e he hb
     have hst:=hlast o ho T w (fun j=>listed.getD j false) hI.frame (fun j hj=>hall (ops.size-1-j) j Ha hj) hI.last hI.world (fun j o' hj hoj=>hI.vals j o' hoj (hall (ops.size-1-j) j Ha hj));have next:∀ a' w',Q .normal a' w'->wpAny P .any ops Q fuel (listed.setIfInBounds (ops.size-1) true) a' w':=fun a' w' hq =>
      mc (by simpa using hI.size) (fun j hj=>by
       rw [bz hsz];by_cases e:ops.size-1=j
       ·rw [if_pos e]
       ·rw [if_neg e];exact hall (ops.size-1-j) j Ha Ha) hq
     by_cases hw:Region.wanted o (yielded ops T)=true
     ·rw [if_pos hw] at hst ⊢;exact Or.inl (Oper.wp_mono next hst)
     ·rw [if_neg hw] at hst ⊢;exact next _ _ hst
theorem aa.of {i:Nat} {o:Oper} (hg:o.guard=none) (h:∀ T w (L:Nat->Bool),gq ops.pop T0 T->L i=false->J L w->(∀ e∈o.after,Region.binds .any e=true->L e.on=true)->(∀ e∈o.after,Region.binds .any e=true->∀ o',ops[e.on]?=some o'->V e.on (co o' T) w) ->
 o.wp P ⟨T,D⟩ w (fun a' w'=>∃ v,a'=(⟨T,D⟩:Act).put o.dst v/\V i (match o.dst with | some _=>v | none=>undef) w'/\J (fun j=>if i=j then true else L j) w'/\S w w') Q):aa P ops T0 D V J S Q i o:=by
 intro T w L h1 h2 h3 h4 h5;rw [if_pos (by unfold Region.wanted;rw [hg])];exact h T w L h1 h2 h3 h4 h5
theorem aa.want {i:Nat} {o:Oper} {g:Nat} {b:Bool} {og:Oper} {d:Nat} (hg:o.guard=some (g,b)) (hog:ops[g]?=some og) (hd:og.dst=some d) (hin:o.after.any (fun e=>e.on==g&&Region.binds .any e)=true) (hv:∀ v w,V g v w->v=.bool b) (h:∀ T w (L:Nat->Bool),gq ops.pop T0 T->L i=false->J L w->(∀ e∈o.after,Region.binds .any e=true->L e.on=true)->(∀ e∈o.after,Region.binds .any e=true->∀ o',ops[e.on]?=some o'->V e.on (co o' T) w) ->
 o.wp P ⟨T,D⟩ w (fun a' w'=>∃ v,a'=(⟨T,D⟩:Act).put o.dst v/\V i (match o.dst with | some _=>v | none=>undef) w'/\J (fun j=>if i=j then true else L j) w'/\S w w') Q):aa P ops T0 D V J S Q i o:=by
 intro T w L h1 h2 h3 h4 h5;have hw:Region.wanted o (yielded ops T)=true:=by
  simp only [Array.any_eq_true',Bool.and_eq_true,beq_iff_eq] at hin;obtain ⟨e,he,e1,e2⟩:=hin;subst e1;have:=hv _ _ (h5 e he e2 og hog);unfold co at this;rw [hd] at this;have hT:T[d]?=some (.bool b):=by
   simp only at this;rw [Array.getD_eq_getD_getElem?] at this;cases hx:T[d]? with
   | none=>rw [hx] at this;cases this
   | some x=>rw [hx] at this;rw [show x=_ from this]
  unfold Region.wanted yielded;rw [hg];simp [hog,hd,hT]
 rw [if_pos hw];exact h T w L h1 h2 h3 h4 h5
theorem bg.of {o:Oper} (hg:o.guard=none) (h:∀ T w (L:Nat->Bool),gq ops.pop T0 T->(∀ j,j+1<ops.size->L j=true)->L (ops.size-1)=false->J L w->(∀ j o',j+1<ops.size->ops[j]?=some o'->V j (co o' T) w) ->
 o.wp P ⟨T,D⟩ w (fun a' w'=>Q .normal a' w') Q):bg P ops T0 D V J Q o:=by
 intro T w L h1 h2 h3 h4 h5;rw [if_pos (by unfold Region.wanted;rw [hg])];exact h T w L h1 h2 h3 h4 h5
theorem aw {id:Nat} {w:World} {l:List Oper} (V:Nat->Value->World->Prop) (J:(Nat->Bool)->World->Prop) (Si:Nat->World->World->Prop) (hm:P.follows .mixedOrders=true) (hB:Gn T0.size l.toArray=true) (stab:∀ i j v w w',i≠j->jv l.toArray j i=true->V j v w->Si i w w'->V j v w') (hJ:J (fun _=>false) w.drew)
 (h:bW (fun i o=>aa P l.toArray T0 D V J (Si i) Q i o) (bg P l.toArray T0 D V J Q) 0 l):(Code.region id l.toArray true).wp P Q ⟨T0,D⟩ w:=by
 obtain ⟨h1,h2⟩:=h.at_;have e9:(fun i=>(Array.replicate l.toArray.size false).getD i false)=(fun _=>false):=funext fun i=>lN _ _;refine wp_region_any hm (xG hB rfl (fun i j v w w' hij hd=>stab i j v w w' hij hd.b) (fun i o ho hi=>?_) (fun o ho=>h2 o (by simpa using ho)) _ _ _ _ ⟨Hb,fun i o ho hl=>?_,rfl,⟨rfl,fun _ _=>rfl⟩,fun i o ho hl=>?_,by rw [e9];exact hJ,?_⟩ ?_)
 ·have:=h1 i o (by simpa using ho) (by simpa using hi)
  rwa [Nat.zero_add] at this
 ·rw [lN] at hl;cases hl
 ·rw [lN] at hl;cases hl
 ·exact lN _ _
 ·exact Nat.le_trans List.countP_le_length Hb
end
theorem aa.skip {P:Program} {ops:Array Oper} {T0:Array Value} {D:List Deferred} {V:Nat->Value->World->Prop} {J:(Nat->Bool)->World->Prop} {S:World->World->Prop} {Q:Exit->Act->World->Prop} {i:Nat} {o:Oper} {g:Nat} {b:Bool} {og:Oper} {d:Nat} (hg:o.guard=some (g,b)) (hog:ops[g]?=some og) (hd:og.dst=some d) (hin:o.after.any (fun e=>e.on==g&&Region.binds .any e)=true) (hv:∀ v w,V g v w->v=.bool (!b)) (hV:∀ w,V i undef w) (hJ:∀ L w,J L w->J (fun j=>if i=j then true else L j) w):aa P ops T0 D V J S Q i o:=by
 intro T w L h1 h2 h3 h4 h5;have hw:¬ Region.wanted o (yielded ops T)=true:=by
  simp only [Array.any_eq_true',Bool.and_eq_true,beq_iff_eq] at hin;obtain ⟨e,he,e1,e2⟩:=hin;subst e1;have:=hv _ _ (h5 e he e2 og hog);unfold co at this;rw [hd] at this;have hT:T[d]?=some (.bool (!b)):=by
   simp only at this;rw [Array.getD_eq_getD_getElem?] at this;cases hx:T[d]? with
   | none=>rw [hx] at this;cases this
   | some x=>rw [hx] at this;rw [show x=_ from this]
  unfold Region.wanted yielded;rw [hg];cases b <;> simp [hog,hd,hT]
 rw [if_neg hw];exact ⟨hV w,hJ L w h3⟩
structure bR (n k:Nat) (w w':World):Prop where
 os:w'.os=w.os
 tape:w'.tape=w.tape
 output:w'.output=w.output
 size:w.heap.size<=w'.heap.size
 first:∀ (g:Nat) (C:Array Value) (t:TypeId) (fr:Nat × Nat),w.heap[g]?=some (.cells C t fr)->∃ C':Array Value,w'.heap[g]?=some (.cells C' t fr)/\C'.size=C.size/\∀ i,i<n->C'[i]?=C[i]?
 small:∀ (g:Nat) (C:Array Value) (t:TypeId) (fr:Nat × Nat),w.heap[g]?=some (.cells C t fr)->C.size<k->w'.heap[g]?=some (.cells C t fr)
theorem bR.grown {n k:Nat} {w w':World} (h:w.grownBy w' none):bR n k w w' :=
 ⟨h.os,h.tape,h.output,h.size,fun g C t fr hg=>⟨C,by rw [h.block g (ai hg) Hb];exact hg,rfl,fun _ _=>rfl⟩,fun g C t fr hg _=>by rw [h.block g (ai hg) Hb];exact hg⟩
theorem aC.keep {n k:Nat} {w w':World} {base:Nat} {v:Value} {xs:List Int} (h:aC w base v xs) (hk:bR n k w w') (hl:xs.length<k):aC w' base v xs:=by
 obtain ⟨q,C,rfl,hb,hq,hc⟩:=h;exact ⟨q,C,rfl,hb,hk.small q C _ _ hq (by rw [aC.size hc];exact hl),hc⟩
theorem ic {n k m:Nat} {w w':World} {base:Nat} {t:TypeId} {v:Value} {xs:List Value} (h:w.ownsRow base t 1 v m xs) (hk:bR n k w w') (hl:m<=n):w'.ownsRow base t 1 v m xs:=by
 refine ⟨h.1,?_⟩;rcases h.2 with h0 | ⟨g,cap,cur,e,hb,hg,hnc,hm,hs,ht⟩
 ·exact Or.inl h0
 ·obtain ⟨C',h1,h2,h3⟩:=hk.first g cur t _ hg
  refine Or.inr ⟨g,cap,C',e,hb,h1,hnc,hm,by rw [h2];exact hs,?_⟩;rw [<- ht];apply List.ext_getElem?;intro i;rw [List.getElem?_take,List.getElem?_take];split
  ·rw [Array.getElem?_toList,Array.getElem?_toList];exact h3 i Ha
  ·rfl
theorem mL (w:World) (ty:TypeId) (base:Nat) (v:Value) (n:Nat) (xs:List Int) (hown:w.ownsRow base 5 1 v n (Bs xs)) (A:Option Addr) (m c:Nat) (ys:List Int) (hy:dD w A ys) (hm:ys.length=m)
 (h63:n+m<=1000000) (hbase:base<=w.heap.size) :
 ∃ v' w',(Builtin.append_ #[22,22] ty #[v,.slice A m c]).run Tryz.prog w=.ok v' w'/\w'.ownsRow base 5 1 v' (n+m) (Bs (xs++ys))/\w.grownBy w' v.ownBlock/\bR n (n+m) w w':=by
 obtain ⟨i0,hi,hz0,hz1,hz2⟩:=info_parts iT;rcases hown.2 with ⟨rfl,h0⟩ | ⟨g,cap,cur,rfl,hb,hg,hnc,hcm,hcs,htake⟩
 ·obtain ⟨v',w',hr,h2,h3,_⟩:=ia w ty base _ n xs hown A m c ys hy hm h63 hbase;exact ⟨v',w',hr,h2,h3,bR.grown h3⟩
 ·by_cases hm0:m=0
  ·have hys:ys=[]:=List.length_eq_zero_iff.1 Ha;subst hys;obtain ⟨v',w',hr,h2,h3,_⟩:=ia w ty base _ n xs hown A m c [] hy hm h63 hbase;have hw:w'=w:=by
    have e:(Builtin.append_ #[22,22] ty #[.slice (some ⟨g,0,none⟩) n cap,.slice A m c]).run Tryz.prog w=.ok (.slice (some ⟨g,0,none⟩) n cap) w:=by
     subst hm0;cases A <;> simp [Builtin.append_,run_underlying Tryz.underlying22,sizeOf,typeInfo,hi,Builtin.lenOf,Builtin.firstCells,hnc,storeCells,loadCells,loadCellsFrom]
    rw [hr] at e;injection e
   subst hw;exact ⟨v',w',hr,h2,h3,bR.grown (World.grownBy.refl _ _)⟩
  ·have hA:∃ a,A=some a:=by
    cases ys with
    | nil=>simp at hm;omega
    | cons y l=>obtain ⟨a,e,_⟩:=hy 0 y rfl;exact ⟨a,e⟩
   obtain ⟨a,rfl⟩:=hA;have hcells:∀ j u,(Bs ys)[j]?=some u->w.cell? (a.add j)=some u:=fun j u hj=>by
    unfold Bs at hj;rw [List.getElem?_map] at hj;obtain ⟨x,hx,rfl⟩:=Option.map_eq_some_iff.1 hj;obtain ⟨a',e,hc⟩:=hy j x hx;injection e with e;subst e;exact hc
   by_cases hroom:n+m<=cap
   ·obtain ⟨v',w',hr,h2,h3,_⟩:=ia w ty base _ n xs hown (some a) m c ys hy hm h63 hbase;have hold:=iV (w:=w) (w':=w') 22 ty 5 i0 (.int .u8 0) 1 1 Tryz.underlying22 hi hz0 hz1 hz2 rfl Hd _ n _ (hown.mono (Nat.zero_le _)) a m c (Bs ys) (by rw [ar];omega) hcells (gQ _) (by simp only [maxLen];omega) Ha hr;refine ⟨v',w',hr,h2,h3,⟨h3.os,h3.tape,h3.output,h3.size,fun q C t fr hq=>?_,fun q C t fr hq hsm=>?_⟩⟩
    ·by_cases e:q=g
     ·subst e;rw [hg] at hq;injection hq with hq;injection hq with e1 e2 e3
      subst e1;subst e2;subst e3;rcases hold.2 with ⟨h',_⟩ | ⟨g',cap',cur',h',_,hg',_,_,hcs',ht'⟩
      ·cases h'
      ·injection h' with e1 e2 e3
       injection e1 with e1;injection e1 with e1
       subst e1;subst e3;refine ⟨cur',hg',by rw [hcs',hcs],fun i hi=>?_⟩;have h5:=congrArg (fun l=>l[i]?) (ht'.trans htake.symm);simp only [List.getElem?_take] at h5;rw [if_pos Ha,if_pos Ha,Array.getElem?_toList,Array.getElem?_toList] at h5;exact h5
     ·exact ⟨C,by rw [h3.block q (ai hq) (fun e'=>e (by injection e'))];exact hq,rfl,fun _ _=>rfl⟩
    ·have e:q≠g:=fun e=>by
      subst e;rw [hg] at hq;injection hq with hq;injection hq with e1 _ _
      subst e1;omega
     rw [h3.block q (ai hq) (fun e'=>e (by injection e'))];exact hq
   ·have hge:=grownCap_ge w (n+m) cap 5;have hcm2:grownCap w (n+m) cap 5<=maxLen:=grownCap_le_maxLen w (n+m) cap _ (by simp only [maxLen];omega);have hr:=run_append_grow (P:=Tryz.prog) w 22 ty 5 i0 (.int .u8 0) Tryz.underlying22 hi hz0 ⟨g,0,none⟩ n cap (Bs xs) (by rw [hown.1,hz1]) (fun j u hj=>hown.cells (g:=g) rfl _ _ hj) a m c (Bs ys) (by rw [ar,hz1];omega) hcells Ha Ha
     (by rw [hz2];have:=nextslicecap_le (show cap<n+m by omega);omega)
    have hlen:(Bs (xs++ys)).length=(n+m)*1:=by have:=hown.1;rw [ar] at this;rw [ar,List.length_append];omega
    have hgn:w.grownBy (w.drew.alloc (.cells ((Bs xs).toArray++(Bs ys).toArray++Builtin.zeroCells (Value.int .u8 0).cells (grownCap w (n+m) cap 5-(n+m))) 5)) none:=⟨rfl,rfl,rfl,Hb,fun k hk _=>heap_alloc_old w.drew _ hk⟩
    refine ⟨_,_,hr,⟨hlen,.inr ⟨w.heap.size,_,_,rfl,hbase,heap_alloc_new w.drew _,hge,hcm2,?_,?_⟩⟩,⟨hgn.os,hgn.tape,hgn.output,hgn.size,fun k hk _=>hgn.block k hk Hb⟩,bR.grown hgn⟩
    ·have hxl:=hown.1;rw [ar] at hxl;simp only [Array.size_append,List.size_toArray,size_zeroCells,ar,hm];show xs.length+m+(_-(n+m))*1=_*1;omega
    ·simp only [Array.toList_append,List.append_assoc];rw [<- List.append_assoc,<- hlen,iP];exact List.take_left
theorem gg (w:World) {o:Oper} {a:Act} {K:Act->World->Prop} {Q:Exit->Act->World->Prop} (s x:Operand)
 (ho:o.op=.call { callee:=.builtin .append,args:=#[s,x],argTypes:=#[22,22] })
 (base:Nat) (v:Value) (n:Nat) (xs:List Int) (hs:a.eval s=v) (hown:w.ownsRow base 5 1 v n (Bs xs)) (A:Option Addr) (m c:Nat) (ys:List Int) (hx:a.eval x=.slice A m c) (hy:dD w A ys) (hm:ys.length=m)
 (h63:n+m<=1000000) (hbase:base<=w.heap.size)
 (h:∀ v' w',w'.ownsRow base 5 1 v' (n+m) (Bs (xs++ys))->w.grownBy w' v.ownBlock->bR n (n+m) w w'->K (a.put o.dst v') w'):o.wp Tryz.prog a w K Q:=by
 obtain ⟨v',w',hr,h2,h3,h4⟩:=mL w o.type base v n xs hown A m c ys hy hm h63 hbase;unfold Oper.wp execOp;simp only [ho,resolve,invoke,builtin,Sem.run_bind,Sem.run_pure,Result.andThen_ok,List.map_toArray,List.map_cons,List.map_nil,hs,hx,hr];exact h v' w' h2 h3 h4
theorem rG (w:World) (ty:TypeId) (base:Nat) (v:Value) (xs:List Int) (hf:aC w base v xs) (A:Option Addr) (m c:Nat) (ys:List Int) (hy:dD w A ys) (hm:ys.length=m) (h0:0<m)
 (h63:xs.length+m<=1000000) (hbase:base<=w.heap.size) :
 ∃ v' w',(Builtin.append_ #[22,22] ty #[v,.slice A m c]).run Tryz.prog w=.ok v' w'/\w'.ownsRow base 5 1 v' (xs.length+m) (Bs (xs++ys))/\w.grownBy w' none:=by
 have hown:=hf.own (by simp only [maxLen];omega);obtain ⟨q,C,rfl,hb,hq,hc⟩:=hf;obtain ⟨v',w',hr,h2,h3,h4⟩:=mL w ty base _ _ xs hown A m c ys hy hm h63 hbase;refine ⟨v',w',hr,h2,⟨h3.os,h3.tape,h3.output,h3.size,fun k hk _=>?_⟩⟩;by_cases e:k=q
 ·subst e;rw [hq,h4.small k C _ _ hq (by rw [aC.size hc];omega)]
 ·exact h3.block k hk (fun e'=>e (by injection e'))
theorem mM (w:World) {o:Oper} {a:Act} {K:Act->World->Prop} {Q:Exit->Act->World->Prop} (s x:Operand)
 (ho:o.op=.call { callee:=.builtin .append,args:=#[s,x],argTypes:=#[22,22] })
 (base:Nat) (v:Value) (xs:List Int) (hs:a.eval s=v) (hf:aC w base v xs) (A:Option Addr) (m c:Nat) (ys:List Int) (hx:a.eval x=.slice A m c) (hy:dD w A ys) (hm:ys.length=m) (h0:0<m)
 (h63:xs.length+m<=1000000) (hbase:base<=w.heap.size)
 (h:∀ v' w',w'.ownsRow base 5 1 v' (xs.length+m) (Bs (xs++ys))->w.grownBy w' none->K (a.put o.dst v') w'):o.wp Tryz.prog a w K Q:=by
 obtain ⟨v',w',hr,h2,h3⟩:=rG w o.type base v xs hf A m c ys hy hm h0 h63 hbase;unfold Oper.wp execOp;simp only [ho,resolve,invoke,builtin,Sem.run_bind,Sem.run_pure,Result.andThen_ok,List.map_toArray,List.map_cons,List.map_nil,hs,hx,hr];exact h v' w' h2 h3
def Is (xs:List Int):List Value:=xs.map (.int .i64)
def jf (w:World) (A:Option Addr) (xs:List Int):Prop:=∀ i x,xs[i]?=some x->∃ a,A=some a/\w.cell? (a.add i)=some (.int .i64 x)
theorem uX {xs:List Int} {i:Nat} {x:Int} (h:xs[i]?=some x):(Is xs)[i]?=some (.int .i64 x):=by unfold Is;rw [List.getElem?_map,h];rfl
theorem ce (xs:List Int):(Is xs).length=xs.length:=by unfold Is;simp
theorem jf.keep {w w':World} {A:Option Addr} {xs:List Int} (h:jf w A xs) (hb:Below w.heap.size w w'):jf w' A xs:=fun i x hi =>
 let ⟨a,e,hs⟩:=h i x hi;⟨a,e,cF hb hs⟩
theorem jf.alloc {w:World} {A:Option Addr} {xs:List Int} (h:jf w A xs) (o:Obj):jf (w.alloc o) A xs:=fun i x hi =>
 let ⟨a,e,hs⟩:=h i x hi;⟨a,e,Gm hs o⟩
theorem zj {W:World} {r:Nat} {C:Array Value} {t:TypeId} {fr:Nat × Nat} {bs:List Int} (h:W.heap[r]?=some (.cells C t fr)) (hc:C.toList=Is bs):jf W (some ⟨r,0,none⟩) bs:=by
 intro i x hi;refine ⟨_,rfl,?_⟩;rw [fP,cell_of_row _ _ _ _ _ _ h,<- Array.getElem?_toList,hc];exact uX hi
theorem j3 {W:World} {B:Nat} {t:TypeId} {sv:Value} {n:Nat} {bs:List Int} (h:W.ownsRow B t 1 sv n (Is bs)) (hn:bs.length=n) :
 ∃ A d,sv=.slice A bs.length d/\bs.length<=d/\d<=9223372036854775807/\jf W A bs:=by
 subst hn;rcases h.2 with ⟨rfl,h0⟩ | ⟨g,cap,cur,rfl,hb,hg,hn',hm,hs,ht⟩
 ·refine ⟨none,0,by rw [h0],Ha,Ha,fun i s hi=>?_⟩;rw [List.length_eq_zero_iff.1 h0] at hi;cases hi
 ·refine ⟨some ⟨g,0,none⟩,cap,rfl,hn',by simp only [maxLen] at hm;omega,fun i s hi=>⟨_,rfl,?_⟩⟩;exact h.cells (g:=g) rfl _ _ (uX hi)
theorem zk:(Tryz.prog.info? 3).map (fun i=>(i.zero,i.size,i.bytes))=some (some (.int .i64 0),1,8):=Hc
theorem xH (l:List Int):∀ u∈Is l,u.oneCell'=true:=by
 intro u hu;unfold Is at hu;obtain ⟨x,_,rfl⟩:=List.mem_map.1 hu;rfl
theorem si (l m:List Int):Is (l++m)=Is l++Is m:=List.map_append
theorem jg (w:World) (ty:TypeId) (base:Nat) (v:Value) (n:Nat) (xs:List Int) (hown:w.ownsRow base 3 1 v n (Is xs)) (A:Option Addr) (m c:Nat) (ys:List Int) (hy:jf w A ys) (hm:ys.length=m)
 (h63:n+m<=1000000) (hbase:base<=w.heap.size) :
 ∃ v' w',(Builtin.append_ #[33,33] ty #[v,.slice A m c]).run Tryz.prog w=.ok v' w'/\w'.ownsRow base 3 1 v' (n+m) (Is (xs++ys))/\w.grownBy w' v.ownBlock /\
  (v'.ownBlock=v.ownBlock\/v'.ownBlock=some w.heap.size):=by
 obtain ⟨i0,hi,hz0,hz1,hz2⟩:=info_parts zk;rcases A with _ | a
 ·have hys:ys=[]:=by
   cases ys with
   | nil=>rfl
   | cons y l=>obtain ⟨a,e,_⟩:=hy 0 y rfl;cases e
  subst hys;subst hm;refine ⟨v,w,?_,by simpa using hown,World.grownBy.refl w _,.inl rfl⟩;rcases hown.2 with ⟨rfl,rfl⟩ | ⟨g,cap,cur,rfl,_,_,hnc,_⟩
  ·simp [Builtin.append_,run_underlying Tryz.underlying33,sizeOf,typeInfo,hi,Builtin.lenOf,Builtin.firstCells]
  ·simp [Builtin.append_,run_underlying Tryz.underlying33,sizeOf,typeInfo,hi,Builtin.lenOf,Builtin.firstCells,hnc,storeCells]
 ·obtain ⟨v',w',hr,h2,h3,h4,h5⟩:=run_append_own_at (P:=Tryz.prog) w base 33 ty 3 i0 (.int .i64 0) 1 8 Tryz.underlying33 hi hz0 hz1 hz2 rfl Hd v n _ hown a m c (Is ys) (by rw [ce];omega)
   (fun j u hj=>by
     unfold Is at hj;rw [List.getElem?_map] at hj;obtain ⟨x,hx,rfl⟩:=Option.map_eq_some_iff.1 hj;obtain ⟨a',e,hc⟩:=hy j x hx;injection e with e;subst e;exact hc) (xH _) (by simp only [maxLen];omega) Ha hbase
  exact ⟨v',w',hr,by rw [si];exact h2,h3,h5⟩
theorem xI (w:World) {o:Oper} {a:Act} {K:Act->World->Prop} {Q:Exit->Act->World->Prop} (s x:Operand)
 (ho:o.op=.call { callee:=.builtin .append,args:=#[s,x],argTypes:=#[33,33] })
 (base:Nat) (v:Value) (n:Nat) (xs:List Int) (hs:a.eval s=v) (hown:w.ownsRow base 3 1 v n (Is xs)) (A:Option Addr) (m c:Nat) (ys:List Int) (hx:a.eval x=.slice A m c) (hy:jf w A ys) (hm:ys.length=m)
 (h63:n+m<=1000000) (hbase:base<=w.heap.size)
 (h:∀ v' w',w'.ownsRow base 3 1 v' (n+m) (Is (xs++ys))->w.grownBy w' v.ownBlock->(v'.ownBlock=v.ownBlock\/v'.ownBlock=some w.heap.size)->K (a.put o.dst v') w'):o.wp Tryz.prog a w K Q:=by
 obtain ⟨v',w',hr,h2,h3,h4⟩:=jg w o.type base v n xs hown A m c ys hy hm h63 hbase;unfold Oper.wp execOp;simp only [ho,resolve,invoke,builtin,Sem.run_bind,Sem.run_pure,Result.andThen_ok,List.map_toArray,List.map_cons,List.map_nil,hs,hx,hr];exact h v' w' h2 h3 h4
theorem du (w:World) {ops:Array Oper} {rest:List Oper} {o:Oper} {a:Act} {Q:Exit->Act->World->Prop} (hgd:o.guard=none) (s x:Operand)
 (ho:o.op=.call { callee:=.builtin .append,args:=#[s,x],argTypes:=#[33,33] })
 (base:Nat) (v:Value) (n:Nat) (xs:List Int) (hs:a.eval s=v) (hown:w.ownsRow base 3 1 v n (Is xs)) (A:Option Addr) (m c:Nat) (ys:List Int) (hx:a.eval x=.slice A m c) (hy:jf w A ys) (hm:ys.length=m)
 (h63:n+m<=1000000) (hbase:base<=w.heap.size)
 (h:∀ v' w',w'.ownsRow base 3 1 v' (n+m) (Is (xs++ys))->w.grownBy w' v.ownBlock->(v'.ownBlock=v.ownBlock\/v'.ownBlock=some w.heap.size)->wpList Tryz.prog ops Q rest (a.put o.dst v') w'):wpList Tryz.prog ops Q (o :: rest) a w :=
 wpList_plain hgd fun _ hK=>xI w s x ho base v n xs hs hown A m c ys hx hy hm h63 hbase fun v' w' h2 h3 h4=>hK _ _ (h v' w' h2 h3 h4)
theorem lO (w:World) (ty:TypeId) (base:Nat) (v:Value) (n:Nat) (xs:List Int) (hown:w.ownsRow base 3 1 v n (Is xs)) (A:Option Addr) (m c:Nat) (ys:List Int) (hy:jf w A ys) (hm:ys.length=m)
 (h63:n+m<=1000000) (hbase:base<=w.heap.size) :
 ∃ v' w',(Builtin.append_ #[33,33] ty #[v,.slice A m c]).run Tryz.prog w=.ok v' w'/\w'.ownsRow base 3 1 v' (n+m) (Is (xs++ys))/\w.grownBy w' v.ownBlock/\bR n (n+m) w w':=by
 obtain ⟨i0,hi,hz0,hz1,hz2⟩:=info_parts zk;rcases hown.2 with ⟨rfl,h0⟩ | ⟨g,cap,cur,rfl,hb,hg,hnc,hcm,hcs,htake⟩
 ·obtain ⟨v',w',hr,h2,h3,_⟩:=jg w ty base _ n xs hown A m c ys hy hm h63 hbase;exact ⟨v',w',hr,h2,h3,bR.grown h3⟩
 ·by_cases hm0:m=0
  ·have hys:ys=[]:=List.length_eq_zero_iff.1 Ha;subst hys;obtain ⟨v',w',hr,h2,h3,_⟩:=jg w ty base _ n xs hown A m c [] hy hm h63 hbase;have hw:w'=w:=by
    have e:(Builtin.append_ #[33,33] ty #[.slice (some ⟨g,0,none⟩) n cap,.slice A m c]).run Tryz.prog w=.ok (.slice (some ⟨g,0,none⟩) n cap) w:=by
     subst hm0;cases A <;> simp [Builtin.append_,run_underlying Tryz.underlying33,sizeOf,typeInfo,hi,Builtin.lenOf,Builtin.firstCells,hnc,storeCells,loadCells,loadCellsFrom]
    rw [hr] at e;injection e
   subst hw;exact ⟨v',w',hr,h2,h3,bR.grown (World.grownBy.refl _ _)⟩
  ·have hA:∃ a,A=some a:=by
    cases ys with
    | nil=>simp at hm;omega
    | cons y l=>obtain ⟨a,e,_⟩:=hy 0 y rfl;exact ⟨a,e⟩
   obtain ⟨a,rfl⟩:=hA;have hcells:∀ j u,(Is ys)[j]?=some u->w.cell? (a.add j)=some u:=fun j u hj=>by
    unfold Is at hj;rw [List.getElem?_map] at hj;obtain ⟨x,hx,rfl⟩:=Option.map_eq_some_iff.1 hj;obtain ⟨a',e,hc⟩:=hy j x hx;injection e with e;subst e;exact hc
   by_cases hroom:n+m<=cap
   ·obtain ⟨v',w',hr,h2,h3,_⟩:=jg w ty base _ n xs hown (some a) m c ys hy hm h63 hbase;have hold:=iV (w:=w) (w':=w') 33 ty 3 i0 (.int .i64 0) 1 8 Tryz.underlying33 hi hz0 hz1 hz2 rfl Hd _ n _ (hown.mono (Nat.zero_le _)) a m c (Is ys) (by rw [ce];omega) hcells (xH _) (by simp only [maxLen];omega) Ha hr;refine ⟨v',w',hr,h2,h3,⟨h3.os,h3.tape,h3.output,h3.size,fun q C t fr hq=>?_,fun q C t fr hq hsm=>?_⟩⟩
    ·by_cases e:q=g
     ·subst e;rw [hg] at hq;injection hq with hq;injection hq with e1 e2 e3
      subst e1;subst e2;subst e3;rcases hold.2 with ⟨h',_⟩ | ⟨g',cap',cur',h',_,hg',_,_,hcs',ht'⟩
      ·cases h'
      ·injection h' with e1 e2 e3
       injection e1 with e1;injection e1 with e1
       subst e1;subst e3;refine ⟨cur',hg',by rw [hcs',hcs],fun i hi=>?_⟩;have h5:=congrArg (fun l=>l[i]?) (ht'.trans htake.symm);simp only [List.getElem?_take] at h5;rw [if_pos Ha,if_pos Ha,Array.getElem?_toList,Array.getElem?_toList] at h5;exact h5
     ·exact ⟨C,by rw [h3.block q (ai hq) (fun e'=>e (by injection e'))];exact hq,rfl,fun _ _=>rfl⟩
    ·have e:q≠g:=fun e=>by
      subst e;rw [hg] at hq;injection hq with hq;injection hq with e1 _ _
      subst e1;omega
     rw [h3.block q (ai hq) (fun e'=>e (by injection e'))];exact hq
   ·have hge:=grownCap_ge w (n+m) cap 3;have hcm2:grownCap w (n+m) cap 3<=maxLen:=grownCap_le_maxLen w (n+m) cap _ (by simp only [maxLen];omega);have hr:=run_append_grow (P:=Tryz.prog) w 33 ty 3 i0 (.int .i64 0) Tryz.underlying33 hi hz0 ⟨g,0,none⟩ n cap (Is xs) (by rw [hown.1,hz1]) (fun j u hj=>hown.cells (g:=g) rfl _ _ hj) a m c (Is ys) (by rw [ce,hz1];omega) hcells Ha Ha
     (by rw [hz2];have:=nextslicecap_le (show cap<n+m by omega);omega)
    have hlen:(Is (xs++ys)).length=(n+m)*1:=by have:=hown.1;rw [ce] at this;rw [ce,List.length_append];omega
    have hgn:w.grownBy (w.drew.alloc (.cells ((Is xs).toArray++(Is ys).toArray++Builtin.zeroCells (Value.int .i64 0).cells (grownCap w (n+m) cap 3-(n+m))) 3)) none:=⟨rfl,rfl,rfl,Hb,fun k hk _=>heap_alloc_old w.drew _ hk⟩
    refine ⟨_,_,hr,⟨hlen,.inr ⟨w.heap.size,_,_,rfl,hbase,heap_alloc_new w.drew _,hge,hcm2,?_,?_⟩⟩,⟨hgn.os,hgn.tape,hgn.output,hgn.size,fun k hk _=>hgn.block k hk Hb⟩,bR.grown hgn⟩
    ·have hxl:=hown.1;rw [ce] at hxl;simp only [Array.size_append,List.size_toArray,size_zeroCells,ce,hm];show xs.length+m+(_-(n+m))*1=_*1;omega
    ·simp only [Array.toList_append,List.append_assoc];rw [<- List.append_assoc,<- hlen,si];exact List.take_left
theorem tR (w:World) {o:Oper} {a:Act} {K:Act->World->Prop} {Q:Exit->Act->World->Prop} (s x:Operand)
 (ho:o.op=.call { callee:=.builtin .append,args:=#[s,x],argTypes:=#[33,33] })
 (base:Nat) (v:Value) (n:Nat) (xs:List Int) (hs:a.eval s=v) (hown:w.ownsRow base 3 1 v n (Is xs)) (A:Option Addr) (m c:Nat) (ys:List Int) (hx:a.eval x=.slice A m c) (hy:jf w A ys) (hm:ys.length=m)
 (h63:n+m<=1000000) (hbase:base<=w.heap.size)
 (h:∀ v' w',w'.ownsRow base 3 1 v' (n+m) (Is (xs++ys))->w.grownBy w' v.ownBlock->bR n (n+m) w w'->K (a.put o.dst v') w'):o.wp Tryz.prog a w K Q:=by
 obtain ⟨v',w',hr,h2,h3,h4⟩:=lO w o.type base v n xs hown A m c ys hy hm h63 hbase;unfold Oper.wp execOp;simp only [ho,resolve,invoke,builtin,Sem.run_bind,Sem.run_pure,Result.andThen_ok,List.map_toArray,List.map_cons,List.map_nil,hs,hx,hr];exact h v' w' h2 h3 h4
theorem uY (w:World) {o:Oper} {a:Act} {K:Act->World->Prop} {Q:Exit->Act->World->Prop} (s x:Operand)
 (ho:o.op=.call { callee:=.builtin .append,args:=#[s,x],argTypes:=#[33,33] })
 (base g:Nat) (hs:a.eval s=.slice (some ⟨g,0,none⟩) 0 0) (hb:base<=g) (hg:w.heap[g]?=some (.cells #[] 3 (0,0))) (A:Option Addr) (m c:Nat) (ys:List Int) (hx:a.eval x=.slice A m c) (hy:jf w A ys) (hm:ys.length=m) (h0:0<m)
 (h63:m<=1000000) (hbase:base<=w.heap.size)
 (h:∀ v' w',w'.ownsRow base 3 1 v' m (Is ys)->w.grownBy w' none->K (a.put o.dst v') w'):o.wp Tryz.prog a w K Q:=by
 have hown:w.ownsRow base 3 1 (.slice (some ⟨g,0,none⟩) 0 0) 0 (Is []):=⟨rfl,Or.inr ⟨g,0,#[],rfl,hb,hg,Nat.le_refl _,by simp only [maxLen];omega,rfl,rfl⟩⟩
 obtain ⟨v',w',hr,h2,h3,h4⟩:=lO w o.type base _ 0 [] hown A m c ys hy hm Ha hbase;unfold Oper.wp execOp;simp only [ho,resolve,invoke,builtin,Sem.run_bind,Sem.run_pure,Result.andThen_ok,List.map_toArray,List.map_cons,List.map_nil,hs,hx,hr];refine h v' w' (by simpa using h2) ⟨h3.os,h3.tape,h3.output,h3.size,fun k hk _=>?_⟩;by_cases e:k=g
 ·subst e;rw [hg,h4.small k #[] _ _ hg (by show 0<0+m;omega)]
 ·exact h3.block k hk (fun e'=>e (by injection e'))
def CB (xs:List Int):Prop:=∀ x∈xs,i64 x
section
variable {H:Type} {enc:TypeId × Value->H} {w:World} {base:Nat} {spare:Nat->Bool} {held:Bool}
end
end Go.Proofs.YtegjelaejbacnaaGreat
