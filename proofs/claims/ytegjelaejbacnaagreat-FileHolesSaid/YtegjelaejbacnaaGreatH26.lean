/- For FileHoles: contracts and facts, part 26. -/
import Derived.Test.YtegjelaejbacnaaGreatH19
import Derived.Test.YtegjelaejbacnaaGreatH25
set_option maxRecDepth 100000
set_option maxHeartbeats 25600000
set_option linter.unusedVariables false
open Go.ChangeShapes Go.WideShapes Go.ChangeAt Go.RowKit
namespace Go.Proofs.YtegjelaejbacnaaGreat
structure NT (n:Nat) (T:List Bool) (O L:List Int):Prop where
 nm:di n L
 sub:∀ (j:Nat) (p:Int),O[j]?=some p->p = -1\/L[j]?=some p
 tl:T.length=n
 tk:∀ i:Nat,T.getD i false=true->(i:Int)∈L
 tc:∀ (j:Nat) (p:Int),L[j]?=some p->p ≠ -1->O[j]?=some p\/T.getD p.toNat false=true
theorem pI {T:List Bool} {f:Nat} (b:f<T.length) (i:Nat):(setB T (f:Int) true).getD i false=(T.getD i false||decide (i=f)):=by
 by_cases a:i<T.length
 ·rw [List.getD,lS a,Option.getD_some]
  congr 1
  by_cases e:i=f
  ·rw [decide_eq_true e,decide_eq_true Ha]
  ·rw [decide_eq_false e,decide_eq_false Ha]
 ·rw [List.getD,List.getElem?_eq_none (by rw [jz];omega),List.getD,List.getElem?_eq_none Ha,decide_eq_false Ha];rfl
theorem NT.fill {n:Nat} {T:List Bool} {O L:List Int} (h:NT n T O L) (j:Nat) (hj:L[j]?=some (-1)) {f:Nat} (u:3<=f) (d:f<n) (s:(f:Int) ∉ L) {g:List Int} (r:∀ i,i≠j->g[i]?=O[i]?) (k:∀ p,g[j]?=some p->p = -1\/p=f):NT n (setB T (f:Int) true) g (L.set j f):=by
 have b:=(List.getElem?_eq_some_iff.1 hj).1;refine ⟨h.nm.set j Ha Ha s,fun i p a=>?_,by rw [jz];exact h.tl,fun i a=>?_,fun i p a t=>?_⟩
 ·by_cases e:i=j
  ·subst e;rcases k p a with l | l
   ·exact .inl l
   ·subst l;exact .inr (List.getElem?_set_self b)
  ·rw [r i e] at a;rw [List.getElem?_set_ne (fun h=>e h.symm)];exact h.sub i p a
 ·rw [pI (by rw [h.tl];exact d),Bool.or_eq_true,decide_eq_true_eq] at a;rcases a with a | a
  ·obtain ⟨m,c⟩:=List.getElem?_of_mem (h.tk i a);have o:j≠m:=fun e=>by rw [<- e,hj] at c;injection c with c;omega
   exact List.mem_of_getElem? ((List.getElem?_set_ne o).trans c)
  ·subst a;exact List.mem_of_getElem? (List.getElem?_set_self b)
 ·by_cases e:i=j
  ·subst e;rw [List.getElem?_set_self b] at a;injection a with a
   subst a;refine .inr ?_;rw [Int.toNat_natCast,pI (by rw [h.tl];exact d)];simp
  ·rw [List.getElem?_set_ne (fun h=>e h.symm)] at a;rcases h.tc i p a t with q | q
   ·exact .inl ((r i e).trans q)
   ·refine .inr ?_;rw [pI (by rw [h.tl];exact d),q];rfl
def oix (nd0:Nd) (ix:List Int):List Int:=if nd0.x = -1 then cW else ix
theorem wJ (nd0:Nd) {ix:List Int} (h:ix.length=16):(oix nd0 ix).length=16:=by unfold oix;split;rfl;exact h
structure MI (N:List Bk) (T:List Bool) (nd0 nd:Nd) (ix:List Int):Prop where
 g:GN N nd0
 il:ix.length=16
 t:NT N.length T (gA nd0 (oix nd0 ix)) (gA nd ix)
 ixo:nd0.x ≠ -1->gB N nd0.x=fH ix
 hx:nd.x = -1->ix=cW
 same:nd.g=nd0.g/\nd.l=nd0.l/\nd.s=nd0.s/\nd.t=nd0.t
section
variable {N:List Bk} {T:List Bool} {nd0 nd:Nd} {ix:List Int}
theorem MI.x (h:MI N T nd0 nd ix):nd.x = -1\/(3<=nd.x/\nd.x<N.length):=h.t.nm.rng _ (List.mem_of_getElem? (iY h.il))
theorem MI.x0 (h:MI N T nd0 nd ix):nd0.x = -1\/nd.x=nd0.x:=by
 rcases h.t.sub 20 nd0.x (iY (wJ nd0 h.il)) with e | e
 ·exact .inl e
 ·rw [iY h.il] at e;injection e with e;exact .inr e
theorem MI.at (h:MI N T nd0 nd ix) {k:Nat} (a:k<20):cI nd ix k = -1\/(3<=cI nd ix k/\cI nd ix k<N.length):=h.t.nm.rng _ (List.mem_of_getElem? (cC h.il a))
theorem MI.mayB (h:MI N T nd0 nd ix):mayB ix=true:=h.t.nm.mayB h.il h.g.n2
theorem MI.kept (h:MI N T nd0 nd ix):bB N T=KL N.length (gA nd ix):=by
 apply List.ext_getElem?;intro i;by_cases c:i<N.length
 ·rw [pH c,yX _ c]
  congr 1
  rw [Bool.eq_iff_iff,Bool.or_eq_true,decide_eq_true_eq];have d:cy N N.length i=true↔i<3\/(i:Int)∈gA nd0 (oix nd0 ix):=yW h.g (fun b=>by
   have e:=h.x0.resolve_left b;have:=h.x;rw [e] at this;have f:=this.resolve_left b;have k:oix nd0 ix=ix:=if_neg b;show 0<=nd0.x/\nd0.x<N.length/\gB N nd0.x=fH (oix nd0 ix)/\Go.Proofs.YtegjelaejbacnaaGreat.mayB (oix nd0 ix)=true;rw [k];exact ⟨Ha,f.2,h.ixo b,h.mayB⟩) (fun b=>if_pos b) c
  rw [d];constructor
  ·rintro ((a | a) | a)
   ·exact .inl a
   ·obtain ⟨j,hj⟩:=List.getElem?_of_mem a;rcases h.t.sub j _ hj with e | e
    ·omega
    ·exact .inr (List.mem_of_getElem? e)
   ·exact .inr (h.t.tk i a)
  ·rintro (a | a)
   ·exact .inl (.inl a)
   ·obtain ⟨j,hj⟩:=List.getElem?_of_mem a;rcases h.t.tc j _ hj Ha with e | e
    ·exact .inl (.inr (List.mem_of_getElem? e))
    ·rw [Int.toNat_natCast] at e;exact .inr e
 ·rw [List.getElem?_eq_none (by rw [jA];omega),List.getElem?_eq_none (by rw [wI];omega)]
theorem MI.fst (h:MI N T nd0 nd ix) (c:fX (bB N T)<N.length):3<=fX (bB N T)/\((fX (bB N T):Nat):Int) ∉ gA nd ix:=by
 have a:=yS (S:=bB N T) (by rw [jA];exact c);generalize e:fX (bB N T)=f at *;rw [h.kept,yX _ c] at a;injection a with a
 have d:=of_decide_eq_false a;refine ⟨?_,fun h=>d (.inr h)⟩;rcases Nat.lt_or_ge f 3 with b | b
 ·exact absurd (.inl b) d
 ·exact b
end
def cB (N:List Bk) (nd:Nd) (ix:List Int) (p:Nat):Int:=(gB N (cI nd ix (p/56))).bs.getD (p%56) 0
structure L9 (C:BN) (nd0:Nd) (k:Nat) (s s':iX):Prop where
 b:BP C s'.P
 m:MI (C.N s'.P) s'.T nd0 s'.nd s'.ix
 i:(s.nd.x ≠ -1->gB (C.N s.P) s.nd.x=fH s.ix)->(s'.nd.x ≠ -1->gB (C.N s'.P) s'.nd.x=fH s'.ix)
 c:∀ j,j<20->(gB (C.N s'.P) (cI s'.nd s'.ix j)).bs=(gB (C.N s.P) (cI s.nd s.ix j)).bs
 pt:∀ y∈s'.P,y∈s.P\/y.t=s'.nd.x\/y.t=cI s'.nd s'.ix k
theorem qH (x:Int):qG x=true↔x ≠ -1:=decide_eq_true_iff
theorem pJ {nd a:Nd} {ix b:List Int} (i:ix.length=16) (d:b.length=16) {k:Nat} {f:Int} (h:gA a b=(gA nd ix).set k f) {j:Nat} (hj:j<20) (g:j≠k):cI a b j=cI nd ix j:=by
 have c:=cC (nd:=a) d hj;rw [h,List.getElem?_set_ne (fun e=>g e.symm),cC i hj] at c;injection c with c
 exact c.symm
theorem Cb (nd:Nd) (ix:List Int) {k:Nat} (h:4<=k) (a:Int):dO nd ix k a=(nd,ix.set (k-4) a):=by unfold dO;rw [if_neg Ha]
theorem wK (nd:Nd) (ix:List Int) {k:Nat} (h:¬ 4<=k) (a:Int):dO nd ix k a=(nd.setDir k a,ix):=by unfold dO;rw [if_pos Ha]
theorem I8 (nd0:Nd) {ix:List Int} (a:ix.length=16) {k:Nat} (b:4<=k) (c:k<20) (f:Int):gA nd0 (oix nd0 (ix.set (k-4) f))=if nd0.x = -1 then gA nd0 (oix nd0 ix) else (gA nd0 (oix nd0 ix)).set k f:=by
 unfold oix;split
 ·rfl
 ·have:=wH (nd:=nd0) a c f;rw [Cb _ _ b] at this;exact this
theorem Cc {C:BN} {s:iX} {nd0:Nd} (hb:BP C s.P) (h:MI (C.N s.P) s.T nd0 s.nd s.ix) {k:Nat} (hk:k<20) (hh:cI s.nd s.ix k = -1) (hx:4<=k->s.nd.x ≠ -1) :
 ((own2 C k s).1=true↔fX (bB (C.N s.P) s.T)<C.n)/\((own2 C k s).1=true->L9 C nd0 k s (own2 C k s).2/\(4<=k->gB (C.N (own2 C k s).2.P) (own2 C k s).2.nd.x=fH (own2 C k s).2.ix)/\(own2 C k s).2.nd.x=s.nd.x/\∃ f:Int,f ≠ -1/\gA (own2 C k s).2.nd (own2 C k s).2.ix=(gA s.nd s.ix).set k f):=by
 have r:=hb.len;unfold own2;by_cases z:j7 C s.P s.T<C.n
 ·rw [if_pos z];refine ⟨⟨fun _=>z,fun _=>rfl⟩,fun _=>?_⟩;have ad:j7 C s.P s.T=fX (bB (C.N s.P) s.T):=rfl;rw [ad] at z ⊢;obtain ⟨f3,fm⟩:=h.fst (by rw [r];exact z);have eT:gc (C.N s.P) s.T=setB s.T (fX (bB (C.N s.P) s.T):Nat) true:=by unfold gc;rw [if_pos (by rw [r];exact z)]
  rw [eT];generalize fX (bB (C.N s.P) s.T)=f at *;obtain ⟨b1,K⟩:=hb.put (f:Int) dK;rw [if_pos Ha,Int.toNat_natCast] at K;have d:f<(C.N s.P).length:=by rw [r];exact z
  have l:=wH (nd:=s.nd) h.il hk (f:Int);have g1:GN ((C.N s.P).set f dK) nd0:=h.g.set f3 d Hd ak Hd;have A:=(cC (nd:=s.nd) h.il hk).trans (congrArg some hh);have a:=yV (nd:=s.nd) h.il k (f:Int);have b:cI (dO s.nd s.ix k f).1 (dO s.nd s.ix k f).2 k=f:=by
   have L:=cC (nd:=(dO s.nd s.ix k f).1) a hk;rw [l,List.getElem?_set_self (by rw [kX h.il];omega)] at L;injection L with L;exact L.symm
  have M:∀ j,j<20->(gB ((C.N s.P).set f dK) (cI (dO s.nd s.ix k f).1 (dO s.nd s.ix k f).2 j)).bs=(gB (C.N s.P) (cI s.nd s.ix j)).bs:=fun j hj=>by
   by_cases e:j=k
   ·subst e;rw [b,hh,yT,gj d,if_pos rfl];rfl
   ·rw [pJ h.il a l hj e,gj d,if_neg];intro e2;exact fm (e2 ▸ List.mem_of_getElem? (cC h.il hj))
  have R:s.nd.x≠(f:Int):=fun e=>fm (e ▸ List.mem_of_getElem? (iY h.il));have S:∀ p,(gA nd0 (oix nd0 s.ix))[k]?=some p->p = -1:=fun p m=>by
   rcases h.t.sub k p m with e | e
   ·exact e
   ·rw [A] at e;injection e with e;exact e.symm
  dsimp only;by_cases u:4<=k
  ·simp only [if_pos u];rw [Cb _ _ u] at l a M b ⊢;dsimp only at l a M b ⊢;have B:=hx u;have a1:=h.x.resolve_left B;have U:(s.ix.set (k-4) (f:Int)).any qG=true:=by
    rw [List.any_eq_true];exact ⟨f,List.mem_of_getElem? (List.getElem?_set_self (by rw [h.il];omega)),(qH _).2 Ha⟩
   have eI:DH C (pT C s.P f dK) s.nd (s.ix.set (k-4) (f:Int))=(pT C (pT C s.P f dK) s.nd.x (fH (s.ix.set (k-4) (f:Int))),s.nd):=if_pos U;rw [eI];dsimp only;obtain ⟨b2,V⟩:=b1.put s.nd.x (fH (s.ix.set (k-4) (f:Int)));rw [if_pos Ha,K] at V;obtain ⟨q,v⟩:∃ q:Nat,s.nd.x=q:=⟨s.nd.x.toNat,Ha⟩
   rw [v,Int.toNat_natCast] at V;have an:((C.N s.P).set f dK).length=C.n:=by rw [List.length_set];exact r
   have W:NT (C.N s.P).length (setB s.T (f:Int) true) (gA nd0 (oix nd0 (s.ix.set (k-4) (f:Int)))) ((gA s.nd s.ix).set k f):=by
    have X:=I8 nd0 h.il u hk (f:Int);refine h.t.fill k A f3 d fm (fun i O=>?_) (fun p m=>?_)
    ·rw [X];split
     ·rfl
     ·rw [List.getElem?_set_ne (fun e=>O e.symm)]
    ·rw [X] at m;split at m
     ·exact .inl (S p m)
     ·rw [List.getElem?_set_self (by rw [kX (wJ nd0 h.il)];omega)] at m;injection m with m;exact .inr m.symm
   have Y:mayB (s.ix.set (k-4) (f:Int))=true:=by
    have:=W.nm;rw [<- l] at this;exact this.mayB a h.g.n2
   have a0:(fH (s.ix.set (k-4) (f:Int))).k=5:=(mA Y).1;have H:∀ i,gB (C.N (pT C (pT C s.P f dK) (q:Int) (fH (s.ix.set (k-4) (f:Int))))) i=if i=(q:Int) then fH (s.ix.set (k-4) (f:Int)) else gB ((C.N s.P).set f dK) i:=fun i=>by
    rw [V,gj Ha]
   rw [v] at b2 ⊢;refine ⟨⟨b2,⟨?_,a,?_,fun c=>?_,fun c=>?_,h.same⟩,fun _ _=>?_,fun j hj=>?_,fun y w=>?_⟩,fun _=>?_,rfl,f,Ha,l⟩
   ·show GN (C.N (pT C (pT C s.P f dK) (q:Int) (fH (s.ix.set (k-4) (f:Int))))) nd0;rw [V];exact g1.set Ha Ha (by rw [a0];decide) (kU _).len (kU _).k
   ·show NT (C.N (pT C (pT C s.P f dK) (q:Int) (fH (s.ix.set (k-4) (f:Int))))).length _ _ _;rw [V,List.length_set,List.length_set];show NT _ _ _ (gA s.nd _);rw [l];exact W
   ·have e:=h.x0.resolve_left c;show gB (C.N (pT C (pT C s.P f dK) (q:Int) (fH (s.ix.set (k-4) (f:Int))))) _=_;rw [H,if_pos Ha]
   ·exact absurd c B
   ·show gB (C.N (pT C (pT C s.P f dK) (q:Int) (fH (s.ix.set (k-4) (f:Int))))) _=_;rw [H,if_pos v]
   ·show (gB (C.N (pT C (pT C s.P f dK) (q:Int) (fH (s.ix.set (k-4) (f:Int))))) (cI s.nd (s.ix.set (k-4) (f:Int)) j)).bs=_;rw [H,if_neg,M j hj];have L:=(cC (nd:=s.nd) a hj)
    have h2:=(iY (nd:=s.nd) a)
    have Z:=W.nm;rw [<- l] at Z;exact fun e=>Z.ne h2 L Ha B Ha
   ·rcases sG w with e | w
    ·exact .inr (.inl (e.trans v.symm))
    ·rcases sG w with e | w
     ·exact .inr (.inr (e.trans b.symm))
     ·exact .inl w
   ·show gB (C.N (pT C (pT C s.P f dK) (q:Int) (fH (s.ix.set (k-4) (f:Int))))) _=_;rw [H,if_pos rfl]
  ·simp only [if_neg u];rw [wK _ _ u] at l a M b ⊢;dsimp only at l a M b ⊢;have I:(s.nd.setDir k f).x=s.nd.x:=by have:=Gf s.nd s.ix k (f:Int);rw [wK _ _ u] at this;exact this
   have o:=uX s.nd s.ix k (f:Int);rw [wK _ _ u] at o;have W:NT (C.N s.P).length (setB s.T (f:Int) true) (gA nd0 (oix nd0 s.ix)) ((gA s.nd s.ix).set k f):=h.t.fill k A f3 d fm (fun i O=>rfl) (fun p m=>.inl (S p m));have H:∀ i,i≠(f:Int)->gB (C.N (pT C s.P f dK)) i=gB (C.N s.P) i:=fun i O=>by rw [K,gj d,if_neg O]
   refine ⟨⟨b1,⟨?_,a,?_,fun c=>?_,fun c=>?_,?_⟩,fun O c=>?_,fun j hj=>?_,fun y w=>?_⟩,fun h=>absurd h u,I,f,Ha,l⟩
   ·show GN (C.N (pT C s.P f dK)) nd0;rw [K];exact g1
   ·show NT (C.N (pT C s.P f dK)).length _ _ _;rw [K,List.length_set];show NT _ _ _ (gA (s.nd.setDir k f) s.ix);rw [l];exact W
   ·have e:=h.x0.resolve_left c;show gB (C.N (pT C s.P f dK)) _=_;rw [H _ (by rw [<- e];exact R)];exact h.ixo c
   ·have c:(s.nd.setDir k f).x = -1:=c;rw [I] at c;exact h.hx c
   ·exact ⟨o.1.trans h.same.1,o.2.1.trans h.same.2.1,o.2.2.1.trans h.same.2.2.1,o.2.2.2.trans h.same.2.2.2⟩
   ·have c:(s.nd.setDir k f).x ≠ -1:=c;show gB (C.N (pT C s.P f dK)) (s.nd.setDir k f).x=_;rw [I] at c ⊢;rw [H _ R];exact O c
   ·show (gB (C.N (pT C s.P f dK)) (cI (s.nd.setDir k f) s.ix j)).bs=_;rw [K];exact M j hj
   ·rcases sG w with e | w
    ·exact .inr (.inr (e.trans b.symm))
    ·exact .inl w
 ·rw [if_neg z];exact ⟨⟨fun h=>(by cases h),fun h=>absurd h z⟩,fun h=>(by cases h)⟩
theorem oP (C:BN) (a:Int):sD C a=true↔0<=a/\a<C.n:=decide_eq_true_iff
theorem wL {n:Nat} {L:List Int} (a:3<=n) (h:di n L) {k:Nat} {f:Int} (b:di n (L.set k f)) (c:L[k]?=some (-1)) (d:f ≠ -1):(KL n (L.set k f)).count false+1=(KL n L).count false:=by
 have e:=h.count a;have g:=b.count a;have a:=yZ c d;omega
def ll (nd:Nd) (ix:List Int) (k:Nat):Nat:=if cI nd ix k ≠ -1 then 0 else if 4<=k/\nd.x = -1 then 2 else 1
structure ME (C:BN) (k:Nat) (s s':iX):Prop where
 hk:cI s'.nd s'.ix k ≠ -1
 j:∀ j,j<20->j≠k->cI s'.nd s'.ix j=cI s.nd s.ix j
 x:s'.nd.x = -1↔s.nd.x = -1/\k<4
 n:(KL C.n (gA s'.nd s'.ix)).count false+ll s.nd s.ix k=(KL C.n (gA s.nd s.ix)).count false
 kj:∀ j,j<20->cI s.nd s.ix j ≠ -1->cI s'.nd s'.ix j=cI s.nd s.ix j
 kx:s.nd.x ≠ -1->s'.nd.x=s.nd.x
theorem KV {C:BN} {s:iX} {nd0:Nd} (o:BP C s.P) (h:MI (C.N s.P) s.T nd0 s.nd s.ix) {k:Nat} (W:k<20) :
 ((lW C k s).1=true↔ll s.nd s.ix k<=(KL C.n (gA s.nd s.ix)).count false)/\((lW C k s).1=true->L9 C nd0 k s (lW C k s).2/\ME C k s (lW C k s).2):=by
 have q:=o.len;have h3:=h.g.l3;rw [q] at h3;have M:=h.t.nm;rw [q] at M;have O:=cC (nd:=s.nd) h.il W;have u:∀ (s:iX),BP C s.P->MI (C.N s.P) s.T nd0 s.nd s.ix->(fX (bB (C.N s.P) s.T)<C.n↔0<(KL C.n (gA s.nd s.ix)).count false):=fun s o h=>by
  have:=uV (bB (C.N s.P) s.T);rw [jA,o.len] at this;rw [<- this,h.kept,o.len]
 unfold lW;by_cases B:cI s.nd s.ix k = -1
 ·have an:¬ sD C (cI s.nd s.ix k)=true:=by rw [oP];omega
  rw [if_neg an];rw [B] at O;unfold own1;by_cases z:4<=k/\s.nd.x = -1
  ·have I:ll s.nd s.ix k=2:=by unfold ll;rw [if_neg Ha,if_pos z]
   have R:4<=k/\sD C s.nd.x=false:=⟨z.1,by rw [Bool.eq_false_iff];intro h;rw [oP] at h;omega⟩
   rw [if_pos R,I];by_cases S:j7 C s.P s.T<C.n
   ·rw [if_pos S];have a0:j7 C s.P s.T=fX (bB (C.N s.P) s.T):=rfl;rw [a0] at S ⊢;have a3:=(u s o h).1 S;obtain ⟨f3,fm⟩:=h.fst (by rw [q];exact S);have eT:gc (C.N s.P) s.T=setB s.T (fX (bB (C.N s.P) s.T):Nat) true:=by unfold gc;rw [if_pos (by rw [q];exact S)]
    rw [eT];generalize fX (bB (C.N s.P) s.T)=f at *;have hL:=yU s.nd h.il (f:Int);have K:=(iY (nd:=s.nd) h.il).trans (congrArg some z.2);have a1:nd0.x = -1:=by
     rcases h.x0 with e | e
     ·exact e
     ·rw [<- e];exact z.2
    have ht:NT (C.N s.P).length (setB s.T (f:Int) true) (gA nd0 (oix nd0 s.ix)) ((gA s.nd s.ix).set 20 f):=h.t.fill 20 K f3 Ha fm (fun i hi=>rfl) (fun p X=>by
     rw [iY (wJ nd0 h.il)] at X;injection X with X;rw [a1] at X;exact .inl X.symm)
    have Y:MI (C.N s.P) (setB s.T (f:Int) true) nd0 { s.nd with x:=(f:Int) } s.ix:=⟨h.g,h.il,by rw [hL];exact ht,h.ixo,fun e=>by have e:(f:Int) = -1:=e;omega,h.same⟩
    have H:=Cc (s:={ s with T:=setB s.T (f:Int) true,nd:={ s.nd with x:=(f:Int) } }) o Y W B (fun _=>by show (f:Int) ≠ -1;omega);have v:=ht.nm;rw [q] at v;have a4:=wL h3 M v K Ha;have l:=u { s with T:=setB s.T (f:Int) true,nd:={ s.nd with x:=(f:Int) } } o Y;dsimp only at l H;rw [hL] at l;refine ⟨⟨fun A=>?_,fun A=>H.1.2 (l.2 Ha)⟩,fun A=>?_⟩
    ·have:=l.1 (H.1.1 A);omega
    ·obtain ⟨r,ri,rx,g,Z,a⟩:=H.2 A;refine ⟨⟨r.b,r.m,fun _ _=>ri z.1,r.c,r.pt⟩,?_,fun j hj U=>?_,?_,?_,fun j hj V=>pJ (nd:={ s.nd with x:=(f:Int) }) h.il r.m.il a hj (fun e=>V (e ▸ B)),fun hx=>absurd z.2 hx⟩
     ·have w:=cC r.m.il (nd:=(own2 C k { s with T:=setB s.T (f:Int) true,nd:={ s.nd with x:=(f:Int) } }).2.nd) W;rw [a,List.getElem?_set_self (by rw [kX (show s.ix.length=16 from h.il)];omega)] at w;injection w with w
      rw [<- w];exact Z
     ·exact pJ (nd:={ s.nd with x:=(f:Int) }) h.il r.m.il a hj U
     ·rw [rx];omega
     ·have d:=r.m.t.nm;rw [r.b.len,a] at d;rw [a,I];rw [hL] at d ⊢;have a2:((gA s.nd s.ix).set 20 (f:Int))[k]?=some (-1):=by rw [List.getElem?_set_ne Ha];exact O
      have:=wL h3 v d a2 Z;omega
   ·rw [if_neg S];have:=mt (u s o h).2 S;exact ⟨⟨fun h=>(by cases h),fun h=>absurd h Ha⟩,fun h=>(by cases h)⟩
  ·have I:ll s.nd s.ix k=1:=by unfold ll;rw [if_neg Ha,if_neg z]
   have R:¬ (4<=k/\sD C s.nd.x=false):=fun ⟨L,hq⟩=>by
    have w:s.nd.x ≠ -1:=fun e=>z ⟨L,e⟩;have H:=h.x.resolve_left w;rw [Bool.eq_false_iff] at hq;exact hq ((oP _ _).2 Ha)
   rw [if_neg R,I];have H:=Cc o h W B (fun L e=>z ⟨L,e⟩);refine ⟨⟨fun A=>(u s o h).1 (H.1.1 A),fun A=>H.1.2 ((u s o h).2 A)⟩,fun A=>?_⟩;obtain ⟨r,ri,rx,g,Z,a⟩:=H.2 A;refine ⟨r,?_,fun j hj U=>pJ h.il r.m.il a hj U,?_,?_,fun j hj V=>pJ h.il r.m.il a hj (fun e=>V (e ▸ B)),fun _=>rx⟩
   ·have w:=cC r.m.il (nd:=(own2 C k s).2.nd) W;rw [a,List.getElem?_set_self (by rw [kX h.il];omega)] at w;injection w with w
    rw [<- w];exact Z
   ·rw [rx];exact ⟨fun e=>⟨e,by by_cases L:4<=k;exact absurd ⟨L,e⟩ z;omega⟩,fun e=>e.1⟩
   ·have d:=r.m.t.nm;rw [r.b.len,a] at d;rw [a,I];exact wL h3 M d O Z
 ·have ad:sD C (cI s.nd s.ix k)=true:=by rw [oP];have:=(h.at W).resolve_left B;omega
  have I:ll s.nd s.ix k=0:=by unfold ll;rw [if_pos B]
  rw [if_pos ad,I];refine ⟨⟨fun _=>Nat.zero_le _,fun _=>rfl⟩,fun _=>⟨⟨o,h,fun hi=>hi,fun j hj=>rfl,fun y hy=>.inl hy⟩,B,fun j _ _=>rfl,⟨fun e=>⟨e,?_⟩,fun e=>e.1⟩,by rw [I];rfl,fun _ _ _=>rfl,fun _=>rfl⟩⟩;rcases Nat.lt_or_ge k 4 with L | L
  ·exact L
  ·exfalso;apply B;unfold cI;rw [if_neg Ha,h.hx e];unfold cW;rw [List.getD,List.getElem?_replicate,if_pos Ha];rfl
theorem DN {bs ys:List Int} {o:Nat} (h:o+ys.length<=bs.length) (j:Nat):(qr bs ys o).getD j 0=if o<=j/\j<o+ys.length then ys.getD (j-o) 0 else bs.getD j 0:=by
 unfold qr;rw [List.getD,List.getD,List.getD];by_cases a:j<o
 ·rw [if_neg Ha,List.append_assoc,List.getElem?_append_left (by rw [List.length_take];omega),List.getElem?_take,if_pos a]
 ·rw [List.append_assoc,List.getElem?_append_right (by rw [List.length_take];omega),List.length_take,show min o bs.length=o by omega];by_cases b:j<o+ys.length
  ·rw [if_pos Ha,List.getElem?_append_left Ha]
  ·rw [if_neg Ha,List.getElem?_append_right Ha,List.getElem?_drop,show o+ys.length+(j-o-ys.length)=j by omega]
theorem Gh {bs ys:List Int} {o:Nat} (h:o+ys.length<=bs.length):(qr bs ys o).length=bs.length:=by
 unfold qr;rw [List.length_append,List.length_append,List.length_take,List.length_drop];omega
theorem za {C:BN} {s:iX} {nd0:Nd} (r:BP C s.P) (g:GN (C.N s.P) nd0) (il:s.ix.length=16) (t:di C.n (gA s.nd s.ix)) {p:Pc} (y:p.1<20) (z:p.2.1<p.2.2) (A:p.2.2<=56) (d:List Int) (hd:p.2.2-p.2.1<=d.length) :
 BP C (hU C p d s).P/\GN (C.N (hU C p d s).P) nd0/\(∀ i,i = -1\/i≠cI s.nd s.ix p.1->gB (C.N (hU C p d s).P) i=gB (C.N s.P) i)/\∀ q,q<1120->cB (C.N (hU C p d s).P) s.nd s.ix q=if cI s.nd s.ix p.1 ≠ -1/\56*p.1+p.2.1<=q/\q<56*p.1+p.2.2 then d.getD (q-(56*p.1+p.2.1)) 0 else cB (C.N s.P) s.nd s.ix q:=by
 unfold hU;dsimp only;have B:=r.len;obtain ⟨m,c⟩:=r.put (cI s.nd s.ix p.1) (qv (gB (C.N s.P) (cI s.nd s.ix p.1)) p.2.1 p.2.2 d);have f:=cC (nd:=s.nd) il y;by_cases u:cI s.nd s.ix p.1 = -1
 ·rw [if_neg Ha] at c;rw [c];exact ⟨m,g,fun i _=>rfl,fun q H=>by rw [if_neg (fun h=>h.1 u)]⟩
 ·have K:=(t.rng _ (List.mem_of_getElem? f)).resolve_left u;rw [if_pos Ha] at c;obtain ⟨a,l⟩:∃ a:Nat,cI s.nd s.ix p.1=a:=⟨(cI s.nd s.ix p.1).toNat,Ha⟩
  have h5:=g.l56 a;have b:(d.take (p.2.2-p.2.1)).length=p.2.2-p.2.1:=by rw [List.length_take];omega
  have o:=g.k3 a Ha Ha;rw [l,Int.toNat_natCast] at c;have j:a<(C.N s.P).length:=Ha;rw [l] at m ⊢;have v:∀ i,gB (C.N (pT C s.P (a:Int) (qv (gB (C.N s.P) (a:Int)) p.2.1 p.2.2 d))) i=if i=(a:Int) then qv (gB (C.N s.P) (a:Int)) p.2.1 p.2.2 d else gB (C.N s.P) i:=fun i=>by rw [c,gj j]
  refine ⟨m,?_,fun i L=>?_,fun q H=>?_⟩
  ·rw [c];exact g.set Ha j o ((Gh (by rw [b,h5];omega)).trans h5) (g.k7 _)
  ·rw [v,if_neg Ha]
  ·unfold cB;rw [v];have k:q/56<20:=Ha;by_cases e:q/56=p.1
   ·rw [e,l,if_pos rfl];unfold qv;dsimp only;rw [DN (by rw [b,h5];omega),b];by_cases w:p.2.1<=q%56/\q%56<p.2.1+(p.2.2-p.2.1)
    ·rw [if_pos w,if_pos ⟨Ha,Ha,Ha⟩,List.getD,List.getD,List.getElem?_take,if_pos Ha]
     congr 2
     omega
    ·rw [if_neg w,if_neg Ha]
   ·rw [if_neg,if_neg Ha];intro x;rw [<- l] at x;have I:=cC (nd:=s.nd) il k;exact e (t.inj _ _ _ I (f.trans (congrArg some x.symm)) Ha)
def I9 (N:List Bk) (nd:Nd) (ix:List Int):Prop:=nd.x ≠ -1->gB N nd.x=fH ix
theorem KW {C:BN} {s:iX} {nd0:Nd} (i:BP C s.P) (h:MI (C.N s.P) s.T nd0 s.nd s.ix) (n:I9 (C.N s.P) s.nd s.ix) {p:Pc} (l:p.1<20) (j:p.2.1<p.2.2) (k:p.2.2<=56) (d:List Int) (hd:p.2.2-p.2.1<=d.length) :
 BP C (hU C p d s).P/\MI (C.N (hU C p d s).P) s.T nd0 s.nd s.ix/\I9 (C.N (hU C p d s).P) s.nd s.ix/\∀ q,q<1120->cB (C.N (hU C p d s).P) s.nd s.ix q=if cI s.nd s.ix p.1 ≠ -1/\56*p.1+p.2.1<=q/\q<56*p.1+p.2.2 then d.getD (q-(56*p.1+p.2.1)) 0 else cB (C.N s.P) s.nd s.ix q:=by
 have c:=h.t.nm;rw [i.len] at c;obtain ⟨b,g,m,o⟩:=za i h.g h.il c l j k d hd;have f:s.nd.x ≠ -1->s.nd.x≠cI s.nd s.ix p.1:=fun f=>h.t.nm.ne (iY h.il) (cC h.il l) Ha f;refine ⟨b,⟨g,h.il,by rw [b.len,<- i.len];exact h.t,fun a=>?_,h.hx,h.same⟩,fun a=>?_,o⟩
 ·have e:=h.x0.resolve_left a;rw [m _ (.inr (by rw [<- e];exact f (by rw [e];exact a)))];exact h.ixo a
 ·rw [m _ (.inr (f a))];exact n a
def sH:Nat->List Pc->Prop
 | _,[]=>True
 | a,p :: l=>56*p.1+p.2.1=a/\p.1<20/\p.2.1<p.2.2/\p.2.2<=56/\sH (56*p.1+p.2.2) l
theorem Gi {o e:Nat} (h:o<e) (i:e<=1120):sH o (pL o e):=by
 have k:pN o e=(e-1)/56-o/56+1:=by unfold pN;rw [if_neg Ha]
 have l:=db o e;have b:∀ m j,j+m=pN o e->sH (if j=0 then o else 56*(o/56+j)) ((pL o e).drop j):=by
  intro m
  induction m with
  | zero=>intro j hj;rw [List.drop_of_length_le Ha];trivial
  | succ m ih =>
    intro j hj;have a:=Fb o e j;rw [if_pos Ha] at a;obtain ⟨c,d⟩:=List.getElem?_eq_some_iff.1 a;rw [List.drop_eq_getElem_cons c,d];have ih:=ih (j+1) Ha;rw [if_neg Ha] at ih;unfold Ko;refine ⟨?_,?_,?_,?_,?_⟩
    ·dsimp only;split <;> omega
    ·dsimp only;omega
    ·dsimp only;split <;> split <;> omega
    ·dsimp only;split <;> omega
    ·dsimp only;by_cases f:j+1=pN o e
     ·rw [List.drop_of_length_le Ha];trivial
     ·rw [if_neg f];have g:56*(o/56+j)+56=56*(o/56+(j+1)):=Ha;rw [g];exact ih
 have:=b (pN o e) 0 Ha;rw [if_pos rfl,List.drop_zero] at this;exact this
theorem pK {o m:Nat} (h:o+m<=1120):sH o (pcM o m):=by
 unfold pcM;rw [if_pos Ha,show ((o:Int)).toNat=o by omega,show ((o:Int)+m).toNat=o+m by omega];rcases Nat.eq_zero_or_pos m with e | e
 ·subst e;unfold pL pN;rw [if_pos Ha];trivial
 ·exact Gi Ha h
theorem Gj (o:Nat):pcM o ((0:Nat):Int)=[]:=by
 unfold pcM;split
 ·rw [show ((o:Int)+((0:Nat):Int)).toNat=o by omega,show ((o:Int)).toNat=o by omega];unfold pL pN;rw [if_pos Ha];rfl
 ·rfl
theorem uY {o m:Nat} (h:o+m<=1120):sR (pcM o m)=m:=by
 rcases Nat.eq_zero_or_pos m with e | e
 ·subst e;rw [Gj];rfl
 ·exact B8 o m e h
theorem Ja {o m:Nat} (h:o+m<=1120):56*(pcM o m).length<=m+110:=by
 unfold pcM;rw [if_pos Ha,db,show ((o:Int)).toNat=o by omega,show ((o:Int)+m).toNat=o+m by omega];unfold pN;split <;> omega
theorem lY (p:Pc) (l:List Pc):sR (p :: l)=(p.2.2-p.2.1)+sR l:=by unfold sR;rw [List.map_cons,List.sum_cons]
structure M9 (C:BN) (nd0:Nd) (d:List Int) (a n:Nat) (l:List Pc) (s s':iX):Prop where
 b:BP C s'.P
 m:MI (C.N s'.P) s'.T nd0 s'.nd s'.ix
 i:I9 (C.N s'.P) s'.nd s'.ix
 c:∀ q,q<1120->cB (C.N s'.P) s'.nd s'.ix q=if a<=q/\q<a+sR l then d.getD (n+(q-a)) 0 else cB (C.N s.P) s.nd s.ix q
 j:∀ j,j<20->(cI s'.nd s'.ix j = -1↔cI s.nd s.ix j = -1/\∀ p∈l,p.1≠j)
 x:s'.nd.x = -1↔s.nd.x = -1/\∀ p∈l,p.1<4
 kj:∀ j,j<20->cI s.nd s.ix j ≠ -1->cI s'.nd s'.ix j=cI s.nd s.ix j
 kx:s.nd.x ≠ -1->s'.nd.x=s.nd.x
 pt:∀ y∈s'.P,(∃ y0∈s.P,y0.t=y.t)\/y.t=s'.nd.x\/∃ p∈l,y.t=cI s'.nd s'.ix p.1
theorem Gk {C:BN} {nd0:Nd} (d:List Int):∀ (l:List Pc) (a n:Nat) (s:iX),sH a l->BP C s.P->MI (C.N s.P) s.T nd0 s.nd s.ix->I9 (C.N s.P) s.nd s.ix->n+sR l<=d.length ->
 (2*l.length<=(KL C.n (gA s.nd s.ix)).count false->(zk C d l n s).1=true)/\((zk C d l n s).1=true->(zk C d l n s).2.1=n+sR l/\M9 C nd0 d a n l s (zk C d l n s).2.2)
 | [],a,n,s,hc,O,h,R,hd=>⟨fun _=>rfl,fun _=>⟨rfl,O,h,R,fun q S=>(if_neg (by unfold sR;simp)).symm,fun j hj=>⟨fun e=>⟨e,fun p U=>(by cases U)⟩,fun e=>e.1⟩,⟨fun e=>⟨e,fun p U=>(by cases U)⟩,fun e=>e.1⟩,fun _ _ _=>rfl,fun _=>rfl,fun y V=>.inl ⟨y,V,rfl⟩⟩⟩
 | p :: l,a,n,s,hc,O,h,R,hd=>by
   obtain ⟨c1,W,c3,c4,c5⟩:=hc;rw [lY] at hd;have ho:=KV O h W;unfold zk;by_cases L:(lW C p.1 s).1=true
   ·rw [if_pos L];obtain ⟨r,u⟩:=ho.2 L;generalize (lW C p.1 s).2=f at *;have hl:=KW r.b r.m (r.i R) W c3 c4 (d.drop n) (by rw [List.length_drop];omega);have X:(hU C p (d.drop n) f).T=f.T/\(hU C p (d.drop n) f).nd=f.nd/\(hU C p (d.drop n) f).ix=f.ix:=⟨rfl,rfl,rfl⟩
    obtain ⟨eT,g,k⟩:=X;have eP:(hU C p (d.drop n) f).P=pT C f.P (cI f.nd f.ix p.1) (qv (gB (C.N f.P) (cI f.nd f.ix p.1)) p.2.1 p.2.2 (d.drop n)):=rfl;generalize hU C p (d.drop n) f=t at *;obtain ⟨lb,lm,li,lc⟩:=hl;rw [<- eT,<- g,<- k] at lm;rw [<- g,<- k] at li lc;have ih:=Gk d l (56*p.1+p.2.2) (n+(p.2.2-p.2.1)) t c5 lb lm li Ha;have hw:ll s.nd s.ix p.1<=2:=by unfold ll;split;omega;split <;> omega
    refine ⟨fun v=>ih.1 ?_,fun v=>?_⟩
    ·rw [List.length_cons] at v;have:=u.n;rw [g,k];omega
    ·obtain ⟨Y,w⟩:=ih.2 v;have z:f.nd.x ≠ -1->(zk C d l (n+(p.2.2-p.2.1)) t).2.2.nd.x=f.nd.x:=fun h=>by rw [<- g] at h ⊢;exact w.kx h
     have A:cI (zk C d l (n+(p.2.2-p.2.1)) t).2.2.nd (zk C d l (n+(p.2.2-p.2.1)) t).2.2.ix p.1=cI f.nd f.ix p.1:=by
      have:=w.kj p.1 W (by rw [g,k];exact u.hk)
      rwa [g,k] at this
     refine ⟨by rw [Y,lY];omega,w.b,w.m,w.i,fun q S=>?_,fun j hj=>?_,?_,fun j hj B=>?_,fun hx=>?_,fun y V=>?_⟩
     ·have Z:cI t.nd t.ix p.1 ≠ -1:=by rw [g,k];exact u.hk
      have ad:cB (C.N f.P) t.nd t.ix q=cB (C.N s.P) s.nd s.ix q:=by
       unfold cB;rw [g,k,r.c _ Ha]
      rw [w.c q S,lc q S,ad,lY];by_cases o:a<=q/\q<a+(p.2.2-p.2.1+sR l)
      ·rw [if_pos o];by_cases H:56*p.1+p.2.2<=q
       ·rw [if_pos Ha]
        congr 1;omega
       ·rw [if_neg Ha,if_pos ⟨Z,Ha,Ha⟩,List.getD,List.getD,List.getElem?_drop]
        congr 2;omega
      ·rw [if_neg o,if_neg Ha,if_neg Ha]
     ·rw [w.j j hj,g,k];by_cases e:j=p.1
      ·subst e;exact ⟨fun h=>absurd h.1 u.hk,fun h=>absurd rfl (h.2 p Hb)⟩
      ·rw [u.j j hj e];simp only [List.mem_cons,forall_eq_or_imp];exact ⟨fun h=>⟨h.1,fun e2=>e e2.symm,h.2⟩,fun h=>⟨h.1,h.2.2⟩⟩
     ·rw [w.x,g,u.x];simp only [List.mem_cons,forall_eq_or_imp];exact ⟨fun h=>⟨h.1.1,h.1.2,h.2⟩,fun h=>⟨⟨h.1,h.2.1⟩,h.2.2⟩⟩
     ·have o:=u.kj j hj B;rw [w.kj j hj (by rw [g,k,o];exact B),g,k,o]
     ·have o:=u.kx hx;rw [z (by rw [o];exact hx),o]
     ·rcases w.pt y V with ⟨y0,I,M⟩ | o | ⟨p1,hp1,Y⟩
      ·have an:t.P=pT C f.P (cI f.nd f.ix p.1) (qv (gB (C.N f.P) (cI f.nd f.ix p.1)) p.2.1 p.2.2 (d.drop n)):=eP;rw [an] at I;rcases sG I with H | H
       ·exact .inr (.inr ⟨p,Hb,by rw [A,<- M];exact H⟩)
       ·rcases r.pt y0 H with K | K | K
        ·exact .inl ⟨y0,K,M⟩
        ·refine .inr (.inl ?_);have:=(r.b.inn y0 H).1;rw [z Ha,<- M];exact K
        ·exact .inr (.inr ⟨p,Hb,by rw [A,<- M];exact K⟩)
      ·exact .inr (.inl o)
      ·exact .inr (.inr ⟨p1,by simp [hp1],Y⟩)
   ·rw [if_neg L];refine ⟨fun v=>absurd (ho.1.2 ?_) L,fun h=>(by cases h)⟩;have hw:ll s.nd s.ix p.1<=2:=by unfold ll;split;omega;split <;> omega
    rw [List.length_cons] at v;omega
structure FI (N:List Bk) (nd:Nd) (ix:List Int):Prop where
 g:GN N nd
 il:ix.length=16
 nm:di N.length (gA nd ix)
 ib:I9 N nd ix
 hx:nd.x = -1->ix=cW
section
variable {N:List Bk} {T:List Bool} {nd0 nd:Nd} {ix:List Int}
theorem FI.oix (h:FI N nd ix):oix nd ix=ix:=by
 unfold Go.Proofs.YtegjelaejbacnaaGreat.oix;split
 ·rename_i e;exact (h.hx e).symm
 ·rfl
theorem FI.mi (h:FI N nd ix) (a:T.length=N.length) (tk:∀ i:Nat,T.getD i false=true->(i:Int)∈gA nd ix):MI N T nd nd ix :=
 ⟨h.g,h.il,⟨h.nm,fun j p hj=>by rw [h.oix] at hj;exact .inr hj,a,tk,fun j p hj b=>by rw [h.oix];exact .inl hj⟩,h.ib,h.hx,rfl,rfl,rfl,rfl⟩
theorem FI.mi0 (h:FI N nd ix) {n:Nat} (b:N.length=n):MI N (List.replicate n false) nd nd ix:=h.mi (by rw [List.length_replicate,b]) (fun i a=>by
 rw [List.getD,List.getElem?_replicate] at a;split at a <;> cases a)
theorem FI.used (h:FI N nd ix) {i:Nat} (b:i<N.length):cy N N.length i=true↔i<3\/(i:Int)∈gA nd ix:=by
 have c:=h.nm.mayB h.il h.g.n2;exact yW h.g (fun a=>by
  have:=(h.nm.rng _ (List.mem_of_getElem? (iY h.il))).resolve_left a;exact ⟨Ha,this.2,h.ib a,c⟩) h.hx b
theorem nM (h:aS 1 nd):(1<=nd.g/\0<=nd.l/\nd.l<=1000)/\(0<=nd.s/\nd.s<=1120)/\nd.t=[]:=by
 rcases h.2 with ⟨_,a,b,_⟩ | ⟨e,_⟩ | ⟨e,_⟩
 ·exact ⟨h.1,a,b⟩
 ·omega
 ·omega
theorem di.node {n:Nat} (h:di n (gA nd ix)) (r:ix.length=16) (hn:n<=200) {z:Int} (W:0<=z/\z<=1120) (V:1<=nd.g/\u32 nd.g) (C:0<=nd.l/\nd.l<=1000) (H:nd.t=[]):aS 1 { nd with s:=z }/\jZ { nd with s:=z }:=by
 have k:=cC (nd:=nd) r (show 0<20 by omega);have m:=cC (nd:=nd) r (show 1<20 by omega);have o:=cC (nd:=nd) r (show 2<20 by omega);have q:=cC (nd:=nd) r (show 3<20 by omega);have u:=iY (nd:=nd) r;change _=some nd.a at k;change _=some nd.b at m;change _=some nd.c at o;change _=some nd.d at q;have v:=h.rng _ (List.mem_of_getElem? k);have w:=h.rng _ (List.mem_of_getElem? m);have y:=h.rng _ (List.mem_of_getElem? o);have A:=h.rng _ (List.mem_of_getElem? q);have B:=h.rng _ (List.mem_of_getElem? u);have j:∀ p:Int,p = -1\/(3<=p/\p<n)->i64 p:=fun p hp=>by clear v w y A B;constructor <;> omega
 have X:i64 nd.l:=by clear v w y A B;constructor <;> omega
 have Y:i64 z:=by clear v w y A B;constructor <;> omega
 have I:=h.ne m k Ha;have K:=h.ne o k Ha;have L:=h.ne o m Ha;have M:=h.ne q k Ha;have N:=h.ne q m Ha;have O:=h.ne q o Ha;have R:=h.ne u k Ha;have S:=h.ne u m Ha;have T:=h.ne u o Ha;have U:=h.ne u q Ha;refine ⟨⟨⟨V.1,C⟩,.inl ⟨rfl,W,H,fun i Z=>?_⟩⟩,⟨V.2,?_,?_,?_,?_,?_,?_,?_,?_,by show nd.t.length<=_;rw [H];decide⟩⟩
 ·match i,Z with
  | 0,_=>exact v.imp id fun e=>⟨⟨show (1:Int)<=nd.a by omega,show nd.a<200 by omega⟩,fun f=>by cases f⟩
  | 1,_=>exact w.imp id fun e=>⟨⟨show (1:Int)<=nd.b by omega,show nd.b<200 by omega⟩,fun (f:nd.b∈[nd.a])=>by
     simp only [List.mem_cons,List.not_mem_nil,or_false] at f;exact I Ha f⟩
  | 2,_=>exact y.imp id fun e=>⟨⟨show (1:Int)<=nd.c by omega,show nd.c<200 by omega⟩,fun (f:nd.c∈[nd.a,nd.b])=>by
     simp only [List.mem_cons,List.not_mem_nil,or_false] at f;rcases f with f | f
     ·exact K Ha f
     ·exact L Ha f⟩
  | 3,_=>exact A.imp id fun e=>⟨⟨show (1:Int)<=nd.d by omega,show nd.d<200 by omega⟩,fun (f:nd.d∈[nd.a,nd.b,nd.c])=>by
     simp only [List.mem_cons,List.not_mem_nil,or_false] at f;rcases f with f | f | f
     ·exact M Ha f
     ·exact N Ha f
     ·exact O Ha f⟩
  | 4,_=>exact B.imp id fun e=>⟨⟨show (1:Int)<=nd.x by omega,show nd.x<200 by omega⟩,fun (f:nd.x∈[nd.a,nd.b,nd.c,nd.d])=>by
     simp only [List.mem_cons,List.not_mem_nil,or_false] at f;rcases f with f | f | f | f
     ·exact R Ha f
     ·exact S Ha f
     ·exact T Ha f
     ·exact U Ha f⟩
 ·exact X
 ·exact Y
 ·exact j _ v
 ·exact j _ w
 ·exact j _ y
 ·exact j _ A
 ·exact j _ B
 ·show ay nd.t;rw [H];exact fun x hx=>by cases hx
theorem FI.close (g:GN N nd0) (il:ix.length=16) (e:di N.length (gA nd ix)) (ib:I9 N nd ix) (j:nd.x = -1->ix=cW) (same:nd.g=nd0.g/\nd.l=nd0.l/\nd.t=nd0.t) {z:Int} (k:0<=z/\z<=1120):FI (N.set 1 (cX 1 { nd with s:=z })) { nd with s:=z } ix:=by
 obtain ⟨f,o,f3⟩:=nM g.may;have m:1<N.length:=by have:=g.l3;omega
 obtain ⟨h,b⟩:=e.node il g.n2 k ⟨by rw [same.1];exact f.1,by rw [same.1];exact g.ok.g⟩ (by rw [same.2.1];exact f.2) (by rw [same.2.2];exact f3);have a:=gj m (cX 1 { nd with s:=z });refine ⟨⟨by rw [List.length_set];exact g.l3,by rw [List.length_set];exact g.n2,?_,?_,?_,fun i n c=>?_,fun i=>?_,fun i=>?_,h,b⟩,il,by rw [List.length_set];exact e,fun d=>?_,j⟩
 ·rw [a,if_neg Ha];exact g.k0
 ·rw [a];exact if_pos rfl
 ·rw [a,if_neg Ha];exact g.k2
 ·rw [List.length_set] at c;rw [a,if_neg Ha];exact g.k3 i n c
 ·rw [a];split
  ·exact kC
  ·exact g.l56 i
 ·rw [a];split
  ·rw [(pA h b).1];decide
  ·exact g.k7 i
 ·have d:nd.x ≠ -1:=d;have p:=(e.rng _ (List.mem_of_getElem? (iY il))).resolve_left d;show gB _ nd.x=_;rw [a,if_neg Ha];exact ib d
theorem Gl (il:ix.length=16) (a:di N.length (gA nd ix)) (b:1<N.length) (x:Bk) (z:Int) {q:Nat} (c:q<1120):cB (N.set 1 x) { nd with s:=z } ix q=cB N nd ix q:=by
 unfold cB;show (gB (N.set 1 x) (cI nd ix (q/56))).bs.getD _ _=_;have:=a.rng _ (List.mem_of_getElem? (cC il (show q/56<20 by omega)));rw [gj b,if_neg Ha]
theorem FI.opened (h:FI N nd ix):gB N 1=cX 1 nd/\nd=bm (cX 1 nd).k (cX 1 nd).bs/\ix=ixOf (gB N nd.x)/\gf (cX 1 nd):=by
 obtain ⟨c,b,d⟩:=pA h.g.may h.g.ok;refine ⟨h.g.k1,?_,?_,b,c⟩
 ·unfold bm;rw [if_pos b,d]
 ·by_cases a:nd.x = -1
  ·rw [a,yT,h.hx a];decide
  ·obtain ⟨i,e,f,_⟩:=mA (h.nm.mayB h.il h.g.n2);rw [h.ib a];unfold ixOf;rw [if_pos e,f]
end
theorem Gm {C:BN} {P:List Wr} {T:List Bool} {nd:Nd} {ix:List Int} (L:BP C P) (h:FI (C.N P) nd ix) (M:MI (C.N P) T nd nd ix) {o m:Nat} (e:o+m<=1120) (d:List Int) (hd:m<=d.length) (R:Bool × Nat × iX) (O:R=zk C d (pcM o m) 0 ⟨P,T,nd,ix⟩) :
 (2*(pcM o m).length<=(KL C.n (gA nd ix)).count false->R.1=true)/\(R.1=true->∃ a f H,yR C 1 o R=((m:Int),0,(yR C 1 o R).2.2)/\R.2.2.T=H/\BP C (yR C 1 o R).2.2/\FI (C.N (yR C 1 o R).2.2) a f/\MI (C.N (yR C 1 o R).2.2) H a a f/\a.s=max nd.s ((o:Int)+m)/\(∀ q,q<1120->cB (C.N (yR C 1 o R).2.2) a f q=if o<=q/\q<o+m then d.getD (q-o) 0 else cB (C.N P) nd ix q)/\(∀ j,j<20->(cI a f j = -1↔cI nd ix j = -1/\∀ p∈pcM o m,p.1≠j))/\(a.x = -1↔nd.x = -1/\∀ p∈pcM o m,p.1<4)/\(P=[]->(yR C 1 o R).2.2.length<=2+(pcM o m).length)):=by
 have v:=Gk (C:=C) (nd0:=nd) d (pcM o m) o 0 ⟨P,T,nd,ix⟩ (pK e) L M h.ib (by rw [uY e];omega);rw [<- O,uY e] at v;refine ⟨v.1,fun I=>?_⟩;obtain ⟨z,w⟩:=v.2 I;have wc:=w.c;rw [uY e] at wc;have S:0<=max R.2.2.nd.s ((o:Int)+(R.2.1:Int))/\max R.2.2.nd.s ((o:Int)+(R.2.1:Int))<=1120:=by
  have:=(nM h.g.may).2.1;rw [w.m.same.2.2.1,z];rw [Int.max_def];split <;> omega
 have U:yR C 1 o R=((R.2.1:Int),0,pT C R.2.2.P 1 (cX 1 { R.2.2.nd with s:=max R.2.2.nd.s ((o:Int)+(R.2.1:Int)) })):=by unfold yR;rw [if_pos I]
 have V:=w.m.g.l3;have r:=w.b.len;obtain ⟨A,u⟩:=w.b.put 1 (cX 1 { R.2.2.nd with s:=max R.2.2.nd.s ((o:Int)+(R.2.1:Int)) });rw [if_pos Ha] at u;have u:C.N (pT C R.2.2.P 1 (cX 1 { R.2.2.nd with s:=max R.2.2.nd.s ((o:Int)+(R.2.1:Int)) }))=(C.N R.2.2.P).set 1 (cX 1 { R.2.2.nd with s:=max R.2.2.nd.s ((o:Int)+(R.2.1:Int)) }):=u;have l:=FI.close w.m.g w.m.il w.m.t.nm w.i w.m.hx ⟨w.m.same.1,w.m.same.2.1,w.m.same.2.2.2⟩ S;rw [<- u] at l;rw [U];dsimp only;refine ⟨_,_,_,by rw [z];simp,rfl,A,l,l.mi ?_ ?_,?_,fun q K=>?_,w.j,w.x,fun W=>?_⟩
 ·rw [w.m.t.tl,r,A.len]
 ·intro i X;exact w.m.t.tk i X
 ·show max R.2.2.nd.s _=_;rw [w.m.same.2.2.1,z];simp
 ·rw [u,Gl w.m.il w.m.t.nm Ha _ _ K,wc q K,Nat.zero_add]
 ·have:=AR A.srt ((1:Int) :: R.2.2.nd.x :: (pcM o m).map fun p=>cI R.2.2.nd R.2.2.ix p.1) (fun y Y=>by
   rcases sG Y with B | B
   ·simp [B]
   ·rcases w.pt y B with ⟨Z,k,_⟩ | k | ⟨p,hp,k⟩
    ·have k:Z∈P:=k;rw [W] at k;cases k
    ·simp [k]
    ·exact List.mem_cons_of_mem _ (List.mem_cons_of_mem _ (List.mem_map.2 ⟨p,hp,k.symm⟩)))
  rw [List.length_cons,List.length_cons,List.length_map] at this;exact Nat.le_trans this Ha
theorem Gn:∀ (n:Nat) (s:iX),n<=20->s.ix.length=16->(wF n s).ix.length=16/\(wF n s).nd.x=s.nd.x/\((wF n s).nd.g=s.nd.g/\(wF n s).nd.l=s.nd.l/\(wF n s).nd.t=s.nd.t)/\(∀ m,di m (gA s.nd s.ix)->di m (gA (wF n s).nd (wF n s).ix))/\∀ j,j<20->cI (wF n s).nd (wF n s).ix j=if 20-n<=j then -1 else cI s.nd s.ix j
 | 0,s,u,b=>⟨b,rfl,⟨rfl,rfl,rfl⟩,fun _ h=>h,fun j hj=>by rw [if_neg Ha];rfl⟩
 | n+1,s,u,b=>by
   have a:=yV (nd:=s.nd) b (19-n) (-1);have f:=wH (nd:=s.nd) b (show 19-n<20 by omega) (-1);have v:=Gf s.nd s.ix (19-n) (-1);have i:=uX s.nd s.ix (19-n) (-1);obtain ⟨k,o,c,p,q⟩:=Gn n { s with nd:=(dO s.nd s.ix (19-n) (-1)).1,ix:=(dO s.nd s.ix (19-n) (-1)).2 } Ha a;have w:wF (n+1) s=wF n { s with nd:=(dO s.nd s.ix (19-n) (-1)).1,ix:=(dO s.nd s.ix (19-n) (-1)).2 }:=rfl;rw [<- w] at k o c p q;dsimp only at k o c p q;refine ⟨k,o.trans v,⟨c.1.trans i.1,c.2.1.trans i.2.1,c.2.2.trans i.2.2.2⟩,fun m y=>p m (by rw [f];exact y.cut _),fun j hj=>?_⟩;rw [q j hj];by_cases e:j=19-n
   ·subst e;rw [if_neg Ha,if_pos Ha];have d:=cC (nd:=(dO s.nd s.ix (19-n) (-1)).1) a hj;rw [f,List.getElem?_set_self (by rw [kX b];omega)] at d;injection d with d;exact d.symm
   ·rw [pJ b a f hj e];by_cases r:20-n<=j
    ·rw [if_pos r,if_pos Ha]
    ·rw [if_neg r,if_neg Ha]
theorem lZ {nd:Nd} {ix:List Int} (c:ix.length=16):ix.any qG=true↔∃ j,4<=j/\j<20/\cI nd ix j ≠ -1:=by
 rw [List.any_eq_true];constructor
 ·rintro ⟨x,b,h⟩;obtain ⟨j,hj⟩:=List.getElem?_of_mem b;have a:=(List.getElem?_eq_some_iff.1 hj).1;refine ⟨4+j,Ha,Ha,?_⟩;unfold cI;rw [if_neg Ha,Nat.add_sub_cancel_left,List.getD,hj];exact (qH x).1 h
 ·rintro ⟨j,d,hj,h⟩;unfold cI at h;rw [if_neg Ha] at h;refine ⟨ix.getD (j-4) 0,?_,(qH _).2 h⟩;rw [List.getD,List.getElem?_eq_getElem Ha];exact List.getElem_mem _
theorem DO {ix:List Int} (a:ix.length=16) (h:¬ ix.any qG=true):ix=cW:=by
 rw [List.any_eq_true] at h;refine List.eq_replicate_iff.2 ⟨a,fun x b=>?_⟩;by_cases e:x = -1
 ·exact e
 ·exact absurd ⟨x,b,(qH x).2 e⟩ h
theorem Jb {C:BN} {nd0:Nd} (d:List Int):∀ (l:List Pc) (a:Nat) (s:iX),l.length<=1->sH a l->BP C s.P->GN (C.N s.P) nd0->s.ix.length=16->di C.n (gA s.nd s.ix)->I9 (C.N s.P) s.nd s.ix->sR l<=d.length->(∀ i,d.getD i 0=0) ->
 BP C (kW C d l s).P/\GN (C.N (kW C d l s).P) nd0/\I9 (C.N (kW C d l s).P) s.nd s.ix/\∀ q,q<1120->cB (C.N (kW C d l s).P) s.nd s.ix q=if a<=q/\q<a+sR l then 0 else cB (C.N s.P) s.nd s.ix q
 | [],a,s,_,o,f,g,il,h,j,hd,r=>⟨f,g,j,fun q t=>(if_neg (by unfold sR;simp)).symm⟩
 | [p],a,s,_,o,f,g,il,h,j,hd,r=>by
   obtain ⟨H,u,w,x,_⟩:=o;have k:sR [p]=p.2.2-p.2.1:=by rw [lY];rfl
   rw [k] at hd ⊢;obtain ⟨b,y,z,m⟩:=za f g il h u w x d Ha;show BP C (hU C p d s).P/\GN (C.N (hU C p d s).P) nd0/\I9 (C.N (hU C p d s).P) s.nd s.ix/\_;refine ⟨b,y,fun v=>?_,fun q t=>?_⟩
   ·rw [z _ (.inr (h.ne (iY il) (cC il u) Ha v))];exact j v
   ·show cB (C.N (hU C p d s).P) s.nd s.ix q=_;rw [m q t,r];by_cases c:a<=q/\q<a+(p.2.2-p.2.1)
    ·rw [if_pos c];split
     ·rfl
     ·rename_i A;have B:cI s.nd s.ix p.1 = -1:=by
       by_cases e:cI s.nd s.ix p.1 = -1
       ·exact e
       ·exact absurd ⟨e,Ha,Ha⟩ A
      unfold cB;rw [show q/56=p.1 by omega,B,yT];show az.getD _ 0=0;unfold az;rw [List.getD,List.getElem?_replicate];split <;> rfl
    ·rw [if_neg c,if_neg Ha]
 | p :: I :: l,a,s,c,_,_,_,_,_,_,_,_=>absurd c Hb
theorem Gp {C:BN} {P:List Wr} {T:List Bool} {nd:Nd} {ix:List Int} (hb:BP C P) (h:FI (C.N P) nd ix) {z:Nat} (hz:z<=1120) (S:iX) (hS:S=Ld C z ⟨P,T,nd,ix⟩) :
 ∃ m u,BP C (I7 C 1 z S)/\S.T=T/\FI (C.N (I7 C 1 z S)) m u/\m.s=z/\(∀ q,q<1120->cB (C.N (I7 C 1 z S)) m u q=if q<z then cB (C.N P) nd ix q else 0)/\(∀ j,j<20->cI m u j=if (z+55)/56<=j then -1 else cI nd ix j)/\m.x=(if u.any qG=true then nd.x else -1)/\(I7 C 1 z S).length<=P.length+3:=by
 obtain ⟨pad,H⟩:∃ pad,pad=(z+55)/56*56-z:=⟨_,rfl⟩
 have bn:z+pad=(z+55)/56*56:=Ha;have a9:pad<56:=Ha;have bb:(z+55)/56<=20:=Ha;unfold Ld at hS;rw [<- H] at hS;have d:=h.nm;rw [hb.len] at d;have y:(pcM z pad).length<=1:=by
  have h1:z+pad<=1120:=Ha;unfold pcM;rw [if_pos Ha,db,show ((z:Int)).toNat=z by omega,show ((z:Int)+pad).toNat=z+pad by omega];unfold pN;split <;> omega
 obtain ⟨I,K,li,L⟩:=Jb (C:=C) (nd0:=nd) (List.replicate pad 0) (pcM z pad) z ⟨P,T,nd,ix⟩ y (pK Ha) hb h.g h.il d h.ib (by rw [uY Ha,List.length_replicate];exact Nat.le_refl _) (fun i=>by rw [List.getD,List.getElem?_replicate];split <;> rfl);obtain ⟨M,O,lT⟩:=B9 C (List.replicate pad 0) (pcM z pad) ⟨P,T,nd,ix⟩;rw [uY Ha] at L;obtain ⟨s1,R⟩:∃ s1,s1=kW C (List.replicate pad 0) (pcM z pad) ⟨P,T,nd,ix⟩:=⟨_,rfl⟩
 rw [<- R] at hS I K li L M O lT;dsimp only at M O lT L li;obtain ⟨A,B,k3,k4,U⟩:=Gn (20-(z+55)/56) s1 Ha (by rw [O];exact h.il);obtain ⟨kP,kT⟩:=Gb (20-(z+55)/56) s1;rw [<- hS] at A B k3 k4 U kP kT;rw [M,O,show 20-(20-(z+55)/56)=(z+55)/56 by omega] at U;rw [M,O] at k4;rw [M] at B k3;rw [<- kP] at I K li L;have o:=k4 _ d;have bi:=I.len;have bs:=K.l3;have a4:=d.rng _ (List.mem_of_getElem? (iY h.il));obtain ⟨nd1,c,p,f,v⟩:∃ nd1,nd1=(DH C S.P { S.nd with s:=(z:Int) } S.ix).2/\∃ p,p=(DH C S.P { S.nd with s:=(z:Int) } S.ix).1/\I7 C 1 z S=pT C p 1 (cX 1 nd1):=⟨_,rfl,_,rfl,rfl⟩
 have a5:BP C p/\GN (C.N p) nd/\nd1={ S.nd with s:=(z:Int),x:=if S.ix.any qG=true then nd.x else -1 }/\(∀ i,i = -1\/i≠nd.x->gB (C.N p) i=gB (C.N S.P) i)/\(S.ix.any qG=true->nd.x ≠ -1/\gB (C.N p) nd.x=fH S.ix):=by
  unfold DH at c f;by_cases b:S.ix.any qG=true
  ·rw [if_pos b] at c f ⊢;have V:nd.x ≠ -1:=fun e=>by
    obtain ⟨j,h4,hj,w⟩:=(lZ (nd:=S.nd) A).1 b;rw [U j hj] at w;split at w
    ·exact w rfl
    ·apply w;unfold cI;rw [if_neg Ha,h.hx e];unfold cW;rw [List.getD,List.getElem?_replicate,if_pos Ha];rfl
   have hr:=a4.resolve_left V;have W:mayB S.ix=true:=o.mayB A (by have:=h.g.n2;rw [hb.len] at this;exact this);dsimp only at c f;obtain ⟨b2,X⟩:=I.put S.nd.x (fH S.ix);rw [<- f,if_pos (by rw [B];omega),B] at X;rw [<- f] at b2;obtain ⟨xn,Y⟩:∃ xn:Nat,nd.x=xn:=⟨nd.x.toNat,Ha⟩
   rw [Y,Int.toNat_natCast] at X;have hG:=fun i=>gj (N:=C.N S.P) (a:=xn) Ha (fH S.ix) i;refine ⟨b2,?_,?_,fun i hi=>?_,fun _=>⟨V,?_⟩⟩
   ·rw [X];exact K.set Ha Ha (by rw [(mA W).1];decide) (kU _).len (kU _).k
   ·rw [c,<- B]
   ·rw [X,hG,if_neg Ha]
   ·rw [X,hG,if_pos Y]
  ·rw [if_neg b] at c f ⊢;dsimp only at c f;rw [f];exact ⟨I,K,c,fun i _=>rfl,fun h=>absurd h b⟩
 obtain ⟨p1,p2,l,p4,p5⟩:=a5;have bk:=I7 C 1 z S;have a6:=p1.len;have Z:di C.n (gA nd1 S.ix):=by
  by_cases b:S.ix.any qG=true
  ·rw [if_pos b] at l;rw [l];show di C.n (S.nd.dir++S.ix++[nd.x]);rw [<- B];exact o
  ·rw [if_neg b] at l;rw [l];show di C.n (S.nd.dir++S.ix++[-1]);have:=yU S.nd A (-1);rw [show S.nd.dir++S.ix++[-1]=_ from this];exact o.cut 20
 obtain ⟨b3,n3⟩:=p1.put 1 (cX 1 nd1);have bl:=p2.l3;rw [if_pos Ha] at n3;have n3:C.N (pT C p 1 (cX 1 nd1))=(C.N p).set 1 (cX 1 nd1):=n3;have ad:{ nd1 with s:=(z:Int) }=nd1:=by rw [l]
 have an:FI ((C.N p).set 1 (cX 1 { nd1 with s:=(z:Int) })) { nd1 with s:=(z:Int) } S.ix:=by
  refine FI.close p2 A (by rw [a6];exact Z) (fun t=>?_) (fun t=>?_) ?_ ⟨Ha,Ha⟩
  ·rw [l] at t ⊢;dsimp only at t ⊢;by_cases b:S.ix.any qG=true
   ·rw [if_pos b] at t ⊢;exact (p5 b).2
   ·rw [if_neg b] at t;exact absurd rfl t
  ·rw [l] at t;dsimp only at t;by_cases b:S.ix.any qG=true
   ·rw [if_pos b] at t;exact absurd t (p5 b).1
   ·exact DO A b
  ·rw [l];exact k3
 rw [ad,<- n3,<- v] at an;refine ⟨nd1,S.ix,by rw [v];exact b3,kT.trans lT,an,by rw [l],fun q hq=>?_,fun j hj=>?_,by rw [l],?_⟩
 ·have a7:∀ j,cI nd1 S.ix j=cI S.nd S.ix j:=fun j=>by rw [l];rfl
  have r:q/56<20:=Ha;rw [v,n3];unfold cB;rw [a7,U _ r];by_cases hc:(z+55)/56<=q/56
  ·rw [if_pos hc,if_neg Ha,gj Ha,if_neg Ha,p4 _ (.inl rfl),yT];show az.getD _ 0=0;unfold az;rw [List.getD,List.getElem?_replicate];split <;> rfl
  ·rw [if_neg hc];have hr:=d.rng _ (List.mem_of_getElem? (cC h.il r));have a8:cI nd ix (q/56) = -1\/cI nd ix (q/56)≠nd.x:=by
    by_cases e:cI nd ix (q/56) = -1
    ·exact .inl e
    ·exact .inr (d.ne (cC h.il r) (iY h.il) Ha e)
   rw [gj Ha,if_neg Ha,p4 _ a8];have:=L q hq;unfold cB at this;rw [this];by_cases a0:q<z
   ·rw [if_neg Ha,if_pos a0]
   ·rw [if_pos Ha,if_neg a0]
 ·rw [show cI nd1 S.ix j=cI S.nd S.ix j by rw [l];rfl];exact U j hj
 ·rw [v];have a1:=pF C p 1 (cX 1 nd1);have a2:=wE C S.P { S.nd with s:=(z:Int) } S.ix;rw [<- f] at a2;have a3:=oO C (List.replicate pad 0) (pcM z pad) ⟨P,T,nd,ix⟩;rw [<- R,<- kP] at a3;dsimp only at a3;omega
def jB (N:List Bk) (nd:Nd) (ix:List Int) (a m:Nat):List Int:=(List.range m).map fun i=>cB N nd ix (a+i)
theorem zb {C:BN} {P:List Wr} {nd:Nd} {ix:List Int} (b:∀ i:Int,(gB (C.N P) i).bs.length=56):∀ (l:List Pc) (a:Nat),sH a l->AQ C P nd ix l=jB (C.N P) nd ix a (sR l)
 | [],a,_=>rfl
 | p :: l,a,d=>by
   obtain ⟨f,g,h,j,e⟩:=d;have ih:=zb (nd:=nd) (ix:=ix) b l _ e;unfold AQ at ih ⊢;rw [List.flatMap_cons,ih,lY];unfold jB;rw [List.range_add,List.map_append]
   congr 1
   ·apply List.ext_getElem?;intro i;rw [List.getElem?_take,List.getElem?_map];by_cases c:i<p.2.2-p.2.1
    ·rw [if_pos c,List.getElem?_range c,List.getElem?_drop];show _=some (cB _ _ _ _);unfold cB;rw [show (a+i)/56=p.1 by omega,show (a+i)%56=p.2.1+i by omega,List.getD,List.getElem?_eq_getElem (by rw [b];omega)];rfl
    ·rw [if_neg c,List.getElem?_eq_none (by rw [List.length_range];omega)];rfl
   ·rw [List.map_map];apply List.map_congr_left;intro i _;show cB (C.N P) nd ix (56*p.1+p.2.2+i)=cB (C.N P) nd ix (a+(p.2.2-p.2.1+i));rw [show 56*p.1+p.2.2+i=a+(p.2.2-p.2.1+i) by omega]
theorem Ma {C:BN} {P:List Wr} {nd:Nd} {ix:List Int} (b:∀ i:Int,(gB (C.N P) i).bs.length=56) {a m:Nat} (h:a+m<=1120):AQ C P nd ix (pcM a m)=jB (C.N P) nd ix a m:=by
 rw [zb b _ a (pK h),uY h]
theorem iW {ops:Array Oper} {rest:List Oper} {o:Oper} {ac:Act} {w:World} {Q:Exit->Act->World->Prop} (b:Region.wanted o (yielded ops ac.tmps)=true) (x:Operand) (c:o.op=.load 82 x) (p:Nat) (d:ac.eval x=.pointer (some ⟨p,0,none⟩)) (n:En) (e:bR w p n)
 (h:wpList Tryz.prog ops Q rest (ac.put o.dst (jO n.l n.a n.g)) w):wpList Tryz.prog ops Q (o :: rest) ac w :=
 BigFrame.wpList_want b fun _ f=>wp_load_mid 82 x c p 0 d _ _ e.dir Tryz.underlying82 rfl j3 (f _ _ h)
theorem Jc:Tryz.prog.eqGuardType Tryz.prog.depth 82=false:=Hc
theorem kY {ops:Array Oper} {rest:List Oper} {o:Oper} {ac:Act} {w:World} {Q:Exit->Act->World->Prop} (i:Region.wanted o (yielded ops ac.tmps)=true) (x y:Operand) (t:TypeId) (j:o.op=.binOp .eql 82 x y t) (l a g b c d:Int) (k:ac.eval x=jO l a g) (m:ac.eval y=jO b c d)
 (h:wpList Tryz.prog ops Q rest (ac.put o.dst (.bool (decide (l=b/\a=c/\g=d)))) w):wpList Tryz.prog ops Q (o :: rest) ac w :=
 BigFrame.wpList_want i fun _ n=>by
  have p:=run_eqGuard_agg (P:=Tryz.prog) w .eql 82 x y #[.int .i64 l,.int .i64 a,.int .u32 g] #[.int .i64 b,.int .i64 c,.int .u32 d] Jc;have q:=LO l a g b c d w;have e:ac.eval x=.agg #[.int .i64 l,.int .i64 a,.int .u32 g]:=k;have f:ac.eval y=.agg #[.int .i64 b,.int .i64 c,.int .u32 d]:=m;unfold Oper.wp execOp;simp only [j,e,f,Sem.run_bind,p,q,Result.andThen_ok];exact n _ _ h
theorem Jd {D:oF} {t:List Int} {b:List Bk} {k:Nat} {x:Bk} (a:b[k]?=some x) (h:iV D t x=true) (c:∀ y∈b.take k,iV D t y=false):dL D t b=k/\ie D t b=g0 x.bs:=by
 have d:qg D t b=some k:=by
  unfold qg;rw [List.findIdx?_eq_some_iff_getElem];have e:=(List.getElem?_eq_some_iff.1 a).1;refine ⟨e,by rw [(List.getElem?_eq_some_iff.1 a).2];exact h,fun j hj=>?_⟩;have:=c (b[j]'Ha) (List.mem_take_iff_getElem.2 ⟨j,Ha,rfl⟩);rw [this];decide
 unfold dL ie;rw [d];exact ⟨rfl,by simp only;rw [kS a]⟩
theorem Je {D:oF} {t:List Int} {b:List Bk} (a:∀ y∈b,iV D t y=false):dL D t b = -1/\ie D t b=en0:=by
 have c:qg D t b=none:=by
  unfold qg;rw [List.findIdx?_eq_none_iff];intro x d;rw [a x d]
 unfold dL ie;rw [c];exact ⟨rfl,rfl⟩
theorem sI (g:Nat) (b:List Bk) (n d:Nat) (D:oF) (t:List Int) (w:World) (hn:b.length=n) (b1:n<=200) (a3:dQ b) (I:rK w (some ⟨g,0,none⟩) b) (K:ay t) :
 Calls Tryz.prog 119 #[.slice (some ⟨g,0,none⟩) n d,D.v,.string (strOfNums t)] w fun e w'=>e=.returned (.tuple #[.agg (dM (ie D t b)),.int .i64 (dL D t b)])/\Below w.heap.size w w':=by
 have HN:=He hn;have HO:=He a3;have HY:Hid (∀ X,Below w.heap.size w X->rK X (some ⟨g,0,none⟩) b):=fun X hb=>I.keep hb;have bb:=He K;obtain ⟨f,j,m⟩:=D;have h4:=bg.new w f j m;obtain ⟨rE,hE⟩:∃ rE,rE=ie ⟨f,j,m⟩ t b:=⟨_,rfl⟩
 obtain ⟨rI,hI⟩:∃ rI,rI=dL ⟨f,j,m⟩ t b:=⟨_,rfl⟩
 rw [<- hE,<- hI];have HE:=He (And.intro hE hI);clear hn a3 I hE hI K;show Calls Tryz.prog 119 #[.slice (some ⟨g,0,none⟩) n d,.agg #[.int .i64 f,.int .i64 j,.int .u32 m],.string (strOfNums t)] w _;go_enter Tryz.func119,Tryz.ntmps119;go_upto_region 1 with (refine gq rfl rfl ?_)
 have a4:Hid (Below w.heap.size w ((w.alloc (.cells #[.int .i64 f,.int .i64 j,.int .u32 m] 82)).alloc (.cells (dM en0) 168))):=(aM _).trans ((aM _).mono Hb);have Y:Hid (bg ((w.alloc (.cells #[.int .i64 f,.int .i64 j,.int .u32 m] 82)).alloc (.cells (dM en0) 168)) w.heap.size f j m):=h4.alloc _;have L:=He (bR.new (w.alloc (.cells #[.int .i64 f,.int .i64 j,.int .u32 m] 82)) en0);have a5:(w.alloc (.cells #[.int .i64 f,.int .i64 j,.int .u32 m] 82)).heap.size=w.heap.size+1:=Hb;rw [a5] at L;clear h4;generalize bi:(w.alloc (.cells #[.int .i64 f,.int .i64 j,.int .u32 m] 82)).alloc (.cells (dM en0) 168)=W0 at *;clear bi a5;obtain ⟨M,a1⟩:∃ M,M=w.heap.size:=⟨_,rfl⟩
 have a6:=He a1;rw [<- a1] at Y L ⊢;clear a1;go_wp2_with fail
 go_loopw [8,9,10] (fun i p ok wr=>∃ k:Nat,k<=n/\i=.int .i64 k/\Hid (∀ x∈b.take k,iV ⟨f,j,m⟩ t x=false)/\Hid (Below w.heap.size w wr)/\Hid (bg wr M f j m)/\Hid (bR wr (M+1) en0)) (fun i _ _ _=>n-(intOf i).toNat)
 case atStart=>exact ⟨0,Ha,rfl,(fun x hx=>by simp at hx),a4,Y,L⟩
 case round =>
  obtain ⟨k,hk,rfl,a2,HB,Y,L⟩:=hrel;obtain ⟨Z,rfl⟩:∃ Z,Z=wr:=⟨wr,rfl⟩
  clear a4;by_cases bk:k<n
  ·obtain ⟨x,hx⟩:∃ x,b[k]?=some x:=⟨_,List.getElem?_eq_getElem (by rw [HN.out];exact bk)⟩
   have bl:(k:Int)<n:=Ha;have u:=HO.out x (List.mem_of_getElem? hx);have b2:=(HY.out _ HB.out).kind hx;have HX:=He hx;have bn:=He u.len;have o:Hid (iV ⟨f,j,m⟩ t x=false->∀ y∈b.take (k+1),iV ⟨f,j,m⟩ t y=false):=fun hf y I=>by
    rw [aw HX.out] at I;rcases List.mem_append.1 I with I | I
    ·exact a2.out y I
    ·rw [List.mem_singleton] at I;rw [I];exact hf
   have U:=He (fun W=>yv x.k x.bs W (by have:=u.k;constructor <;> omega) u.len u.b);have bt:=He (Fy u.len u.b);clear hx u;by_cases h6:x.k=6
   ·have V:Hid (iV ⟨f,j,m⟩ t x=(decide (dW x.k x.bs)&&(decide ((g0 x.bs).id=⟨f,j,m⟩)&&decide ((g0 x.bs).t=t)))):=by
     unfold Hid iV;rw [decide_eq_true h6,Bool.true_and]
    obtain ⟨kx,q⟩:=x;simp only at h6;subst h6;have HM:Hid (∀ X,Below w.heap.size w X->X.rangeAt g (k*57) (blkL 6 q)):=fun X hb=>(HY.out X hb).at_ HX.out;have ad:Hid (q.length=56):=bn;by_cases K:dW 6 q
    ·have e0:sh 6 q=g0 q:=if_pos K;have N:Hid (iV ⟨f,j,m⟩ t ⟨6,q⟩=(decide ((g0 q).id=⟨f,j,m⟩)&&decide ((g0 q).t=t))):=by
      unfold Hid;rw [V.out];simp only;rw [decide_eq_true K,Bool.true_and]
     have O:Hid (∀ W,Calls Tryz.prog 167 #[.agg (ab 6 q)] W fun e w'=>e=.returned (.tuple #[.agg (dM (g0 q)),.bool true])/\Below W.heap.size W w'):=fun W=>by
      have h:=U.out W;simp only at h
      rwa [e0,decide_eq_true K] at h
     have b3:Hid ((⟨6,q⟩:Bk).bs=q):=rfl;have bx:=mf bt.out.t bb.out;simp only at bx;clear U V e0 K;generalize a7:g0 q=c at *;have b0:=He a7;clear a7;go_wp2_with (first | (with_reducible refine wpList_load_mid rfl 37 (.tmp 26) rfl g (k*57) rfl (blkL 6 q) _ (HM.out _ HB.out) Tryz.underlying37 rfl (bS (x:=⟨6,q⟩) ad.out) ?_))
     refine (O.out Z).mono ?_;rintro e1 C ⟨rfl,z⟩;have h9:=bR.new C en0;go_upto_region 6 with (first | (refine gq rfl rfl ?_) | (refine bK rfl (.tmp 9) (.tmp 29) rfl C.heap.size rfl c en0 rfl h9 ?_))
     have r:Below Z.heap.size Z ((C.alloc (.cells (dM en0) 168)).setRow C.heap.size (dM c)):=z.trans ((below_setRow (aM (.cells (dM en0) 168)) (Nat.le_refl _) (dM c)).mono z.size);have R:=He (HB.out.trans (r.mono HB.out.size));have A:=He (Y.out.below r);have H:=He (L.out.below r);have H9:=He (h9.set c);clear z r h9 HB Y L;generalize (C.alloc (.cells (dM en0) 168)).setRow C.heap.size (dM c)=w6 at *;generalize C.heap.size=p at *;have b4:=H9.out.cells.1;by_cases s:c.l=f/\c.a=j/\c.g=m
     ·have a8:decide (c.l=f/\c.a=j/\c.g=m)=true:=decide_eq_true s;have a9:Hid (c.id=⟨f,j,m⟩):=by unfold Hid En.id;rw [s.1,s.2.1,s.2.2]
      clear s;by_cases S:c.t=t
      ·have an:decide (c.t=t)=true:=decide_eq_true S;have a0:Hid (rI=(k:Int)/\rE=c):=by
        have h1:=Jd HX.out (by rw [N.out,a9.out,S];simp) a2.out;exact ⟨by rw [HE.out.2,h1.1],by rw [HE.out.1,h1.2];exact b0.out⟩
       clear S;go_wp2_with (first
        | (refine iW Hl (.tmp 33) rfl p rfl c H9.out ?_)
        | (refine iC Hl (.tmp 4) rfl M rfl f j m A.out ?_)
        | (refine kY Hl (.tmp 34) (.tmp 35) _ rfl c.l c.a c.g f j m rfl rfl ?_)
        | (refine fW rfl (.tmp 9) rfl p rfl c H9.out ?_)
        | (refine bK rfl (.tmp 6) (.tmp 44) rfl (M+1) rfl c en0 rfl H.out ?_))
       refine bodyPost_ret (fD rfl _ _ (M+1) c rfl (H.out.set c)) rfl ?_;exact ⟨by rw [a0.out.1,a0.out.2];rfl,below_setRow R.out (by rw [a6.out];omega) _⟩
      ·have an:decide (c.t=t)=false:=decide_eq_false S;have B:=He (o.out (by rw [N.out,an,Bool.and_false]));clear S;go_wp2_with (first
        | (refine iW Hl (.tmp 33) rfl p rfl c H9.out ?_)
        | (refine iC Hl (.tmp 4) rfl M rfl f j m A.out ?_)
        | (refine kY Hl (.tmp 34) (.tmp 35) _ rfl c.l c.a c.g f j m rfl rfl ?_))
       go_roundw
       case rel=>exact ⟨k+1,Ha,by go_num,B,R,A,H⟩
       case measure=>simp [intOf];omega
     ·have a8:decide (c.l=f/\c.a=j/\c.g=m)=false:=decide_eq_false s;have B:=He (o.out (by
       rw [N.out,decide_eq_false (fun h:c.id=⟨f,j,m⟩=>s (by unfold En.id at h;injection h with h1 h2 h3;exact ⟨h1,h2,h3⟩)),Bool.false_and]))
      clear s;go_wp2_with (first
       | (refine iW Hl (.tmp 33) rfl p rfl c H9.out ?_)
       | (refine iC Hl (.tmp 4) rfl M rfl f j m A.out ?_)
         | (refine kY Hl (.tmp 34) (.tmp 35) _ rfl c.l c.a c.g f j m rfl rfl ?_))
      go_roundw
      case rel=>exact ⟨k+1,Ha,by go_num,B,R,A,H⟩
      case measure=>simp [intOf];omega
    ·have e0:sh 6 q=en0:=if_neg K;have B:=He (o.out (by rw [V.out];simp only;rw [decide_eq_false K,Bool.false_and]));have O:Hid (∀ W,Calls Tryz.prog 167 #[.agg (ab 6 q)] W fun e w'=>e=.returned (.tuple #[.agg (dM en0),.bool false])/\Below W.heap.size W w'):=fun W=>by
      have h:=U.out W;simp only at h
      rwa [e0,decide_eq_false K] at h
     clear U V e0 K;go_wp2_with (first | (with_reducible refine wpList_load_mid rfl 37 (.tmp 26) rfl g (k*57) rfl (blkL 6 q) _ (HM.out _ HB.out) Tryz.underlying37 rfl (bS (x:=⟨6,q⟩) ad.out) ?_))
     refine (O.out Z).mono ?_;rintro e1 C ⟨rfl,z⟩;have h9:=bR.new C en0;go_upto_region 6 with (first | (refine gq rfl rfl ?_) | (refine bK rfl (.tmp 9) (.tmp 29) rfl C.heap.size rfl en0 en0 rfl h9 ?_))
     have r:Below Z.heap.size Z ((C.alloc (.cells (dM en0) 168)).setRow C.heap.size (dM en0)):=z.trans ((below_setRow (aM (.cells (dM en0) 168)) (Nat.le_refl _) (dM en0)).mono z.size);have R:=He (HB.out.trans (r.mono HB.out.size));have A:=He (Y.out.below r);have H:=He (L.out.below r);clear z r h9 HB Y L;generalize (C.alloc (.cells (dM en0) 168)).setRow C.heap.size (dM en0)=w6 at *;go_wp2_with fail
     go_roundw
     case rel=>exact ⟨k+1,Ha,by go_num,B,R,A,H⟩
     case measure=>simp [intOf];omega
   ·have B:=He (o.out (by unfold iV;rw [decide_eq_false h6,Bool.false_and]));generalize x.k=kx at *;have b5:decide (kx=6)=false:=decide_eq_false h6;have b6:(kx != 6)=true:=by simp [h6]
    go_wp2_with fail
    go_roundw
    case rel=>exact ⟨k+1,Ha,by go_num,B,HB,Y,L⟩
    case measure=>simp [intOf];omega
  ·obtain rfl:k=n:=Ha;have bl:¬ (k:Int)<k:=Ha;have T:Hid (rI = -1/\rE=en0):=by
    have h1:=Je (D:=⟨f,j,m⟩) (t:=t) (b:=b) (fun y I=>a2.out y (by rw [List.take_of_length_le (by rw [HN.out];exact Nat.le_refl _)];exact I));exact ⟨by rw [HE.out.2,h1.1],by rw [HE.out.1,h1.2]⟩
   go_wp2_with (first | (refine fC rfl rfl ?_) | (refine bK rfl (.tmp 6) (.tmp 46) rfl (M+1) rfl en0 en0 rfl L.out ?_))
   refine bodyPost_ret (fD rfl _ _ (M+1) en0 rfl (L.out.set en0)) rfl ?_;exact ⟨by rw [T.out.1,T.out.2];rfl,below_setRow HB.out (by rw [a6.out];omega) _⟩
end Go.Proofs.YtegjelaejbacnaaGreat
