/- For FileLong: contracts and facts, part 26. -/
import Derived.Test.YtegjelaejbacnaaGreatL19
import Derived.Test.YtegjelaejbacnaaGreatL25
set_option maxRecDepth 100000
set_option maxHeartbeats 25600000
set_option linter.unusedVariables false
open Go.ChangeShapes Go.WideShapes Go.ChangeAt Go.RowKit
namespace Go.Proofs.YtegjelaejbacnaaGreat
structure NT (n:Nat) (T:List Bool) (O L:List Int):Prop where
 nm:gK n L
 sub:∀ (j:Nat) (p:Int),O[j]?=some p->p = -1\/L[j]?=some p
 tl:T.length=n
 tk:∀ i:Nat,T.getD i false=true->(i:Int)∈L
 tc:∀ (j:Nat) (p:Int),L[j]?=some p->p ≠ -1->O[j]?=some p\/T.getD p.toNat false=true
theorem py {T:List Bool} {f:Nat} (b:f<T.length) (i:Nat):(setB T (f:Int) true).getD i false=(T.getD i false||decide (i=f)):=by
 by_cases a:i<T.length
 ·rw [List.getD,lJ a,Option.getD_some]
  congr 1
  by_cases e:i=f
  ·rw [decide_eq_true e,decide_eq_true Ha]
  ·rw [decide_eq_false e,decide_eq_false Ha]
 ·rw [List.getD,List.getElem?_eq_none (by rw [jy];omega),List.getD,List.getElem?_eq_none Ha,decide_eq_false Ha];rfl
theorem NT.fill {n:Nat} {T:List Bool} {O L:List Int} (h:NT n T O L) (j:Nat) (hj:L[j]?=some (-1)) {f:Nat} (u:3<=f) (d:f<n) (s:(f:Int) ∉ L) {g:List Int} (r:∀ i,i≠j->g[i]?=O[i]?) (k:∀ p,g[j]?=some p->p = -1\/p=f):NT n (setB T (f:Int) true) g (L.set j f):=by
 have b:=(List.getElem?_eq_some_iff.1 hj).1;refine ⟨h.nm.set j Ha Ha s,fun i p a=>?_,by rw [jy];exact h.tl,fun i a=>?_,fun i p a t=>?_⟩
 ·by_cases e:i=j
  ·subst e;rcases k p a with l | l
   ·exact .inl l
   ·subst l;exact .inr (List.getElem?_set_self b)
  ·rw [r i e] at a;rw [List.getElem?_set_ne (fun h=>e h.symm)];exact h.sub i p a
 ·rw [py (by rw [h.tl];exact d),Bool.or_eq_true,decide_eq_true_eq] at a;rcases a with a | a
  ·obtain ⟨m,c⟩:=List.getElem?_of_mem (h.tk i a);have o:j≠m:=fun e=>by rw [<- e,hj] at c;injection c with c;omega
   exact List.mem_of_getElem? ((List.getElem?_set_ne o).trans c)
  ·subst a;exact List.mem_of_getElem? (List.getElem?_set_self b)
 ·by_cases e:i=j
  ·subst e;rw [List.getElem?_set_self b] at a;injection a with a
   subst a;refine .inr ?_;rw [Int.toNat_natCast,py (by rw [h.tl];exact d)];simp
  ·rw [List.getElem?_set_ne (fun h=>e h.symm)] at a;rcases h.tc i p a t with q | q
   ·exact .inl ((r i e).trans q)
   ·refine .inr ?_;rw [py (by rw [h.tl];exact d),q];rfl
def oix (nd0:Nd) (ix:List Int):List Int:=if nd0.x = -1 then fY else ix
theorem wB (nd0:Nd) {ix:List Int} (h:ix.length=16):(oix nd0 ix).length=16:=by unfold oix;split;rfl;exact h
structure MI (N:List Bk) (T:List Bool) (nd0 nd:Nd) (ix:List Int):Prop where
 g:GN N nd0
 il:ix.length=16
 t:NT N.length T (ig nd0 (oix nd0 ix)) (ig nd ix)
 ixo:nd0.x ≠ -1->gB N nd0.x=gx ix
 hx:nd.x = -1->ix=fY
 same:nd.g=nd0.g/\nd.l=nd0.l/\nd.s=nd0.s/\nd.t=nd0.t
section
variable {N:List Bk} {T:List Bool} {nd0 nd:Nd} {ix:List Int}
theorem MI.x (h:MI N T nd0 nd ix):nd.x = -1\/(3<=nd.x/\nd.x<N.length):=h.t.nm.rng _ (List.mem_of_getElem? (mN h.il))
theorem MI.x0 (h:MI N T nd0 nd ix):nd0.x = -1\/nd.x=nd0.x:=by
 rcases h.t.sub 20 nd0.x (mN (wB nd0 h.il)) with e | e
 ·exact .inl e
 ·rw [mN h.il] at e;injection e with e;exact .inr e
theorem MI.at (h:MI N T nd0 nd ix) {k:Nat} (a:k<20):fw nd ix k = -1\/(3<=fw nd ix k/\fw nd ix k<N.length):=h.t.nm.rng _ (List.mem_of_getElem? (dY h.il a))
theorem MI.mayB (h:MI N T nd0 nd ix):mayB ix=true:=h.t.nm.mayB h.il h.g.n2
theorem MI.kept (h:MI N T nd0 nd ix):bX N T=KL N.length (ig nd ix):=by
 apply List.ext_getElem?;intro i;by_cases c:i<N.length
 ·rw [DC c,yM _ c]
  congr 1
  rw [Bool.eq_iff_iff,Bool.or_eq_true,decide_eq_true_eq];have d:cJ N N.length i=true↔i<3\/(i:Int)∈ig nd0 (oix nd0 ix):=F9 h.g (fun b=>by
   have e:=h.x0.resolve_left b;have:=h.x;rw [e] at this;have f:=this.resolve_left b;have k:oix nd0 ix=ix:=if_neg b;show 0<=nd0.x/\nd0.x<N.length/\gB N nd0.x=gx (oix nd0 ix)/\Go.Proofs.YtegjelaejbacnaaGreat.mayB (oix nd0 ix)=true;rw [k];exact ⟨Ha,f.2,h.ixo b,h.mayB⟩) (fun b=>if_pos b) c
  rw [d];constructor
  ·rintro ((a | a) | a)
   ·exact .inl a
   ·obtain ⟨j,hj⟩:=List.getElem?_of_mem a;rcases h.t.sub j _ hj with e | e
    ·omega
    ·exact .inr (List.mem_of_getElem? e)
   ·exact .inr (h.t.tk i a)
  ·rintro (a | a)
   ·exact .inl (.inl a)
   ·obtain ⟨j,hj⟩:=List.getElem?_of_mem a;rcases h.t.tc j _ hj Ha with e | e
    ·exact .inl (.inr (List.mem_of_getElem? e))
    ·rw [Int.toNat_natCast] at e;exact .inr e
 ·rw [List.getElem?_eq_none (by rw [nz];omega),List.getElem?_eq_none (by rw [ww];omega)]
theorem MI.fst (h:MI N T nd0 nd ix) (c:fZ (bX N T)<N.length):3<=fZ (bX N T)/\((fZ (bX N T):Nat):Int) ∉ ig nd ix:=by
 have a:=yL (S:=bX N T) (by rw [nz];exact c);generalize e:fZ (bX N T)=f at *;rw [h.kept,yM _ c] at a;injection a with a
 have d:=of_decide_eq_false a;refine ⟨?_,fun h=>d (.inr h)⟩;rcases Nat.lt_or_ge f 3 with b | b
 ·exact absurd (.inl b) d
 ·exact b
end
def cB (N:List Bk) (nd:Nd) (ix:List Int) (p:Nat):Int:=(gB N (fw nd ix (p/56))).bs.getD (p%56) 0
structure LY (C:BN) (nd0:Nd) (k:Nat) (s s':jB):Prop where
 b:BP C s'.P
 m:MI (C.N s'.P) s'.T nd0 s'.nd s'.ix
 i:(s.nd.x ≠ -1->gB (C.N s.P) s.nd.x=gx s.ix)->(s'.nd.x ≠ -1->gB (C.N s'.P) s'.nd.x=gx s'.ix)
 c:∀ j,j<20->(gB (C.N s'.P) (fw s'.nd s'.ix j)).bs=(gB (C.N s.P) (fw s.nd s.ix j)).bs
 pt:∀ y∈s'.P,y∈s.P\/y.t=s'.nd.x\/y.t=fw s'.nd s'.ix k
theorem IZ (x:Int):FR x=true↔x ≠ -1:=decide_eq_true_iff
theorem sy {nd a:Nd} {ix b:List Int} (i:ix.length=16) (d:b.length=16) {k:Nat} {f:Int} (h:ig a b=(ig nd ix).set k f) {j:Nat} (hj:j<20) (g:j≠k):fw a b j=fw nd ix j:=by
 have c:=dY (nd:=a) d hj;rw [h,List.getElem?_set_ne (fun e=>g e.symm),dY i hj] at c;injection c with c
 exact c.symm
theorem BT (nd:Nd) (ix:List Int) {k:Nat} (h:4<=k) (a:Int):fO nd ix k a=(nd,ix.set (k-4) a):=by unfold fO;rw [if_neg Ha]
theorem wC (nd:Nd) (ix:List Int) {k:Nat} (h:¬ 4<=k) (a:Int):fO nd ix k a=(nd.setDir k a,ix):=by unfold fO;rw [if_pos Ha]
theorem I0 (nd0:Nd) {ix:List Int} (a:ix.length=16) {k:Nat} (b:4<=k) (c:k<20) (f:Int):ig nd0 (oix nd0 (ix.set (k-4) f))=if nd0.x = -1 then ig nd0 (oix nd0 ix) else (ig nd0 (oix nd0 ix)).set k f:=by
 unfold oix;split
 ·rfl
 ·have:=BS (nd:=nd0) a c f;rw [BT _ _ b] at this;exact this
theorem BU {C:BN} {s:jB} {nd0:Nd} (hb:BP C s.P) (h:MI (C.N s.P) s.T nd0 s.nd s.ix) {k:Nat} (hk:k<20) (hh:fw s.nd s.ix k = -1) (hx:4<=k->s.nd.x ≠ -1) :
 ((own2 C k s).1=true↔fZ (bX (C.N s.P) s.T)<C.n)/\((own2 C k s).1=true->LY C nd0 k s (own2 C k s).2/\(4<=k->gB (C.N (own2 C k s).2.P) (own2 C k s).2.nd.x=gx (own2 C k s).2.ix)/\(own2 C k s).2.nd.x=s.nd.x/\∃ f:Int,f ≠ -1/\ig (own2 C k s).2.nd (own2 C k s).2.ix=(ig s.nd s.ix).set k f):=by
 have r:=hb.len;unfold own2;by_cases z:j6 C s.P s.T<C.n
 ·rw [if_pos z];refine ⟨⟨fun _=>z,fun _=>rfl⟩,fun _=>?_⟩;have ad:j6 C s.P s.T=fZ (bX (C.N s.P) s.T):=rfl;rw [ad] at z ⊢;obtain ⟨f3,fm⟩:=h.fst (by rw [r];exact z);have eT:gf (C.N s.P) s.T=setB s.T (fZ (bX (C.N s.P) s.T):Nat) true:=by unfold gf;rw [if_pos (by rw [r];exact z)]
  rw [eT];generalize fZ (bX (C.N s.P) s.T)=f at *;obtain ⟨b1,K⟩:=hb.put (f:Int) dH;rw [if_pos Ha,Int.toNat_natCast] at K;have d:f<(C.N s.P).length:=by rw [r];exact z
  have l:=BS (nd:=s.nd) h.il hk (f:Int);have g1:GN ((C.N s.P).set f dH) nd0:=h.g.set f3 d Hd ak Hd;have A:=(dY (nd:=s.nd) h.il hk).trans (congrArg some hh);have a:=F8 (nd:=s.nd) h.il k (f:Int);have b:fw (fO s.nd s.ix k f).1 (fO s.nd s.ix k f).2 k=f:=by
   have L:=dY (nd:=(fO s.nd s.ix k f).1) a hk;rw [l,List.getElem?_set_self (by rw [oE h.il];omega)] at L;injection L with L;exact L.symm
  have M:∀ j,j<20->(gB ((C.N s.P).set f dH) (fw (fO s.nd s.ix k f).1 (fO s.nd s.ix k f).2 j)).bs=(gB (C.N s.P) (fw s.nd s.ix j)).bs:=fun j hj=>by
   by_cases e:j=k
   ·subst e;rw [b,hh,F5,iC d,if_pos rfl];rfl
   ·rw [sy h.il a l hj e,iC d,if_neg];intro e2;exact fm (e2 ▸ List.mem_of_getElem? (dY h.il hj))
  have R:s.nd.x≠(f:Int):=fun e=>fm (e ▸ List.mem_of_getElem? (mN h.il));have S:∀ p,(ig nd0 (oix nd0 s.ix))[k]?=some p->p = -1:=fun p m=>by
   rcases h.t.sub k p m with e | e
   ·exact e
   ·rw [A] at e;injection e with e;exact e.symm
  dsimp only;by_cases u:4<=k
  ·simp only [if_pos u];rw [BT _ _ u] at l a M b ⊢;dsimp only at l a M b ⊢;have B:=hx u;have a1:=h.x.resolve_left B;have U:(s.ix.set (k-4) (f:Int)).any FR=true:=by
    rw [List.any_eq_true];exact ⟨f,List.mem_of_getElem? (List.getElem?_set_self (by rw [h.il];omega)),(IZ _).2 Ha⟩
   have eI:Gy C (pT C s.P f dH) s.nd (s.ix.set (k-4) (f:Int))=(pT C (pT C s.P f dH) s.nd.x (gx (s.ix.set (k-4) (f:Int))),s.nd):=if_pos U;rw [eI];dsimp only;obtain ⟨b2,V⟩:=b1.put s.nd.x (gx (s.ix.set (k-4) (f:Int)));rw [if_pos Ha,K] at V;obtain ⟨q,v⟩:∃ q:Nat,s.nd.x=q:=⟨s.nd.x.toNat,Ha⟩
   rw [v,Int.toNat_natCast] at V;have an:((C.N s.P).set f dH).length=C.n:=by rw [List.length_set];exact r
   have W:NT (C.N s.P).length (setB s.T (f:Int) true) (ig nd0 (oix nd0 (s.ix.set (k-4) (f:Int)))) ((ig s.nd s.ix).set k f):=by
    have X:=I0 nd0 h.il u hk (f:Int);refine h.t.fill k A f3 d fm (fun i O=>?_) (fun p m=>?_)
    ·rw [X];split
     ·rfl
     ·rw [List.getElem?_set_ne (fun e=>O e.symm)]
    ·rw [X] at m;split at m
     ·exact .inl (S p m)
     ·rw [List.getElem?_set_self (by rw [oE (wB nd0 h.il)];omega)] at m;injection m with m;exact .inr m.symm
   have Y:mayB (s.ix.set (k-4) (f:Int))=true:=by
    have:=W.nm;rw [<- l] at this;exact this.mayB a h.g.n2
   have a0:(gx (s.ix.set (k-4) (f:Int))).k=5:=(pj Y).1;have H:∀ i,gB (C.N (pT C (pT C s.P f dH) (q:Int) (gx (s.ix.set (k-4) (f:Int))))) i=if i=(q:Int) then gx (s.ix.set (k-4) (f:Int)) else gB ((C.N s.P).set f dH) i:=fun i=>by
    rw [V,iC Ha]
   rw [v] at b2 ⊢;refine ⟨⟨b2,⟨?_,a,?_,fun c=>?_,fun c=>?_,h.same⟩,fun _ _=>?_,fun j hj=>?_,fun y w=>?_⟩,fun _=>?_,rfl,f,Ha,l⟩
   ·show GN (C.N (pT C (pT C s.P f dH) (q:Int) (gx (s.ix.set (k-4) (f:Int))))) nd0;rw [V];exact g1.set Ha Ha (by rw [a0];decide) (ow _).len (ow _).k
   ·show NT (C.N (pT C (pT C s.P f dH) (q:Int) (gx (s.ix.set (k-4) (f:Int))))).length _ _ _;rw [V,List.length_set,List.length_set];show NT _ _ _ (ig s.nd _);rw [l];exact W
   ·have e:=h.x0.resolve_left c;show gB (C.N (pT C (pT C s.P f dH) (q:Int) (gx (s.ix.set (k-4) (f:Int))))) _=_;rw [H,if_pos Ha]
   ·exact absurd c B
   ·show gB (C.N (pT C (pT C s.P f dH) (q:Int) (gx (s.ix.set (k-4) (f:Int))))) _=_;rw [H,if_pos v]
   ·show (gB (C.N (pT C (pT C s.P f dH) (q:Int) (gx (s.ix.set (k-4) (f:Int))))) (fw s.nd (s.ix.set (k-4) (f:Int)) j)).bs=_;rw [H,if_neg,M j hj];have L:=(dY (nd:=s.nd) a hj)
    have h2:=(mN (nd:=s.nd) a)
    have Z:=W.nm;rw [<- l] at Z;exact fun e=>Z.ne h2 L Ha B Ha
   ·rcases sx w with e | w
    ·exact .inr (.inl (e.trans v.symm))
    ·rcases sx w with e | w
     ·exact .inr (.inr (e.trans b.symm))
     ·exact .inl w
   ·show gB (C.N (pT C (pT C s.P f dH) (q:Int) (gx (s.ix.set (k-4) (f:Int))))) _=_;rw [H,if_pos rfl]
  ·simp only [if_neg u];rw [wC _ _ u] at l a M b ⊢;dsimp only at l a M b ⊢;have I:(s.nd.setDir k f).x=s.nd.x:=by have:=KM s.nd s.ix k (f:Int);rw [wC _ _ u] at this;exact this
   have o:=DD s.nd s.ix k (f:Int);rw [wC _ _ u] at o;have W:NT (C.N s.P).length (setB s.T (f:Int) true) (ig nd0 (oix nd0 s.ix)) ((ig s.nd s.ix).set k f):=h.t.fill k A f3 d fm (fun i O=>rfl) (fun p m=>.inl (S p m));have H:∀ i,i≠(f:Int)->gB (C.N (pT C s.P f dH)) i=gB (C.N s.P) i:=fun i O=>by rw [K,iC d,if_neg O]
   refine ⟨⟨b1,⟨?_,a,?_,fun c=>?_,fun c=>?_,?_⟩,fun O c=>?_,fun j hj=>?_,fun y w=>?_⟩,fun h=>absurd h u,I,f,Ha,l⟩
   ·show GN (C.N (pT C s.P f dH)) nd0;rw [K];exact g1
   ·show NT (C.N (pT C s.P f dH)).length _ _ _;rw [K,List.length_set];show NT _ _ _ (ig (s.nd.setDir k f) s.ix);rw [l];exact W
   ·have e:=h.x0.resolve_left c;show gB (C.N (pT C s.P f dH)) _=_;rw [H _ (by rw [<- e];exact R)];exact h.ixo c
   ·have c:(s.nd.setDir k f).x = -1:=c;rw [I] at c;exact h.hx c
   ·exact ⟨o.1.trans h.same.1,o.2.1.trans h.same.2.1,o.2.2.1.trans h.same.2.2.1,o.2.2.2.trans h.same.2.2.2⟩
   ·have c:(s.nd.setDir k f).x ≠ -1:=c;show gB (C.N (pT C s.P f dH)) (s.nd.setDir k f).x=_;rw [I] at c ⊢;rw [H _ R];exact O c
   ·show (gB (C.N (pT C s.P f dH)) (fw (s.nd.setDir k f) s.ix j)).bs=_;rw [K];exact M j hj
   ·rcases sx w with e | w
    ·exact .inr (.inr (e.trans b.symm))
    ·exact .inl w
 ·rw [if_neg z];exact ⟨⟨fun h=>(by cases h),fun h=>absurd h z⟩,fun h=>(by cases h)⟩
theorem oF (C:BN) (a:Int):so C a=true↔0<=a/\a<C.n:=decide_eq_true_iff
theorem wD {n:Nat} {L:List Int} (a:3<=n) (h:gK n L) {k:Nat} {f:Int} (b:gK n (L.set k f)) (c:L[k]?=some (-1)) (d:f ≠ -1):(KL n (L.set k f)).count false+1=(KL n L).count false:=by
 have e:=h.count a;have g:=b.count a;have a:=yO c d;omega
def kV (nd:Nd) (ix:List Int) (k:Nat):Nat:=if fw nd ix k ≠ -1 then 0 else if 4<=k/\nd.x = -1 then 2 else 1
structure MC (C:BN) (k:Nat) (s s':jB):Prop where
 hk:fw s'.nd s'.ix k ≠ -1
 j:∀ j,j<20->j≠k->fw s'.nd s'.ix j=fw s.nd s.ix j
 x:s'.nd.x = -1↔s.nd.x = -1/\k<4
 n:(KL C.n (ig s'.nd s'.ix)).count false+kV s.nd s.ix k=(KL C.n (ig s.nd s.ix)).count false
 kj:∀ j,j<20->fw s.nd s.ix j ≠ -1->fw s'.nd s'.ix j=fw s.nd s.ix j
 kx:s.nd.x ≠ -1->s'.nd.x=s.nd.x
theorem KN {C:BN} {s:jB} {nd0:Nd} (o:BP C s.P) (h:MI (C.N s.P) s.T nd0 s.nd s.ix) {k:Nat} (W:k<20) :
 ((lN C k s).1=true↔kV s.nd s.ix k<=(KL C.n (ig s.nd s.ix)).count false)/\((lN C k s).1=true->LY C nd0 k s (lN C k s).2/\MC C k s (lN C k s).2):=by
 have q:=o.len;have h3:=h.g.l3;rw [q] at h3;have M:=h.t.nm;rw [q] at M;have O:=dY (nd:=s.nd) h.il W;have u:∀ (s:jB),BP C s.P->MI (C.N s.P) s.T nd0 s.nd s.ix->(fZ (bX (C.N s.P) s.T)<C.n↔0<(KL C.n (ig s.nd s.ix)).count false):=fun s o h=>by
  have:=uN (bX (C.N s.P) s.T);rw [nz,o.len] at this;rw [<- this,h.kept,o.len]
 unfold lN;by_cases B:fw s.nd s.ix k = -1
 ·have an:¬ so C (fw s.nd s.ix k)=true:=by rw [oF];omega
  rw [if_neg an];rw [B] at O;unfold own1;by_cases z:4<=k/\s.nd.x = -1
  ·have I:kV s.nd s.ix k=2:=by unfold kV;rw [if_neg Ha,if_pos z]
   have R:4<=k/\so C s.nd.x=false:=⟨z.1,by rw [Bool.eq_false_iff];intro h;rw [oF] at h;omega⟩
   rw [if_pos R,I];by_cases S:j6 C s.P s.T<C.n
   ·rw [if_pos S];have a0:j6 C s.P s.T=fZ (bX (C.N s.P) s.T):=rfl;rw [a0] at S ⊢;have a3:=(u s o h).1 S;obtain ⟨f3,fm⟩:=h.fst (by rw [q];exact S);have eT:gf (C.N s.P) s.T=setB s.T (fZ (bX (C.N s.P) s.T):Nat) true:=by unfold gf;rw [if_pos (by rw [q];exact S)]
    rw [eT];generalize fZ (bX (C.N s.P) s.T)=f at *;have hL:=F7 s.nd h.il (f:Int);have K:=(mN (nd:=s.nd) h.il).trans (congrArg some z.2);have a1:nd0.x = -1:=by
     rcases h.x0 with e | e
     ·exact e
     ·rw [<- e];exact z.2
    have ht:NT (C.N s.P).length (setB s.T (f:Int) true) (ig nd0 (oix nd0 s.ix)) ((ig s.nd s.ix).set 20 f):=h.t.fill 20 K f3 Ha fm (fun i hi=>rfl) (fun p X=>by
     rw [mN (wB nd0 h.il)] at X;injection X with X;rw [a1] at X;exact .inl X.symm)
    have Y:MI (C.N s.P) (setB s.T (f:Int) true) nd0 { s.nd with x:=(f:Int) } s.ix:=⟨h.g,h.il,by rw [hL];exact ht,h.ixo,fun e=>by have e:(f:Int) = -1:=e;omega,h.same⟩
    have H:=BU (s:={ s with T:=setB s.T (f:Int) true,nd:={ s.nd with x:=(f:Int) } }) o Y W B (fun _=>by show (f:Int) ≠ -1;omega);have v:=ht.nm;rw [q] at v;have a4:=wD h3 M v K Ha;have l:=u { s with T:=setB s.T (f:Int) true,nd:={ s.nd with x:=(f:Int) } } o Y;dsimp only at l H;rw [hL] at l;refine ⟨⟨fun A=>?_,fun A=>H.1.2 (l.2 Ha)⟩,fun A=>?_⟩
    ·have:=l.1 (H.1.1 A);omega
    ·obtain ⟨r,ri,rx,g,Z,a⟩:=H.2 A;refine ⟨⟨r.b,r.m,fun _ _=>ri z.1,r.c,r.pt⟩,?_,fun j hj U=>?_,?_,?_,fun j hj V=>sy (nd:={ s.nd with x:=(f:Int) }) h.il r.m.il a hj (fun e=>V (e ▸ B)),fun hx=>absurd z.2 hx⟩
     ·have w:=dY r.m.il (nd:=(own2 C k { s with T:=setB s.T (f:Int) true,nd:={ s.nd with x:=(f:Int) } }).2.nd) W;rw [a,List.getElem?_set_self (by rw [oE (show s.ix.length=16 from h.il)];omega)] at w;injection w with w
      rw [<- w];exact Z
     ·exact sy (nd:={ s.nd with x:=(f:Int) }) h.il r.m.il a hj U
     ·rw [rx];omega
     ·have d:=r.m.t.nm;rw [r.b.len,a] at d;rw [a,I];rw [hL] at d ⊢;have a2:((ig s.nd s.ix).set 20 (f:Int))[k]?=some (-1):=by rw [List.getElem?_set_ne Ha];exact O
      have:=wD h3 v d a2 Z;omega
   ·rw [if_neg S];have:=mt (u s o h).2 S;exact ⟨⟨fun h=>(by cases h),fun h=>absurd h Ha⟩,fun h=>(by cases h)⟩
  ·have I:kV s.nd s.ix k=1:=by unfold kV;rw [if_neg Ha,if_neg z]
   have R:¬ (4<=k/\so C s.nd.x=false):=fun ⟨L,hq⟩=>by
    have w:s.nd.x ≠ -1:=fun e=>z ⟨L,e⟩;have H:=h.x.resolve_left w;rw [Bool.eq_false_iff] at hq;exact hq ((oF _ _).2 Ha)
   rw [if_neg R,I];have H:=BU o h W B (fun L e=>z ⟨L,e⟩);refine ⟨⟨fun A=>(u s o h).1 (H.1.1 A),fun A=>H.1.2 ((u s o h).2 A)⟩,fun A=>?_⟩;obtain ⟨r,ri,rx,g,Z,a⟩:=H.2 A;refine ⟨r,?_,fun j hj U=>sy h.il r.m.il a hj U,?_,?_,fun j hj V=>sy h.il r.m.il a hj (fun e=>V (e ▸ B)),fun _=>rx⟩
   ·have w:=dY r.m.il (nd:=(own2 C k s).2.nd) W;rw [a,List.getElem?_set_self (by rw [oE h.il];omega)] at w;injection w with w
    rw [<- w];exact Z
   ·rw [rx];exact ⟨fun e=>⟨e,by by_cases L:4<=k;exact absurd ⟨L,e⟩ z;omega⟩,fun e=>e.1⟩
   ·have d:=r.m.t.nm;rw [r.b.len,a] at d;rw [a,I];exact wD h3 M d O Z
 ·have ad:so C (fw s.nd s.ix k)=true:=by rw [oF];have:=(h.at W).resolve_left B;omega
  have I:kV s.nd s.ix k=0:=by unfold kV;rw [if_pos B]
  rw [if_pos ad,I];refine ⟨⟨fun _=>Nat.zero_le _,fun _=>rfl⟩,fun _=>⟨⟨o,h,fun hi=>hi,fun j hj=>rfl,fun y hy=>.inl hy⟩,B,fun j _ _=>rfl,⟨fun e=>⟨e,?_⟩,fun e=>e.1⟩,by rw [I];rfl,fun _ _ _=>rfl,fun _=>rfl⟩⟩;rcases Nat.lt_or_ge k 4 with L | L
  ·exact L
  ·exfalso;apply B;unfold fw;rw [if_neg Ha,h.hx e];unfold fY;rw [List.getD,List.getElem?_replicate,if_pos Ha];rfl
theorem DE {bs ys:List Int} {o:Nat} (h:o+ys.length<=bs.length) (j:Nat):(qi bs ys o).getD j 0=if o<=j/\j<o+ys.length then ys.getD (j-o) 0 else bs.getD j 0:=by
 unfold qi;rw [List.getD,List.getD,List.getD];by_cases a:j<o
 ·rw [if_neg Ha,List.append_assoc,List.getElem?_append_left (by rw [List.length_take];omega),List.getElem?_take,if_pos a]
 ·rw [List.append_assoc,List.getElem?_append_right (by rw [List.length_take];omega),List.length_take,show min o bs.length=o by omega];by_cases b:j<o+ys.length
  ·rw [if_pos Ha,List.getElem?_append_left Ha]
  ·rw [if_neg Ha,List.getElem?_append_right Ha,List.getElem?_drop,show o+ys.length+(j-o-ys.length)=j by omega]
theorem Gb {bs ys:List Int} {o:Nat} (h:o+ys.length<=bs.length):(qi bs ys o).length=bs.length:=by
 unfold qi;rw [List.length_append,List.length_append,List.length_take,List.length_drop];omega
theorem Gc {C:BN} {s:jB} {nd0:Nd} (r:BP C s.P) (g:GN (C.N s.P) nd0) (il:s.ix.length=16) (t:gK C.n (ig s.nd s.ix)) {p:Pc} (y:p.1<20) (z:p.2.1<p.2.2) (A:p.2.2<=56) (d:List Int) (hd:p.2.2-p.2.1<=d.length) :
 BP C (jz C p d s).P/\GN (C.N (jz C p d s).P) nd0/\(∀ i,i = -1\/i≠fw s.nd s.ix p.1->gB (C.N (jz C p d s).P) i=gB (C.N s.P) i)/\∀ q,q<1120->cB (C.N (jz C p d s).P) s.nd s.ix q=if fw s.nd s.ix p.1 ≠ -1/\56*p.1+p.2.1<=q/\q<56*p.1+p.2.2 then d.getD (q-(56*p.1+p.2.1)) 0 else cB (C.N s.P) s.nd s.ix q:=by
 unfold jz;dsimp only;have B:=r.len;obtain ⟨m,c⟩:=r.put (fw s.nd s.ix p.1) (qm (gB (C.N s.P) (fw s.nd s.ix p.1)) p.2.1 p.2.2 d);have f:=dY (nd:=s.nd) il y;by_cases u:fw s.nd s.ix p.1 = -1
 ·rw [if_neg Ha] at c;rw [c];exact ⟨m,g,fun i _=>rfl,fun q H=>by rw [if_neg (fun h=>h.1 u)]⟩
 ·have K:=(t.rng _ (List.mem_of_getElem? f)).resolve_left u;rw [if_pos Ha] at c;obtain ⟨a,l⟩:∃ a:Nat,fw s.nd s.ix p.1=a:=⟨(fw s.nd s.ix p.1).toNat,Ha⟩
  have h5:=g.l56 a;have b:(d.take (p.2.2-p.2.1)).length=p.2.2-p.2.1:=by rw [List.length_take];omega
  have o:=g.k3 a Ha Ha;rw [l,Int.toNat_natCast] at c;have j:a<(C.N s.P).length:=Ha;rw [l] at m ⊢;have v:∀ i,gB (C.N (pT C s.P (a:Int) (qm (gB (C.N s.P) (a:Int)) p.2.1 p.2.2 d))) i=if i=(a:Int) then qm (gB (C.N s.P) (a:Int)) p.2.1 p.2.2 d else gB (C.N s.P) i:=fun i=>by rw [c,iC j]
  refine ⟨m,?_,fun i L=>?_,fun q H=>?_⟩
  ·rw [c];exact g.set Ha j o ((Gb (by rw [b,h5];omega)).trans h5) (g.k7 _)
  ·rw [v,if_neg Ha]
  ·unfold cB;rw [v];have k:q/56<20:=Ha;by_cases e:q/56=p.1
   ·rw [e,l,if_pos rfl];unfold qm;dsimp only;rw [DE (by rw [b,h5];omega),b];by_cases w:p.2.1<=q%56/\q%56<p.2.1+(p.2.2-p.2.1)
    ·rw [if_pos w,if_pos ⟨Ha,Ha,Ha⟩,List.getD,List.getD,List.getElem?_take,if_pos Ha]
     congr 2
     omega
    ·rw [if_neg w,if_neg Ha]
   ·rw [if_neg,if_neg Ha];intro x;rw [<- l] at x;have I:=dY (nd:=s.nd) il k;exact e (t.inj _ _ _ I (f.trans (congrArg some x.symm)) Ha)
def K8 (N:List Bk) (nd:Nd) (ix:List Int):Prop:=nd.x ≠ -1->gB N nd.x=gx ix
theorem KO {C:BN} {s:jB} {nd0:Nd} (i:BP C s.P) (h:MI (C.N s.P) s.T nd0 s.nd s.ix) (n:K8 (C.N s.P) s.nd s.ix) {p:Pc} (l:p.1<20) (j:p.2.1<p.2.2) (k:p.2.2<=56) (d:List Int) (hd:p.2.2-p.2.1<=d.length) :
 BP C (jz C p d s).P/\MI (C.N (jz C p d s).P) s.T nd0 s.nd s.ix/\K8 (C.N (jz C p d s).P) s.nd s.ix/\∀ q,q<1120->cB (C.N (jz C p d s).P) s.nd s.ix q=if fw s.nd s.ix p.1 ≠ -1/\56*p.1+p.2.1<=q/\q<56*p.1+p.2.2 then d.getD (q-(56*p.1+p.2.1)) 0 else cB (C.N s.P) s.nd s.ix q:=by
 have c:=h.t.nm;rw [i.len] at c;obtain ⟨b,g,m,o⟩:=Gc i h.g h.il c l j k d hd;have f:s.nd.x ≠ -1->s.nd.x≠fw s.nd s.ix p.1:=fun f=>h.t.nm.ne (mN h.il) (dY h.il l) Ha f;refine ⟨b,⟨g,h.il,by rw [b.len,<- i.len];exact h.t,fun a=>?_,h.hx,h.same⟩,fun a=>?_,o⟩
 ·have e:=h.x0.resolve_left a;rw [m _ (.inr (by rw [<- e];exact f (by rw [e];exact a)))];exact h.ixo a
 ·rw [m _ (.inr (f a))];exact n a
def uQ:Nat->List Pc->Prop
 | _,[]=>True
 | a,p :: l=>56*p.1+p.2.1=a/\p.1<20/\p.2.1<p.2.2/\p.2.2<=56/\uQ (56*p.1+p.2.2) l
theorem Gd {o e:Nat} (h:o<e) (i:e<=1120):uQ o (pL o e):=by
 have k:pN o e=(e-1)/56-o/56+1:=by unfold pN;rw [if_neg Ha]
 have l:=dG o e;have b:∀ m j,j+m=pN o e->uQ (if j=0 then o else 56*(o/56+j)) ((pL o e).drop j):=by
  intro m
  induction m with
  | zero=>intro j hj;rw [List.drop_of_length_le Ha];trivial
  | succ m ih =>
    intro j hj;have a:=EZ o e j;rw [if_pos Ha] at a;obtain ⟨c,d⟩:=List.getElem?_eq_some_iff.1 a;rw [List.drop_eq_getElem_cons c,d];have ih:=ih (j+1) Ha;rw [if_neg Ha] at ih;unfold Kh;refine ⟨?_,?_,?_,?_,?_⟩
    ·dsimp only;split <;> omega
    ·dsimp only;omega
    ·dsimp only;split <;> split <;> omega
    ·dsimp only;split <;> omega
    ·dsimp only;by_cases f:j+1=pN o e
     ·rw [List.drop_of_length_le Ha];trivial
     ·rw [if_neg f];have g:56*(o/56+j)+56=56*(o/56+(j+1)):=Ha;rw [g];exact ih
 have:=b (pN o e) 0 Ha;rw [if_pos rfl,List.drop_zero] at this;exact this
theorem uR {o m:Nat} (h:o+m<=1120):uQ o (pcM o m):=by
 unfold pcM;rw [if_pos Ha,show ((o:Int)).toNat=o by omega,show ((o:Int)+m).toNat=o+m by omega];rcases Nat.eq_zero_or_pos m with e | e
 ·subst e;unfold pL pN;rw [if_pos Ha];trivial
 ·exact Gd Ha h
theorem Ge (o:Nat):pcM o ((0:Nat):Int)=[]:=by
 unfold pcM;split
 ·rw [show ((o:Int)+((0:Nat):Int)).toNat=o by omega,show ((o:Int)).toNat=o by omega];unfold pL pN;rw [if_pos Ha];rfl
 ·rfl
theorem BV {o m:Nat} (h:o+m<=1120):wH (pcM o m)=m:=by
 rcases Nat.eq_zero_or_pos m with e | e
 ·subst e;rw [Ge];rfl
 ·exact BQ o m e h
theorem BW {o m:Nat} (h:o+m<=1120):56*(pcM o m).length<=m+110:=by
 unfold pcM;rw [if_pos Ha,dG,show ((o:Int)).toNat=o by omega,show ((o:Int)+m).toNat=o+m by omega];unfold pN;split <;> omega
theorem oG (p:Pc) (l:List Pc):wH (p :: l)=(p.2.2-p.2.1)+wH l:=by unfold wH;rw [List.map_cons,List.sum_cons]
structure M8 (C:BN) (nd0:Nd) (d:List Int) (a n:Nat) (l:List Pc) (s s':jB):Prop where
 b:BP C s'.P
 m:MI (C.N s'.P) s'.T nd0 s'.nd s'.ix
 i:K8 (C.N s'.P) s'.nd s'.ix
 c:∀ q,q<1120->cB (C.N s'.P) s'.nd s'.ix q=if a<=q/\q<a+wH l then d.getD (n+(q-a)) 0 else cB (C.N s.P) s.nd s.ix q
 j:∀ j,j<20->(fw s'.nd s'.ix j = -1↔fw s.nd s.ix j = -1/\∀ p∈l,p.1≠j)
 x:s'.nd.x = -1↔s.nd.x = -1/\∀ p∈l,p.1<4
 kj:∀ j,j<20->fw s.nd s.ix j ≠ -1->fw s'.nd s'.ix j=fw s.nd s.ix j
 kx:s.nd.x ≠ -1->s'.nd.x=s.nd.x
 pt:∀ y∈s'.P,(∃ y0∈s.P,y0.t=y.t)\/y.t=s'.nd.x\/∃ p∈l,y.t=fw s'.nd s'.ix p.1
theorem Gf {C:BN} {nd0:Nd} (d:List Int):∀ (l:List Pc) (a n:Nat) (s:jB),uQ a l->BP C s.P->MI (C.N s.P) s.T nd0 s.nd s.ix->K8 (C.N s.P) s.nd s.ix->n+wH l<=d.length ->
 (2*l.length<=(KL C.n (ig s.nd s.ix)).count false->(za C d l n s).1=true)/\((za C d l n s).1=true->(za C d l n s).2.1=n+wH l/\M8 C nd0 d a n l s (za C d l n s).2.2)
 | [],a,n,s,hc,O,h,R,hd=>⟨fun _=>rfl,fun _=>⟨rfl,O,h,R,fun q S=>(if_neg (by unfold wH;simp)).symm,fun j hj=>⟨fun e=>⟨e,fun p U=>(by cases U)⟩,fun e=>e.1⟩,⟨fun e=>⟨e,fun p U=>(by cases U)⟩,fun e=>e.1⟩,fun _ _ _=>rfl,fun _=>rfl,fun y V=>.inl ⟨y,V,rfl⟩⟩⟩
 | p :: l,a,n,s,hc,O,h,R,hd=>by
   obtain ⟨c1,W,c3,c4,c5⟩:=hc;rw [oG] at hd;have ho:=KN O h W;unfold za;by_cases L:(lN C p.1 s).1=true
   ·rw [if_pos L];obtain ⟨r,u⟩:=ho.2 L;generalize (lN C p.1 s).2=f at *;have hl:=KO r.b r.m (r.i R) W c3 c4 (d.drop n) (by rw [List.length_drop];omega);have X:(jz C p (d.drop n) f).T=f.T/\(jz C p (d.drop n) f).nd=f.nd/\(jz C p (d.drop n) f).ix=f.ix:=⟨rfl,rfl,rfl⟩
    obtain ⟨eT,g,k⟩:=X;have eP:(jz C p (d.drop n) f).P=pT C f.P (fw f.nd f.ix p.1) (qm (gB (C.N f.P) (fw f.nd f.ix p.1)) p.2.1 p.2.2 (d.drop n)):=rfl;generalize jz C p (d.drop n) f=t at *;obtain ⟨lb,lm,li,lc⟩:=hl;rw [<- eT,<- g,<- k] at lm;rw [<- g,<- k] at li lc;have ih:=Gf d l (56*p.1+p.2.2) (n+(p.2.2-p.2.1)) t c5 lb lm li Ha;have hw:kV s.nd s.ix p.1<=2:=by unfold kV;split;omega;split <;> omega
    refine ⟨fun v=>ih.1 ?_,fun v=>?_⟩
    ·rw [List.length_cons] at v;have:=u.n;rw [g,k];omega
    ·obtain ⟨Y,w⟩:=ih.2 v;have z:f.nd.x ≠ -1->(za C d l (n+(p.2.2-p.2.1)) t).2.2.nd.x=f.nd.x:=fun h=>by rw [<- g] at h ⊢;exact w.kx h
     have A:fw (za C d l (n+(p.2.2-p.2.1)) t).2.2.nd (za C d l (n+(p.2.2-p.2.1)) t).2.2.ix p.1=fw f.nd f.ix p.1:=by
      have:=w.kj p.1 W (by rw [g,k];exact u.hk)
      rwa [g,k] at this
     refine ⟨by rw [Y,oG];omega,w.b,w.m,w.i,fun q S=>?_,fun j hj=>?_,?_,fun j hj B=>?_,fun hx=>?_,fun y V=>?_⟩
     ·have Z:fw t.nd t.ix p.1 ≠ -1:=by rw [g,k];exact u.hk
      have ad:cB (C.N f.P) t.nd t.ix q=cB (C.N s.P) s.nd s.ix q:=by
       unfold cB;rw [g,k,r.c _ Ha]
      rw [w.c q S,lc q S,ad,oG];by_cases o:a<=q/\q<a+(p.2.2-p.2.1+wH l)
      ·rw [if_pos o];by_cases H:56*p.1+p.2.2<=q
       ·rw [if_pos Ha]
        congr 1;omega
       ·rw [if_neg Ha,if_pos ⟨Z,Ha,Ha⟩,List.getD,List.getD,List.getElem?_drop]
        congr 2;omega
      ·rw [if_neg o,if_neg Ha,if_neg Ha]
     ·rw [w.j j hj,g,k];by_cases e:j=p.1
      ·subst e;exact ⟨fun h=>absurd h.1 u.hk,fun h=>absurd rfl (h.2 p Hb)⟩
      ·rw [u.j j hj e];simp only [List.mem_cons,forall_eq_or_imp];exact ⟨fun h=>⟨h.1,fun e2=>e e2.symm,h.2⟩,fun h=>⟨h.1,h.2.2⟩⟩
     ·rw [w.x,g,u.x];simp only [List.mem_cons,forall_eq_or_imp];exact ⟨fun h=>⟨h.1.1,h.1.2,h.2⟩,fun h=>⟨⟨h.1,h.2.1⟩,h.2.2⟩⟩
     ·have o:=u.kj j hj B;rw [w.kj j hj (by rw [g,k,o];exact B),g,k,o]
     ·have o:=u.kx hx;rw [z (by rw [o];exact hx),o]
     ·rcases w.pt y V with ⟨y0,I,M⟩ | o | ⟨p1,hp1,Y⟩
      ·have an:t.P=pT C f.P (fw f.nd f.ix p.1) (qm (gB (C.N f.P) (fw f.nd f.ix p.1)) p.2.1 p.2.2 (d.drop n)):=eP;rw [an] at I;rcases sx I with H | H
       ·exact .inr (.inr ⟨p,Hb,by rw [A,<- M];exact H⟩)
       ·rcases r.pt y0 H with K | K | K
        ·exact .inl ⟨y0,K,M⟩
        ·refine .inr (.inl ?_);have:=(r.b.inn y0 H).1;rw [z Ha,<- M];exact K
        ·exact .inr (.inr ⟨p,Hb,by rw [A,<- M];exact K⟩)
      ·exact .inr (.inl o)
      ·exact .inr (.inr ⟨p1,by simp [hp1],Y⟩)
   ·rw [if_neg L];refine ⟨fun v=>absurd (ho.1.2 ?_) L,fun h=>(by cases h)⟩;have hw:kV s.nd s.ix p.1<=2:=by unfold kV;split;omega;split <;> omega
    rw [List.length_cons] at v;omega
structure FI (N:List Bk) (nd:Nd) (ix:List Int):Prop where
 g:GN N nd
 il:ix.length=16
 nm:gK N.length (ig nd ix)
 ib:K8 N nd ix
 hx:nd.x = -1->ix=fY
section
variable {N:List Bk} {T:List Bool} {nd0 nd:Nd} {ix:List Int}
theorem FI.oix (h:FI N nd ix):oix nd ix=ix:=by
 unfold Go.Proofs.YtegjelaejbacnaaGreat.oix;split
 ·rename_i e;exact (h.hx e).symm
 ·rfl
theorem FI.mi (h:FI N nd ix) (a:T.length=N.length) (tk:∀ i:Nat,T.getD i false=true->(i:Int)∈ig nd ix):MI N T nd nd ix :=
 ⟨h.g,h.il,⟨h.nm,fun j p hj=>by rw [h.oix] at hj;exact .inr hj,a,tk,fun j p hj b=>by rw [h.oix];exact .inl hj⟩,h.ib,h.hx,rfl,rfl,rfl,rfl⟩
theorem FI.mi0 (h:FI N nd ix) {n:Nat} (b:N.length=n):MI N (List.replicate n false) nd nd ix:=h.mi (by rw [List.length_replicate,b]) (fun i a=>by
 rw [List.getD,List.getElem?_replicate] at a;split at a <;> cases a)
theorem nA (h:aS 1 nd):(1<=nd.g/\0<=nd.l/\nd.l<=1000)/\(0<=nd.s/\nd.s<=1120)/\nd.t=[]:=by
 rcases h.2 with ⟨_,a,b,_⟩ | ⟨e,_⟩ | ⟨e,_⟩
 ·exact ⟨h.1,a,b⟩
 ·omega
 ·omega
theorem gK.node {n:Nat} (h:gK n (ig nd ix)) (r:ix.length=16) (hn:n<=200) {z:Int} (W:0<=z/\z<=1120) (V:1<=nd.g/\u32 nd.g) (C:0<=nd.l/\nd.l<=1000) (H:nd.t=[]):aS 1 { nd with s:=z }/\jY { nd with s:=z }:=by
 have k:=dY (nd:=nd) r (show 0<20 by omega);have m:=dY (nd:=nd) r (show 1<20 by omega);have o:=dY (nd:=nd) r (show 2<20 by omega);have q:=dY (nd:=nd) r (show 3<20 by omega);have u:=mN (nd:=nd) r;change _=some nd.a at k;change _=some nd.b at m;change _=some nd.c at o;change _=some nd.d at q;have v:=h.rng _ (List.mem_of_getElem? k);have w:=h.rng _ (List.mem_of_getElem? m);have y:=h.rng _ (List.mem_of_getElem? o);have A:=h.rng _ (List.mem_of_getElem? q);have B:=h.rng _ (List.mem_of_getElem? u);have j:∀ p:Int,p = -1\/(3<=p/\p<n)->i64 p:=fun p hp=>by clear v w y A B;constructor <;> omega
 have il:i64 nd.l:=by clear v w y A B;constructor <;> omega
 have X:i64 z:=by clear v w y A B;constructor <;> omega
 have I:=h.ne m k Ha;have K:=h.ne o k Ha;have L:=h.ne o m Ha;have M:=h.ne q k Ha;have N:=h.ne q m Ha;have O:=h.ne q o Ha;have R:=h.ne u k Ha;have S:=h.ne u m Ha;have T:=h.ne u o Ha;have U:=h.ne u q Ha;refine ⟨⟨⟨V.1,C⟩,.inl ⟨rfl,W,H,fun i Y=>?_⟩⟩,⟨V.2,?_,?_,?_,?_,?_,?_,?_,?_,by show nd.t.length<=_;rw [H];decide⟩⟩
 ·match i,Y with
  | 0,_=>exact v.imp id fun e=>⟨⟨show (1:Int)<=nd.a by omega,show nd.a<200 by omega⟩,fun f=>by cases f⟩
  | 1,_=>exact w.imp id fun e=>⟨⟨show (1:Int)<=nd.b by omega,show nd.b<200 by omega⟩,fun (f:nd.b∈[nd.a])=>by
     simp only [List.mem_cons,List.not_mem_nil,or_false] at f;exact I Ha f⟩
  | 2,_=>exact y.imp id fun e=>⟨⟨show (1:Int)<=nd.c by omega,show nd.c<200 by omega⟩,fun (f:nd.c∈[nd.a,nd.b])=>by
     simp only [List.mem_cons,List.not_mem_nil,or_false] at f;rcases f with f | f
     ·exact K Ha f
     ·exact L Ha f⟩
  | 3,_=>exact A.imp id fun e=>⟨⟨show (1:Int)<=nd.d by omega,show nd.d<200 by omega⟩,fun (f:nd.d∈[nd.a,nd.b,nd.c])=>by
     simp only [List.mem_cons,List.not_mem_nil,or_false] at f;rcases f with f | f | f
     ·exact M Ha f
     ·exact N Ha f
     ·exact O Ha f⟩
  | 4,_=>exact B.imp id fun e=>⟨⟨show (1:Int)<=nd.x by omega,show nd.x<200 by omega⟩,fun (f:nd.x∈[nd.a,nd.b,nd.c,nd.d])=>by
     simp only [List.mem_cons,List.not_mem_nil,or_false] at f;rcases f with f | f | f | f
     ·exact R Ha f
     ·exact S Ha f
     ·exact T Ha f
     ·exact U Ha f⟩
 ·exact il
 ·exact X
 ·exact j _ v
 ·exact j _ w
 ·exact j _ y
 ·exact j _ A
 ·exact j _ B
 ·show ay nd.t;rw [H];exact fun x Z=>by cases Z
theorem FI.close (g:GN N nd0) (il:ix.length=16) (e:gK N.length (ig nd ix)) (ib:K8 N nd ix) (j:nd.x = -1->ix=fY) (same:nd.g=nd0.g/\nd.l=nd0.l/\nd.t=nd0.t) {z:Int} (k:0<=z/\z<=1120):FI (N.set 1 (dW 1 { nd with s:=z })) { nd with s:=z } ix:=by
 obtain ⟨f,o,f3⟩:=nA g.may;have m:1<N.length:=by have:=g.l3;omega
 obtain ⟨h,b⟩:=e.node il g.n2 k ⟨by rw [same.1];exact f.1,by rw [same.1];exact g.ok.g⟩ (by rw [same.2.1];exact f.2) (by rw [same.2.2];exact f3);have a:=iC m (dW 1 { nd with s:=z });refine ⟨⟨by rw [List.length_set];exact g.l3,by rw [List.length_set];exact g.n2,?_,?_,?_,fun i n c=>?_,fun i=>?_,fun i=>?_,h,b⟩,il,by rw [List.length_set];exact e,fun d=>?_,j⟩
 ·rw [a,if_neg Ha];exact g.k0
 ·rw [a];exact if_pos rfl
 ·rw [a,if_neg Ha];exact g.k2
 ·rw [List.length_set] at c;rw [a,if_neg Ha];exact g.k3 i n c
 ·rw [a];split
  ·exact kv
  ·exact g.l56 i
 ·rw [a];split
  ·rw [(pi h b).1];decide
  ·exact g.k7 i
 ·have d:nd.x ≠ -1:=d;have p:=(e.rng _ (List.mem_of_getElem? (mN il))).resolve_left d;show gB _ nd.x=_;rw [a,if_neg Ha];exact ib d
theorem Gg (il:ix.length=16) (a:gK N.length (ig nd ix)) (b:1<N.length) (x:Bk) (z:Int) {q:Nat} (c:q<1120):cB (N.set 1 x) { nd with s:=z } ix q=cB N nd ix q:=by
 unfold cB;show (gB (N.set 1 x) (fw nd ix (q/56))).bs.getD _ _=_;have:=a.rng _ (List.mem_of_getElem? (dY il (show q/56<20 by omega)));rw [iC b,if_neg Ha]
theorem FI.opened (h:FI N nd ix):gB N 1=dW 1 nd/\nd=bo (dW 1 nd).k (dW 1 nd).bs/\ix=ixOf (gB N nd.x)/\gh (dW 1 nd):=by
 obtain ⟨c,b,d⟩:=pi h.g.may h.g.ok;refine ⟨h.g.k1,?_,?_,b,c⟩
 ·unfold bo;rw [if_pos b,d]
 ·by_cases a:nd.x = -1
  ·rw [a,F5,h.hx a];decide
  ·obtain ⟨i,e,f,_⟩:=pj (h.nm.mayB h.il h.g.n2);rw [h.ib a];unfold ixOf;rw [if_pos e,f]
end
theorem Gh {C:BN} {P:List Wr} {T:List Bool} {nd:Nd} {ix:List Int} (L:BP C P) (h:FI (C.N P) nd ix) (M:MI (C.N P) T nd nd ix) {o m:Nat} (e:o+m<=1120) (d:List Int) (hd:m<=d.length) (R:Bool × Nat × jB) (O:R=za C d (pcM o m) 0 ⟨P,T,nd,ix⟩) :
 (2*(pcM o m).length<=(KL C.n (ig nd ix)).count false->R.1=true)/\(R.1=true->∃ a f H,yK C 1 o R=((m:Int),0,(yK C 1 o R).2.2)/\R.2.2.T=H/\BP C (yK C 1 o R).2.2/\FI (C.N (yK C 1 o R).2.2) a f/\MI (C.N (yK C 1 o R).2.2) H a a f/\a.s=max nd.s ((o:Int)+m)/\(∀ q,q<1120->cB (C.N (yK C 1 o R).2.2) a f q=if o<=q/\q<o+m then d.getD (q-o) 0 else cB (C.N P) nd ix q)/\(∀ j,j<20->(fw a f j = -1↔fw nd ix j = -1/\∀ p∈pcM o m,p.1≠j))/\(a.x = -1↔nd.x = -1/\∀ p∈pcM o m,p.1<4)/\(P=[]->(yK C 1 o R).2.2.length<=2+(pcM o m).length)):=by
 have v:=Gf (C:=C) (nd0:=nd) d (pcM o m) o 0 ⟨P,T,nd,ix⟩ (uR e) L M h.ib (by rw [BV e];omega);rw [<- O,BV e] at v;refine ⟨v.1,fun I=>?_⟩;obtain ⟨z,w⟩:=v.2 I;have wc:=w.c;rw [BV e] at wc;have S:0<=max R.2.2.nd.s ((o:Int)+(R.2.1:Int))/\max R.2.2.nd.s ((o:Int)+(R.2.1:Int))<=1120:=by
  have:=(nA h.g.may).2.1;rw [w.m.same.2.2.1,z];rw [Int.max_def];split <;> omega
 have U:yK C 1 o R=((R.2.1:Int),0,pT C R.2.2.P 1 (dW 1 { R.2.2.nd with s:=max R.2.2.nd.s ((o:Int)+(R.2.1:Int)) })):=by unfold yK;rw [if_pos I]
 have V:=w.m.g.l3;have r:=w.b.len;obtain ⟨A,u⟩:=w.b.put 1 (dW 1 { R.2.2.nd with s:=max R.2.2.nd.s ((o:Int)+(R.2.1:Int)) });rw [if_pos Ha] at u;have u:C.N (pT C R.2.2.P 1 (dW 1 { R.2.2.nd with s:=max R.2.2.nd.s ((o:Int)+(R.2.1:Int)) }))=(C.N R.2.2.P).set 1 (dW 1 { R.2.2.nd with s:=max R.2.2.nd.s ((o:Int)+(R.2.1:Int)) }):=u;have l:=FI.close w.m.g w.m.il w.m.t.nm w.i w.m.hx ⟨w.m.same.1,w.m.same.2.1,w.m.same.2.2.2⟩ S;rw [<- u] at l;rw [U];dsimp only;refine ⟨_,_,_,by rw [z];simp,rfl,A,l,l.mi ?_ ?_,?_,fun q K=>?_,w.j,w.x,fun W=>?_⟩
 ·rw [w.m.t.tl,r,A.len]
 ·intro i X;exact w.m.t.tk i X
 ·show max R.2.2.nd.s _=_;rw [w.m.same.2.2.1,z];simp
 ·rw [u,Gg w.m.il w.m.t.nm Ha _ _ K,wc q K,Nat.zero_add]
 ·have:=AG A.srt ((1:Int) :: R.2.2.nd.x :: (pcM o m).map fun p=>fw R.2.2.nd R.2.2.ix p.1) (fun y Y=>by
   rcases sx Y with B | B
   ·simp [B]
   ·rcases w.pt y B with ⟨Z,k,_⟩ | k | ⟨p,hp,k⟩
    ·have k:Z∈P:=k;rw [W] at k;cases k
    ·simp [k]
    ·exact List.mem_cons_of_mem _ (List.mem_cons_of_mem _ (List.mem_map.2 ⟨p,hp,k.symm⟩)))
  rw [List.length_cons,List.length_cons,List.length_map] at this;exact Nat.le_trans this Ha
def kP (N:List Bk) (nd:Nd) (ix:List Int) (a m:Nat):List Int:=(List.range m).map fun i=>cB N nd ix (a+i)
theorem yP {C:BN} {P:List Wr} {nd:Nd} {ix:List Int} (b:∀ i:Int,(gB (C.N P) i).bs.length=56):∀ (l:List Pc) (a:Nat),uQ a l->AF C P nd ix l=kP (C.N P) nd ix a (wH l)
 | [],a,_=>rfl
 | p :: l,a,d=>by
   obtain ⟨f,g,h,j,e⟩:=d;have ih:=yP (nd:=nd) (ix:=ix) b l _ e;unfold AF at ih ⊢;rw [List.flatMap_cons,ih,oG];unfold kP;rw [List.range_add,List.map_append]
   congr 1
   ·apply List.ext_getElem?;intro i;rw [List.getElem?_take,List.getElem?_map];by_cases c:i<p.2.2-p.2.1
    ·rw [if_pos c,List.getElem?_range c,List.getElem?_drop];show _=some (cB _ _ _ _);unfold cB;rw [show (a+i)/56=p.1 by omega,show (a+i)%56=p.2.1+i by omega,List.getD,List.getElem?_eq_getElem (by rw [b];omega)];rfl
    ·rw [if_neg c,List.getElem?_eq_none (by rw [List.length_range];omega)];rfl
   ·rw [List.map_map];apply List.map_congr_left;intro i _;show cB (C.N P) nd ix (56*p.1+p.2.2+i)=cB (C.N P) nd ix (a+(p.2.2-p.2.1+i));rw [show 56*p.1+p.2.2+i=a+(p.2.2-p.2.1+i) by omega]
theorem LZ {C:BN} {P:List Wr} {nd:Nd} {ix:List Int} (b:∀ i:Int,(gB (C.N P) i).bs.length=56) {a m:Nat} (h:a+m<=1120):AF C P nd ix (pcM a m)=kP (C.N P) nd ix a m:=by
 rw [yP b _ a (uR h),BV h]
theorem i4 {ops:Array Oper} {rest:List Oper} {o:Oper} {ac:Act} {w:World} {Q:Exit->Act->World->Prop} (b:Region.wanted o (yielded ops ac.tmps)=true) (x:Operand) (c:o.op=.load 82 x) (p:Nat) (d:ac.eval x=.pointer (some ⟨p,0,none⟩)) (n:En) (e:bS w p n)
 (h:wpList Tryz.prog ops Q rest (ac.put o.dst (jO n.l n.a n.g)) w):wpList Tryz.prog ops Q (o :: rest) ac w :=
 BigFrame.wpList_want b fun _ f=>wp_load_mid 82 x c p 0 d _ _ e.dir Tryz.underlying82 rfl j1 (f _ _ h)
theorem I4:Tryz.prog.eqGuardType Tryz.prog.depth 82=false:=Hc
theorem kQ {ops:Array Oper} {rest:List Oper} {o:Oper} {ac:Act} {w:World} {Q:Exit->Act->World->Prop} (i:Region.wanted o (yielded ops ac.tmps)=true) (x y:Operand) (t:TypeId) (j:o.op=.binOp .eql 82 x y t) (l a g b c d:Int) (k:ac.eval x=jO l a g) (m:ac.eval y=jO b c d)
 (h:wpList Tryz.prog ops Q rest (ac.put o.dst (.bool (decide (l=b/\a=c/\g=d)))) w):wpList Tryz.prog ops Q (o :: rest) ac w :=
 BigFrame.wpList_want i fun _ n=>by
  have p:=run_eqGuard_agg (P:=Tryz.prog) w .eql 82 x y #[.int .i64 l,.int .i64 a,.int .u32 g] #[.int .i64 b,.int .i64 c,.int .u32 d] I4;have q:=LJ l a g b c d w;have e:ac.eval x=.agg #[.int .i64 l,.int .i64 a,.int .u32 g]:=k;have f:ac.eval y=.agg #[.int .i64 b,.int .i64 c,.int .u32 d]:=m;unfold Oper.wp execOp;simp only [j,e,f,Sem.run_bind,p,q,Result.andThen_ok];exact n _ _ h
theorem I5 {D:ou} {t:List Int} {b:List Bk} {k:Nat} {x:Bk} (a:b[k]?=some x) (h:i3 D t x=true) (c:∀ y∈b.take k,i3 D t y=false):dI D t b=k/\im D t b=hH x.bs:=by
 have d:pW D t b=some k:=by
  unfold pW;rw [List.findIdx?_eq_some_iff_getElem];have e:=(List.getElem?_eq_some_iff.1 a).1;refine ⟨e,by rw [(List.getElem?_eq_some_iff.1 a).2];exact h,fun j hj=>?_⟩;have:=c (b[j]'Ha) (List.mem_take_iff_getElem.2 ⟨j,Ha,rfl⟩);rw [this];decide
 unfold dI im;rw [d];exact ⟨rfl,by simp only;rw [kN a]⟩
theorem I6 {D:ou} {t:List Int} {b:List Bk} (a:∀ y∈b,i3 D t y=false):dI D t b = -1/\im D t b=en0:=by
 have c:pW D t b=none:=by
  unfold pW;rw [List.findIdx?_eq_none_iff];intro x d;rw [a x d]
 unfold dI im;rw [c];exact ⟨rfl,rfl⟩
theorem sA (g:Nat) (b:List Bk) (n d:Nat) (D:ou) (t:List Int) (w:World) (hn:b.length=n) (b1:n<=200) (a3:dO b) (I:rv w (some ⟨g,0,none⟩) b) (K:ay t) :
 Calls Tryz.prog 119 #[.slice (some ⟨g,0,none⟩) n d,D.v,.string (strOfNums t)] w fun e w'=>e=.returned (.tuple #[.agg (dL (im D t b)),.int .i64 (dI D t b)])/\Below w.heap.size w w':=by
 have HN:=He hn;have HO:=He a3;have HY:Hid (∀ X,Below w.heap.size w X->rv X (some ⟨g,0,none⟩) b):=fun X hb=>I.keep hb;have bb:=He K;obtain ⟨f,j,m⟩:=D;have h4:=bh.new w f j m;obtain ⟨rE,hE⟩:∃ rE,rE=im ⟨f,j,m⟩ t b:=⟨_,rfl⟩
 obtain ⟨rI,hI⟩:∃ rI,rI=dI ⟨f,j,m⟩ t b:=⟨_,rfl⟩
 rw [<- hE,<- hI];have HE:=He (And.intro hE hI);clear hn a3 I hE hI K;show Calls Tryz.prog 119 #[.slice (some ⟨g,0,none⟩) n d,.agg #[.int .i64 f,.int .i64 j,.int .u32 m],.string (strOfNums t)] w _;go_enter Tryz.func119,Tryz.ntmps119;go_upto_region 1 with (refine gq rfl rfl ?_)
 have a4:Hid (Below w.heap.size w ((w.alloc (.cells #[.int .i64 f,.int .i64 j,.int .u32 m] 82)).alloc (.cells (dL en0) 168))):=(aM _).trans ((aM _).mono Hb);have Y:Hid (bh ((w.alloc (.cells #[.int .i64 f,.int .i64 j,.int .u32 m] 82)).alloc (.cells (dL en0) 168)) w.heap.size f j m):=h4.alloc _;have L:=He (bS.new (w.alloc (.cells #[.int .i64 f,.int .i64 j,.int .u32 m] 82)) en0);have a5:(w.alloc (.cells #[.int .i64 f,.int .i64 j,.int .u32 m] 82)).heap.size=w.heap.size+1:=Hb;rw [a5] at L;clear h4;generalize bi:(w.alloc (.cells #[.int .i64 f,.int .i64 j,.int .u32 m] 82)).alloc (.cells (dL en0) 168)=W0 at *;clear bi a5;obtain ⟨M,a1⟩:∃ M,M=w.heap.size:=⟨_,rfl⟩
 have a6:=He a1;rw [<- a1] at Y L ⊢;clear a1;go_wp2_with fail
 go_loopw [8,9,10] (fun i p ok wr=>∃ k:Nat,k<=n/\i=.int .i64 k/\Hid (∀ x∈b.take k,i3 ⟨f,j,m⟩ t x=false)/\Hid (Below w.heap.size w wr)/\Hid (bh wr M f j m)/\Hid (bS wr (M+1) en0)) (fun i _ _ _=>n-(intOf i).toNat)
 case atStart=>exact ⟨0,Ha,rfl,(fun x hx=>by simp at hx),a4,Y,L⟩
 case round =>
  obtain ⟨k,hk,rfl,a2,HB,Y,L⟩:=hrel;obtain ⟨Z,rfl⟩:∃ Z,Z=wr:=⟨wr,rfl⟩
  clear a4;by_cases bk:k<n
  ·obtain ⟨x,hx⟩:∃ x,b[k]?=some x:=⟨_,List.getElem?_eq_getElem (by rw [HN.out];exact bk)⟩
   have bl:(k:Int)<n:=Ha;have u:=HO.out x (List.mem_of_getElem? hx);have b2:=(HY.out _ HB.out).kind hx;have HX:=He hx;have bn:=He u.len;have o:Hid (i3 ⟨f,j,m⟩ t x=false->∀ y∈b.take (k+1),i3 ⟨f,j,m⟩ t y=false):=fun hf y I=>by
    rw [aw HX.out] at I;rcases List.mem_append.1 I with I | I
    ·exact a2.out y I
    ·rw [List.mem_singleton] at I;rw [I];exact hf
   have U:=He (fun W=>ym x.k x.bs W (by have:=u.k;constructor <;> omega) u.len u.b);have bt:=He (Fo u.len u.b);clear hx u;by_cases h6:x.k=6
   ·have V:Hid (i3 ⟨f,j,m⟩ t x=(decide (dV x.k x.bs)&&(decide ((hH x.bs).id=⟨f,j,m⟩)&&decide ((hH x.bs).t=t)))):=by
     unfold Hid i3;rw [decide_eq_true h6,Bool.true_and]
    obtain ⟨kx,q⟩:=x;simp only at h6;subst h6;have HM:Hid (∀ X,Below w.heap.size w X->X.rangeAt g (k*57) (blkL 6 q)):=fun X hb=>(HY.out X hb).at_ HX.out;have ad:Hid (q.length=56):=bn;by_cases K:dV 6 q
    ·have e0:rY 6 q=hH q:=if_pos K;have N:Hid (i3 ⟨f,j,m⟩ t ⟨6,q⟩=(decide ((hH q).id=⟨f,j,m⟩)&&decide ((hH q).t=t))):=by
      unfold Hid;rw [V.out];simp only;rw [decide_eq_true K,Bool.true_and]
     have O:Hid (∀ W,Calls Tryz.prog 167 #[.agg (ab 6 q)] W fun e w'=>e=.returned (.tuple #[.agg (dL (hH q)),.bool true])/\Below W.heap.size W w'):=fun W=>by
      have h:=U.out W;simp only at h
      rwa [e0,decide_eq_true K] at h
     have b3:Hid ((⟨6,q⟩:Bk).bs=q):=rfl;have bx:=lT bt.out.t bb.out;simp only at bx;clear U V e0 K;generalize a7:hH q=c at *;have b0:=He a7;clear a7;go_wp2_with (first | (with_reducible refine wpList_load_mid rfl 37 (.tmp 26) rfl g (k*57) rfl (blkL 6 q) _ (HM.out _ HB.out) Tryz.underlying37 rfl (bT (x:=⟨6,q⟩) ad.out) ?_))
     refine (O.out Z).mono ?_;rintro e1 C ⟨rfl,z⟩;have h9:=bS.new C en0;go_upto_region 6 with (first | (refine gq rfl rfl ?_) | (refine bK rfl (.tmp 9) (.tmp 29) rfl C.heap.size rfl c en0 rfl h9 ?_))
     have r:Below Z.heap.size Z ((C.alloc (.cells (dL en0) 168)).setRow C.heap.size (dL c)):=z.trans ((below_setRow (aM (.cells (dL en0) 168)) (Nat.le_refl _) (dL c)).mono z.size);have R:=He (HB.out.trans (r.mono HB.out.size));have A:=He (Y.out.below r);have H:=He (L.out.below r);have H9:=He (h9.set c);clear z r h9 HB Y L;generalize (C.alloc (.cells (dL en0) 168)).setRow C.heap.size (dL c)=w6 at *;generalize C.heap.size=p at *;have b4:=H9.out.cells.1;by_cases s:c.l=f/\c.a=j/\c.g=m
     ·have a8:decide (c.l=f/\c.a=j/\c.g=m)=true:=decide_eq_true s;have a9:Hid (c.id=⟨f,j,m⟩):=by unfold Hid En.id;rw [s.1,s.2.1,s.2.2]
      clear s;by_cases S:c.t=t
      ·have an:decide (c.t=t)=true:=decide_eq_true S;have a0:Hid (rI=(k:Int)/\rE=c):=by
        have h1:=I5 HX.out (by rw [N.out,a9.out,S];simp) a2.out;exact ⟨by rw [HE.out.2,h1.1],by rw [HE.out.1,h1.2];exact b0.out⟩
       clear S;go_wp2_with (first
        | (refine i4 Hl (.tmp 33) rfl p rfl c H9.out ?_)
        | (refine iJ Hl (.tmp 4) rfl M rfl f j m A.out ?_)
        | (refine kQ Hl (.tmp 34) (.tmp 35) _ rfl c.l c.a c.g f j m rfl rfl ?_)
        | (refine fX rfl (.tmp 9) rfl p rfl c H9.out ?_)
        | (refine bK rfl (.tmp 6) (.tmp 44) rfl (M+1) rfl c en0 rfl H.out ?_))
       refine bodyPost_ret (fG rfl _ _ (M+1) c rfl (H.out.set c)) rfl ?_;exact ⟨by rw [a0.out.1,a0.out.2];rfl,below_setRow R.out (by rw [a6.out];omega) _⟩
      ·have an:decide (c.t=t)=false:=decide_eq_false S;have B:=He (o.out (by rw [N.out,an,Bool.and_false]));clear S;go_wp2_with (first
        | (refine i4 Hl (.tmp 33) rfl p rfl c H9.out ?_)
        | (refine iJ Hl (.tmp 4) rfl M rfl f j m A.out ?_)
        | (refine kQ Hl (.tmp 34) (.tmp 35) _ rfl c.l c.a c.g f j m rfl rfl ?_))
       go_roundw
       case rel=>exact ⟨k+1,Ha,by go_num,B,R,A,H⟩
       case measure=>simp [intOf];omega
     ·have a8:decide (c.l=f/\c.a=j/\c.g=m)=false:=decide_eq_false s;have B:=He (o.out (by
       rw [N.out,decide_eq_false (fun h:c.id=⟨f,j,m⟩=>s (by unfold En.id at h;injection h with h1 h2 h3;exact ⟨h1,h2,h3⟩)),Bool.false_and]))
      clear s;go_wp2_with (first
       | (refine i4 Hl (.tmp 33) rfl p rfl c H9.out ?_)
       | (refine iJ Hl (.tmp 4) rfl M rfl f j m A.out ?_)
         | (refine kQ Hl (.tmp 34) (.tmp 35) _ rfl c.l c.a c.g f j m rfl rfl ?_))
      go_roundw
      case rel=>exact ⟨k+1,Ha,by go_num,B,R,A,H⟩
      case measure=>simp [intOf];omega
    ·have e0:rY 6 q=en0:=if_neg K;have B:=He (o.out (by rw [V.out];simp only;rw [decide_eq_false K,Bool.false_and]));have O:Hid (∀ W,Calls Tryz.prog 167 #[.agg (ab 6 q)] W fun e w'=>e=.returned (.tuple #[.agg (dL en0),.bool false])/\Below W.heap.size W w'):=fun W=>by
      have h:=U.out W;simp only at h
      rwa [e0,decide_eq_false K] at h
     clear U V e0 K;go_wp2_with (first | (with_reducible refine wpList_load_mid rfl 37 (.tmp 26) rfl g (k*57) rfl (blkL 6 q) _ (HM.out _ HB.out) Tryz.underlying37 rfl (bT (x:=⟨6,q⟩) ad.out) ?_))
     refine (O.out Z).mono ?_;rintro e1 C ⟨rfl,z⟩;have h9:=bS.new C en0;go_upto_region 6 with (first | (refine gq rfl rfl ?_) | (refine bK rfl (.tmp 9) (.tmp 29) rfl C.heap.size rfl en0 en0 rfl h9 ?_))
     have r:Below Z.heap.size Z ((C.alloc (.cells (dL en0) 168)).setRow C.heap.size (dL en0)):=z.trans ((below_setRow (aM (.cells (dL en0) 168)) (Nat.le_refl _) (dL en0)).mono z.size);have R:=He (HB.out.trans (r.mono HB.out.size));have A:=He (Y.out.below r);have H:=He (L.out.below r);clear z r h9 HB Y L;generalize (C.alloc (.cells (dL en0) 168)).setRow C.heap.size (dL en0)=w6 at *;go_wp2_with fail
     go_roundw
     case rel=>exact ⟨k+1,Ha,by go_num,B,R,A,H⟩
     case measure=>simp [intOf];omega
   ·have B:=He (o.out (by unfold i3;rw [decide_eq_false h6,Bool.false_and]));generalize x.k=kx at *;have b5:decide (kx=6)=false:=decide_eq_false h6;have b6:(kx != 6)=true:=by simp [h6]
    go_wp2_with fail
    go_roundw
    case rel=>exact ⟨k+1,Ha,by go_num,B,HB,Y,L⟩
    case measure=>simp [intOf];omega
  ·obtain rfl:k=n:=Ha;have bl:¬ (k:Int)<k:=Ha;have T:Hid (rI = -1/\rE=en0):=by
    have h1:=I6 (D:=⟨f,j,m⟩) (t:=t) (b:=b) (fun y I=>a2.out y (by rw [List.take_of_length_le (by rw [HN.out];exact Nat.le_refl _)];exact I));exact ⟨by rw [HE.out.2,h1.1],by rw [HE.out.1,h1.2]⟩
   go_wp2_with (first | (refine fF rfl rfl ?_) | (refine bK rfl (.tmp 6) (.tmp 46) rfl (M+1) rfl en0 en0 rfl L.out ?_))
   refine bodyPost_ret (fG rfl _ _ (M+1) en0 rfl (L.out.set en0)) rfl ?_;exact ⟨by rw [T.out.1,T.out.2];rfl,below_setRow HB.out (by rw [a6.out];omega) _⟩
theorem lP {ops:Array Oper} {rest:List Oper} {o:Oper} {a:Act} {w0 w:World} {Q:Exit->Act->World->Prop} (C:o.guard=none) (s x:Operand)
 (A:o.op=.call { callee:=.builtin .append,args:=#[s,x],argTypes:=#[23,23] })
 (p:Nat) (W:a.eval s=.slice (some ⟨p,0,none⟩) 0 0) (X:w.heap[p]?=some (.cells #[] 37 (0,0))) (H:Below w0.heap.size w0 w) (I:w0.heap.size<=p) (g n c:Nat) (l:List Bk) (Y:a.eval x=.slice (some ⟨g,0,none⟩) n c) (O:l.length=n) (h0:0<n) (R:n<=200) (d:dO l) (Z:rv w (some ⟨g,0,none⟩) l)
 (h:∀ f b m,cE m w0.heap.size f n b l->Below w0.heap.size w0 m->(∀ j ob,j≠p->w.heap[j]?=some ob->m.heap[j]?=some ob/\j≠f)->wpList Tryz.prog ops Q rest (a.put o.dst (.slice (some ⟨f,0,none⟩) n b)) m):wpList Tryz.prog ops Q (o :: rest) a w:=by
 obtain ⟨i0,hi,K,L,M⟩:=info_parts zj;have r:w.ownsRow w0.heap.size 37 57 (.slice (some ⟨p,0,none⟩) 0 0) 0 []:=⟨rfl,Or.inr ⟨p,0,#[],rfl,I,X,Nat.le_refl _,by simp only [maxLen];omega,rfl,rfl⟩⟩
 have i:(bksL l).length=n*57:=by rw [gz,dN (jg d),O]
 refine wpList_append_own_at (P:=Tryz.prog) w C s x 23 A w0.heap.size 37 i0 _ 57 64 Tryz.underlying23 hi K L M (by show (ab 0 az).size=57;exact aP ak) Hd _ 0 _ W r ⟨g,0,none⟩ n c (bksL l) Y i (fun j u hj=>?_) (xO l) (by simp only [maxLen];omega) Ha H.size ?_
 ·rw [dU];have N:=(List.getElem?_eq_some_iff.1 hj).1;rw [i] at N;have hd:j/57<n:=Ha;obtain ⟨y,q⟩:∃ y,l[j/57]?=some y:=⟨_,List.getElem?_eq_getElem Ha⟩
  have hr:=Z.at_ q;have S:j%57<57:=Nat.mod_lt _ Ha;obtain ⟨T,t⟩:∃ T,(blkL y.k y.bs)[j%57]?=some T:=⟨_,List.getElem?_eq_getElem (by rw [bf (d y (List.mem_of_getElem? q)).len];exact S)⟩
  have B:=qs d q t;have U:j/57*57+j%57=j:=Ha;rw [U,hj] at B;injection B with B
  subst B;have:=hr _ _ t
  rwa [U] at this
 ·intro v' m h2 V _ v;have z:m.ownsRow w0.heap.size 37 57 v' n (bksL l):=by simpa using h2
  rcases z.2 with ⟨_,he⟩ | ⟨f,b,ad,rfl,hb,hg,an,S,a0,ht⟩
  ·omega
  ·have a1:f=p\/f=w.heap.size:=by
    rcases v with v | v
    ·exact .inl (Option.some.inj (show some f=some p from v))
    ·exact .inr (Option.some.inj (show some f=some w.heap.size from v))
   refine h f b m ⟨z,O,d⟩ ?_ (fun j ob hj A=>⟨br V A (fun e=>hj (Option.some.inj (show some p=some j from e)).symm),fun e=>?_⟩)
   ·exact H.grown V H.size (fun k hk=>by have:=Option.some.inj (show some p=some k from hk);omega)
   ·have:=ah A;omega
theorem Gi {D:ou} {t:List Int} {b:List Bk}:dI D t b<b.length /\ -1<=dI D t b:=by
 by_cases h:dI D t b<0
 ·have : -1<=dI D t b:=by unfold dI;split <;> omega
  exact ⟨Ha,this⟩
 ·obtain ⟨j,x,c,a,_⟩:=Da h;have:=(List.getElem?_eq_some_iff.1 a).1;omega
theorem uS (b:List Bk) (a:List Int):bD b a<b.length /\ -1<=bD b a:=by
 unfold bD;rcases nu (iV (fy b) a) with ⟨j,c,_,d,_⟩ | ⟨c,_⟩
 ·rw [fJ] at c;unfold fy at c;rw [bP] at c;unfold fy at d ⊢;rw [d];omega
 ·rw [c];omega
theorem DF (B g n cap:Nat) (a:List Bk) (c:En) (w:World) (p:cE w B g n cap a) (T:B<=w.heap.size) (h0:0<n) (o:n<=200) (hn:Fk c) (U:c.t.length<=100) :
 Calls Tryz.prog 89 #[.slice (some ⟨g,0,none⟩) n cap,.agg (dL c)] w fun e w'=>∃ g' s,e=.returned (.tuple #[.slice (some ⟨g',0,none⟩) n s,.int .i64 (ql a c).2])/\cE w' B g' n s (ql a c).1/\((ql a c).2=0->w.heap.size<=g')/\Below w.heap.size w w':=by
 have HR:Hid (∀ W',Below w.heap.size w W'->cE W' B g n cap a):=fun W' V=>p.below V;have y:=He p.len;have a7:=He p.ok;have a8:=He T;have X:=He (fun W=>rZ c W hn U);have Y:=He (fun W V=>sA g a n cap c.id c.t W p.len o p.ok (p.below (w':=W) V).bks hn.t);have Z:=He (fun W (V:Below w.heap.size w W)=>pY g a n cap none [] 0 0 W p.len o p.ok (p.below V).bks rfl Ha (fun i x h=>by cases h) (fun t h=>by cases h));have h5:=bS.new w c;have a9:=He hn.t;obtain ⟨S,hS⟩:∃ S,S=ql a c:=⟨_,rfl⟩
 rw [<- hS];have HS:Hid (S=if ¬ j3 c then (a,1) else if 0<=dI c.id c.t a then (a,4) else if bD a []<0 then (a,9) else (r6 a (bD a []) (Fp c),0)):=hS;have bb:=He (Gi (D:=c.id) (t:=c.t) (b:=a));have bi:=He (uS a []);clear hS p T hn U;go_enter Tryz.func89,Tryz.ntmps89;go_upto_region 1 with fail
 have z:=He (aM (w:=w) (.cells (dL c) 168));generalize bk:w.alloc (.cells (dL c) 168)=W0 at *;obtain ⟨p3,A⟩:∃ p3,p3=w.heap.size:=⟨_,rfl⟩
 have bt:=He A;rw [<- A] at h5 ⊢;clear bk A;go_wp2_with (refine fX rfl (.tmp 3) rfl p3 rfl c h5 ?_)
 refine (X.out _).mono ?_;rintro e C ⟨rfl,H⟩;have h6:=heap_alloc_new C (.cells (ab 0 az) 37);have r:Hid ((fI c).length=56):=pf;go_upto_region 2 with (first | (refine aq rfl rfl ?_) | (refine ap rfl (.tmp 6) (.tmp 14) rfl C.heap.size rfl (gw c) 0 (fI c) az rfl r.out ak h6 ?_))
 have I:Below W0.heap.size W0 ((C.alloc (.cells (ab 0 az) 37)).setRow C.heap.size (ab (gw c) (fI c))):=H.trans ((below_setRow (aM _) (Nat.le_refl _) _).mono H.size);have l:=He (z.out.trans (I.mono z.out.size));have H3:Hid (bS _ p3 c):=bS.below h5 I;have H6:=He (am (D:=ab (gw c) (fI c)) h6);clear h5 h6 H I z X;generalize (C.alloc (.cells (ab 0 az) 37)).setRow C.heap.size (ab (gw c) (fI c))=W at *;generalize C.heap.size=p6 at *;by_cases N:j3 c
 case neg =>
  have d:Hid (S=(a,1)):=by unfold Hid;rw [HS.out,if_pos N]
  rw [decide_eq_false N];go_wp2_with fail
  go_ret2
  exact ⟨g,cap,by rw [d.out];rfl,by rw [d.out];exact HR.out _ l.out,by rw [d.out];intro h;simp at h,l.out⟩
 rw [decide_eq_true N];obtain ⟨c3,_,_⟩:=H3.out.cells;have ad:=He (Y.out W l.out);go_wp2_with (refine fH rfl (.tmp 21) rfl p3 rfl c H3.out ?_)
 refine ad.out.mono ?_;rintro e O ⟨rfl,K⟩;have h8:=bS.new O en0;go_upto_region 5 with (first | (refine gq rfl rfl ?_) | (refine bK rfl (.tmp 8) (.tmp 26) rfl O.heap.size rfl (im c.id c.t a) en0 rfl h8 ?_))
 have L:Below W.heap.size W ((O.alloc (.cells (dL en0) 168)).setRow O.heap.size (dL (im c.id c.t a))):=K.trans ((below_setRow (aM (.cells (dL en0) 168)) (Nat.le_refl _) (dL (im c.id c.t a))).mono K.size);have m:=He (l.out.trans (L.mono l.out.size));have an:=He (kb L H6.out);clear h8 K L l H6 H3 c3 ad Y;generalize (O.alloc (.cells (dL en0) 168)).setRow O.heap.size (dL (im c.id c.t a))=W4 at *;have bx:=bb.out;generalize dI c.id c.t a=fi at *;by_cases hf:0<=fi
 ·have d:Hid (S=(a,4)):=by unfold Hid;rw [HS.out,if_neg (fun h=>h N),if_pos hf]
  go_wp2_with fail
  go_ret2
  exact ⟨g,cap,by rw [d.out];rfl,by rw [d.out];exact HR.out _ m.out,by rw [d.out];intro h;simp at h,m.out⟩
 have a0:=He (Z.out W4 m.out);go_wp2_with fail
 refine a0.out.mono ?_;rintro e w5 ⟨rfl,M⟩;have f:=He (m.out.trans (M.mono m.out.size));have a1:=He (kb M an.out);have b0:=bi.out;clear M m an a0 Z;generalize bD a []=fs at *;by_cases hs:fs<0
 ·have d:Hid (S=(a,9)):=by unfold Hid;rw [HS.out,if_neg (fun h=>h N),if_neg Ha,if_pos hs]
  go_wp2_with fail
  go_ret2
  exact ⟨g,cap,by rw [d.out];rfl,by rw [d.out];exact HR.out _ f.out,by rw [d.out];intro h;simp at h,f.out⟩
 obtain ⟨q,rfl⟩:∃ q:Nat,fs=q:=⟨fs.toNat,Ha⟩
 have d:Hid (S=(a.set q (Fp c),0)):=by unfold Hid;rw [HS.out,if_neg (fun h=>h N),if_neg Ha,if_neg hs,yr]
 have a2:q<n:=by have:=y.out;omega
 have b1:(q:Int)<n:=Ha;have bl:Hid (∃ x,a[q]?=some x):=⟨_,List.getElem?_eq_getElem (by rw [y.out];exact a2)⟩
 go_upto_region 11 with (first
  | (at_builtin
     refine lP (w0:=w) rfl (.tmp 36) (.tmp 37) rfl w5.heap.size rfl (heap_alloc_new w5 _) ((f.out).alloc f.out.size _) f.out.size g n cap a rfl y.out h0 o a7.out ((HR.out _ ((f.out).alloc f.out.size _)).bks) ?_;intro R capb w6 u a3 a4;have j:=He u;have a5:=He a3;have bn:=He (a4 p6 _ (by have:=ah a1.out;omega) (kb (aM _) a1.out));clear u a3 a4))
 have a6:=He (IE a9.out);have bs:=He (j.out.there (i:=q) a2);obtain ⟨x,hx⟩:=bl.out;have HX:=He hx;clear hx;go_upto_region 12 with (first
  | (refine aT rfl (.tmp 6) rfl p6 rfl (gw c) (fI c) r.out bn.out.1 ?_)
  | (refine wpList_store_mid rfl 37 (.tmp 42) (.tmp 41) rfl R (q*57) (ab (gw c) (fI c)) rfl rfl (by rw [aP r.out];exact bs.out) (by rw [aP r.out];exact db) (ke _ _) ?_))
 rw [bu];have v:Hid (cE (w6.setCells R (q*57) (blkL (gw c) (fI c))) w.heap.size R n capb (a.set q (Fp c))/\Below w.heap.size w (w6.setCells R (q*57) (blkL (gw c) (fI c)))) :=
  ⟨j.out.setB HX.out a6.out,a5.out.grown (cN R _ _ _) a5.out.size (fun k e=>by have:=Option.some.inj e;have:=j.out.lt;omega)⟩
 go_wp2_with fail
 go_ret2
 exact ⟨R,capb,by rw [d.out];rfl,by rw [d.out];exact v.out.1.mono a8.out,fun _=>j.out.lt.1,v.out.2⟩
end Go.Proofs.YtegjelaejbacnaaGreat
