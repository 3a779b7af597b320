/- For FileForms: contracts and facts, part 12. -/
import Derived.Deep.Slices
import Derived.Deep.Fields
import Derived.ChangeSame
import Derived.OpenShut
import Derived.Test.YtegjelaejbacnaaGreatW11
set_option maxRecDepth 100000
set_option maxHeartbeats 25600000
set_option linter.unusedVariables false
open Go.ChangeShapes Go.WideShapes Go.ChangeAt Go.RowKit Go.Deep
namespace Go.Proofs.YtegjelaejbacnaaGreat
def i3 (m:DM) (r i:Nat) (b:List Int):Prop:=(gx m r)[i]?=some b\/∃ x∈since m r,x.r=r/\x.i=i/\x.b=b
structure kJ (m:DM) (r N:Nat):Prop where
 ok:m.Ok
 told:pJ m
 lt:r<m.now.length
 len:N<=(aE m r).length
theorem qn:∀ (l:List dd) (r:Nat) (kept:Nat->Bool) (nth:Nat) (s:List (List Int)) (i:Nat) (b:List Int),(fU l r kept nth s)[i]?=some b->s[i]?=some b\/∃ x∈l,x.r=r/\x.i=i/\x.b=b
 | [],_,_,_,s,i,b,h=>Or.inl h
 | x :: l,r,kept,nth,s,i,b,h=>by
   unfold fU at h;have up:∀ {s':List (List Int)},(s'[i]?=some b\/∃ y∈l,y.r=r/\y.i=i/\y.b=b)->s'[i]?=some b\/∃ y∈x :: l,y.r=r/\y.i=i/\y.b=b:=fun h=>h.imp id fun ⟨y,h1,h2⟩=>⟨y,by simp [h1],h2⟩
   split at h
   ·rename_i hr;split at h
    ·exact Or.inl h
    ·rcases qn l r kept _ _ i b h with h1 | h1
     ·split at h1
      ·by_cases e:x.i=i
       ·have hlt:=(List.getElem?_eq_some_iff.1 h1).1;rw [List.length_set] at hlt;rw [e,List.getElem?_set_self hlt] at h1;injection h1 with h1
        exact Or.inr ⟨x,Hb,hr,e,h1⟩
       ·rw [List.getElem?_set_ne e] at h1;exact Or.inl h1
      ·exact Or.inl h1
     ·exact up (s':=s) (Or.inr h1)
   ·exact up (qn l r kept _ _ i b h)
theorem vV {m:DM} {r N:Nat} (h:kJ m r N) {i:Nat} {b:List Int} (hb:(aE m r)[i]?=some b):i3 m r i b:=by
 rw [<- h.told.full r h.lt] at hb;exact qn _ _ _ _ _ _ _ hb
theorem kJ.row {m:DM} {r N:Nat} (h:kJ m r N):m.now[r]?=some (aE m r):=by
 unfold aE;rw [List.getD,List.getElem?_eq_getElem h.lt];rfl
theorem kJ.small {m:DM} {r N:Nat} (h:kJ m r N):N<=1000:=Nat.le_trans h.len (h.ok.rows r _ h.row).1
theorem kJ.get {m:DM} {r N:Nat} (h:kJ m r N) {i:Nat} (hi:i<N):∃ b,(aE m r)[i]?=some b:=⟨_,List.getElem?_eq_getElem (Nat.lt_of_lt_of_le hi h.len)⟩
theorem kJ.blk {m:DM} {r N:Nat} (h:kJ m r N) {i:Nat} {b:List Int} (hb:(aE m r)[i]?=some b):cG b:=(h.ok.rows r _ h.row).2 b (List.mem_of_getElem? hb)
theorem kJ.hR {m:DM} {r N:Nat} (h:kJ m r N):jM m (r:Int)=true:=by
 unfold jM;have:=h.lt;simp;exact this
theorem kJ.hB {m:DM} {r N:Nat} (h:kJ m r N) (i:Nat):ig m (r:Int) (i:Int)=decide (i<(aE m r).length):=by
 unfold ig;rw [h.hR,Int.toNat_natCast,jN h.row];simp
theorem kJ.rV {m:DM} {r N:Nat} (h:kJ m r N) (i:Nat):iB m (r:Int) (i:Int)=(aE m r)[i]?:=by
 unfold iB;rw [h.hB,Int.toNat_natCast,Int.toNat_natCast];show (if _ then (aE m r)[i]? else none)=_;by_cases hi:i<(aE m r).length
 ·rw [if_pos (by simpa using hi)]
 ·rw [if_neg (by simpa using hi),List.getElem?_eq_none Ha]
theorem kJ.rV_blk {m:DM} {r N:Nat} (h:kJ m r N) (i:Int) (b:List Int) (hb:iB m (r:Int) i=some b):cG b:=by
 unfold iB at hb;split at hb
 ·rename_i hh;obtain ⟨rn,j,row,e1,rfl,hrow,hj⟩:=pI hh;rw [e1,Int.toNat_natCast,Int.toNat_natCast,List.getD,hrow] at hb;exact (h.ok.rows rn row hrow).2 b (List.mem_of_getElem? hb)
 ·cases hb
theorem i4 {m:DM} (hs:aF m=true) (r i:Int) (b:List Int):m.doWrite r i b=m:=by unfold DM.doWrite;rw [if_neg (by rw [hs];simp)]
theorem iN {m:DM} (hs:aF m=true) (r:Int):m.doBarrier r=m:=by unfold DM.doBarrier;rw [if_neg (by rw [hs];simp)]
theorem kJ.write {m:DM} {r N:Nat} (h:kJ m r N) (hs:aF m=false) {i:Nat} (hi:i<N) {b:List Int} (hb:cG b):kJ (m.doWrite r i b) r N/\(∀ j c,i3 (m.doWrite r i b) r j c->i3 m r j c\/(j=i/\c=b))/\(∀ j,(aE (m.doWrite r i b) r)[j]?=if j=i then some b else (aE m r)[j]?)/\(m.doWrite r i b).stops=m.stops:=by
 have hil:i<(aE m r).length:=Nat.lt_of_lt_of_le hi h.len;have e:m.doWrite r i b=m.write r i b:=by
  unfold DM.doWrite;rw [if_pos ⟨by rw [h.hB];simpa using hil,hb.1,hs⟩,Int.toNat_natCast,Int.toNat_natCast]
 have hn:aE (m.write r i b) r=(aE m r).set i b:=nR _ _ _ _;have hl:(m.write r i b).now.length=m.now.length:=by show (bX _ _ _ _).length=_;unfold bX;simp
 have h1000:=h.small;rw [e];refine ⟨⟨h.ok.write h.row hil hb,h.told.write h.ok r i b Ha,by rw [hl];exact h.lt,by rw [hn,List.length_set];exact h.len⟩,fun j c hp=>?_,fun j=>?_,rfl⟩
 ·rcases hp with hp | ⟨x,hx,h1,h2,h3⟩
  ·exact Or.inl (Or.inl hp)
  ·rw [jj h.ok h.lt] at hx;rcases List.mem_append.1 hx with hx | hx
   ·exact Or.inl (Or.inr ⟨x,hx,h1,h2,h3⟩)
   ·rw [List.mem_singleton.1 hx] at h2 h3;exact Or.inr ⟨h2.symm,h3.symm⟩
 ·rw [hn,List.getElem?_set];by_cases hj:i=j
  ·subst hj;rw [if_pos rfl,if_pos hil,if_pos rfl]
  ·rw [if_neg hj,if_neg (fun h=>hj h.symm)]
theorem kJ.barrier {m:DM} {r N:Nat} (h:kJ m r N) (hs:aF m=false):kJ (m.doBarrier r) r N/\(∀ j c,i3 (m.doBarrier r) r j c->(aE m r)[j]?=some c)/\(∀ j:Nat,(aE (m.doBarrier r) r)[j]?=(aE m r)[j]?)/\aF (m.doBarrier r)=false/\(m.doBarrier r).stops=m.stops:=by
 have e:m.doBarrier r=m.barrier r:=by
  unfold DM.doBarrier;rw [if_pos ⟨h.hR,hs⟩,Int.toNat_natCast]
 obtain ⟨h1,h2,h3,h4,h5⟩:=mS h.told h.ok h.lt;rw [e];refine ⟨⟨(h.ok.tell h.lt).settle r _,h.told.barrier h.ok h.lt,h.lt,by rw [h3];exact h.len⟩,fun j c hp=>?_,fun j=>by rw [h3],hs,rfl⟩;rcases hp with hp | ⟨x,hx,_⟩
 ·rw [h1] at hp;exact hp
 ·rw [h4] at hx;cases hx
structure zM (m:DM) (r n g e:Nat) (S0:List Bk) (Rs:List (List Wr)):Prop where
 fit:kJ m r (2+g+n)
 e1:1<=e
 e2:e<65000
 len:S0.length=n
 ok:dF S0
 n200:n<=200
 rs:∀ l∈Rs,bM l/\bS l
 an:(aE m r)[e%2]?=some (ba 0 e)
 ao:∀ b,(aE m r)[(e+1)%2]?=some b->jT b ((e+1)%2)=true->dw 0 b<e
 hm:∀ (i:Nat) (x:Bk),S0[i]?=some x->jX Rs.flatten i->(aE m r)[2+g+i]?=some (cC 0 x.k i x.bs)
 lg:∃ rest,((aE m r).drop 2).take g=aJ e 0 Rs++rest/\¬ fN 0 e Rs.length rest
 od:∀ i,i<g->∀ b,(aE m r)[2+i]?=some b->zL (e+1) b
structure iq (m:DM) (r n g e:Nat) (S0:List Bk) (Rs:List (List Wr)) (k:Nat) (l:List Wr) (j:Nat):Prop where
 fit:kJ m r (2+g+n)
 e1:1<=e
 e2:e<65000
 len:S0.length=n
 ok:dF S0
 n200:n<=200
 rs:∀ l∈Rs,bM l/\bS l
 kle:k<=Rs.length
 fits:(aJ e 0 Rs).length+j<=g
 an:∀ b,i3 m r (e%2) b->b=ba 0 e
 ao:∀ b,i3 m r ((e+1)%2) b->jT b ((e+1)%2)=true->dw 0 b<e
 hm:∀ (i:Nat) (x:Bk),S0[i]?=some x->∀ b,i3 m r (2+g+i) b->b=cC 0 x.k i x.bs
 lg:∀ (i:Nat) (c:List Int),(aJ e 0 Rs)[i]?=some c->∀ b,i3 m r (2+i) b->b=c\/zL e b
 sure:∀ (i:Nat) (c:List Int),(aJ e 0 (Rs.take k))[i]?=some c->∀ b,i3 m r (2+i) b->b=c
 nw:∀ (i:Nat) (c:List Int),(aJ e 0 Rs)[i]?=some c->(aE m r)[2+i]?=some c
 part:j=0\/(bM l/\bS l/\j<=l.length)
 pt:∀ i,i<j->∀ b,i3 m r (2+((aJ e 0 Rs).length+i)) b->some b=(putL 0 e Rs.length l)[i]?\/zL e b
 ptn:∀ i,i<j->(aE m r)[2+((aJ e 0 Rs).length+i)]?=(putL 0 e Rs.length l)[i]?
 old:∀ i,(aJ e 0 Rs).length+j<=i->i<g->∀ b,i3 m r (2+i) b->zL e b
theorem ue {m:DM} {r g i:Nat} {b:List Int} (h:(((aE m r).drop 2).take g)[i]?=some b):i<g/\(aE m r)[2+i]?=some b:=by
 rw [List.getElem?_take] at h;split at h
 ·rename_i hi;rw [List.getElem?_drop] at h;exact ⟨hi,h⟩
 ·cases h
theorem zN {m:DM} {r N g:Nat} (h:kJ m r N) (hg:2+g<=N):(((aE m r).drop 2).take g).length=g:=by
 rw [List.length_take,List.length_drop];have:=h.len;omega
theorem iq.od {m:DM} {r n g e:Nat} {S0:List Bk} {Rs:List (List Wr)} {k:Nat} {l:List Wr} {j:Nat} (h:iq m r n g e S0 Rs k l j) {i:Nat} (hi:i<g) {b:List Int} (hb:i3 m r (2+i) b):zL (e+1) b:=by
 by_cases h1:i<(aJ e 0 Rs).length
 ·obtain ⟨c,hc⟩:∃ c,(aJ e 0 Rs)[i]?=some c:=⟨_,List.getElem?_eq_getElem h1⟩
  rcases h.lg i c hc b hb with h2 | h2
  ·rw [h2];exact (sK h.rs (List.mem_of_getElem? hc)).old h.e1
  ·exact h2.mono (Nat.le_succ _)
 ·by_cases h2:i<(aJ e 0 Rs).length+j
  ·have h3:=h.pt (i-(aJ e 0 Rs).length) Ha b (by rw [show (aJ e 0 Rs).length+(i-(aJ e 0 Rs).length)=i by omega];exact hb);rcases h3 with h3 | h3
   ·rcases h.part with h4 | ⟨h4,h5,_⟩
    ·omega
    ·exact (sI h4 h5 (List.mem_of_getElem? h3.symm)).old h.e1
   ·exact h3.mono (Nat.le_succ _)
  ·exact (h.old i Ha hi b hb).mono (Nat.le_succ _)
theorem iq.mtb_now {m:DM} {r n g e:Nat} {S0:List Bk} {Rs:List (List Wr)} {k:Nat} {l:List Wr} (h:iq m r n g e S0 Rs k l 0):zM m r n g e S0 Rs:=by
 have hp:∀ i b,(aE m r)[i]?=some b->i3 m r i b:=fun i b hb=>vV h.fit hb;have hlen:=zN (g:=g) h.fit Ha;have hfit:=h.fits;have hX:((aE m r).drop 2).take g=aJ e 0 Rs++(((aE m r).drop 2).take g).drop (aJ e 0 Rs).length:=by
  apply List.ext_getElem?;intro i;by_cases hi:i<(aJ e 0 Rs).length
  ·rw [List.getElem?_append_left hi];obtain ⟨c,hc⟩:∃ c,(aJ e 0 Rs)[i]?=some c:=⟨_,List.getElem?_eq_getElem hi⟩
   rw [hc,List.getElem?_take,if_pos Ha,List.getElem?_drop];exact h.nw i c hc
  ·rw [List.getElem?_append_right Ha,List.getElem?_drop,show (aJ e 0 Rs).length+(i-(aJ e 0 Rs).length)=i by omega]
 refine ⟨h.fit,h.e1,h.e2,h.len,h.ok,h.n200,h.rs,?_,fun b hb=>h.ao b (hp _ _ hb),fun i x hx _=>?_,⟨_,hX,Ib (by have:=h.e2;omega) fun b hb=>?_⟩,fun i hi b hb=>h.od hi (hp _ _ hb)⟩
 ·obtain ⟨b,hb⟩:=h.fit.get (i:=e%2) (by have:=Nat.mod_lt e (show 0<2 by omega);omega);rw [hb,h.an b (hp _ _ hb)]
 ·have hi:=(List.getElem?_eq_some_iff.1 hx).1;rw [h.len] at hi;obtain ⟨b,hb⟩:=h.fit.get (i:=2+g+i) Ha;rw [hb,h.hm i x hx b (hp _ _ hb)]
 ·rw [List.getElem?_drop] at hb;exact h.old _ Ha (ue hb).1 b (hp _ _ (ue hb).2)
def g6 (m:DM) (r:Nat):Prop:=∀ j c,i3 m r j c->(aE m r)[j]?=some c
def JJ (m:DM) (Q F:DM->Prop):Prop:=(aF m=false/\Q m)\/(aF m=true/\F m)
section
variable {m:DM} {r n g e:Nat} {S0:List Bk} {Rs:List (List Wr)} {k:Nat} {l:List Wr} {j:Nat}
theorem iq.bar (h:iq m r n g e S0 Rs k l 0) (hs:aF m=false):iq (m.doBarrier r) r n g e S0 Rs Rs.length l 0/\g6 (m.doBarrier r) r:=by
 obtain ⟨h1,h2,h3,_,_⟩:=h.fit.barrier hs;have hp:∀ i b,i3 (m.doBarrier r) r i b->i3 m r i b:=fun i b hb=>vV h.fit (h2 i b hb);refine ⟨⟨h1,h.e1,h.e2,h.len,h.ok,h.n200,h.rs,Nat.le_refl _,h.fits,fun b hb=>h.an b (hp _ _ hb),fun b hb=>h.ao b (hp _ _ hb),fun i x hx b hb=>h.hm i x hx b (hp _ _ hb),fun i c hc b hb=>h.lg i c hc b (hp _ _ hb),fun i c hc b hb=>?_,fun i c hc=>by rw [h3];exact h.nw i c hc,Or.inl rfl,fun i hi=>Ha,fun i hi=>Ha,fun i h4 h5 b hb=>h.old i h4 h5 b (hp _ _ hb)⟩,fun i c hc=>by rw [h3];exact h2 i c hc⟩;rw [List.take_length] at hc;have h6:=h2 _ _ hb;rw [h.nw i c hc] at h6;injection h6 with h6;exact h6.symm
theorem iq.relabel (h:iq m r n g e S0 Rs k l 0) (l':List Wr):iq m r n g e S0 Rs k l' 0 :=
 { h with part:=Or.inl rfl,pt:=fun i hi=>Ha,ptn:=fun i hi=>by omega }
theorem sM {k:Int} {bs:List Int} (t:Nat) (hk:0<=k/\k<=7) (h56:bs.length=56) (hB:ax bs):cG (cC 0 k t bs):=⟨fE h56,mg Ha hk hB⟩
theorem iq.write (h:iq m r n g e S0 Rs k l j) (hs:aF m=false) (hl:bM l/\bS l) (hj:j<=l.length) (hfit:(aJ e 0 Rs).length+(1+l.length)<=g) {c:List Int} (hc:(putL 0 e Rs.length l)[j]?=some c) :
 (j<l.length->iq (m.doWrite r ((2+((aJ e 0 Rs).length+j):Nat):Int) c) r n g e S0 Rs k l (j+1))/\(j=l.length->iq (m.doWrite r ((2+((aJ e 0 Rs).length+j):Nat):Int) c) r n g e S0 (Rs++[l]) k [] 0):=by
 have hcb:cG c:=vQ e Rs.length hl.1 hl.2 c (List.mem_of_getElem? hc);obtain ⟨f1,f2,f3,_⟩:=h.fit.write hs (i:=2+((aJ e 0 Rs).length+j)) Ha hcb;have hpo:∀ i b,i≠2+((aJ e 0 Rs).length+j)->i3 (m.doWrite r ((2+((aJ e 0 Rs).length+j):Nat):Int) c) r i b->i3 m r i b:=fun i b hi hb=>(f2 i b hb).resolve_right fun h=>hi h.1;have hno:∀ i,i≠2+((aJ e 0 Rs).length+j)->(aE (m.doWrite r ((2+((aJ e 0 Rs).length+j):Nat):Int) c) r)[i]?=(aE m r)[i]?:=fun i hi=>by rw [f3,if_neg hi]
 have hat:=f3 (2+((aJ e 0 Rs).length+j));rw [if_pos rfl] at hat;have hm2:∀ x:Nat,x%2<2:=fun x=>Nat.mod_lt _ Ha;have han:∀ b,i3 (m.doWrite r ((2+((aJ e 0 Rs).length+j):Nat):Int) c) r (e%2) b->b=ba 0 e:=fun b hb=>h.an b (hpo _ _ (by have:=hm2 e;omega) hb);have hao:∀ b,i3 (m.doWrite r ((2+((aJ e 0 Rs).length+j):Nat):Int) c) r ((e+1)%2) b->jT b ((e+1)%2)=true->dw 0 b<e:=fun b hb=>h.ao b (hpo _ _ (by have:=hm2 (e+1);omega) hb);have hhm:∀ (i:Nat) (x:Bk),S0[i]?=some x->∀ b,i3 (m.doWrite r ((2+((aJ e 0 Rs).length+j):Nat):Int) c) r (2+g+i) b->b=cC 0 x.k i x.bs:=fun i x hx b hb=>h.hm i x hx b (hpo _ _ Ha hb);have hkl:(aJ e 0 (Rs.take k)).length<=(aJ e 0 Rs).length:=by
  have h5:aJ e 0 Rs=aJ e 0 (Rs.take k)++aJ e (0+(Rs.take k).length) (Rs.drop k):=by rw [<- iM,List.take_append_drop]
  rw [h5,List.length_append];omega
 have hsu:∀ (i:Nat) (c':List Int),(aJ e 0 (Rs.take k))[i]?=some c'->∀ b,i3 (m.doWrite r ((2+((aJ e 0 Rs).length+j):Nat):Int) c) r (2+i) b->b=c':=fun i c' hc' b hb=>h.sure i c' hc' b (hpo _ _ (by have:=(List.getElem?_eq_some_iff.1 hc').1;omega) hb);have hpt:∀ i,i<j+1->∀ b,i3 (m.doWrite r ((2+((aJ e 0 Rs).length+j):Nat):Int) c) r (2+((aJ e 0 Rs).length+i)) b->some b=(putL 0 e Rs.length l)[i]?\/zL e b:=fun i hi b hb=>by
  by_cases hij:i=j
  ·subst hij;rcases f2 _ _ hb with h1 | ⟨_,h1⟩
   ·exact Or.inr (h.old _ (Nat.le_refl _) Ha b h1)
   ·exact Or.inl (by rw [hc,h1])
  ·exact h.pt i Ha b (hpo _ _ Ha hb)
 have hptn:∀ i,i<j+1->(aE (m.doWrite r ((2+((aJ e 0 Rs).length+j):Nat):Int) c) r)[2+((aJ e 0 Rs).length+i)]?=(putL 0 e Rs.length l)[i]?:=fun i hi=>by
  by_cases hij:i=j
  ·subst hij;rw [hat,hc]
  ·rw [hno _ Ha];exact h.ptn i Ha
 refine ⟨fun hjl=>⟨f1,h.e1,h.e2,h.len,h.ok,h.n200,h.rs,h.kle,Ha,han,hao,hhm,fun i c' hc' b hb=>h.lg i c' hc' b (hpo _ _ (by have:=(List.getElem?_eq_some_iff.1 hc').1;omega) hb),hsu,fun i c' hc'=>by rw [hno _ (by have:=(List.getElem?_eq_some_iff.1 hc').1;omega)];exact h.nw i c' hc',Or.inr ⟨hl.1,hl.2,hjl⟩,hpt,hptn,fun i h1 h2 b hb=>h.old i Ha h2 b (hpo _ _ Ha hb)⟩,fun hjl=>?_⟩;have hap:aJ e 0 (Rs++[l])=aJ e 0 Rs++putL 0 e Rs.length l:=by rw [iM,sJ,Nat.zero_add]
 have hpl:(putL 0 e Rs.length l).length=1+l.length:=bE _ _ _ _;have hal:(aJ e 0 (Rs++[l])).length=(aJ e 0 Rs).length+(1+l.length):=by rw [hap,List.length_append,hpl]
 refine ⟨f1,h.e1,h.e2,h.len,h.ok,h.n200,fun l' hl'=>?_,by rw [List.length_append];have:=h.kle;omega,by rw [hal];omega,han,hao,hhm,fun i c' hc' b hb=>?_,fun i c' hc' b hb=>?_,fun i c' hc'=>?_,Or.inl rfl,fun i hi=>Ha,fun i hi=>Ha,fun i h1 h2 b hb=>h.old i (by rw [hal] at h1;omega) h2 b (hpo _ _ (by rw [hal] at h1;omega) hb)⟩
 ·rcases List.mem_append.1 hl' with h1 | h1
  ·exact h.rs l' h1
  ·rw [List.mem_singleton.1 h1];exact hl
 ·rw [hap] at hc';by_cases hi:i<(aJ e 0 Rs).length
  ·rw [List.getElem?_append_left hi] at hc';exact h.lg i c' hc' b (hpo _ _ Ha hb)
  ·rw [List.getElem?_append_right Ha] at hc';have hi2:=(List.getElem?_eq_some_iff.1 hc').1;have h1:=hpt (i-(aJ e 0 Rs).length) Ha b (by rw [show (aJ e 0 Rs).length+(i-(aJ e 0 Rs).length)=i by omega];exact hb);rw [hc'] at h1;exact h1.imp (fun h2=>by injection h2) id
 ·rw [List.take_append_of_le_length h.kle] at hc';exact hsu i c' hc' b hb
 ·rw [hap] at hc';by_cases hi:i<(aJ e 0 Rs).length
  ·rw [List.getElem?_append_left hi] at hc';rw [hno _ Ha];exact h.nw i c' hc'
  ·rw [List.getElem?_append_right Ha] at hc';have hi2:=(List.getElem?_eq_some_iff.1 hc').1;have h1:=hptn (i-(aJ e 0 Rs).length) Ha;rw [show (aJ e 0 Rs).length+(i-(aJ e 0 Rs).length)=i by omega,hc'] at h1;exact h1
end
theorem oh {m:DM} (hs:aF m=true) (r:Int):∀ (l:List (List Int)) (o:Nat),je r m o l=m
 | [],_=>rfl
 | b :: l,o=>by show je r (m.doWrite r _ b) (o+1) l=m;rw [i4 hs,oh hs r l]
theorem Ic {r n g e:Nat} {S0:List Bk} {Rs:List (List Wr)} {k:Nat} {l:List Wr} {F:DM->Prop} (hl:bM l/\bS l) (hfit:(aJ e 0 Rs).length+(1+l.length)<=g) (hF:∀ m j,iq m r n g e S0 Rs k l j->F m) (hF2:∀ m,iq m r n g e S0 (Rs++[l]) k [] 0->F m) :
 ∀ (d:Nat) (m:DM) (j:Nat),j+d=l.length->JJ m (fun m=>iq m r n g e S0 Rs k l j) F->JJ (je r m ((aJ e 0 Rs).length+j) ((putL 0 e Rs.length l).drop j)) (fun m=>iq m r n g e S0 (Rs++[l]) k [] 0) F:=by
 intro d;have hpl:(putL 0 e Rs.length l).length=1+l.length:=bE _ _ _ _
 induction d with
 | zero =>
   intro m j hj hg;obtain ⟨c,hc⟩:∃ c,(putL 0 e Rs.length l)[j]?=some c:=⟨_,List.getElem?_eq_getElem Ha⟩
   have hd:(putL 0 e Rs.length l).drop j=[c]:=by
    rw [List.drop_eq_getElem_cons Ha,(List.getElem?_eq_some_iff.1 hc).2,List.drop_of_length_le Ha]
   rw [hd];show JJ (m.doWrite r ((2+((aJ e 0 Rs).length+j):Nat):Int) c) _ _;rcases hg with ⟨hs,hI⟩ | ⟨hs,hf⟩
   ·have h1:=(hI.write hs hl Ha hfit hc).2 Ha;cases hs2:aF (m.doWrite r ((2+((aJ e 0 Rs).length+j):Nat):Int) c)
    ·exact Or.inl ⟨hs2,h1⟩
    ·exact Or.inr ⟨hs2,hF2 _ h1⟩
   ·rw [i4 hs];exact Or.inr ⟨hs,hf⟩
 | succ d ih =>
   intro m j hj hg;obtain ⟨c,hc⟩:∃ c,(putL 0 e Rs.length l)[j]?=some c:=⟨_,List.getElem?_eq_getElem Ha⟩
   rw [List.drop_eq_getElem_cons Ha,(List.getElem?_eq_some_iff.1 hc).2];show JJ (je r (m.doWrite r ((2+((aJ e 0 Rs).length+j):Nat):Int) c) ((aJ e 0 Rs).length+j+1) _) _ _;refine ih _ (j+1) Ha ?_;rcases hg with ⟨hs,hI⟩ | ⟨hs,hf⟩
   ·have h1:=(hI.write hs hl Ha hfit hc).1 Ha;cases hs2:aF (m.doWrite r ((2+((aJ e 0 Rs).length+j):Nat):Int) c)
    ·exact Or.inl ⟨hs2,h1⟩
    ·exact Or.inr ⟨hs2,hF _ _ h1⟩
   ·rw [i4 hs];exact Or.inr ⟨hs,hf⟩
structure o7 (v:VM) (r n g e:Nat) (S0:List Bk) (Rs:List (List Wr)):Prop where
 vr:v.r=(r:Int)
 vn:v.n=n
 vg:v.g=g
 ve:v.ep=e
 vok:v.Ok
 val:v.B.map val=applyW S0 Rs.flatten
 fl:∀ (i:Nat) (x:HB),v.B[i]?=some x->x.lg=false->jX Rs.flatten i
theorem o7.at_ {v:VM} {r n g e:Nat} {S0:List Bk} {Rs:List (List Wr)} (h:o7 v r n g e S0 Rs) {i:Nat} {x:HB} (hx:v.B[i]?=some x):(applyW S0 Rs.flatten)[i]?=some (Proofs.YtegjelaejbacnaaGreat.val x):=by
 rw [<- h.val,List.getElem?_map,hx];rfl
theorem mq {m:DM} (hs:aF m=true) (r:Int) (g:Nat):∀ (l:List HB) (o:Nat),bO r g m o l=m
 | [],_=>rfl
 | x :: l,o=>by
   show bO r g (if x.lg then m.doWrite r _ _ else m) (o+1) l=m;rw [show (if x.lg then m.doWrite r ((2+g+o:Nat):Int) (cC 0 x.k o x.bs) else m)=m by split;exact i4 hs _ _ _;rfl,mq hs r g l]
theorem mr {m:DM} (hs:aF m=true) (r:Int) (e:Nat):m.doBegin r e=m:=by
 unfold DM.doBegin;rw [iN hs,i4 hs,iN hs]
theorem qo {r g N:Nat}:∀ (l:List HB) (o:Nat) (m:DM),kJ m r N->2+g+o+l.length<=N->lU l->aF (bO r g m o l)=false ->
 kJ (bO r g m o l) r N/\(∀ j,(j<2+g+o\/2+g+o+l.length<=j)->(aE (bO r g m o l) r)[j]?=(aE m r)[j]?)/\∀ (i:Nat) (x:HB),l[i]?=some x->(aE (bO r g m o l) r)[2+g+(o+i)]?=if x.lg then some (cC 0 x.k (o+i) x.bs) else (aE m r)[2+g+(o+i)]?
 | [],o,m,hf,_,_,_=>⟨hf,fun _ _=>rfl,fun i x hx=>by cases hx⟩
 | y :: l,o,m,hf,hN,hok,hst=>by
   rw [List.length_cons] at hN;have hy:=hok y Hb;have hs:aF m=false:=by
    cases hs:aF m
    ·rfl
    ·rw [mq hs,hs] at hst;cases hst
   have hst':aF (bO r g (if y.lg then m.doWrite r ((2+g+o:Nat):Int) (cC 0 y.k o y.bs) else m) (o+1) l)=false:=hst;cases hlg:y.lg
   ·rw [hlg] at hst';obtain ⟨h1,h2,h3⟩:=qo l (o+1) m hf Ha (fun x hx=>hok x (by simp [hx])) hst';have e:bO r g m o (y :: l)=bO r g m (o+1) l:=by show bO r g (if y.lg then _ else _) (o+1) l=_;rw [hlg];rfl
    rw [e];refine ⟨h1,fun j hj=>h2 j (by rw [List.length_cons] at hj;omega),fun i x hx=>?_⟩;cases i with
    | zero =>
      injection hx with hx;subst hx
      rw [hlg,Nat.add_zero,h2 _ Ha];rfl
    | succ i =>
      have:=h3 i x hx;rw [show o+1+i=o+(i+1) by omega] at this;exact this
   ·rw [hlg] at hst';obtain ⟨w1,_,w3,_⟩:=hf.write hs (i:=2+g+o) Ha (sM o hy.k hy.len hy.b);obtain ⟨h1,h2,h3⟩:=qo l (o+1) _ w1 Ha (fun x hx=>hok x (by simp [hx])) hst';have e:bO r g m o (y :: l)=bO r g (m.doWrite r ((2+g+o:Nat):Int) (cC 0 y.k o y.bs)) (o+1) l:=by show bO r g (if y.lg then _ else _) (o+1) l=_;rw [hlg];rfl
    rw [e];refine ⟨h1,fun j hj=>by rw [h2 j (by rw [List.length_cons] at hj;omega),w3,if_neg (by rw [List.length_cons] at hj;omega)],fun i x hx=>?_⟩;cases i with
    | zero =>
      injection hx with hx;subst hx
      show (aE _ r)[2+g+o]?=if y.lg then some (cC 0 y.k o y.bs) else (aE m r)[2+g+o]?;rw [hlg,h2 _ Ha,w3,if_pos rfl];rfl
    | succ i =>
      have:=h3 i x hx;rw [show o+1+i=o+(i+1) by omega,w3,if_neg (show ¬ 2+g+(o+(i+1))=2+g+o by omega)] at this;exact this
theorem ke {e:Nat} (he:e<65000):dw 0 (ba 0 e)=e:=by
 unfold dw;rw [if_pos ((lS (lb:=0) (lb':=0) (e:=e) Ha).2 ⟨rfl,Ha⟩)];exact qe Ha
theorem oQ {m:DM} {r n g e:Nat} {S:List Bk} (fit:kJ m r (2+g+n)) (hs:g6 m r) (e1:1<=e) (e2:e<65000) (len:S.length=n) (ok:dF S) (n200:n<=200) (an:(aE m r)[e%2]?=some (ba 0 e)) (ao:∀ b,(aE m r)[(e+1)%2]?=some b->jT b ((e+1)%2)=true->dw 0 b<e)
 (hm:∀ (i:Nat) (x:Bk),S[i]?=some x->(aE m r)[2+g+i]?=some (cC 0 x.k i x.bs)) (od:∀ i,i<g->∀ b,(aE m r)[2+i]?=some b->zL e b):iq m r n g e S [] 0 [] 0 :=
 ⟨fit,e1,e2,len,ok,n200,(fun l hl=>by cases hl),Nat.le_refl _,Nat.zero_le _,fun b hb=>by have:=hs _ _ hb;rw [an] at this;injection this with this;exact this.symm,fun b hb=>ao b (hs _ _ hb),fun i x hx b hb=>by have:=hs _ _ hb;rw [hm i x hx] at this;injection this with this;exact this.symm,(fun i c hc=>by cases hc),(fun i c hc=>by cases hc),(fun i c hc=>by cases hc),Or.inl rfl,fun i hi=>Ha,fun i hi=>Ha,fun i _ hi b hb=>od i hi b (hs _ _ hb)⟩
theorem sN {m:DM} {r N e:Nat} (hf:kJ m r N) (hN:2<=N) (hst:aF (m.doBegin r e)=false):kJ (m.doBegin r e) r N/\g6 (m.doBegin r e) r/\∀ j,(aE (m.doBegin r e) r)[j]?=if j=e%2 then some (ba 0 e) else (aE m r)[j]?:=by
 have hs:aF m=false:=by
  cases hs:aF m
  ·rfl
  ·rw [mr hs,hs] at hst;cases hst
 obtain ⟨b1,_,b3,b4,_⟩:=hf.barrier hs;have hm2:e%2<2:=Nat.mod_lt _ Ha;obtain ⟨w1,_,w3,_⟩:=b1.write b4 (i:=e%2) Ha ⟨bY 0 e,j7 e Ha⟩;have hst':aF (((m.doBarrier r).doWrite r ((e%2:Nat):Int) (ba 0 e)).doBarrier r)=false:=hst;have hs2:aF ((m.doBarrier r).doWrite r ((e%2:Nat):Int) (ba 0 e))=false:=by
  cases hs2:aF ((m.doBarrier r).doWrite r ((e%2:Nat):Int) (ba 0 e))
  ·rfl
  ·rw [iN hs2,hs2] at hst';cases hst'
 obtain ⟨c1,c2,c3,_,_⟩:=w1.barrier hs2;refine ⟨c1,fun j c hc=>?_,fun j=>?_⟩
 ·show (aE (((m.doBarrier r).doWrite r ((e%2:Nat):Int) (ba 0 e)).doBarrier r) r)[j]?=_;rw [c3];exact c2 j c hc
 ·show (aE (((m.doBarrier r).doWrite r ((e%2:Nat):Int) (ba 0 e)).doBarrier r) r)[j]?=_;rw [c3,w3,b3]
theorem zM.home {m:DM} {r n g e:Nat} {S0:List Bk} {Rs:List (List Wr)} {v:VM} (h:zM m r n g e S0 Rs) (ht:o7 v r n g e S0 Rs) (he:e+1<65000) (hst:aF (fg m v)=false):iq (fg m v) r n g (e+1) (applyW S0 Rs.flatten) [] 0 [] 0/\g6 (fg m v) r:=by
 unfold fg at hst ⊢;rw [ht.vr,ht.vg,ht.ve] at hst ⊢;have hBl:v.B.length=n:=ht.vok.len.trans ht.vn;have hs1:aF (bO r g m 0 v.B)=false:=by
  cases hs:aF (bO r g m 0 v.B)
  ·rfl
  ·rw [mr hs,hs] at hst;cases hst
 obtain ⟨h1,h2,h3⟩:=qo v.B 0 m h.fit Ha ht.vok.ok hs1;obtain ⟨c1,c2,c3⟩:=sN h1 Ha hst;have hm2:∀ x:Nat,x%2<2:=fun x=>Nat.mod_lt _ Ha;have hlen:(applyW S0 Rs.flatten).length=n:=by rw [cZ];exact h.len
 refine ⟨oQ c1 c2 Ha he hlen (sL (fun w hw=>?_) (fun w hw=>?_) h.ok) h.n200 (by rw [c3,if_pos rfl]) (fun b hb ha=>?_) (fun i x hx=>?_) (fun i hi b hb=>?_),c2⟩
 ·obtain ⟨l,hl,hw⟩:=List.mem_flatten.1 hw;exact (h.rs l hl).2 w hw
 ·obtain ⟨l,hl,hw⟩:=List.mem_flatten.1 hw;exact (h.rs l hl).1.kinds w hw
 ·rw [c3,if_neg Ha,h2 _ (by have:=hm2 (e+1+1);omega),show (e+1+1)%2=e%2 by omega,h.an] at hb;injection hb with hb
  rw [<- hb,ke Ha];omega
 ·have hi:=(List.getElem?_eq_some_iff.1 hx).1;rw [hlen] at hi;obtain ⟨y,hy⟩:∃ y,v.B[i]?=some y:=⟨_,List.getElem?_eq_getElem Ha⟩
  have hxy:=ht.at_ hy;rw [hx] at hxy;injection hxy with hxy
  have h4:=h3 i y hy;rw [Nat.zero_add] at h4;rw [c3,if_neg (by have:=hm2 (e+1);omega),h4,hxy];cases hlg:y.lg
  ·have hu:=ht.fl i y hy hlg;rw [qm _ _ _ hu] at hx;have h5:=h.hm i x hx hu;rw [hxy] at h5;exact h5
  ·rfl
 ·rw [c3,if_neg (by have:=hm2 (e+1);omega),h2 _ Ha] at hb;exact h.od i hi b hb
theorem vW {m:DM} (h:m.stops=false):aF m=false:=by unfold aF;rw [h];rfl
theorem nc (m:DM) (r i:Int) (b:List Int):(m.doWrite r i b).stops=m.stops:=by unfold DM.doWrite;split <;> rfl
theorem mt (m:DM) (r:Int):(m.doBarrier r).stops=m.stops:=by unfold DM.doBarrier;split <;> rfl
theorem qp (m:DM) (r:Int) (e:Nat):(m.doBegin r e).stops=m.stops:=by unfold DM.doBegin;rw [mt,nc,mt]
theorem yh (r:Int):∀ (l:List (List Int)) (m:DM) (o:Nat),(je r m o l).stops=m.stops
 | [],_,_=>rfl
 | b :: l,m,o=>by show (je r _ (o+1) l).stops=_;rw [yh r l,nc]
theorem vX (r:Int) (g:Nat):∀ (l:List HB) (m:DM) (o:Nat),(bO r g m o l).stops=m.stops
 | [],_,_=>rfl
 | x :: l,m,o=>by
   show (bO r g _ (o+1) l).stops=_;rw [vX r g l];split
   ·exact nc _ _ _ _
   ·rfl
theorem uf (m:DM) (v:VM):(fg m v).stops=m.stops:=by unfold fg;rw [qp,vX]
theorem Fj (m:DM) (v:VM):(ip m v).stops=m.stops:=by unfold ip;rw [uf,mt]
theorem JK (m:DM) (v:VM) (l:List Wr):(rB m v l).stops=m.stops:=by
 unfold rB oc;split
 ·split
  ·rw [yh,Fj]
  ·rw [yh]
 ·rfl
theorem ng (r:Int) (g:Nat) (m:DM):∀ k,(cY r g m k).stops=m.stops
 | 0=>rfl
 | k+1=>by show (DM.doWrite _ _ _ _).stops=_;rw [nc,ng r g m k]
theorem Fk (m:DM) (r:Int) (n g:Nat):(kt m r n g).stops=m.stops:=by unfold kt;rw [qp,ng]
def gc (n:Nat):List Bk:=(List.range n).map fun i=>⟨gT i,gD i⟩
theorem sO {n i:Nat} {x:Bk} (h:(gc n)[i]?=some x):i<n/\x=⟨gT i,gD i⟩:=by
 unfold gc at h;rw [List.getElem?_map] at h;obtain ⟨j,hj,rfl⟩:=Option.map_eq_some_iff.1 h;have hl:=(List.getElem?_eq_some_iff.1 hj).1;rw [List.length_range] at hl;rw [List.getElem?_range hl] at hj;injection hj with hj;subst hj
 exact ⟨hl,rfl⟩
theorem mu (n:Nat):(gc n).length=n:=by unfold gc;simp
theorem Bi (n:Nat):dF (gc n):=fun x hx=>by
 obtain ⟨i,hi⟩:=List.getElem?_of_mem hx;rw [(sO hi).2];exact ⟨oe i,iZ i,n7 i⟩
theorem sP {r g N:Nat} {m:DM} (hf:kJ m r N) (hns:m.stops=false):∀ k,2+g+k<=N->kJ (cY r g m k) r N/\(∀ j,(j<2+g\/2+g+k<=j)->(aE (cY r g m k) r)[j]?=(aE m r)[j]?)/\∀ i,i<k->(aE (cY r g m k) r)[2+g+i]?=some (cC 0 (gT i) i (gD i))
 | 0,_=>⟨hf,fun _ _=>rfl,fun i hi=>Ha⟩
 | k+1,hN=>by
   obtain ⟨h1,h2,h3⟩:=sP (g:=g) hf hns k Ha;have hs:aF (cY r g m k)=false:=vW (by rw [ng];exact hns);obtain ⟨w1,_,w3,_⟩:=h1.write hs (i:=2+g+k) Ha (sM k (oe k) (iZ k) (n7 k));refine ⟨w1,fun j hj=>?_,fun i hi=>?_⟩
   ·show (aE (DM.doWrite _ _ _ _) r)[j]?=_;rw [w3,if_neg Ha];exact h2 j Ha
   ·show (aE (DM.doWrite _ _ _ _) r)[2+g+i]?=_;rw [w3];by_cases hik:i=k
    ·subst hik;rw [if_pos rfl]
    ·rw [if_neg Ha];exact h3 i Ha
theorem qq:jT Bh 0=false:=by
 unfold jT;rw [decide_eq_false]
 ·rfl
 ·rintro ⟨_,_,h⟩;have h2:=congrArg (fun b:List Int=>b[0]?) h;rw [show (ba 0 (zD Bh))[0]?=some 65 from rfl] at h2;exact absurd h2 Hd
theorem sQ {m:DM} {r n g:Nat} (hf:kJ m r (2+g+n)) (hns:m.stops=false) (hn:n<=200) (hz:∀ i b,i<2+g->(aE m r)[i]?=some b->b=Bh):iq (kt m r n g) r n g 1 (gc n) [] 0 [] 0/\g6 (kt m r n g) r:=by
 obtain ⟨h1,h2,h3⟩:=sP (g:=g) hf hns n (Nat.le_refl _);have hst:aF ((cY r g m n).doBegin r 1)=false:=vW (by rw [qp,ng];exact hns);obtain ⟨c1,c2,c3⟩:=sN h1 Ha hst;refine ⟨oQ c1 c2 Ha Ha (mu n) (Bi n) hn (by show (aE ((cY r g m n).doBegin r 1) r)[1%2]?=_;rw [c3,if_pos rfl]) (fun b hb ha=>?_) (fun i x hx=>?_) (fun i hi b hb=>?_),c2⟩
 ·have hb':(aE ((cY r g m n).doBegin r 1) r)[0]?=some b:=hb;rw [c3,if_neg Ha,h2 _ Ha] at hb';rw [hz 0 b Ha hb'] at ha;have ha':jT Bh 0=true:=ha;rw [qq] at ha';cases ha'
 ·obtain ⟨hi,rfl⟩:=sO hx;show (aE ((cY r g m n).doBegin r 1) r)[2+g+i]?=_;rw [c3,if_neg Ha];exact h3 i hi
 ·have hb':(aE ((cY r g m n).doBegin r 1) r)[2+i]?=some b:=hb;rw [c3,if_neg Ha,h2 _ Ha] at hb';exact Or.inl (hz _ b Ha hb')
theorem vY {e:Nat} (he:e<65000):jT (ba 0 e) (e%2)=true:=by
 unfold jT;rw [ke he,decide_eq_true ((lS (lb:=0) (lb':=0) (e:=e) Ha).2 ⟨rfl,Ha⟩),decide_eq_true rfl];rfl
theorem zM.epN {m:DM} {r n g e:Nat} {S0:List Bk} {Rs:List (List Wr)} (h:zM m r n g e S0 Rs):epN (iB m r) 2=(e,true):=by
 have r0:=h.fit.rV 0;have r1:=h.fit.rV 1;obtain ⟨b0,hb0⟩:=h.fit.get (i:=0) Ha;obtain ⟨b1,hb1⟩:=h.fit.get (i:=1) Ha;rw [hb0] at r0;rw [hb1] at r1;have e2:=h.e2;have ha:=vY e2;have ht:=ke e2;have h1:Proofs.YtegjelaejbacnaaGreat.epN (iB m r) 1=if jT b0 0 then (max 0 (dw 0 b0),true) else (0,false):=by
  show (if jT ((iB m r ((0:Nat):Int)).getD []) 0 then (max _ (dw 0 ((iB m r ((0:Nat):Int)).getD [])),true) else _)=_;rw [r0];rfl
 have h2:Proofs.YtegjelaejbacnaaGreat.epN (iB m r) 2=if jT b1 1 then (max (Proofs.YtegjelaejbacnaaGreat.epN (iB m r) 1).1 (dw 0 b1),true) else Proofs.YtegjelaejbacnaaGreat.epN (iB m r) 1:=by
  show (if jT ((iB m r ((1:Nat):Int)).getD []) 1 then (max _ (dw 0 ((iB m r ((1:Nat):Int)).getD [])),true) else _)=_;rw [r1];rfl
 rcases Nat.mod_two_eq_zero_or_one e with hm | hm
 ·have hb:=h.an;rw [hm,hb0] at hb;injection hb with hb
  rw [hm,<- hb] at ha;rw [<- hb] at ht;rw [h2,h1,ha,if_pos rfl,ht];have ho:=h.ao b1 (by rw [show (e+1)%2=1 by omega];exact hb1);rw [show (e+1)%2=1 by omega] at ho;split
  ·rename_i hq;have:=ho hq;show (max (max 0 e) (dw 0 b1),true)=_;rw [show max (max 0 e) (dw 0 b1)=e by omega]
  ·show (max 0 e,true)=_;rw [show max 0 e=e by omega]
 ·have hb:=h.an;rw [hm,hb1] at hb;injection hb with hb
  rw [hm,<- hb] at ha;rw [<- hb] at ht;rw [h2,ha,if_pos rfl,ht,h1];have ho:=h.ao b0 (by rw [show (e+1)%2=0 by omega];exact hb0);rw [show (e+1)%2=0 by omega] at ho;split
  ·rename_i hq;have:=ho hq;show (max (max 0 (dw 0 b0)) e,true)=_;rw [show max (max 0 (dw 0 b0)) e=e by omega]
  ·show (max 0 e,true)=_;rw [show max 0 e=e by omega]
def jY (m:DM) (r g:Nat) (i:Nat):List Int:=(aE m r).getD (2+g+i) []
def o8 (m:DM) (r n g e:Nat) (fr:Int) (Rs:List (List Wr)):VM:=⟨r,fr,n,g,dx (jY m r g) 0 (cN (List.replicate n zH) Rs.flatten),e,0,0⟩
theorem sR (n:Nat) (S0:List Bk) (hl:S0.length=n):∀ (i:Nat) (x:HB),(List.replicate n zH)[i]?=some x->(x.lg=true->S0[i]?=some (val x))/\(x.lg=false->S0[i]?=S0[i]?):=fun i x hx=>by
 have:=List.mem_of_getElem? hx;rw [List.eq_of_mem_replicate this];exact ⟨fun h=>(by cases h),fun _=>rfl⟩
theorem zM.x_at {m:DM} {r n g e:Nat} {S0:List Bk} {Rs:List (List Wr)} (h:zM m r n g e S0 Rs) {i:Nat} {x:Bk} (hx:S0[i]?=some x) (hu:jX Rs.flatten i):jY m r g i=cC 0 x.k i x.bs:=by
 unfold jY;rw [List.getD,h.hm i x hx hu];rfl
theorem zM.flOk {m:DM} {r n g e:Nat} {S0:List Bk} {Rs:List (List Wr)} (h:zM m r n g e S0 Rs):bS Rs.flatten/\m9 Rs.flatten:=⟨fun w hw=>by
 obtain ⟨l,hl,hw⟩:=List.mem_flatten.1 hw;exact (h.rs l hl).2 w hw,fun w hw=>by
 obtain ⟨l,hl,hw⟩:=List.mem_flatten.1 hw;exact (h.rs l hl).1.kinds w hw⟩
theorem Ie (n:Nat):lU (List.replicate n zH):=fun x hx=>by rw [List.eq_of_mem_replicate hx];exact Gv
theorem zM.tied {m:DM} {r n g e:Nat} {S0:List Bk} {Rs:List (List Wr)} (h:zM m r n g e S0 Rs) (fr:Int) (hr:r<1000) (hg:g<=1000):o7 (o8 m r n g e fr Rs) r n g e S0 Rs:=by
 have hrel:=nb Rs.flatten (List.replicate n zH) S0 (fun i=>S0[i]?) (by rw [List.length_replicate,h.len]) (sR n S0 h.len);have hBl:(cN (List.replicate n zH) Rs.flatten).length=n:=by rw [io,List.length_replicate]
 have hBo:=ub (B:=List.replicate n zH) h.flOk.1 h.flOk.2 (Ie n);have key:∀ (i:Nat) (x:HB),(cN (List.replicate n zH) Rs.flatten)[i]?=some x->val (lJ (jY m r g) i x)∈(applyW S0 Rs.flatten)[i]?/\(lJ (jY m r g) i x).Ok:=fun i x hx=>by
  have h1:=hrel i x hx;have hi:=(List.getElem?_eq_some_iff.1 hx).1;cases hlg:x.lg
  ·obtain ⟨h2,h3,_⟩:=h1.2 hlg;obtain ⟨y,hy⟩:∃ y,S0[i]?=some y:=⟨_,List.getElem?_eq_getElem (by rw [h.len];omega)⟩
   have hyo:=h.ok y (List.mem_of_getElem? hy);have hX:=h.x_at hy h3;have e1:lJ (jY m r g) i x=⟨y.k,y.bs,false⟩:=by
    unfold lJ;rw [hlg,hX,mU,nY hyo.len];rfl
   rw [e1];exact ⟨by rw [h2,hy];rfl,⟨hyo.k,hyo.len,hyo.b⟩⟩
  ·have e1:lJ (jY m r g) i x=x:=by unfold lJ;rw [hlg];rfl
   rw [e1];exact ⟨by rw [h1.1 hlg];rfl,hBo x (List.mem_of_getElem? hx)⟩
 refine ⟨rfl,rfl,rfl,rfl,⟨?_,fun y hy=>?_,h.n200,hg,(by show i64 (r:Int);constructor <;> omega),by have:=h.e2;show e<4294967296;omega,by show (0:Nat)<4294967296;omega,by show (0:Nat)<=2000;omega⟩,?_,fun i x hx hlg=>?_⟩
 ·show (dx _ 0 _).length=n;rw [dR,hBl]
 ·obtain ⟨i,hi⟩:=List.getElem?_of_mem hy;have hi':(dx (jY m r g) 0 (cN (List.replicate n zH) Rs.flatten))[i]?=some y:=hi;rw [lu] at hi';obtain ⟨x,hx,rfl⟩:=Option.map_eq_some_iff.1 hi';rw [Nat.zero_add];exact (key i x hx).2
 ·apply List.ext_getElem?;intro i;show ((dx (jY m r g) 0 (cN (List.replicate n zH) Rs.flatten)).map val)[i]?=_;rw [List.getElem?_map,lu,Nat.zero_add];by_cases hi:i<n
  ·obtain ⟨x,hx⟩:∃ x,(cN (List.replicate n zH) Rs.flatten)[i]?=some x:=⟨_,List.getElem?_eq_getElem Ha⟩
   rw [hx];exact ((key i x hx).1).symm
  ·rw [List.getElem?_eq_none Ha,List.getElem?_eq_none (by rw [cZ,h.len];omega)];rfl
 ·have hx':(dx (jY m r g) 0 (cN (List.replicate n zH) Rs.flatten))[i]?=some x:=hx;rw [lu,Nat.zero_add] at hx';obtain ⟨y,hy,rfl⟩:=Option.map_eq_some_iff.1 hx';have hyl:y.lg=false:=by
   cases hq:y.lg
   ·rfl
   ·have:lJ (jY m r g) i y=y:=by unfold lJ;rw [hq];rfl
    rw [this,hq] at hlg;cases hlg
  exact ((hrel i y hy).2 hyl).2.1
theorem Bj {w0 W:World} {P:Nat->Prop} {q:Nat} {m:DM} (h:DS w0 W P q m) {r n g e:Nat} {S0:List Bk} {Rs:List (List Wr)} (hm:zM m r n g e S0 Rs) (hr:r<1000) (hg:g<=1000) (fr:Int) (hrl:Rs.length<=1000000) (hmax:m.done.length<=999000) :
 Calls Tryz.prog 43 #[.pointer (some ⟨q,0,none⟩),.int .i64 r,pi 0 0 n g fr] W fun en w'=>∃ hp rb,en=.returned (.tuple #[.pointer (some ⟨hp,0,none⟩),.int .i64 0]) /\
  SV w0 w' (fun k=>P k\/k=hp\/k=rb) q (fg m (o8 m r n g e fr Rs)) hp rb (gG (o8 m r n g e fr Rs))/\bv P W w'/\W.heap.size<=hp/\W.heap.size<=rb:=by
 obtain ⟨rest,h1,h2⟩:=hm.lg;have hrel:=nb Rs.flatten (List.replicate n zH) S0 (fun i=>S0[i]?) (by rw [List.length_replicate,hm.len]) (sR n S0 hm.len);refine yf h r (by constructor <;> omega) n g fr hm.n200 hg e hm.epN (by have:=hm.e2;omega) (fun i b hb=>hm.fit.rV_blk i b hb) (((aE m r).drop 2).take g) (zN hm.fit Ha) (fun i b hb=>?_) (fun b hb=>?_) Rs rest hm.rs h1 h2 hrl (jY m r g) (fun i hi=>?_) (fun i x hx hlg=>?_) hmax
 ·rw [hm.fit.rV];exact (ue hb).2
 ·obtain ⟨i,hi⟩:=List.getElem?_of_mem hb;exact hm.fit.blk (ue hi).2
 ·obtain ⟨b,hb⟩:=hm.fit.get (i:=2+g+i) Ha;rw [hm.fit.rV];unfold jY;rw [List.getD,hb];exact ⟨rfl,hm.fit.blk hb⟩
 ·obtain ⟨_,hu,_⟩:=(hrel i x hx).2 hlg;have hi:=(List.getElem?_eq_some_iff.1 hx).1;rw [io,List.length_replicate] at hi;obtain ⟨y,hy⟩:∃ y,S0[i]?=some y:=⟨_,List.getElem?_eq_getElem (by rw [hm.len];exact hi)⟩
  have hyo:=hm.ok y (List.mem_of_getElem? hy);have:=hm.n200;rw [hm.x_at hy hu];exact (AQ hyo.len hyo.k Ha Ha).2 ⟨rfl,rfl⟩
structure iC (m:DM) (v:VM) (r n g e:Nat) (S0:List Bk) (Rs:List (List Wr)) (k:Nat):Prop where
 idle:iq m r n g e S0 Rs k [] 0
 tied:o7 v r n g e S0 Rs
 sq:v.sq=Rs.length
 us:v.us=(aJ e 0 Rs).length
theorem sS (B:List HB):(B.map jV).map val=B.map val:=by rw [List.map_map];rfl
theorem o7.home {v:VM} {r n g e:Nat} {S0:List Bk} {Rs:List (List Wr)} (h:o7 v r n g e S0 Rs) (he:e+1<65000):o7 (gG v) r n g (e+1) (applyW S0 Rs.flatten) [] :=
 ⟨h.vr,h.vn,h.vg,by show v.ep+1=_;rw [h.ve],Db h.vok (by rw [h.ve];omega),by show (v.B.map jV).map Proofs.YtegjelaejbacnaaGreat.val=applyW _ [].flatten;rw [sS,h.val];rfl,fun i x _ _ w hw=>by simp at hw⟩
theorem zM.live {m:DM} {r n g e:Nat} {S0:List Bk} {Rs:List (List Wr)} {v:VM} (h:zM m r n g e S0 Rs) (ht:o7 v r n g e S0 Rs) (he:e+1<65000) (hst:aF (fg m v)=false):iC (fg m v) (gG v) r n g (e+1) (applyW S0 Rs.flatten) [] 0/\g6 (fg m v) r :=
 ⟨⟨(h.home ht he hst).1,ht.home he,rfl,rfl⟩,(h.home ht he hst).2⟩
theorem iC.sync {m:DM} {v:VM} {r n g e:Nat} {S0:List Bk} {Rs:List (List Wr)} {k:Nat} (h:iC m v r n g e S0 Rs k) (hs:aF m=false):iC (m.doBarrier r) v r n g e S0 Rs Rs.length/\g6 (m.doBarrier r) r :=
 ⟨⟨(h.idle.bar hs).1,h.tied,h.sq,h.us⟩,(h.idle.bar hs).2⟩
theorem Bl {m:DM} (hs:aF m=true) (v:VM):ip m v=m:=by
 unfold ip fg;rw [iN hs,mq hs,mr hs]
theorem iC.tidy {m:DM} {v:VM} {r n g e:Nat} {S0:List Bk} {Rs:List (List Wr)} {k:Nat} (h:iC m v r n g e S0 Rs k) (he:e+1<65000) (hst:aF (ip m v)=false):iC (ip m v) (gG v) r n g (e+1) (applyW S0 Rs.flatten) [] 0/\g6 (ip m v) r:=by
 have hs:aF m=false:=by
  cases hs:aF m
  ·rfl
  ·rw [Bl hs,hs] at hst;cases hst
 have h1:=h.sync hs;unfold ip at hst ⊢;rw [h.tied.vr] at hst ⊢;exact h1.1.idle.mtb_now.live h.tied he hst
theorem Bm (e:Nat):∀ (Rs:List (List Wr)) (s:Nat) (l:List Wr),(aJ e s (Rs++[l])).length=(aJ e s Rs).length+(1+l.length):=fun Rs s l=>by
 rw [iM,sJ,List.length_append,bE]
theorem o7.put {v:VM} {r n g e:Nat} {S0:List Bk} {Rs:List (List Wr)} (h:o7 v r n g e S0 Rs) {l:List Wr} (hl:bM l/\bS l) (hsq:v.sq+1<4294967296) (hus:v.us+(1+l.length)<=2000):o7 (ud v l) r n g e S0 (Rs++[l]):=by
 have hfl:(Rs++[l]).flatten=Rs.flatten++l:=Hb;refine ⟨h.vr,h.vn,h.vg,h.ve,{ h.vok with len:=(by show (cN v.B l).length=v.n;rw [io];exact h.vok.len),ok:=ub hl.2 hl.1.kinds h.vok.ok,sq:=hsq,us:=hus },?_,fun i x hx hlg=>?_⟩
 ·show (cN v.B l).map Proofs.YtegjelaejbacnaaGreat.val=_;rw [ql,h.val,hfl,rQ]
 ·have hx':(cN v.B l)[i]?=some x:=hx;have h1:=nb l v.B (v.B.map Proofs.YtegjelaejbacnaaGreat.val) (fun i=>(v.B.map Proofs.YtegjelaejbacnaaGreat.val)[i]?) Hb (fun i y hy=>⟨fun _=>by rw [List.getElem?_map,hy];rfl,fun _=>rfl⟩) i x hx';obtain ⟨_,h2,y,h3,h4⟩:=h1.2 hlg;have h5:=h.fl i y h3 h4;rw [hfl];intro w hw;rcases List.mem_append.1 hw with hw | hw
  ·exact h5 w hw
  ·exact h2 w hw
theorem iC.put {m:DM} {v:VM} {r n g e:Nat} {S0:List Bk} {Rs:List (List Wr)} {k:Nat} (h:iC m v r n g e S0 Rs k) {l:List Wr} (hl:bM l/\bS l) (hfit:v.us+(1+l.length)<=g) (hsq:v.sq+1<4294967296) (hst:aF (oc m v l)=false):iC (oc m v l) (ud v l) r n g e S0 (Rs++[l]) k:=by
 have hs:aF m=false:=by
  cases hs:aF m
  ·rfl
  ·unfold oc at hst;rw [oh hs,hs] at hst;cases hst
 have hg:=h.tied.vok.g;rw [h.tied.vg] at hg;have h1:=Ic (F:=fun _=>True) hl (by rw [<- h.us];exact hfit) (fun _ _ _=>trivial) (fun _ _=>trivial) l.length m 0 Ha (show JJ m (fun m=>iq m r n g e S0 Rs k l 0) (fun _=>True) from Or.inl ⟨hs,h.idle.relabel l⟩);have e1:je (r:Int) m ((aJ e 0 Rs).length+0) ((putL 0 e Rs.length l).drop 0)=oc m v l:=by
  unfold oc;rw [h.tied.vr,h.us,h.tied.ve,h.sq];rfl
 rw [e1] at h1;rcases h1 with ⟨_,h1⟩ | ⟨h1,_⟩
 ·refine ⟨h1,h.tied.put hl hsq Ha,?_,?_⟩
  ·show v.sq+1=_;rw [h.sq,List.length_append];rfl
  ·show v.us+(1+l.length)=_;rw [Bm,h.us]
 ·rw [hst] at h1;cases h1
def yi (n g:Nat) (f:Int):Array Value:=#[.int .i64 0,.int .i64 0,.int .i64 n,.int .i64 g,.int .i64 f]
theorem Fm (n g:Nat) (f:Int):(yi n g f).all (·.oneCell')=true:=by
 refine Array.all_eq_true_iff_forall_mem.2 fun v hv=>?_;unfold yi at hv;simp only [List.mem_toArray,List.mem_cons,List.not_mem_nil,or_false] at hv;rcases hv with rfl | rfl | rfl | rfl | rfl <;> rfl
theorem yj:(Tryz.prog.info? 97).map (·.size)=some 5:=Hc
section
variable {ops:Array Oper} {rest:List Oper} {o:Oper} {a:Act} {w:World} {Q:Exit->Act->World->Prop}
theorem rR (hgd:o.guard=none) (x y:Operand) (ho:o.op=.store 97 x y) (p:Nat) (hx:a.eval x=.pointer (some ⟨p,0,none⟩)) (n g:Nat) (f:Int) (hy:a.eval y=.agg (yi n g f)) (old:Array Value) (hso:old.size=5) (hg:w.heap[p]?=some (.cells old 97 (0,0)))
 (h:wpList Tryz.prog ops Q rest (a.put o.dst undef) (w.setRow p (yi n g f))):wpList Tryz.prog ops Q (o :: rest) a w :=
 wpList_store_row hgd 97 x y ho p _ hx hy _ _ hg (by rw [show (yi n g f).size=5 from rfl];exact yj) (by rw [hso];rfl) (Fm _ _ _) h
theorem ni (hgd:o.guard=none) (x:Operand) (ho:o.op=.load 97 x) (p:Nat) (hx:a.eval x=.pointer (some ⟨p,0,none⟩)) (n g:Nat) (f:Int) (hg:w.heap[p]?=some (.cells (yi n g f) 97 (0,0)))
 (h:wpList Tryz.prog ops Q rest (a.put o.dst (.agg (yi n g f))) w):wpList Tryz.prog ops Q (o :: rest) a w :=
 wpList_load_row hgd 97 x ho p hx _ _ _ _ hg Tryz.underlying97 rfl (by rw [show (yi n g f).size=5 from rfl];exact yj) h
theorem rS (hw:Region.wanted o (yielded ops a.tmps)=true) (x:Operand) (ho:o.op=.load 97 x) (p:Nat) (hx:a.eval x=.pointer (some ⟨p,0,none⟩)) (n g:Nat) (f:Int) (hg:w.heap[p]?=some (.cells (yi n g f) 97 (0,0)))
 (h:wpList Tryz.prog ops Q rest (a.put o.dst (.agg (yi n g f))) w):wpList Tryz.prog ops Q (o :: rest) a w :=
 BigFrame.wpList_want hw fun _ hK=>wp_load_row 97 x ho p hx _ _ _ _ hg Tryz.underlying97 rfl (by rw [show (yi n g f).size=5 from rfl];exact yj) (hK _ _ h)
end
def kf (v:VM):List Bk:=v.B.map val
theorem Dj (v:VM):kf (gG v)=kf v:=sS v.B
theorem zO (v:VM) (l:List Wr):kf (ud v l)=applyW (kf v) l:=ql l v.B
theorem If {v:VM} {l:List Wr} (h:jW v l):kf (rC v l)=applyW (kf v) l:=by
 unfold rC;rw [if_pos h];split
 ·rw [zO,Dj]
 ·exact zO _ _
theorem Ig {v:VM} {l:List Wr} (h:¬ jW v l):rC v l=v:=if_neg h
theorem sU (e:Nat):∀ (Rs:List (List Wr)) (s:Nat),Rs.length<=(aJ e s Rs).length
 | [],_=>Nat.le_refl _
 | l :: Rs,s=>by
   show Rs.length+1<=(putL 0 e s l++aJ e (s+1) Rs).length;rw [List.length_append,bE];have:=sU e Rs (s+1);omega
section
variable {m:DM} {v:VM} {r n g e:Nat} {S0:List Bk} {Rs:List (List Wr)} {k:Nat}
theorem iC.usg (h:iC m v r n g e S0 Rs k):v.us<=v.g:=by rw [h.us,h.tied.vg];have:=h.idle.fits;omega
theorem iC.sqg (h:iC m v r n g e S0 Rs k):v.sq<=v.g:=by
 have h1:=sU e Rs 0;have h2:=h.usg;rw [h.us] at h2;rw [h.sq];omega
theorem iC.st (h:iC m v r n g e S0 Rs k):kf v=applyW S0 Rs.flatten:=h.tied.val
theorem iC.gle (h:iC m v r n g e S0 Rs k):g<=1000:=by rw [<- h.tied.vg];exact h.tied.vok.g
def Lv (m:DM) (v:VM) (r n g:Nat):Prop:=∃ S0 Rs k,iC m v r n g v.ep S0 Rs k
theorem iC.lv (h:iC m v r n g e S0 Rs k):Lv m v r n g:=⟨S0,Rs,k,by have:=h.tied.ve;rw [this];exact h⟩
theorem vZ {v:VM} {l:List Wr} (h:jW v l):1<=l.length/\l.length<=12:=h.1.1
theorem iC.change (h:iC m v r n g e S0 Rs k) {l:List Wr} (hok:bS l) (hc:jW v l) (hg:13<=g) (he:e+1<65000) (hst:aF (rB m v l)=false):∃ S0' Rs' k',iC (rB m v l) (rC v l) r n g (if jl v l then e+1 else e) S0' Rs' k':=by
 have hl:=vZ hc;have hgl:=h.gle;by_cases ht:jl v l
 ·have e1:rB m v l=oc (ip m v) (gG v) l:=by unfold rB;rw [if_pos hc,if_pos ht]
  have e2:rC v l=ud (gG v) l:=by unfold rC;rw [if_pos hc,if_pos ht]
  rw [e1] at hst ⊢;rw [e2,if_pos ht];have hs:aF (ip m v)=false:=by
   cases hs:aF (ip m v)
   ·rfl
   ·unfold oc at hst;rw [oh hs,hs] at hst;cases hst
  have h1:=(h.tidy he hs).1;exact ⟨_,_,_,h1.put ⟨hc.1,hok⟩ (by show 0+(1+l.length)<=g;omega) (by show 0+1<4294967296;omega) hst⟩
 ·have e1:rB m v l=oc m v l:=by unfold rB;rw [if_pos hc,if_neg ht]
  have e2:rC v l=ud v l:=by unfold rC;rw [if_pos hc,if_neg ht]
  rw [e1] at hst ⊢;rw [e2,if_neg ht];have hu:=h.usg;have hq:=h.sqg;unfold jl at ht;rw [h.tied.vg] at ht hu hq;exact ⟨_,_,_,h.put ⟨hc.1,hok⟩ Ha Ha hst⟩
theorem Ih (v:VM) (l:List Wr):(rC v l).ep=if jW v l/\jl v l then v.ep+1 else v.ep:=by
 unfold rC;by_cases hc:jW v l
 ·rw [if_pos hc];by_cases ht:jl v l
  ·rw [if_pos ht,if_pos ⟨hc,ht⟩];rfl
  ·rw [if_neg ht,if_neg (fun h=>ht h.2)];rfl
 ·rw [if_neg hc,if_neg (fun h=>hc h.1)]
theorem Lv.change (h:Lv m v r n g) {l:List Wr} (hok:bS l) (hg:13<=g) (he:v.ep+1<65000) (hns:m.stops=false):Lv (rB m v l) (rC v l) r n g/\v.ep<=(rC v l).ep/\(rC v l).ep<=v.ep+1/\(rB m v l).stops=false:=by
 obtain ⟨S0,Rs,k,h⟩:=h;have hn:(rB m v l).stops=false:=by rw [JK];exact hns
 have hep:=Ih v l;refine ⟨?_,by rw [hep];split <;> omega,by rw [hep];split <;> omega,hn⟩;by_cases hc:jW v l
 ·obtain ⟨S0',Rs',k',h1⟩:=h.change hok hc hg he (vW hn);exact h1.lv
 ·have e1:rB m v l=m:=if_neg hc;rw [e1,Ig hc];exact ⟨S0,Rs,k,h⟩
theorem Lv.usg (h:Lv m v r n g):v.us<=v.g:=by obtain ⟨_,_,_,h⟩:=h;exact h.usg
theorem Lv.sqg (h:Lv m v r n g):v.sq<=v.g:=by obtain ⟨_,_,_,h⟩:=h;exact h.sqg
theorem Lv.parts (h:Lv m v r n g):v.r=(r:Int)/\v.n=n/\v.g=g/\v.Ok/\g<=1000/\n<=200:=by
 obtain ⟨_,_,_,h⟩:=h;exact ⟨h.tied.vr,h.tied.vn,h.tied.vg,h.tied.vok,h.gle,h.idle.n200⟩
end
theorem sV (m:DM) (v:VM) (l:List Wr):(oc m v l).done.length<=m.done.length+(1+l.length):=by
 unfold oc;have:=n9 v.r (putL 0 v.ep v.sq l) m v.us;rw [bE] at this;exact this
theorem Dk (m:DM) (v:VM) (l:List Wr):(rB m v l).done.length<=m.done.length+v.B.length+17:=by
 unfold rB;by_cases hc:jW v l
 ·have hl:=vZ hc;rw [if_pos hc];split
  ·have h1:=sV (ip m v) (gG v) l;have h2:=qk m v;omega
  ·have h1:=sV m v l;omega
 ·rw [if_neg hc];omega
theorem oR (m:DM) (r n g e:Nat) (fr:Int) (Rs:List (List Wr)):(fg m (o8 m r n g e fr Rs)).done.length<=m.done.length+n+3:=by
 have h1:=qj m (o8 m r n g e fr Rs);have h2:(o8 m r n g e fr Rs).B.length=n:=by show (dx _ 0 _).length=n;rw [dR,io,List.length_replicate]
 omega
theorem mv (m:DM) (r:Int) (n g:Nat):(kt m r n g).done.length<=m.done.length+n+3:=by
 have h1:=jm r g m n;have h2:=cH (cY r g m n) r;have h3:=fD ((cY r g m n).doBarrier r) r ((1%2:Nat):Int) (ba 0 1);have h4:=cH (((cY r g m n).doBarrier r).doWrite r ((1%2:Nat):Int) (ba 0 1)) r;unfold kt DM.doBegin;omega
theorem wd {zs:List Int} {r:Nat} {z:Int} (h:zs[r]?=some z):aE (DM.make zs) r=zeroRow z:=by
 unfold aE DM.make;show (zs.map zeroRow).getD r []=_;rw [List.getD,List.getElem?_map,h];rfl
theorem qr {zs:List Int} (hm:mP zs=true) {r:Nat} {z:Int} (h:zs[r]?=some z) {N:Nat} (hN:N<=z.toNat):kJ (DM.make zs) r N:=by
 refine ⟨DM.make_ok hm,pJ.make zs,?_,?_⟩
 ·show r<(zs.map zeroRow).length;rw [List.length_map];exact (List.getElem?_eq_some_iff.1 h).1
 ·rw [wd h];unfold zeroRow;rw [List.length_replicate];exact hN
theorem sW {zs:List Int} {r:Nat} {z:Int} (h:zs[r]?=some z) {i:Nat} {b:List Int} (hb:(aE (DM.make zs) r)[i]?=some b):b=Bh:=by
 rw [wd h] at hb;unfold zeroRow at hb;exact List.eq_of_mem_replicate (List.mem_of_getElem? hb)
theorem we {zs:List Int} (hm:mP zs=true) {r:Nat} {z:Int} (h:zs[r]?=some z) {n g:Nat} (hN:2+g+n<=z.toNat) (hn:n<=200):iq (kt (DM.make zs) r n g) r n g 1 (gc n) [] 0 [] 0/\g6 (kt (DM.make zs) r n g) r/\(kt (DM.make zs) r n g).stops=false :=
 ⟨(sQ (qr hm h hN) rfl hn (fun i b _ hb=>sW h hb)).1,(sQ (qr hm h hN) rfl hn (fun i b _ hb=>sW h hb)).2,by rw [Fk];rfl⟩
section
variable {ops:Array Oper} {rest:List Oper} {o:Oper} {a:Act} {w:World} {Q:Exit->Act->World->Prop}
end
def rT (n g:Nat):DM:=DM.make [((2+g+n:Nat):Int)]
def rU (n g:Nat):DM:=kt (rT n g) (0:Int) n g
def KV (n g:Nat):DM:=fg (rU n g) (o8 (rU n g) 0 n g 1 3 [])
def K7 (n g:Nat):VM:=gG (o8 (rU n g) 0 n g 1 3 [])
theorem Ky (n g:Nat) (hn:n<=40) (hg:g<=60):mP [((2+g+n:Nat):Int)]=true:=by
 have h:dq ((2+g+n:Nat):Int)=false:=by
  unfold dq;simp only [Bool.or_eq_false_iff,decide_eq_false_iff_not];omega
 unfold mP;rw [show ([((2+g+n:Nat):Int)].any dq)=false by rw [List.any_cons,h];rfl];rfl
structure Started (m:DM) (v:VM) (n g:Nat):Prop where
 live:iC m v 0 n g 2 (gc n) [] 0
 sure:g6 m 0
 stops:m.stops=false
 done:m.done.length<=2*n+6
 us:v.us=0
 sq:v.sq=0
 n_:v.n=n
 g_:v.g=g
 ep:v.ep=2
 r_:v.r=((0:Nat):Int)
theorem Dl {n g:Nat} (hn:n<=40) (hg:g<=60):iq (rU n g) 0 n g 1 (gc n) [] 0 [] 0/\(rU n g).stops=false:=by
 obtain ⟨I1,I2,I3⟩:=we (r:=0) (z:=((2+g+n:Nat):Int)) (n:=n) (g:=g) (Ky n g hn hg) rfl Ha Ha;exact ⟨I1,I3⟩
theorem started {n g:Nat} (hn:n<=40) (hg:g<=60):Started (KV n g) (K7 n g) n g:=by
 obtain ⟨hi,h3⟩:=Dl hn hg;have hmt:=hi.mtb_now;have htd:=hmt.tied 3 Ha Ha;have hns:(fg (rU n g) (o8 (rU n g) 0 n g 1 3 [])).stops=false:=by rw [uf];exact h3
 have hlv:=hmt.live htd Ha (vW hns);have hd1:=mv (rT n g) (0:Int) n g;have hd2:=oR (rU n g) 0 n g 1 3 [];have hd0:(rT n g).done.length=0:=rfl;exact ⟨hlv.1,hlv.2,hns,by unfold KV;unfold rU at *;omega,rfl,rfl,rfl,rfl,rfl,rfl⟩
section
variable {ops:Array Oper} {rest:List Oper} {o:Oper} {a:Act} {w:World} {Q:Exit->Act->World->Prop}
end
section
variable {H:Type} {enc:TypeId × Value->H} {w:World} {base:Nat} {spare:Nat->Bool} {held:Bool}
end
def bksL:List Bk->List Value
 | []=>[]
 | x :: l=>blkL x.k x.bs++bksL l
theorem po:∀ {l:List Bk},dF l->∀ {i:Nat} {x:Bk},l[i]?=some x->∀ {j:Nat} {v:Value},(blkL x.k x.bs)[j]?=some v->(bksL l)[i*57+j]?=some v
 | [],_,i,x,h,_,_,_=>by cases h
 | y :: l,hl,0,x,h,j,v,hj=>by
   injection h with h;subst h
   show (blkL y.k y.bs++bksL l)[0*57+j]?=some v;rw [Nat.zero_mul,Nat.zero_add,List.getElem?_append_left (List.getElem?_eq_some_iff.1 hj).1];exact hj
 | y :: l,hl,i+1,x,h,j,v,hj=>by
   show (blkL y.k y.bs++bksL l)[(i+1)*57+j]?=some v;have hlen:(blkL y.k y.bs).length=57:=aZ (hl y Hb).len;rw [List.getElem?_append_right Ha,hlen,show (i+1)*57+j-57=i*57+j by omega];exact po (l:=l) (fun z hz=>hl z (by simp [hz])) (show l[i]?=some x from h) hj
theorem Dm (k:Int) (bs:List Int):∀ v∈blkL k bs,v.oneCell'=true:=by
 have h:=jL k bs;rw [Array.all_eq_true_iff_forall_mem] at h;exact fun v hv=>h v (by unfold ab;simpa using hv)
theorem wf:∀ (l:List Bk),∀ v∈bksL l,v.oneCell'=true
 | [],v,h=>by cases h
 | x :: l,v,h=>by
   rcases List.mem_append.1 (show v∈blkL x.k x.bs++bksL l from h) with h | h
   ·exact Dm _ _ v h
   ·exact wf l v h
def qs (w:World) (A:Option Addr) (l:List Bk):Prop:=∀ i x,l[i]?=some x->∃ g,A=some ⟨g,0,none⟩/\w.rangeAt g (i*57) (blkL x.k x.bs)
theorem qs.keep {w w':World} {A:Option Addr} {l:List Bk} (h:qs w A l) (hb:Below w.heap.size w w'):qs w' A l:=fun i x hi =>
 let ⟨g,e,h1⟩:=h i x hi;⟨g,e,fun j v hj=>cF hb (h1 j v hj)⟩
section
variable {ops:Array Oper} {rest:List Oper} {o:Oper} {a:Act} {w:World} {Q:Exit->Act->World->Prop}
end
theorem Lv.step {m:DM} {v:VM} {r n g:Nat} (h:Lv m v r n g) {l:List Wr} (hok:bS l) (hg:13<=g) (he:v.ep+1<65000) (hns:m.stops=false):Lv (rB m v l) (rC v l) r n g/\(rC v l).ep<=v.ep+1/\(rB m v l).stops=false:=by
 have h1:=h.change hok hg he hns;exact ⟨h1.1,h1.2.2.1,h1.2.2.2⟩
theorem Fn {v:VM} (h:v.Ok):dF (kf v):=fun x hx=>by
 unfold kf at hx;obtain ⟨y,hy,rfl⟩:=List.mem_map.1 hx;have:=h.ok y hy;exact ⟨this.k,this.len,this.b⟩
theorem gU {v:VM} (h:v.Ok):(kf v).length=v.n:=by unfold kf;rw [List.length_map,h.len]
end Go.Proofs.YtegjelaejbacnaaGreat
