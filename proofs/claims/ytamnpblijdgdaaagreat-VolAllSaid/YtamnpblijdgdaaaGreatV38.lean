/- For VolAll: contracts and facts, part 38. -/
import Derived.Deep.DeepCutAuto
import Derived.Test.YtamnpblijdgdaaaGreatV08
import Derived.Test.YtamnpblijdgdaaaGreatV10
import Derived.Test.YtamnpblijdgdaaaGreatV12
namespace Go.Proofs.YtamnpblijdgdaaaGreat
open Go.ChangeShapes Go.WideShapes Go.ChangeAt Go.RowKit
set_option linter.unusedVariables false
def iOwn (O:Nat→RRole) (t n:Nat) (v u:Value):Nat→RRole:=fun k=>if v.ownBlock=some k then .tab t else if u.ownBlock=some k then .row t n else O k
theorem rET_rER (t:Nat):rET t≠rER t:=by unfold rET rER;split <;> decide
theorem RAt.install {w:World} {O:Nat→RRole} {hp:Nat} {L:Nat→Value} {G:Nat→RTab} {left:Int} (h:RAt w O hp L G left) {t:Nat} (ht:t<4) {v' u:Value} {vs:List Value} {row:List (List Value)} {n:Nat} (hn:(G t).length=n) (hvs:vs.length=n)
 (h2:∀ (r:Nat) (row:List (List Value)),(G t)[r]?=some row→∃ u,vs[r]?=some u∧RowAt w (fun k=>O k=.row t r) (rER t) (rSz t) u row.length row.flatten)
 (h3:RowAt w (fun k=>O k=.tab t∨O k=.none) (rET t) 1 v' (n+1) (vs++[u])) (h4:RowAt w (fun k=>O k=.none) (rER t) (rSz t) u row.length row.flatten) :
 RAt (w.setCell ⟨hp,t,none⟩ v') (iOwn O t n v' u) hp (fun s=>if s=t then v' else L s) (fun s=>if s=t then G t++[row] else G s) left:=by
 subst hn
 have hap:∀ k,v'.ownBlock=some k→u.ownBlock≠some k:=fun k hk=>h3.apart h4 (rET_rER t) hk
 have hnv:∀ k,O k≠.tab t→O k≠.none→v'.ownBlock≠some k:=fun k h1 h5 e=>by rcases h3.2 k e with h6 | h6;exact h1 h6;exact h5 h6
 have hnu:∀ k,O k≠.none→u.ownBlock≠some k:=fun k h5 e=>h5 (h4.2 k e)
 have same:∀ k,O k≠.tab t→O k≠.none→iOwn O t (G t).length v' u k=O k:=fun k h1 h5=>by
  unfold iOwn;rw [if_neg (hnv k h1 h5),if_neg (hnu k h5)]
 have ohd:iOwn O t (G t).length v' u hp=.hd:=by rw [same hp (by rw [h.ohd];simp) (by rw [h.ohd];simp)];exact h.ohd
 have other:∀ k,k≠hp→(w.setCell ⟨hp,t,none⟩ v').heap[k]?=w.heap[k]?:=fun k hk=>Below.heap_setCell _ _ _ _ hk
 have put:∀ {Own:Nat→Prop} {X:RRole} {E:TypeId} {sz m:Nat} {x:Value} {xs:List Value},X≠.hd→RowAt w Own E sz x m xs→(∀ g,x.ownBlock=some g→Own g→iOwn O t (G t).length v' u g=X)→RowAt (w.setCell ⟨hp,t,none⟩ v') (fun k=>iOwn O t (G t).length v' u k=X) E sz x m xs:=fun hX ha hb =>
  (ha.ownerT (fun g cur _ he ho=>hb g he ho)).keep fun k _ ho=>other k (fun e=>by rw [e] at ho;exact hX (ho.symm.trans ohd))
 refine ⟨?_,ohd,fun s hs=>?_⟩
 ·have e:=heap_setCell_same' (i:=t) h.hd v'
  rw [e]
  match t,ht with
  | 0,_=>rfl
  | 1,_=>rfl
  | 2,_=>rfl
  | 3,_=>rfl
 ·by_cases hst:s=t
  ·subst hst
   simp only [if_true]
   refine rowsAt_snoc (vs:=vs) (u:=u) ?_ (fun r row' hr=>?_) ?_ hvs
   ·exact put (by simp) h3 (fun g he _=>by unfold iOwn;rw [if_pos he])
   ·obtain ⟨u2,hu,h5⟩:=h2 r row' hr
    exact ⟨u2,hu,put (by simp) h5 (fun g _ ho=>by rw [same g (by rw [ho];simp) (by rw [ho];simp)];exact ho)⟩
   ·exact put (by simp) h4 (fun g he ho=>by unfold iOwn;rw [if_neg (fun e=>hap g e he),if_pos he])
  ·simp only [if_neg hst]
   obtain ⟨vs2,a,b⟩:=h.tab s hs
   refine ⟨vs2,put (by simp) a (fun g _ ho=>?_),fun r row' hr=>?_⟩
   ·rw [same g (by rw [ho];simpa using hst) (by rw [ho];simp)];exact ho
   ·obtain ⟨u2,hu,h5⟩:=b r row' hr
    exact ⟨u2,hu,put (by simp) h5 (fun g _ ho=>by rw [same g (by rw [ho];simp) (by rw [ho];simp)];exact ho)⟩
theorem iOwn_some {O:Nat→RRole} {t n:Nat} {v u:Value} {k:Nat} (h:iOwn O t n v u k≠.none):O k≠.none∨v.ownBlock=some k∨u.ownBlock=some k:=by
 unfold iOwn at h
 split at h
 ·exact Or.inr (Or.inl (by assumption))
 ·split at h
  ·exact Or.inr (Or.inr (by assumption))
  ·exact Or.inl h
theorem iOwn_same {O:Nat→RRole} {t n:Nat} {v u:Value} {k:Nat} (hv:∀ x,v.ownBlock=some x→O x=.tab t∨O x=.none) (hu:∀ x,u.ownBlock=some x→O x=.none) (h1:O k≠.tab t) (h2:O k≠.none):iOwn O t n v u k=O k:=by
 unfold iOwn
 rw [if_neg (fun e=>(hv k e).elim h1 h2),if_neg (fun e=>h2 (hu k e))]
def Gz (zs:List Int) (k:Nat):Nat→RTab:=(RM.make (zs.take k)).G
theorem Gz_zero (zs:List Int):Gz zs 0=fun _=>[]:=by
 funext t;unfold Gz RM.G RM.make;rw [List.take_zero]
 by_cases h0:t=0 <;> by_cases h1:t=1 <;> by_cases h2:t=2 <;> by_cases h3:t=3 <;> simp [h0,h1,h2,h3]
theorem Gz_len (zs:List Int) {k:Nat} (hk:k≤zs.length) {t:Nat} (ht:t<4):(Gz zs k t).length=k:=by
 unfold Gz RM.G RM.make
 have hl:(zs.take k).length=k:=List.length_take_of_le hk
 match t,ht with
 | 0,_=>simp [hk]
 | 1,_=>simp [hk]
 | 2,_=>simp [hk]
 | 3,_=>simp [hk]
theorem rowAt_store {w:World} {Own Own':Nat→Prop} {E:TypeId} {sz m hp t:Nat} {x v:Value} {xs:List Value} (h:RowAt w Own E sz x m xs) (ho:∀ g,x.ownBlock=some g→Own g→Own' g∧g≠hp):RowAt (w.setCell ⟨hp,t,none⟩ v) Own' E sz x m xs :=
 (h.ownerT (Own':=fun g=>Own' g∧g≠hp) (fun g _ _ he hg=>ho g he hg)).keep (fun k _ hk=>Below.heap_setCell _ _ _ _ hk.2) |>.owner (fun _ _ hk=>hk.1)
def rowZ (z:Int) (t:Nat):List (List Value):=if t<2 then (zeroRow z).map strE else []
theorem Gz_succ (zs:List Int) {k:Nat} {z:Int} (hz:zs[k]?=some z) (t:Nat) (ht:t<4):Gz zs (k+1) t=Gz zs k t++[rowZ z t]:=by
 have hk:=(List.getElem?_eq_some_iff.1 hz).1
 unfold Gz RM.G RM.make rowZ
 rw [take_snoc' hz]
 have hr:∀ {α:Type},List.replicate (List.length (zs.take k++[z])) ([]:List α)=List.replicate (List.length (zs.take k)) []++[[]]:=fun {α}=>by
  rw [List.length_append];show List.replicate (_+1) _=_;rw [List.replicate_succ']
 match t,ht with
 | 0,_=>simp
 | 1,_=>simp
 | 2,_=>simp only [hr];simp
 | 3,_=>simp only [hr];simp
theorem rowZ_len (n:Nat) {t:Nat} (ht:t<2):(rowZ (n:Int) t).length=n:=by unfold rowZ zeroRow;rw [if_pos ht];simp
theorem rowZ_one (n:Nat):rowZ (n:Int) 1=rowZ (n:Int) 0:=rfl
theorem Gz_far (zs:List Int) (k:Nat) {t:Nat} (ht:¬ t<4):Gz zs k t=[]:=by
 unfold Gz RM.G
 rw [if_neg (by omega),if_neg (by omega),if_neg (by omega),if_neg (by omega)]
structure JJ (w1:World) (O:Nat→RRole) (p0 p1:Nat) (n:Nat) (l0 l1:Value) (vs0 vs1:List Value) (w:World):Prop where
 touch:Touch (fun x=>l0.ownBlock=some x∨l1.ownBlock=some x) w1 w
 t0:RowAt w (fun q=>O q=.tab p0) (rET p0) 1 l0 n vs0
 t1:RowAt w (fun q=>O q=.tab p1) (rET p1) 1 l1 n vs1
section
variable {w1 w w':World} {O:Nat→RRole} {p0 p1 n:Nat} {l0 l1:Value} {vs0 vs1:List Value}
theorem JJ.grow (h:JJ w1 O p0 p1 n l0 l1 vs0 vs1 w) (hg:w.grownBy w' none):JJ w1 O p0 p1 n l0 l1 vs0 vs1 w' :=
 ⟨h.touch.trans' (Touch.of_grown hg) (fun x hx=>by cases hx),h.t0.keep fun x hx _=>hg.block x hx (by simp),h.t1.keep fun x hx _=>hg.block x hx (by simp)⟩
theorem JJ.push0 (h:JJ w1 O p0 p1 n l0 l1 vs0 vs1 w) (hne:p0≠p1) (hg:w.grownBy w' l0.ownBlock) (hold:RowAt w' (fun q=>O q=.tab p0) (rET p0) 1 l0 n vs0):JJ w1 O p0 p1 n l0 l1 vs0 vs1 w' :=
 ⟨h.touch.trans' (Touch.of_grown hg) (fun x hx=>Or.inl (Or.inl hx.symm)),hold,h.t1.keep fun x hx ho=>hg.block x hx (fun e=>by
   have h2:O x=.tab p0:=h.t0.2 x e.symm;rw [ho] at h2;injection h2 with h2;exact hne h2.symm)⟩
theorem JJ.push1 (h:JJ w1 O p0 p1 n l0 l1 vs0 vs1 w) (hne:p0≠p1) (hg:w.grownBy w' l1.ownBlock) (hold:RowAt w' (fun q=>O q=.tab p1) (rET p1) 1 l1 n vs1):JJ w1 O p0 p1 n l0 l1 vs0 vs1 w' :=
 ⟨h.touch.trans' (Touch.of_grown hg) (fun x hx=>Or.inl (Or.inr hx.symm)),h.t0.keep fun x hx ho=>hg.block x hx (fun e=>by
   have h2:O x=.tab p1:=h.t1.2 x e.symm;rw [ho] at h2;injection h2 with h2;exact hne h2),hold⟩
theorem JJ.cell (h:JJ w1 O p0 p1 n l0 l1 vs0 vs1 w) {q i:Nat} {v:Value} (hc:w1.cell? ⟨q,i,none⟩=some v) (h0:O q≠.tab p0) (h1:O q≠.tab p1):w.cell? ⟨q,i,none⟩=some v :=
 keepT h.touch hc (by
  rintro (e | e)
  ·exact h0 (h.t0.2 q e)
  ·exact h1 (h.t1.2 q e))
theorem JJ.row (h:JJ w1 O p0 p1 n l0 l1 vs0 vs1 w) {Own:Nat→Prop} {E:TypeId} {sz m:Nat} {v:Value} {xs:List Value} (hr:RowAt w1 Own E sz v m xs) (ho:∀ q,Own q→O q≠.tab p0∧O q≠.tab p1):RowAt w Own E sz v m xs :=
 hr.touch h.touch fun q hq=>by
  rintro (e | e)
  ·exact (ho q hq).1 (h.t0.2 q e)
  ·exact (ho q hq).2 (h.t1.2 q e)
theorem JJ.rat (h:JJ w1 O p0 p1 n l0 l1 vs0 vs1 w) {hp:Nat} {L:Nat→Value} {G:Nat→RTab} {left:Int} (hr:RAt w1 O hp L G left) (e0:l0=L p0) (e1:l1=L p1) (hn0:(G p0).length=n) (hn1:(G p1).length=n)
 (hv0:∀ (r:Nat) (row:List (List Value)),(G p0)[r]?=some row→∃ u,vs0[r]?=some u∧RowAt w1 (fun k=>O k=.row p0 r) (rER p0) (rSz p0) u row.length row.flatten)
 (hv1:∀ (r:Nat) (row:List (List Value)),(G p1)[r]?=some row→∃ u,vs1[r]?=some u∧RowAt w1 (fun k=>O k=.row p1 r) (rER p1) (rSz p1) u row.length row.flatten):RAt w O hp L G left:=by
 have notT:∀ k,(l0.ownBlock=some k∨l1.ownBlock=some k)→O k=.tab p0∨O k=.tab p1:=fun k hk=>hk.imp (h.t0.2 k) (h.t1.2 k)
 have rowK:∀ {r t:Nat} {E:TypeId} {sz m:Nat} {v:Value} {xs:List Value},RowAt w1 (fun k=>O k=.row t r) E sz v m xs→RowAt w (fun k=>O k=.row t r) E sz v m xs:=fun hx=>h.row hx (fun q hq=>by rw [hq];exact ⟨by simp,by simp⟩)
 refine ⟨?_,hr.ohd,fun t ht=>?_⟩
 ·rw [h.touch.block hp (room_lt hr.hd) (fun e=>by rcases notT hp e with e | e <;> rw [hr.ohd] at e <;> cases e)];exact hr.hd
 ·by_cases ht0:t=p0
  ·subst ht0
   subst e0
   refine ⟨vs0,by rw [hn0];exact h.t0,fun r row hr2=>?_⟩
   obtain ⟨u,hu,h5⟩:=hv0 r row hr2
   exact ⟨u,hu,rowK h5⟩
  ·by_cases ht1:t=p1
   ·subst ht1
    subst e1
    refine ⟨vs1,by rw [hn1];exact h.t1,fun r row hr2=>?_⟩
    obtain ⟨u,hu,h5⟩:=hv1 r row hr2
    exact ⟨u,hu,rowK h5⟩
   ·obtain ⟨vs2,a,b⟩:=hr.tab t ht
    refine ⟨vs2,h.row a (fun q hq=>by rw [hq];exact ⟨by simpa using ht0,by simpa using ht1⟩),fun r row hr2=>?_⟩
    obtain ⟨u,hu,h5⟩:=b r row hr2
    exact ⟨u,hu,rowK h5⟩
end
def SN (a b c hp:Nat) (l0 l1:Value) (i:Nat) (w w':World):Prop :=
 if i=a then w.grownBy w' l0.ownBlock else if i=b then w.grownBy w' l1.ownBlock else if i=c then Touch (fun q=>q=hp) w w' else w.grownBy w' none
theorem SN.quiet {a b c hp:Nat} {l0 l1:Value} (i:Nat) {w w':World} (ha:i≠a) (hb:i≠b) (hc:i≠c) (h:w.grownBy w' none):SN a b c hp l0 l1 i w w':=by unfold SN;rw [if_neg ha,if_neg hb,if_neg hc];exact h
theorem SN.keep {a b c hp:Nat} {l0 l1:Value} {i:Nat} {w w':World} {O:Nat→RRole} {p0 p1 B1:Nat} (hs:SN a b c hp l0 l1 i w w') (hO:∀ k,O k≠.none→k<B1) (ohd:O hp=.hd) (h0:∀ x,l0.ownBlock=some x→O x=.tab p0) (h1:∀ x,l1.ownBlock=some x→O x=.tab p1) (hne:p0≠p1) {x:Nat} (hx:x<w.heap.size)
 (h:B1≤x∨(O x=.tab p0∧i≠a)∨(O x=.tab p1∧i≠b)):w'.heap[x]?=w.heap[x]?:=by
 have hn:B1≤x→O x=.none:=fun hb=>Classical.byContradiction fun e=>by have:=hO x e;omega
 unfold SN at hs
 split at hs
 ·refine hs.block x hx (fun e=>?_)
  have h2:=h0 x e.symm
  rcases h with h | ⟨_,h⟩ | ⟨h,_⟩
  ·rw [hn h] at h2;cases h2
  ·exact h (by assumption)
  ·rw [h] at h2;injection h2 with h2;exact hne h2.symm
 ·split at hs
  ·refine hs.block x hx (fun e=>?_)
   have h2:=h1 x e.symm
   rcases h with h | ⟨h,_⟩ | ⟨_,h⟩
   ·rw [hn h] at h2;cases h2
   ·rw [h] at h2;injection h2 with h2;exact hne h2
   ·exact h (by assumption)
  ·split at hs
   ·refine hs.block x hx (fun e=>?_)
    have e:x=hp:=e
    subst e
    rcases h with h | ⟨h,_⟩ | ⟨h,_⟩
    ·rw [hn h] at ohd;cases ohd
    ·rw [h] at ohd;cases ohd
    ·rw [h] at ohd;cases ohd
   ·exact hs.block x hx (by simp)
def VN14 (hp B1 n m:Nat) (O:Nat→RRole) (l0 l1 l:Value) (vs0 vs1 xs:List Value) (i:Nat) (v:Value) (w:World):Prop :=
 match i with
 | 0 | 1 | 2 | 3 | 4 | 9 | 10 | 18 | 19 | 21=>v=.pointer (some ⟨hp,0,none⟩)
 | 5=>v=l0
 | 6 | 14=>v=l
 | 11 | 22=>v=.pointer (some ⟨hp,1,none⟩)
 | 12=>v=l1
 | 7=>∃ x,v=.slice (some ⟨x,0,none⟩) 1 1∧B1≤x∧w.heap[x]?=some (.cells #[l] 63 (0,0))
 | 8=>RowAt w (fun q=>O q=.tab 0∨B1≤q) 63 1 v (n+1) (vs0++[l])
 | 13=>∃ q,v=.slice (some ⟨q,0,none⟩) 0 0∧B1≤q∧w.heap[q]?=some (.cells #[] 9 (0,0))
 | 15=>RowAt w (fun q=>B1≤q) 9 1 v m xs∧∃ A c,v=.slice A m c
 | 16=>∃ x u,v=.slice (some ⟨x,0,none⟩) 1 1∧B1≤x∧w.heap[x]?=some (.cells #[u] 63 (0,0))∧RowAt w (fun q=>B1≤q) 9 1 u m xs∧∃ A c,u=.slice A m c
 | 17=>∃ u,RowAt w (fun q=>O q=.tab 1∨B1≤q) 63 1 v (n+1) (vs1++[u])∧RowAt w (fun q=>B1≤q) 9 1 u m xs∧∃ A c,u=.slice A m c
 | _=>True
def JN14 (w1:World) (O:Nat→RRole) (hp n:Nat) (l0 l1 l:Value) (vs0 vs1:List Value) (Ls:Nat→Bool) (w:World):Prop :=
 (Ls 20=false∧((Ls 15=true→Ls 13=true)∧(Ls 17=true→Ls 16=true))∧JJ w1 O 0 1 n l0 l1 vs0 vs1 w) ∨
 (Ls 20=true∧(Ls 5=true∧Ls 7=true∧Ls 8=true∧Ls 12=true∧Ls 13=true∧Ls 15=true∧Ls 16=true∧Ls 17=true)∧∃ W3 v,JJ w1 O 0 1 n l0 l1 vs0 vs1 W3∧RowAt W3 (fun q=>O q=.tab 0∨w1.heap.size≤q) 63 1 v (n+1) (vs0++[l])∧(∃ A c,v=.slice A (n+1) c)∧w=W3.setCell ⟨hp,0,none⟩ v)
section
variable {w1 w w':World} {O:Nat→RRole} {hp n:Nat} {l0 l1 l:Value} {vs0 vs1:List Value} {Ls:Nat→Bool}
theorem JN14.fresh (h:JN14 w1 O hp n l0 l1 l vs0 vs1 Ls w) (i:Nat) (hi:i=5∨i=7∨i=8∨i=12∨i=13∨i=15∨i=16∨i=17∨i=20) (hn:Ls i=false):JJ w1 O 0 1 n l0 l1 vs0 vs1 w:=by
 rcases h with h | ⟨h20,⟨h1,h2,h3,h4,h5,h6,h7,h8⟩,_⟩
 ·exact h.2.2
 ·rcases hi with rfl | rfl | rfl | rfl | rfl | rfl | rfl | rfl | rfl <;> simp_all
theorem JN14.add (h:JN14 w1 O hp n l0 l1 l vs0 vs1 Ls w) {i:Nat} (hi:i≠20∧i≠15∧i≠17):JN14 w1 O hp n l0 l1 l vs0 vs1 (fun j=>if i=j then true else Ls j) w:=by
 rcases h with ⟨h1,⟨h2,h3⟩,h4⟩ | ⟨h20,⟨h1,h2,h3,h4,h5,h6,h7,h8⟩,h9⟩
 ·refine Or.inl ⟨by simp [hi.1,h1],⟨fun h=>?_,fun h=>?_⟩,h4⟩
  ·have:Ls 15=true:=by simpa [hi.2.1] using h
   simp [h2 this]
  ·have:Ls 17=true:=by simpa [hi.2.2] using h
   simp [h3 this]
 ·refine Or.inr ⟨by simp [h20],⟨?_,?_,?_,?_,?_,?_,?_,?_⟩,h9⟩ <;> simp_all
theorem JN14.grow (h:JN14 w1 O hp n l0 l1 l vs0 vs1 Ls w) (i:Nat) (hi:i=7∨i=8∨i=13∨i=15∨i=16∨i=17) (hn:Ls i=false) (hj:JJ w1 O 0 1 n l0 l1 vs0 vs1 w') (h13:i=15→Ls 13=true) (h16:i=17→Ls 16=true):JN14 w1 O hp n l0 l1 l vs0 vs1 (fun j=>if i=j then true else Ls j) w':=by
 rcases h with ⟨h1,⟨h2,h3⟩,h4⟩ | ⟨h20,⟨h1,h2,h3,h4,h5,h6,h7,h8⟩,h9⟩
 ·have h20:i≠20:=by omega
  refine Or.inl ⟨by simp [h20,h1],⟨fun h=>?_,fun h=>?_⟩,hj⟩
  ·by_cases e:i=15
   ·simp [h13 e]
   ·have:Ls 15=true:=by simpa [e] using h
    simp [h2 this]
  ·by_cases e:i=17
   ·simp [h16 e]
   ·have:Ls 17=true:=by simpa [e] using h
    simp [h3 this]
 ·rcases hi with rfl | rfl | rfl | rfl | rfl | rfl <;> simp_all
theorem or_if2 (Ls:Nat→Bool) (i:Nat):(fun j=>decide (i=j)||Ls j)=fun j=>if i=j then true else Ls j:=funext fun j=>by by_cases h:i=j <;> simp [h]
theorem JN14.add' (h:JN14 w1 O hp n l0 l1 l vs0 vs1 Ls w) (i:Nat) (hi:i≠20∧i≠15∧i≠17):JN14 w1 O hp n l0 l1 l vs0 vs1 (fun j=>decide (i=j)||Ls j) w:=by rw [or_if2];exact h.add hi
theorem JN14.grow' (h:JN14 w1 O hp n l0 l1 l vs0 vs1 Ls w) (i:Nat) (hi:i=7∨i=8∨i=13∨i=15∨i=16∨i=17) (hn:Ls i=false) (hj:JJ w1 O 0 1 n l0 l1 vs0 vs1 w') (h13:i=15→Ls 13=true) (h16:i=17→Ls 16=true):JN14 w1 O hp n l0 l1 l vs0 vs1 (fun j=>decide (i=j)||Ls j) w':=by rw [or_if2];exact h.grow i hi hn hj h13 h16
theorem JN14.store (h:JN14 w1 O hp n l0 l1 l vs0 vs1 Ls w) {v:Value} (hn:Ls 20=false) (hd:Ls 5=true∧Ls 7=true∧Ls 8=true∧Ls 12=true∧Ls 15=true∧Ls 17=true) (hj:JJ w1 O 0 1 n l0 l1 vs0 vs1 w) (hv:RowAt w (fun q=>O q=.tab 0∨w1.heap.size≤q) 63 1 v (n+1) (vs0++[l])) (hs:∃ A c,v=.slice A (n+1) c) :
 JN14 w1 O hp n l0 l1 l vs0 vs1 (fun j=>decide (20=j)||Ls j) (w.setCell ⟨hp,0,none⟩ v):=by
 obtain ⟨h1,h2,h3,h4,h5,h6⟩:=hd
 rcases h with ⟨_,⟨c1,c2⟩,_⟩ | ⟨h20,_⟩
 ·exact Or.inr ⟨by simp,⟨by simp [h1],by simp [h2],by simp [h3],by simp [h4],by simp [c1 h5],by simp [h5],by simp [c2 h6],by simp [h6]⟩,w,v,hj,hv,hs,rfl⟩
 ·rw [hn] at h20;cases h20
theorem JN14.done (h:JN14 w1 O hp n l0 l1 l vs0 vs1 Ls w) (h20:Ls 20=true):∃ W3 v,JJ w1 O 0 1 n l0 l1 vs0 vs1 W3∧RowAt W3 (fun q=>O q=.tab 0∨w1.heap.size≤q) 63 1 v (n+1) (vs0++[l])∧(∃ A c,v=.slice A (n+1) c)∧w=W3.setCell ⟨hp,0,none⟩ v:=by
 rcases h with h | h
 ·rw [h.1] at h20;cases h20
 ·exact h.2.2
end
theorem VN14.on {hp B1 n m:Nat} {O:Nat→RRole} {l0 l1 l:Value} {vs0 vs1 xs:List Value} {i j:Nat} {v:Value} {w w':World} (hij:i≠j) (hO:∀ k,O k≠.none→k<B1) (ohd:O hp=.hd) (h0:∀ x,l0.ownBlock=some x→O x=.tab 0) (h1:∀ x,l1.ownBlock=some x→O x=.tab 1)
 (h:VN14 hp B1 n m O l0 l1 l vs0 vs1 xs j v w) (hs:SN 8 17 20 hp l0 l1 i w w'):VN14 hp B1 n m O l0 l1 l vs0 vs1 xs j v w':=by
 have kp:∀ x,x<w.heap.size→(B1≤x∨(O x=.tab 0∧i≠8)∨(O x=.tab 1∧i≠17))→w'.heap[x]?=w.heap[x]?:=fun x hx hc=>hs.keep hO ohd h0 h1 (by decide) hx hc
 unfold VN14 at *
 split <;> try exact h
 ·obtain ⟨x,e,h2,h3⟩:=h
  exact ⟨x,e,h2,(kp x (room_lt h3) (Or.inl h2)).trans h3⟩
 ·exact h.keep fun x hx ho=>kp x hx (ho.elim (fun h=>Or.inr (Or.inl ⟨h,hij⟩)) Or.inl)
 ·obtain ⟨x,e,h2,h3⟩:=h
  exact ⟨x,e,h2,(kp x (room_lt h3) (Or.inl h2)).trans h3⟩
 ·exact ⟨h.1.keep fun x hx ho=>kp x hx (Or.inl ho),h.2⟩
 ·obtain ⟨x,u,e,h2,h3,h4,h5⟩:=h
  exact ⟨x,u,e,h2,(kp x (room_lt h3) (Or.inl h2)).trans h3,h4.keep fun x hx ho=>kp x hx (Or.inl ho),h5⟩
 ·obtain ⟨u,h2,h3,h4⟩:=h
  exact ⟨u,h2.keep fun x hx ho=>kp x hx (ho.elim (fun h=>Or.inr (Or.inr ⟨h,hij⟩)) Or.inl),h3.keep fun x hx ho=>kp x hx (Or.inl ho),h4⟩
 ·trivial
def VN15 (hp B1 n:Nat) (O:Nat→RRole) (l0 l1:Value) (vs0 vs1:List Value) (i:Nat) (v:Value) (w:World):Prop :=
 match i with
 | 0 | 1 | 2 | 3 | 8 | 9 | 14 | 17=>v=.pointer (some ⟨hp,0,none⟩)
 | 4 | 15=>v=.pointer (some ⟨hp,2,none⟩)
 | 5=>v=l0
 | 10 | 18=>v=.pointer (some ⟨hp,3,none⟩)
 | 11=>v=l1
 | 6=>∃ x,v=.slice (some ⟨x,0,none⟩) 1 1∧B1≤x∧w.heap[x]?=some (.cells #[.slice none 0 0] 115 (0,0))
 | 7=>RowAt w (fun q=>O q=.tab 2∨B1≤q) 115 1 v (n+1) (vs0++[.slice none 0 0])
 | 12=>∃ x,v=.slice (some ⟨x,0,none⟩) 1 1∧B1≤x∧w.heap[x]?=some (.cells #[.slice none 0 0] 63 (0,0))
 | 13=>RowAt w (fun q=>O q=.tab 3∨B1≤q) 63 1 v (n+1) (vs1++[.slice none 0 0])
 | _=>True
def JN15 (w1:World) (O:Nat→RRole) (hp n:Nat) (l0 l1:Value) (vs0 vs1:List Value) (Ls:Nat→Bool) (w:World):Prop :=
 (Ls 16=false∧(Ls 13=true→Ls 12=true)∧JJ w1 O 2 3 n l0 l1 vs0 vs1 w) ∨
 (Ls 16=true∧(Ls 5=true∧Ls 6=true∧Ls 7=true∧Ls 11=true∧Ls 12=true∧Ls 13=true)∧∃ W3 v,JJ w1 O 2 3 n l0 l1 vs0 vs1 W3∧RowAt W3 (fun q=>O q=.tab 2∨w1.heap.size≤q) 115 1 v (n+1) (vs0++[.slice none 0 0])∧(∃ A c,v=.slice A (n+1) c)∧w=W3.setCell ⟨hp,2,none⟩ v)
section
variable {w1 w w':World} {O:Nat→RRole} {hp n:Nat} {l0 l1:Value} {vs0 vs1:List Value} {Ls:Nat→Bool}
theorem JN15.fresh (h:JN15 w1 O hp n l0 l1 vs0 vs1 Ls w) (i:Nat) (hi:i=5∨i=6∨i=7∨i=11∨i=12∨i=13∨i=16) (hn:Ls i=false):JJ w1 O 2 3 n l0 l1 vs0 vs1 w:=by
 rcases h with h | ⟨h20,⟨h1,h2,h3,h4,h5,h6⟩,_⟩
 ·exact h.2.2
 ·rcases hi with rfl | rfl | rfl | rfl | rfl | rfl | rfl <;> simp_all
theorem JN15.add (h:JN15 w1 O hp n l0 l1 vs0 vs1 Ls w) {i:Nat} (hi:i≠16∧i≠13):JN15 w1 O hp n l0 l1 vs0 vs1 (fun j=>if i=j then true else Ls j) w:=by
 rcases h with ⟨h1,h2,h4⟩ | ⟨h20,⟨h1,h2,h3,h4,h5,h6⟩,h9⟩
 ·refine Or.inl ⟨by simp [hi.1,h1],fun h=>?_,h4⟩
  have:Ls 13=true:=by simpa [hi.2] using h
  simp [h2 this]
 ·refine Or.inr ⟨by simp [h20],⟨?_,?_,?_,?_,?_,?_⟩,h9⟩ <;> simp_all
theorem JN15.grow (h:JN15 w1 O hp n l0 l1 vs0 vs1 Ls w) (i:Nat) (hi:i=6∨i=7∨i=12∨i=13) (hn:Ls i=false) (hj:JJ w1 O 2 3 n l0 l1 vs0 vs1 w') (h13:i=13→Ls 12=true):JN15 w1 O hp n l0 l1 vs0 vs1 (fun j=>if i=j then true else Ls j) w':=by
 rcases h with ⟨h1,h2,h4⟩ | ⟨h20,⟨h1,h2,h3,h4,h5,h6⟩,h9⟩
 ·have h20:i≠16:=by omega
  refine Or.inl ⟨by simp [h20,h1],fun h=>?_,hj⟩
  by_cases e:i=13
  ·simp [h13 e]
  ·have:Ls 13=true:=by simpa [e] using h
   simp [h2 this]
 ·rcases hi with rfl | rfl | rfl | rfl <;> simp_all
theorem JN15.add' (h:JN15 w1 O hp n l0 l1 vs0 vs1 Ls w) (i:Nat) (hi:i≠16∧i≠13):JN15 w1 O hp n l0 l1 vs0 vs1 (fun j=>decide (i=j)||Ls j) w:=by rw [or_if2];exact h.add hi
theorem JN15.store (h:JN15 w1 O hp n l0 l1 vs0 vs1 Ls w) {v:Value} (hn:Ls 16=false) (hd:Ls 5=true∧Ls 6=true∧Ls 7=true∧Ls 11=true∧Ls 13=true) (hj:JJ w1 O 2 3 n l0 l1 vs0 vs1 w) (hv:RowAt w (fun q=>O q=.tab 2∨w1.heap.size≤q) 115 1 v (n+1) (vs0++[.slice none 0 0])) (hs:∃ A c,v=.slice A (n+1) c) :
 JN15 w1 O hp n l0 l1 vs0 vs1 (fun j=>decide (16=j)||Ls j) (w.setCell ⟨hp,2,none⟩ v):=by
 obtain ⟨h1,h2,h3,h4,h5⟩:=hd
 rcases h with ⟨_,c1,_⟩ | ⟨h20,_⟩
 ·exact Or.inr ⟨by simp,⟨by simp [h1],by simp [h2],by simp [h3],by simp [h4],by simp [c1 h5],by simp [h5]⟩,w,v,hj,hv,hs,rfl⟩
 ·rw [hn] at h20;cases h20
theorem JN15.done (h:JN15 w1 O hp n l0 l1 vs0 vs1 Ls w) (h20:Ls 16=true):∃ W3 v,JJ w1 O 2 3 n l0 l1 vs0 vs1 W3∧RowAt W3 (fun q=>O q=.tab 2∨w1.heap.size≤q) 115 1 v (n+1) (vs0++[.slice none 0 0])∧(∃ A c,v=.slice A (n+1) c)∧w=W3.setCell ⟨hp,2,none⟩ v:=by
 rcases h with h | h
 ·rw [h.1] at h20;cases h20
 ·exact h.2.2
end
theorem VN15.on {hp B1 n:Nat} {O:Nat→RRole} {l0 l1:Value} {vs0 vs1:List Value} {i j:Nat} {v:Value} {w w':World} (hij:i≠j) (hO:∀ k,O k≠.none→k<B1) (ohd:O hp=.hd) (h0:∀ x,l0.ownBlock=some x→O x=.tab 2) (h1:∀ x,l1.ownBlock=some x→O x=.tab 3)
 (h:VN15 hp B1 n O l0 l1 vs0 vs1 j v w) (hs:SN 7 13 16 hp l0 l1 i w w'):VN15 hp B1 n O l0 l1 vs0 vs1 j v w':=by
 have kp:∀ x,x<w.heap.size→(B1≤x∨(O x=.tab 2∧i≠7)∨(O x=.tab 3∧i≠13))→w'.heap[x]?=w.heap[x]?:=fun x hx hc=>hs.keep hO ohd h0 h1 (by decide) hx hc
 unfold VN15 at *
 split <;> try exact h
 ·obtain ⟨x,e,h2,h3⟩:=h
  exact ⟨x,e,h2,(kp x (room_lt h3) (Or.inl h2)).trans h3⟩
 ·exact h.keep fun x hx ho=>kp x hx (ho.elim (fun h=>Or.inr (Or.inl ⟨h,hij⟩)) Or.inl)
 ·obtain ⟨x,e,h2,h3⟩:=h
  exact ⟨x,e,h2,(kp x (room_lt h3) (Or.inl h2)).trans h3⟩
 ·exact h.keep fun x hx ho=>kp x hx (ho.elim (fun h=>Or.inr (Or.inr ⟨h,hij⟩)) Or.inl)
 ·trivial
theorem infoSL:(Tryz.prog.info? 63).map (fun i=>(i.zero,i.size,i.bytes))=some (some (.slice none 0 0),1,24):=by kernel_rfl
theorem infoPL:(Tryz.prog.info? 115).map (fun i=>(i.zero,i.size,i.bytes))=some (some (.slice none 0 0),1,24):=by kernel_rfl
def s64:ByteArray:=strOfNums (List.replicate 64 0)
theorem rowZ_flat (n:Nat):(rowZ (n:Int) 0).flatten=List.replicate n (.string s64):=by
 unfold rowZ
 rw [if_pos (by omega)]
 unfold zeroRow
 rw [Int.toNat_natCast,List.map_replicate]
 induction n with
 | zero=>rfl
 | succ n ih=>rw [List.replicate_succ,List.flatten_cons,ih,List.replicate_succ];rfl
def NewE (zs:List Int) (B:Nat) (e:Ending) (w':World):Prop :=
 if mayV zs then ∃ hp F,e=.returned (.tuple #[.pointer (some ⟨hp,0,none⟩),.bool true])∧Ref w' F hp (RM.make zs).G (-1)∧∀ k,F k→B≤k
 else e=.returned (.tuple #[.pointer none,.bool false])
set_option maxRecDepth 100000 in
set_option maxHeartbeats 6400000 in
theorem newdev_any (A:Option Addr) (zs:List Int) (c:Nat) (w0:World) (hB0:AllI zs) (hy:Nts w0 A zs) (hl:zs.length≤1000000) :
 Calls Tryz.prog 9 #[.slice A zs.length c] w0 fun e w'=>NewE zs w0.heap.size e w'∧Below w0.heap.size w0 w':=by
 by_cases hlen:1≤zs.length∧zs.length≤8
 ·have HY:=Lib.hid hy
  have HAI:=Lib.hid hB0
  have hlen1:=hlen.1
  have hlen8:=hlen.2
  clear hy hB0 hlen
  generalize hR:zs.length=R at *
  have HR:=Lib.hid hR
  clear hR
  obtain ⟨i5,hi5,hz5,hs5,hb5⟩:=info_parts info5
  have hmk:=fun w:World=>run_make (P:=Tryz.prog) w 48 5 i5 _ Tryz.underlying48 hi5 hz5 .i64 .i64 64 64 (by omega) (by omega) (by rw [hb5];omega) (by omega)
  have hM:(madeCells (Value.int .u8 0).cells ((64:Int).toNat*i5.size)).toList=Bs (List.replicate 64 0):=by
   rw [hs5]
   show (madeCells #[Value.int .u8 0] 64).toList=_
   rw [toList_madeCells_one]
   unfold Bs
   rw [List.map_replicate]
  generalize madeCells (Value.int .u8 0).cells ((64:Int).toNat*i5.size)=M at *
  rw [show ((64:Int)).toNat=64 by omega] at hmk
  have HCV:Hid (∀ W:World,(convert 48 9 (.slice (some ⟨W.heap.size,0,none⟩) 64 64)).run Tryz.prog (W.alloc (Obj.cells M 5))=.ok (.string s64) (W.alloc (Obj.cells M 5))):=fun W=>conv_any (byt_blk (heap_alloc_new _ _) hM) (by simp)
  have HMK:=Lib.hid hmk
  clear hM hmk hi5 hz5 hs5 hb5
  have h0:RAt (w0.alloc (.cells #[.slice none 0 0,.slice none 0 0,.slice none 0 0,.slice none 0 0,.int .i64 (-1)] 67)) (fun k=>if k=w0.heap.size then .hd else .none) w0.heap.size (fun _=>.slice none 0 0) (Gz zs 0) (-1):=by
   refine ⟨heap_alloc_new _ _,if_pos rfl,fun t _=>?_⟩
   rw [Gz_zero]
   exact RowsAt.nil _ _ _ _ _ _ _
  have hb0:Below w0.heap.size w0 (w0.alloc (.cells #[.slice none 0 0,.slice none 0 0,.slice none 0 0,.slice none 0 0,.int .i64 (-1)] 67)):=(Below.refl _ _).alloc (Nat.le_refl _) _
  have hO0:∀ k,(if k=w0.heap.size then RRole.hd else RRole.none)≠.none→w0.heap.size≤k∧k<(w0.alloc (.cells #[.slice none 0 0,.slice none 0 0,.slice none 0 0,.slice none 0 0,.int .i64 (-1)] 67)).heap.size:=fun k hk=>by
   split at hk
   ·rename_i e;rw [e];exact ⟨Nat.le_refl _,room_lt h0.hd⟩
   ·exact absurd rfl hk
  have H0:=Lib.hid (And.intro h0 (And.intro hO0 hb0))
  clear h0 hb0 hO0
  have hd1:decide ((R:Int)<1)=false:=decide_eq_false (by omega)
  have hd2:decide (8<(R:Int))=false:=decide_eq_false (by omega)
  go_enter Tryz.func9,Tryz.ntmps9
  go_wp2_with fail
  generalize w0.alloc (.cells #[.slice none 0 0,.slice none 0 0,.slice none 0 0,.slice none 0 0,.int .i64 (-1)] 67)=wA at *
  obtain ⟨B,hB⟩:∃ B,B=w0.heap.size:=⟨_,rfl⟩
  have HBB:=Lib.hid hB
  rw [← hB] at H0 ⊢
  clear hB
  go_loopw [5] (fun i wr=>∃ (k:Nat) (O:Nat→RRole) (L:Nat→Value),i=.int .i64 k∧k≤R∧RAt wr O B L (Gz zs k) (-1)∧(∀ q,O q≠.none→B≤q∧q<wr.heap.size)∧Below B w0 wr∧Hid (∀ j z,j<k→zs[j]?=some z→badSize z=false)) (fun i _=>R-(intOf i).toNat)
  case atStart=>exact ⟨0,_,_,rfl,Nat.zero_le _,H0.out.1,H0.out.2.1,H0.out.2.2,fun j z hj=>absurd hj (by omega)⟩
  case round =>
   obtain ⟨k,O,L,rfl,hk,hat,hO,hb,HG⟩:=hrel
   clear H0 hd1 hd2
   by_cases hlt:k<R
   ·obtain ⟨z,hz⟩:∃ z,zs[k]?=some z:=⟨_,List.getElem?_eq_getElem (by rw [HR.out];exact hlt)⟩
    obtain ⟨a,rfl,hc⟩:=HY.out _ _ hz
    have hzi:=HAI.out z (List.mem_of_getElem? hz)
    have hcell:wr.cell? (a.add k)=some (.int .i64 z):=by rw [hb.cell (by rw [HBB.out];exact World.block_lt_of_cell? w0 _ hc)];exact hc
    by_cases hbad:badSize z=true
    ·have hno:mayV zs=false:=by
      unfold mayV
      rw [List.any_eq_true.2 ⟨z,List.mem_of_getElem? hz,hbad⟩];simp
     have HNO:=Lib.hid hno
     have HBL:=Lib.hid hb
     have hbz:z<1∨1000<z:=by unfold badSize at hbad;simpa using hbad
     clear hno hbad hb hat hO hz
     by_cases hz1:z<1
     ·go_wp2
      go_ret2
      exact ⟨by unfold NewE;rw [HNO.out];rfl,by rw [← HBB.out];exact HBL.out⟩
     ·have hz2:1000<z:=by omega
      go_wp2
      go_ret2
      exact ⟨by unfold NewE;rw [HNO.out];rfl,by rw [← HBB.out];exact HBL.out⟩
    ·have hgood:¬ z<1∧¬ 1000<z:=by unfold badSize at hbad;simpa using hbad
     obtain ⟨n,rfl⟩:∃ n:Nat,z=(n:Int):=⟨z.toNat,by omega⟩
     have hn1:1≤n:=by omega
     have hn2:n≤1000:=by omega
     have HG2:Hid (∀ j z,j<k+1→zs[j]?=some z→badSize z=false):=fun j z hj hz2=>by
      by_cases e:j=k
      ·subst e;rw [hz] at hz2;injection hz2 with hz2;subst hz2;simpa using hbad
      ·exact HG.out j z (by omega) hz2
     have HZ:=Lib.hid hz
     have HC0:=Lib.hid hc
     obtain ⟨w1,rfl⟩:∃ w1,w1=wr:=⟨wr,rfl⟩
     have HAT:=Lib.hid hat
     have HO:=Lib.hid hO
     have HBL:=Lib.hid hb
     obtain ⟨hg1,hg2⟩:=hgood
     have q1:decide ((n:Int)<1)=false:=decide_eq_false hg1
     have q2:decide (1000<(n:Int))=false:=decide_eq_false hg2
     clear hbad hz hc hat hO hb HG
     go_wp2_with fail
     clear q1 q2
     go_loopw [6,7] (fun l i wr=>∃ j:Nat,i=.int .i64 j∧j≤n∧RowAt wr (fun q=>w1.heap.size≤q) 9 1 l j (List.replicate j (.string s64))∧Below w1.heap.size w1 wr) (fun _ i _=>n-(intOf i).toNat)
     case atStart=>exact ⟨0,rfl,Nat.zero_le _,RowAt.nil _ _ _ _,Below.refl _ _⟩
     case round =>
      obtain ⟨j,rfl,hj,hrow,hb2⟩:=hrel
      have hcell2:wr.cell? (a.add k)=some (.int .i64 n):=by rw [hb2.cell (World.block_lt_of_cell? w1 _ hcell)];exact hcell
      by_cases hjn:j<n
      ·have hji:(j:Int)<n:=by omega
       have mk:=HMK.out wr
       have cv:=HCV.out wr
       have HROW:=Lib.hid hrow
       have HB2:=Lib.hid hb2
       obtain ⟨iS,hiS,hzS,hsS,hbS⟩:=info_parts infoStr
       have HIS:=Lib.hid (And.intro hiS (And.intro hzS (And.intro hsS hbS)))
       have b1:Below wr.heap.size wr (wr.alloc (Obj.cells M 5)):=(Below.refl _ _).alloc (Nat.le_refl _) _
       have b2:Below (wr.alloc (Obj.cells M 5)).heap.size (wr.alloc (Obj.cells M 5)) ((wr.alloc (Obj.cells M 5)).alloc (Obj.cells #[.string s64] 9)):=(Below.refl _ _).alloc (Nat.le_refl _) _
       have HR2:=Lib.hid ((hrow.below b1).below b2)
       have HB3:=Lib.hid (keepB (keepB hb2 b1) b2)
       clear hrow hb2 b1 b2
       go_wp2_with (first
        | (at_builtin
           refine wpList_plain rfl fun K hK=>?_
           refine wp_push_of (.tmp 44) (.tmp 47) 63 rfl 9 iS _ 1 16 Tryz.underlying63 HIS.out.1 HIS.out.2.1 HIS.out.2.2.1 HIS.out.2.2.2 rfl (by decide) _ j (List.replicate j (.string s64)) rfl (fun q=>w1.heap.size≤q) HR2.out ⟨wr.heap.size+1,0,none⟩ 1 1 [.string s64] rfl rfl (World.news_of_block (heap_alloc2_new wr _ _)) (fun u hu=>by rw [List.mem_singleton.1 hu];rfl) (by simp only [maxLen];omega) (by omega) ?_
           intro v' w' hnew hgr hold
           refine hK _ _ ?_
           have HNEW:=Lib.hid hnew
           have HBN:=Lib.hid (HB3.out.grown hgr HB3.out.size (fun x hx=>HROW.out.2 x hx))
           clear hnew hgr hold mk cv))
       go_roundw
       case rel=>exact ⟨j+1,by go_num,by omega,by rw [List.replicate_succ'];exact HNEW.out.owner (fun x _ hx=>hx.elim id (fun h=>Nat.le_trans HB3.out.size h)),HBN.out⟩
       case measure=>simp [intOf];omega
      ·obtain rfl:j=n:=by omega
       go_upto_region 14 with fail
       obtain ⟨w2,rfl⟩:∃ w2,w2=wr:=⟨wr,rfl⟩
       have hat2:=HAT.out.below hb2
       have hO2:∀ q,O q≠.none→B≤q∧q<w1.heap.size:=HO.out
       have hw12:=hb2.size
       have hO1:∀ q,O q≠.none→q<w2.heap.size:=fun q hq=>Nat.lt_of_lt_of_le (hO2 q hq).2 hw12
       have hBL2:Below B w0 w2:=HBL.out.trans (hb2.mono (by have:=HBL.out.size;rw [HBB.out];exact this))
       have hkz:k≤zs.length:=by rw [HR.out];exact hk
       have hlen0:=Gz_len zs hkz (t:=0) (by omega)
       have hlen1':=Gz_len zs hkz (t:=1) (by omega)
       obtain ⟨vs0,a0,b0⟩:=hat2.tab 0 (by omega)
       obtain ⟨vs1,a1,b1⟩:=hat2.tab 1 (by omega)
       rw [hlen0] at a0
       rw [hlen1'] at a1
       obtain ⟨Al,cl,hlv,_,_⟩:=hrow.val
       obtain ⟨gl,cl2,hlv2,hgl,hgl2,_,_,_,_⟩:=hrow.pos (by omega)
       rw [hlv2] at hlv ⊢
       rw [hlv2] at hrow
       injection hlv with z1 z2 z3
       subst z1
       clear z2 z3
       have HHd:=Lib.hid hat2.ohd
       have HO1:=Lib.hid hO1
       have HC0:Hid (∀ W,JJ w2 O 0 1 k (L 0) (L 1) vs0 vs1 W→W.cell? ⟨B,0,none⟩=some (L 0)):=fun W h=>h.cell (hat2.cell 0 (by omega)) (by rw [hat2.ohd];simp) (by rw [hat2.ohd];simp)
       have HC1:Hid (∀ W,JJ w2 O 0 1 k (L 0) (L 1) vs0 vs1 W→W.cell? ⟨B,1,none⟩=some (L 1)):=fun W h=>h.cell (hat2.cell 1 (by omega)) (by rw [hat2.ohd];simp) (by rw [hat2.ohd];simp)
       have HRAT:Hid (∀ W,JJ w2 O 0 1 k (L 0) (L 1) vs0 vs1 W→RAt W O B L (Gz zs k) (-1)):=fun W h=>h.rat hat2 rfl rfl hlen0 hlen1' b0 b1
       have HCF:Hid (∀ W,JJ w2 O 0 1 k (L 0) (L 1) vs0 vs1 W→W.frozen? ⟨B,0,none⟩=false):=fun W h=>(HRAT.out W h).free 0
       have HLC:Hid ((Value.slice (some ⟨gl,0,none⟩) j cl2).cells=#[Value.slice (some ⟨gl,0,none⟩) j cl2]):=rfl
       have HL1:Hid ((Value.slice (some ⟨gl,0,none⟩) j cl2).oneCell'=true):=rfl
       have hnone:O gl=.none:=Classical.byContradiction fun e=>by have:=(hO2 gl e).2;have:w1.heap.size≤gl:=hgl;omega
       have HLR:Hid (∀ W,JJ w2 O 0 1 k (L 0) (L 1) vs0 vs1 W→RowAt W (fun q=>O q=.none) 9 1 (Value.slice (some ⟨gl,0,none⟩) j cl2) j (List.replicate j (.string s64))):=fun W h =>
        h.row (hrow.ownerT fun g cur _ he _=>by injection he with he;dsimp only at he;rw [← he];exact hnone) (fun q hq=>by rw [hq];simp)
       have HSP:Hid (0<j∧j≤1000∧∀ x∈List.replicate j (Value.string s64),x.oneCell'=true):=⟨by omega,by omega,fun x hx=>by rw [List.eq_of_mem_replicate hx];rfl⟩
       have HEND:Hid (∀ W3 A9 c9 A8 c8 Au cu,JJ w2 O 0 1 k (L 0) (L 1) vs0 vs1 W3→RowAt W3 (fun q=>O q=.tab 0∨w2.heap.size≤q) 63 1 (.slice A9 (k+1) c9) (k+1) (vs0++[Value.slice (some ⟨gl,0,none⟩) j cl2]) →
        RowAt (W3.setCell ⟨B,0,none⟩ (.slice A9 (k+1) c9)) (fun q=>O q=.tab 1∨w2.heap.size≤q) 63 1 (.slice A8 (k+1) c8) (k+1) (vs1++[.slice Au j cu])→RowAt (W3.setCell ⟨B,0,none⟩ (.slice A9 (k+1) c9)) (fun q=>w2.heap.size≤q) 9 1 (.slice Au j cu) j (List.replicate j (.string s64)) →
        (W3.setCell ⟨B,0,none⟩ (.slice A9 (k+1) c9)).cell? ⟨B,1,none⟩=some (L 1)∧(W3.setCell ⟨B,0,none⟩ (.slice A9 (k+1) c9)).frozen? ⟨B,1,none⟩=false ∧
        ∃ (O2:Nat→RRole) (L2:Nat→Value),RAt ((W3.setCell ⟨B,0,none⟩ (.slice A9 (k+1) c9)).setCell ⟨B,1,none⟩ (.slice A8 (k+1) c8)) O2 B L2 (fun s=>if s<2 then Gz zs (k+1) s else Gz zs k s) (-1) ∧
         (∀ q,O2 q≠.none→B≤q∧q<((W3.setCell ⟨B,0,none⟩ (.slice A9 (k+1) c9)).setCell ⟨B,1,none⟩ (.slice A8 (k+1) c8)).heap.size)∧Below B w0 ((W3.setCell ⟨B,0,none⟩ (.slice A9 (k+1) c9)).setCell ⟨B,1,none⟩ (.slice A8 (k+1) c8))):=by
        intro W3 A9 c9 A8 c8 Au cu hj h3 h4 h5
        have hr3:=HRAT.out W3 hj
        have hzk:zs[k]?=some ((j:Nat):Int):=HZ.out
        obtain ⟨g9,c9',e9,ho9,hg9,_,_,_,_⟩:=h3.pos (by omega)
        injection e9 with e9a e9b e9c
        subst e9a
        subst e9c
        have hu3:=HLR.out W3 hj
        have hnO:∀ q,w2.heap.size≤q→O q=.none:=fun q hq=>Classical.byContradiction fun e=>by have:=HO1.out q e;omega
        have hB3:O B=.hd:=HHd.out
        have rowK:∀ {t r:Nat} {E:TypeId} {sz m:Nat} {x:Value} {xs:List Value},RowAt w2 (fun q=>O q=.row t r) E sz x m xs→RowAt W3 (fun q=>O q=.row t r) E sz x m xs:=fun hx=>hj.row hx (fun q hq=>by rw [hq];exact ⟨by simp,by simp⟩)
        have hv9:∀ x,(Value.slice (some ⟨g9,0,none⟩) (k+1) c9).ownBlock=some x→O x=.tab 0∨O x=.none:=fun x hx=>(h3.2 x hx).imp id (hnO x)
        have hvl9:∀ x,(Value.slice (some ⟨gl,0,none⟩) j cl2).ownBlock=some x→O x=.none:=fun x hx=>hu3.2 x hx
        have hI:=hr3.install (t:=0) (by omega) (v':=.slice (some ⟨g9,0,none⟩) (k+1) c9) (u:=.slice (some ⟨gl,0,none⟩) j cl2) (vs:=vs0) (row:=rowZ (j:Int) 0) (n:=k) hlen0 (by have:=a0.len;omega)
         (fun r row hr=>by obtain ⟨u,hu,hx⟩:=b0 r row hr;exact ⟨u,hu,rowK hx⟩) (h3.owner fun q _ hq=>hq.imp id (hnO q)) (by rw [rowZ_len j (by omega),rowZ_flat];exact hu3)
        have hsame:∀ q,O q≠.tab 0→O q≠.none→iOwn O 0 k (.slice (some ⟨g9,0,none⟩) (k+1) c9) (.slice (some ⟨gl,0,none⟩) j cl2) q=O q:=fun q x1 x2=>iOwn_same hv9 hvl9 x1 x2
        have hglne:∀ q,w2.heap.size≤q→(Value.slice (some ⟨gl,0,none⟩) j cl2).ownBlock≠some q:=fun q hq e=>by injection e with e;dsimp only at e;omega
        have h3':RowAt (W3.setCell ⟨B,0,none⟩ (.slice (some ⟨g9,0,none⟩) (k+1) c9)) (fun _=>True) 63 1 (.slice (some ⟨g9,0,none⟩) (k+1) c9) (k+1) (vs0++[Value.slice (some ⟨gl,0,none⟩) j cl2]):=rowAt_store h3 (fun g he hg=>⟨trivial,fun e=>by
         rw [e] at hg
         rcases hg with hg | hg
         ·rw [hB3] at hg;cases hg
         ·rw [hnO B hg] at hB3;cases hB3⟩)
        have hnew:∀ q,w2.heap.size≤q→(Value.slice (some ⟨g9,0,none⟩) (k+1) c9).ownBlock≠some q→iOwn O 0 k (.slice (some ⟨g9,0,none⟩) (k+1) c9) (.slice (some ⟨gl,0,none⟩) j cl2) q=.none:=fun q hq hne=>by
         unfold iOwn;rw [if_neg hne,if_neg (hglne q hq)];exact hnO q hq
        have hI2:=hI.install (t:=1) (by omega) (v':=.slice A8 (k+1) c8) (u:=.slice Au j cu) (vs:=vs1) (row:=rowZ (j:Int) 1) (n:=k) (by simpa using hlen1') (by have:=a1.len;omega)
         (fun r row hr=>by
           obtain ⟨u,hu,hx⟩:=b1 r row (by simpa using hr)
           exact ⟨u,hu,rowAt_store (rowK hx) (fun g _ hg=>⟨by rw [hsame g (by rw [hg];simp) (by rw [hg];simp)];exact hg,fun e=>by rw [e,hB3] at hg;cases hg⟩)⟩)
         (h4.ownerT fun g cur _ he hg=>by
           rcases hg with hg | hg
           ·exact Or.inl (by rw [hsame g (by rw [hg];simp) (by rw [hg];simp)];exact hg)
           ·refine Or.inr (hnew g hg (fun e=>?_))
            injection e with e
            dsimp only at e
            subst e
            obtain ⟨g8,c8',e8,_,_,_,_,_,_⟩:=h4.pos (by omega)
            injection e8 with e8a e8b e8c
            subst e8a
            injection he with he
            dsimp only at he
            subst he
            have x1:=h3'.one (j:=k) (x:=Value.slice (some ⟨gl,0,none⟩) j cl2) (by rw [List.getElem?_append_right (by have:=a0.len;omega),show k-vs0.length=0 by have:=a0.len;omega];rfl)
            have x2:=h4.one (j:=k) (x:=Value.slice Au j cu) (by rw [List.getElem?_append_right (by have:=a1.len;omega),show k-vs1.length=0 by have:=a1.len;omega];rfl)
            rw [x1] at x2
            injection x2 with x2
            injection x2 with x2
            rw [← x2] at h5
            have x3:w2.heap.size≤gl:=h5.2 gl rfl
            omega)
         (by
           rw [rowZ_len j (by omega),rowZ_one,rowZ_flat]
           exact h5.ownerT fun g cur _ he hg=>hnew g hg (fun e=>h3'.apart h5 (by decide) e he))
        have e:(fun s=>if s<2 then Gz zs (k+1) s else Gz zs k s)=fun s=>if s=1 then (fun s=>if s=0 then Gz zs k 0++[rowZ (j:Int) 0] else Gz zs k s) 1++[rowZ (j:Int) 1] else (fun s=>if s=0 then Gz zs k 0++[rowZ (j:Int) 0] else Gz zs k s) s:=by
         funext s
         by_cases s0:s=0
         ·subst s0;simp [Gz_succ zs hzk]
         ·by_cases s1:s=1
          ·subst s1;simp [Gz_succ zs hzk]
          ·have:¬ s<2:=by omega
           simp [s0,s1,this]
        rw [e]
        refine ⟨by have:=hI.cell 1 (by omega);simpa using this,hI.free 1,_,_,hI2,fun q hq=>?_,?_⟩
        ·have hz4:(W3.setCell ⟨B,0,none⟩ (.slice (some ⟨g9,0,none⟩) (k+1) c9)).heap.size=W3.heap.size:=by simp
         have hz5:((W3.setCell ⟨B,0,none⟩ (.slice (some ⟨g9,0,none⟩) (k+1) c9)).setCell ⟨B,1,none⟩ (.slice A8 (k+1) c8)).heap.size=W3.heap.size:=by simp
         rw [hz5]
         have hsz:=hj.touch.size
         have hBw:B≤w2.heap.size:=by have:=hBL2.size;have:=HBB.out;omega
         have old:O q≠.none→B≤q∧q<W3.heap.size:=fun x=>⟨(hO2 q x).1,by have:=HO1.out q x;omega⟩
         have lO:∀ x,O x=.tab 0∨w2.heap.size≤x→B≤x:=fun x hx=>hx.elim (fun e=>(hO2 x (by rw [e];simp)).1) (fun e=>by omega)
         have lO1:∀ x,O x=.tab 1∨w2.heap.size≤x→B≤x:=fun x hx=>hx.elim (fun e=>(hO2 x (by rw [e];simp)).1) (fun e=>by omega)
         rcases iOwn_some hq with hq | hq | hq
         ·rcases iOwn_some hq with hq | hq | hq
          ·exact old hq
          ·exact ⟨lO q (h3.2 q hq),(h3.1.lt q hq).2⟩
          ·injection hq with hq
           dsimp only at hq
           subst hq
           exact ⟨by have:=HBL.out.size;have:=HBB.out;omega,by omega⟩
         ·exact ⟨lO1 q (h4.2 q hq),by have:=(h4.1.lt q hq).2;omega⟩
         ·have h6:w2.heap.size≤q:=h5.2 q hq
          exact ⟨by omega,by have:=(h5.1.lt q hq).2;omega⟩
        ·have hBw:B≤w2.heap.size:=by have:=hBL2.size;have:=HBB.out;omega
         exact ((hBL2.trans (hj.touch.below hBw (fun x hx=>(hO2 x (by rcases hx with hx | hx;rw [show O x=_ from a0.2 x hx];simp;rw [show O x=_ from a1.2 x hx];simp)).1))).setCell (Nat.le_refl _) _).setCell (Nat.le_refl _) _
       go_cut [4,5] (fun s4 s5 wx=>s4=.pointer (some ⟨B,0,none⟩)∧s5=.int .i64 k∧∃ (O2:Nat→RRole) (L2:Nat→Value),RAt wx O2 B L2 (fun s=>if s<2 then Gz zs (k+1) s else Gz zs k s) (-1)∧(∀ q,O2 q≠.none→B≤q∧q<wx.heap.size)∧Below B w0 wx)
       case first =>
        have hJ0:JN14 w2 O B k (L 0) (L 1) (Value.slice (some ⟨gl,0,none⟩) j cl2) vs0 vs1 (fun _=>false) w2.drew:=Or.inl ⟨rfl,⟨fun h=>(by cases h),fun h=>(by cases h)⟩,⟨(Touch.refl _ _).drew,a0,a1⟩⟩
        have h0t:∀ x,(L 0).ownBlock=some x→O x=.tab 0:=fun x hx=>a0.2 x hx
        have h1t:∀ x,(L 1).ownBlock=some x→O x=.tab 1:=fun x hx=>a1.2 x hx
        generalize hl0:L 0=l0 at *
        generalize hl1:L 1=l1 at *
        generalize hvl:Value.slice (some ⟨gl,0,none⟩) j cl2=l at *
        refine wp_region_rgj (VN14 B w2.heap.size k j O l0 l1 l vs0 vs1 (List.replicate j (.string s64))) (JN14 w2 O B k l0 l1 l vs0 vs1) (fun i=>SN 8 17 20 B l0 l1 i) (by kernel_rfl) (by kernel_rfl) (fun i j v w w' hij h hs=>h.on hij HO1.out HHd.out h0t h1t hs) hJ0 ?_
        generalize hxs:List.replicate j (Value.string s64)=xs at *
        clear hJ0
        simp only [RAll]
        refine ⟨?_,?_,?_,?_,?_,?_,?_,?_,?_,?_,?_,?_,?_,?_,?_,?_,?_,?_,?_,?_,?_,?_,?_,?_⟩
        ·refine RStepJ.of rfl fun T W Ls hag hni hJ hdn hd=>?_
         have e4:T.getD 4 undef=_:=(agree_at hag 4 (by kernel_rfl)).trans rfl
         clear hag hd hdn
         go_simp
         exact ⟨_,rfl,rfl,hJ.add' 0 (by decide),SN.quiet 0 (by decide) (by decide) (by decide) (World.grownBy.refl _ _)⟩
        ·refine RStepJ.of rfl fun T W Ls hag hni hJ hdn hd=>?_
         have e4:T.getD 4 undef=_:=(agree_at hag 4 (by kernel_rfl)).trans rfl
         clear hag hd hdn
         go_simp
         exact ⟨_,rfl,rfl,hJ.add' 1 (by decide),SN.quiet 1 (by decide) (by decide) (by decide) (World.grownBy.refl _ _)⟩
        ·refine RStepJ.of rfl fun T W Ls hag hni hJ hdn hd=>?_
         have e4:T.getD 4 undef=_:=(agree_at hag 4 (by kernel_rfl)).trans rfl
         clear hag hd hdn
         go_simp
         exact ⟨_,rfl,rfl,hJ.add' 2 (by decide),SN.quiet 2 (by decide) (by decide) (by decide) (World.grownBy.refl _ _)⟩
        ·refine RStepJ.of rfl fun T W Ls hag hni hJ hdn hd=>?_
         have d51:T.getD 51 undef=_:=hd ⟨2,.data⟩ (by simp) rfl _ rfl
         clear hag hd hdn
         go_simp
         exact ⟨_,rfl,rfl,hJ.add' 3 (by decide),SN.quiet 3 (by decide) (by decide) (by decide) (World.grownBy.refl _ _)⟩
        ·refine RStepJ.of rfl fun T W Ls hag hni hJ hdn hd=>?_
         have d52:T.getD 52 undef=_:=hd ⟨3,.data⟩ (by simp) rfl _ rfl
         clear hag hd hdn
         go_simp
         exact ⟨_,rfl,rfl,hJ.add' 4 (by decide),SN.quiet 4 (by decide) (by decide) (by decide) (World.grownBy.refl _ _)⟩
        ·refine RStepJ.of rfl fun T W Ls hag hni hJ hdn hd=>?_
         have d53:T.getD 53 undef=_:=hd ⟨4,.data⟩ (by simp) rfl _ rfl
         have fct0:=HC0.out W (hJ.fresh 5 (by decide) hni)
         clear hag hd hdn
         go_simp
         exact ⟨_,rfl,rfl,hJ.add' 5 (by decide),SN.quiet 5 (by decide) (by decide) (by decide) (World.grownBy.refl _ _)⟩
        ·refine RStepJ.of rfl fun T W Ls hag hni hJ hdn hd=>?_
         have e6:T.getD 6 undef=_:=(agree_at hag 6 (by kernel_rfl)).trans rfl
         clear hag hd hdn
         go_simp
         exact ⟨_,rfl,rfl,hJ.add' 6 (by decide),SN.quiet 6 (by decide) (by decide) (by decide) (World.grownBy.refl _ _)⟩
        ·refine RStepJ.of rfl fun T W Ls hag hni hJ hdn hd=>?_
         have d55:T.getD 55 undef=_:=hd ⟨6,.data⟩ (by simp) rfl _ rfl
         have hw:=hJ.fresh 7 (by decide) hni
         obtain ⟨i0,hi0,hz0,hz1,hz2⟩:=info_parts infoSL
         refine wp_one_of 64 (.tmp 55) rfl 63 i0 _ 1 Tryz.underlying64 hi0 hz0 hz1 (by decide) (by decide) _ d55 (by rw [HLC.out];rfl) ?_
         rw [HLC.out]
         exact ⟨_,rfl,⟨W.heap.size,rfl,hw.touch.size,heap_alloc_new W _⟩,hJ.grow 7 (by decide) hni (hw.grow (World.grownBy_alloc W _ _)) (fun h=>absurd h (by decide)) (fun h=>absurd h (by decide)),SN.quiet 7 (by decide) (by decide) (by decide) (World.grownBy_alloc W _ _)⟩
        ·refine RStepJ.of rfl fun T W Ls hag hni hJ hdn hd=>?_
         have d54:T.getD 54 undef=_:=hd ⟨5,.data⟩ (by simp) rfl _ rfl
         have x56:=hd ⟨7,.data⟩ (by simp) rfl _ rfl
         have hw:=hJ.fresh 8 (by decide) hni
         obtain ⟨x,(d56:T.getD 56 undef=_),hx1,hx2⟩:=x56
         obtain ⟨i0,hi0,hz0,hz1,hz2⟩:=info_parts infoSL
         refine wp_push_of (.tmp 54) (.tmp 56) 64 rfl 63 i0 _ 1 24 Tryz.underlying64 hi0 hz0 hz1 hz2 rfl (by decide) l0 k vs0 d54 _ hw.t0 ⟨x,0,none⟩ 1 1 [l] d56 rfl (World.news_of_block hx2) (fun u hu=>by rw [List.mem_singleton.1 hu];exact HL1.out) (by simp only [maxLen];omega) (by omega) ?_
         intro v' w' hnew hgr hold
         refine ⟨_,rfl,hnew.owner (fun y _ hy=>hy.imp id (fun h=>Nat.le_trans hw.touch.size h)),hJ.grow 8 (by decide) hni (hw.push0 (by decide) hgr hold) (fun h=>absurd h (by decide)) (fun h=>absurd h (by decide)),?_⟩
         unfold SN;rw [if_pos rfl];exact hgr
        ·refine RStepJ.of rfl fun T W Ls hag hni hJ hdn hd=>?_
         have e4:T.getD 4 undef=_:=(agree_at hag 4 (by kernel_rfl)).trans rfl
         clear hag hd hdn
         go_simp
         exact ⟨_,rfl,rfl,hJ.add' 9 (by decide),SN.quiet 9 (by decide) (by decide) (by decide) (World.grownBy.refl _ _)⟩
        ·refine RStepJ.of rfl fun T W Ls hag hni hJ hdn hd=>?_
         have d58:T.getD 58 undef=_:=hd ⟨9,.data⟩ (by simp) rfl _ rfl
         clear hag hd hdn
         go_simp
         exact ⟨_,rfl,rfl,hJ.add' 10 (by decide),SN.quiet 10 (by decide) (by decide) (by decide) (World.grownBy.refl _ _)⟩
        ·refine RStepJ.of rfl fun T W Ls hag hni hJ hdn hd=>?_
         have d59:T.getD 59 undef=_:=hd ⟨10,.data⟩ (by simp) rfl _ rfl
         clear hag hd hdn
         go_simp
         exact ⟨_,rfl,rfl,hJ.add' 11 (by decide),SN.quiet 11 (by decide) (by decide) (by decide) (World.grownBy.refl _ _)⟩
        ·refine RStepJ.of rfl fun T W Ls hag hni hJ hdn hd=>?_
         have d60:T.getD 60 undef=_:=hd ⟨11,.data⟩ (by simp) rfl _ rfl
         have fct0:=HC1.out W (hJ.fresh 12 (by decide) hni)
         clear hag hd hdn
         go_simp
         exact ⟨_,rfl,rfl,hJ.add' 12 (by decide),SN.quiet 12 (by decide) (by decide) (by decide) (World.grownBy.refl _ _)⟩
        ·refine RStepJ.of rfl fun T W Ls hag hni hJ hdn hd=>?_
         have hw:=hJ.fresh 13 (by decide) hni
         clear hag hd hdn
         go_simp
         exact ⟨_,rfl,⟨W.heap.size,rfl,hw.touch.size,heap_alloc_new W _⟩,hJ.grow' 13 (by decide) hni (hw.grow (World.grownBy_alloc W _ _)) (fun h=>absurd h (by decide)) (fun h=>absurd h (by decide)),SN.quiet 13 (by decide) (by decide) (by decide) (World.grownBy_alloc W _ _)⟩
        ·refine RStepJ.of rfl fun T W Ls hag hni hJ hdn hd=>?_
         have e6:T.getD 6 undef=_:=(agree_at hag 6 (by kernel_rfl)).trans rfl
         clear hag hd hdn
         go_simp
         exact ⟨_,rfl,rfl,hJ.add' 14 (by decide),SN.quiet 14 (by decide) (by decide) (by decide) (World.grownBy.refl _ _)⟩
        ·refine RStepJ.of rfl fun T W Ls hag hni hJ hdn hd=>?_
         have x62:=hd ⟨13,.data⟩ (by simp) rfl _ rfl
         have d63:T.getD 63 undef=_:=hd ⟨14,.data⟩ (by simp) rfl _ rfl
         have hw:=hJ.fresh 15 (by decide) hni
         obtain ⟨q,(d62:T.getD 62 undef=_),hq,hqc⟩:=x62
         obtain ⟨v',W2,hrun,hrow,hb,hsl⟩:=copy_run (HLR.out W hw) HSP.out.1 HSP.out.2.1 HSP.out.2.2 q hqc 63
         refine wp_app_run (.tmp 62) (.tmp 63) 63 63 rfl _ _ v' W2 d62 d63 hrun ?_
         exact ⟨_,rfl,⟨hrow.owner (fun k _ hk=>Nat.le_trans hw.touch.size hk),hsl⟩,hJ.grow 15 (by decide) hni (hw.grow (growN hb)) (fun _=>hdn ⟨13,.data⟩ (by simp) rfl) (fun h=>absurd h (by decide)),SN.quiet 15 (by decide) (by decide) (by decide) (growN hb)⟩
        ·refine RStepJ.of rfl fun T W Ls hag hni hJ hdn hd=>?_
         have x64:=hd ⟨15,.data⟩ (by simp) rfl _ rfl
         have hw:=hJ.fresh 16 (by decide) hni
         obtain ⟨hur,Au,cu,(d64:T.getD 64 undef=_)⟩:=x64
         have hur':RowAt W (fun q=>w2.heap.size≤q) 9 1 (T.getD 64 undef) j xs:=hur
         rw [d64] at hur'
         obtain ⟨i0,hi0,hz0,hz1,hz2⟩:=info_parts infoSL
         refine wp_one_of 64 (.tmp 64) rfl 63 i0 _ 1 Tryz.underlying64 hi0 hz0 hz1 (by decide) (by decide) _ d64 rfl ?_
         exact ⟨_,rfl,⟨W.heap.size,_,rfl,hw.touch.size,heap_alloc_new W _,hur'.keep fun x hx _=>Below.heap_alloc W _ x hx,Au,cu,rfl⟩,hJ.grow 16 (by decide) hni (hw.grow (World.grownBy_alloc W _ _)) (fun h=>absurd h (by decide)) (fun h=>absurd h (by decide)),SN.quiet 16 (by decide) (by decide) (by decide) (World.grownBy_alloc W _ _)⟩
        ·refine RStepJ.of rfl fun T W Ls hag hni hJ hdn hd=>?_
         have d61:T.getD 61 undef=_:=hd ⟨12,.data⟩ (by simp) rfl _ rfl
         have x65:=hd ⟨16,.data⟩ (by simp) rfl _ rfl
         have hw:=hJ.fresh 17 (by decide) hni
         obtain ⟨x,u,(d65:T.getD 65 undef=_),hx1,hx2,hur,Au,cu,rfl⟩:=x65
         obtain ⟨i0,hi0,hz0,hz1,hz2⟩:=info_parts infoSL
         refine wp_push_of (.tmp 61) (.tmp 65) 64 rfl 63 i0 _ 1 24 Tryz.underlying64 hi0 hz0 hz1 hz2 rfl (by decide) l1 k vs1 d61 _ hw.t1 ⟨x,0,none⟩ 1 1 [.slice Au j cu] d65 rfl (World.news_of_block hx2) (fun u hu=>by rw [List.mem_singleton.1 hu];rfl) (by simp only [maxLen];omega) (by omega) ?_
         intro v' w' hnew hgr hold
         refine ⟨_,rfl,⟨_,hnew.owner (fun y _ hy=>hy.imp id (fun h=>Nat.le_trans hw.touch.size h)),hur.keep fun y hy e=>hgr.block y hy (fun e2=>?_),Au,cu,rfl⟩,hJ.grow 17 (by decide) hni (hw.push1 (by decide) hgr hold) (fun h=>absurd h (by decide)) (fun _=>hdn ⟨16,.data⟩ (by simp) rfl),?_⟩
         ·have h2:O y=.tab 1:=hw.t1.2 y e2.symm
          have:=HO1.out y (by rw [h2];simp)
          omega
         ·unfold SN;rw [if_neg (by decide),if_pos rfl];exact hgr
        ·refine RStepJ.of rfl fun T W Ls hag hni hJ hdn hd=>?_
         have d49:T.getD 49 undef=_:=hd ⟨0,.data⟩ (by simp) rfl _ rfl
         clear hag hd hdn
         go_simp
         exact ⟨_,rfl,rfl,hJ.add' 18 (by decide),SN.quiet 18 (by decide) (by decide) (by decide) (World.grownBy.refl _ _)⟩
        ·refine RStepJ.of rfl fun T W Ls hag hni hJ hdn hd=>?_
         have d67:T.getD 67 undef=_:=hd ⟨18,.data⟩ (by simp) rfl _ rfl
         clear hag hd hdn
         go_simp
         exact ⟨_,rfl,rfl,hJ.add' 19 (by decide),SN.quiet 19 (by decide) (by decide) (by decide) (World.grownBy.refl _ _)⟩
        ·refine RStepJ.of rfl fun T W Ls hag hni hJ hdn hd=>?_
         have d68:T.getD 68 undef=_:=hd ⟨19,.data⟩ (by simp) rfl _ rfl
         have x57:=hd ⟨8,.data⟩ (by simp) rfl _ rfl
         have hw:=hJ.fresh 20 (by decide) hni
         have x57':RowAt W (fun q=>O q=.tab 0∨w2.heap.size≤q) 63 1 (T.getD 57 undef) (k+1) (vs0++[l]):=x57
         obtain ⟨A9,c9,e57,_,_⟩:=x57'.val
         rw [e57] at x57'
         have cc:W.cell? ⟨B,0,none⟩=some l0:=HC0.out W hw
         have cf:W.frozen? ⟨B,0,none⟩=false:=HCF.out W hw
         have hdeps:=And.intro (hdn ⟨5,.phase⟩ (by simp) rfl) (And.intro (hdn ⟨7,.phase⟩ (by simp) rfl) (And.intro (hdn ⟨8,.data⟩ (by simp) rfl) (And.intro (hdn ⟨12,.phase⟩ (by simp) rfl) (And.intro (hdn ⟨15,.phase⟩ (by simp) rfl) (hdn ⟨17,.phase⟩ (by simp) rfl)))))
         have HJ2:Hid (JN14 w2 O B k l0 l1 l vs0 vs1 (fun j=>decide (20=j)||Ls j) (W.setCell ⟨B,0,none⟩ (.slice A9 (k+1) c9))):=hJ.store hni hdeps hw x57' ⟨_,_,rfl⟩
         have HS2:Hid (SN 8 17 20 B l0 l1 20 W (W.setCell ⟨B,0,none⟩ (.slice A9 (k+1) c9))):=by
          show SN _ _ _ _ _ _ _ _ _;unfold SN;rw [if_neg (by decide),if_neg (by decide),if_pos rfl];exact (Touch.refl (fun q=>q=B) W).setCell (p:=⟨B,0,none⟩) rfl _
         rw [Array.getD_eq_getD_getElem?] at e57
         clear hag hd hdn x57 x57' hdeps
         go_simp
         exact ⟨trivial,HJ2.out,HS2.out⟩
        ·refine RStepJ.of rfl fun T W Ls hag hni hJ hdn hd=>?_
         have d50:T.getD 50 undef=_:=hd ⟨1,.data⟩ (by simp) rfl _ rfl
         clear hag hd hdn
         go_simp
         exact ⟨_,rfl,rfl,hJ.add' 21 (by decide),SN.quiet 21 (by decide) (by decide) (by decide) (World.grownBy.refl _ _)⟩
        ·refine RStepJ.of rfl fun T W Ls hag hni hJ hdn hd=>?_
         have d69:T.getD 69 undef=_:=hd ⟨21,.data⟩ (by simp) rfl _ rfl
         clear hag hd hdn
         go_simp
         exact ⟨_,rfl,rfl,hJ.add' 22 (by decide),SN.quiet 22 (by decide) (by decide) (by decide) (World.grownBy.refl _ _)⟩
        ·refine RLastJ.of rfl fun T W Ls hag hall hni hJ hd=>?_
         have d70:T.getD 70 undef=_:=hd 22 _ (by simp) rfl
         have x66:=hd 17 _ (by simp) rfl
         obtain ⟨W3,v9,hj3,hrow3,⟨A9,c9,rfl⟩,rfl⟩:=hJ.done (hall 20 (by decide))
         obtain ⟨u,hv1,hur,Au,cu,rfl⟩:=hd 17 _ (by simp) rfl
         have hv1':RowAt (W3.setCell ⟨B,0,none⟩ (.slice A9 (k+1) c9)) (fun q=>O q=.tab 1∨w2.heap.size≤q) 63 1 (T.getD 66 undef) (k+1) (vs1++[.slice Au j cu]):=hv1
         obtain ⟨A8,c8,e66,hx9,hy9⟩:=hv1'.val
         clear hx9 hy9
         rw [e66] at hv1'
         have HFIN:=Lib.hid (HEND.out W3 A9 c9 A8 c8 Au cu hj3 hrow3 hv1' hur)
         obtain ⟨f,hf,hT⟩:=agree_fn hag
         have h66:=(hf 66).trans e66
         have h70:=(hf 70).trans d70
         have cc:(W3.setCell ⟨B,0,none⟩ (.slice A9 (k+1) c9)).cell? ⟨B,1,none⟩=some l1:=HFIN.out.1
         have cf:(W3.setCell ⟨B,0,none⟩ (.slice A9 (k+1) c9)).frozen? ⟨B,1,none⟩=false:=HFIN.out.2.1
         clear hag hd d70 hf hv1 hv1' hur hj3 hrow3 hJ hall hni e66
         rw [hT]
         clear hT
         simp only [List.filterMap_cons,List.filterMap_nil,List.foldl_cons,List.foldl_nil,List.setIfInBounds_toArray,List.set_cons_succ,List.set_cons_zero,h66,h70]
         rename_i hJc hKc
         go_wp2_with fail
         refine hJc _ _ ?_
         repeat apply Exists.intro
         exact ⟨⟨rfl,rfl,HFIN.out.2.2⟩,rfl⟩
       case rest =>
        obtain ⟨rfl,rfl,O3,L3,hat3,hO3,hb3⟩:=hcut
        obtain ⟨w3,rfl⟩:∃ w3,w3=wc:=⟨wc,rfl⟩
        clear HEND HLR HRAT HC0 HC1 HCF HHd HO1 hat2 hO2 hO1 a0 a1 b0 b1 hnone hlen0 hlen1' hrow hgl hgl2 hcell hcell2 HLC HL1 hlv2
        have hkz':=hkz
        have len2:((fun s=>if s<2 then Gz zs (k+1) s else Gz zs k s) 2).length=k:=Gz_len zs hkz (t:=2) (by omega)
        have len3:((fun s=>if s<2 then Gz zs (k+1) s else Gz zs k s) 3).length=k:=Gz_len zs hkz (t:=3) (by omega)
        obtain ⟨us0,c0,d0⟩:=hat3.tab 2 (by omega)
        obtain ⟨us1,c1,d1⟩:=hat3.tab 3 (by omega)
        rw [len2] at c0
        rw [len3] at c1
        have KO:Hid (∀ q,O3 q≠.none→q<w3.heap.size):=fun q hq=>(hO3 q hq).2
        have KHd:=Lib.hid hat3.ohd
        have KC0:Hid (∀ W,JJ w3 O3 2 3 k (L3 2) (L3 3) us0 us1 W→W.cell? ⟨B,2,none⟩=some (L3 2)):=fun W h=>h.cell (hat3.cell 2 (by omega)) (by rw [hat3.ohd];simp) (by rw [hat3.ohd];simp)
        have KC1:Hid (∀ W,JJ w3 O3 2 3 k (L3 2) (L3 3) us0 us1 W→W.cell? ⟨B,3,none⟩=some (L3 3)):=fun W h=>h.cell (hat3.cell 3 (by omega)) (by rw [hat3.ohd];simp) (by rw [hat3.ohd];simp)
        have KRAT:Hid (∀ W,JJ w3 O3 2 3 k (L3 2) (L3 3) us0 us1 W→RAt W O3 B L3 (fun s=>if s<2 then Gz zs (k+1) s else Gz zs k s) (-1)):=fun W h=>h.rat hat3 rfl rfl len2 len3 d0 d1
        have KCF:Hid (∀ W,JJ w3 O3 2 3 k (L3 2) (L3 3) us0 us1 W→W.frozen? ⟨B,2,none⟩=false):=fun W h=>(KRAT.out W h).free 2
        have KEND:Hid (∀ W3 A9 c9 A8 c8,JJ w3 O3 2 3 k (L3 2) (L3 3) us0 us1 W3→RowAt W3 (fun q=>O3 q=.tab 2∨w3.heap.size≤q) 115 1 (.slice A9 (k+1) c9) (k+1) (us0++[.slice none 0 0]) →
         RowAt (W3.setCell ⟨B,2,none⟩ (.slice A9 (k+1) c9)) (fun q=>O3 q=.tab 3∨w3.heap.size≤q) 63 1 (.slice A8 (k+1) c8) (k+1) (us1++[.slice none 0 0]) →
         (W3.setCell ⟨B,2,none⟩ (.slice A9 (k+1) c9)).cell? ⟨B,3,none⟩=some (L3 3)∧(W3.setCell ⟨B,2,none⟩ (.slice A9 (k+1) c9)).frozen? ⟨B,3,none⟩=false ∧
         ∃ (O4:Nat→RRole) (L4:Nat→Value),RAt ((W3.setCell ⟨B,2,none⟩ (.slice A9 (k+1) c9)).setCell ⟨B,3,none⟩ (.slice A8 (k+1) c8)) O4 B L4 (Gz zs (k+1)) (-1) ∧
          (∀ q,O4 q≠.none→B≤q∧q<((W3.setCell ⟨B,2,none⟩ (.slice A9 (k+1) c9)).setCell ⟨B,3,none⟩ (.slice A8 (k+1) c8)).heap.size)∧Below B w0 ((W3.setCell ⟨B,2,none⟩ (.slice A9 (k+1) c9)).setCell ⟨B,3,none⟩ (.slice A8 (k+1) c8))):=by
         intro W3 A9 c9 A8 c8 hj h3 h4
         have hr3:=KRAT.out W3 hj
         have hzk:zs[k]?=some ((j:Nat):Int):=HZ.out
         have hnO:∀ q,w3.heap.size≤q→O3 q=.none:=fun q hq=>Classical.byContradiction fun e=>by have:=KO.out q e;omega
         have hB3:O3 B=.hd:=KHd.out
         have rowK:∀ {t r:Nat} {E:TypeId} {sz m:Nat} {x:Value} {xs:List Value},RowAt w3 (fun q=>O3 q=.row t r) E sz x m xs→RowAt W3 (fun q=>O3 q=.row t r) E sz x m xs:=fun hx=>hj.row hx (fun q hq=>by rw [hq];exact ⟨by simp,by simp⟩)
         have hv9:∀ x,(Value.slice A9 (k+1) c9).ownBlock=some x→O3 x=.tab 2∨O3 x=.none:=fun x hx=>(h3.2 x hx).imp id (hnO x)
         have hnil:∀ x,(Value.slice none 0 0).ownBlock=some x→O3 x=.none:=fun x hx=>by cases hx
         have hI:=hr3.install (t:=2) (by omega) (v':=.slice A9 (k+1) c9) (u:=.slice none 0 0) (vs:=us0) (row:=rowZ (j:Int) 2) (n:=k) len2 (by have:=c0.len;omega)
          (fun r row hr=>by obtain ⟨u,hu,hx⟩:=d0 r row hr;exact ⟨u,hu,rowK hx⟩) (h3.owner fun q _ hq=>hq.imp id (hnO q)) (RowAt.nil _ _ _ _)
         have hsame:∀ q,O3 q≠.tab 2→O3 q≠.none→iOwn O3 2 k (.slice A9 (k+1) c9) (.slice none 0 0) q=O3 q:=fun q x1 x2=>iOwn_same hv9 hnil x1 x2
         have h3':RowAt (W3.setCell ⟨B,2,none⟩ (.slice A9 (k+1) c9)) (fun _=>True) 115 1 (.slice A9 (k+1) c9) (k+1) (us0++[.slice none 0 0]):=rowAt_store h3 (fun g he hg=>⟨trivial,fun e=>by
          rw [e] at hg
          rcases hg with hg | hg
          ·rw [hB3] at hg;cases hg
          ·rw [hnO B hg] at hB3;cases hB3⟩)
         have hnew:∀ q,w3.heap.size≤q→(Value.slice A9 (k+1) c9).ownBlock≠some q→iOwn O3 2 k (.slice A9 (k+1) c9) (.slice none 0 0) q=.none:=fun q hq hne=>by
          unfold iOwn;rw [if_neg hne,if_neg (by intro e;cases e)];exact hnO q hq
         have hI2:=hI.install (t:=3) (by omega) (v':=.slice A8 (k+1) c8) (u:=.slice none 0 0) (vs:=us1) (row:=rowZ (j:Int) 3) (n:=k) (by simpa using len3) (by have:=c1.len;omega)
          (fun r row hr=>by
            obtain ⟨u,hu,hx⟩:=d1 r row (by simpa using hr)
            exact ⟨u,hu,rowAt_store (rowK hx) (fun g _ hg=>⟨by rw [hsame g (by rw [hg];simp) (by rw [hg];simp)];exact hg,fun e=>by rw [e,hB3] at hg;cases hg⟩)⟩)
          (h4.ownerT fun g cur _ he hg=>by
            rcases hg with hg | hg
            ·exact Or.inl (by rw [hsame g (by rw [hg];simp) (by rw [hg];simp)];exact hg)
            ·exact Or.inr (hnew g hg (fun e=>h3'.apart h4 (by decide) e he)))
          (RowAt.nil _ _ _ _)
         have e:Gz zs (k+1)=fun s=>if s=3 then (fun s=>if s=2 then (fun s=>if s<2 then Gz zs (k+1) s else Gz zs k s) 2++[rowZ (j:Int) 2] else (fun s=>if s<2 then Gz zs (k+1) s else Gz zs k s) s) 3++[rowZ (j:Int) 3] else (fun s=>if s=2 then (fun s=>if s<2 then Gz zs (k+1) s else Gz zs k s) 2++[rowZ (j:Int) 2] else (fun s=>if s<2 then Gz zs (k+1) s else Gz zs k s) s) s:=by
          funext s
          by_cases s3:s=3
          ·subst s3;simp [Gz_succ zs hzk]
          ·by_cases s2:s=2
           ·subst s2;simp [Gz_succ zs hzk]
           ·by_cases s1:s<2
            ·simp [s3,s2,s1]
            ·simp only [if_neg s3,if_neg s2,if_neg s1]
             rw [Gz_far zs _ (by omega),Gz_far zs _ (by omega)]
         rw [e]
         refine ⟨by have:=hI.cell 3 (by omega);simpa using this,hI.free 3,_,_,hI2,fun q hq=>?_,?_⟩
         ·have hz5:((W3.setCell ⟨B,2,none⟩ (.slice A9 (k+1) c9)).setCell ⟨B,3,none⟩ (.slice A8 (k+1) c8)).heap.size=W3.heap.size:=by simp
          have hz4:(W3.setCell ⟨B,2,none⟩ (.slice A9 (k+1) c9)).heap.size=W3.heap.size:=by simp
          rw [hz5]
          have hsz:=hj.touch.size
          have hBw:B≤w3.heap.size:=by have:=hb3.size;have:=HBB.out;omega
          rcases iOwn_some hq with hq | hq | hq
          ·rcases iOwn_some hq with hq | hq | hq
           ·exact ⟨(hO3 q hq).1,by have:=(hO3 q hq).2;omega⟩
           ·exact ⟨(h3.2 q hq).elim (fun x=>(hO3 q (by rw [x];simp)).1) (fun x=>by omega),(h3.1.lt q hq).2⟩
           ·cases hq
          ·exact ⟨(h4.2 q hq).elim (fun x=>(hO3 q (by rw [x];simp)).1) (fun x=>by omega),by have:=(h4.1.lt q hq).2;omega⟩
          ·cases hq
         ·have hBw:B≤w3.heap.size:=by have:=hb3.size;have:=HBB.out;omega
          exact ((hb3.trans (hj.touch.below hBw (fun x hx=>(hO3 x (by rcases hx with hx | hx;rw [show O3 x=_ from c0.2 x hx];simp;rw [show O3 x=_ from c1.2 x hx];simp)).1))).setCell (Nat.le_refl _) _).setCell (Nat.le_refl _) _
        have hJ0:JN15 w3 O3 B k (L3 2) (L3 3) us0 us1 (fun _=>false) w3.drew:=Or.inl ⟨rfl,fun h=>(by cases h),⟨(Touch.refl _ _).drew,c0,c1⟩⟩
        have h0t:∀ x,(L3 2).ownBlock=some x→O3 x=.tab 2:=fun x hx=>c0.2 x hx
        have h1t:∀ x,(L3 3).ownBlock=some x→O3 x=.tab 3:=fun x hx=>c1.2 x hx
        generalize hl0:L3 2=l0 at *
        generalize hl1:L3 3=l1 at *
        clear KRAT hat3 hO3 hb3 c0 c1 d0 d1 len2 len3
        obtain ⟨vs0,hv0⟩:∃ x,x=us0:=⟨us0,rfl⟩
        obtain ⟨vs1,hv1⟩:∃ x,x=us1:=⟨us1,rfl⟩
        rw [← hv0,← hv1] at KEND KC0 KC1 KCF hJ0
        clear hv0 hv1
        go_upto_region 15 with fail
        refine wp_region_rgj (VN15 B w3.heap.size k O3 l0 l1 vs0 vs1) (JN15 w3 O3 B k l0 l1 vs0 vs1) (fun i=>SN 7 13 16 B l0 l1 i) (by kernel_rfl) (by kernel_rfl) (fun i j v w w' hij h hs=>h.on hij KO.out KHd.out h0t h1t hs) hJ0 ?_
        clear hJ0
        simp only [RAll]
        refine ⟨?_,?_,?_,?_,?_,?_,?_,?_,?_,?_,?_,?_,?_,?_,?_,?_,?_,?_,?_,?_⟩
        ·refine RStepJ.of rfl fun T W Ls hag hni hJ hdn hd=>?_
         have e4:T.getD 4 undef=_:=(agree_at hag 4 (by kernel_rfl)).trans rfl
         clear hag hd hdn
         go_simp
         exact ⟨_,rfl,rfl,hJ.add' 0 (by decide),SN.quiet 0 (by decide) (by decide) (by decide) (World.grownBy.refl _ _)⟩
        ·refine RStepJ.of rfl fun T W Ls hag hni hJ hdn hd=>?_
         have e4:T.getD 4 undef=_:=(agree_at hag 4 (by kernel_rfl)).trans rfl
         clear hag hd hdn
         go_simp
         exact ⟨_,rfl,rfl,hJ.add' 1 (by decide),SN.quiet 1 (by decide) (by decide) (by decide) (World.grownBy.refl _ _)⟩
        ·refine RStepJ.of rfl fun T W Ls hag hni hJ hdn hd=>?_
         have e4:T.getD 4 undef=_:=(agree_at hag 4 (by kernel_rfl)).trans rfl
         clear hag hd hdn
         go_simp
         exact ⟨_,rfl,rfl,hJ.add' 2 (by decide),SN.quiet 2 (by decide) (by decide) (by decide) (World.grownBy.refl _ _)⟩
        ·refine RStepJ.of rfl fun T W Ls hag hni hJ hdn hd=>?_
         have d73:T.getD 73 undef=_:=hd ⟨2,.data⟩ (by simp) rfl _ rfl
         clear hag hd hdn
         go_simp
         exact ⟨_,rfl,rfl,hJ.add' 3 (by decide),SN.quiet 3 (by decide) (by decide) (by decide) (World.grownBy.refl _ _)⟩
        ·refine RStepJ.of rfl fun T W Ls hag hni hJ hdn hd=>?_
         have d74:T.getD 74 undef=_:=hd ⟨3,.data⟩ (by simp) rfl _ rfl
         clear hag hd hdn
         go_simp
         exact ⟨_,rfl,rfl,hJ.add' 4 (by decide),SN.quiet 4 (by decide) (by decide) (by decide) (World.grownBy.refl _ _)⟩
        ·refine RStepJ.of rfl fun T W Ls hag hni hJ hdn hd=>?_
         have d75:T.getD 75 undef=_:=hd ⟨4,.data⟩ (by simp) rfl _ rfl
         have fct0:=KC0.out W (hJ.fresh 5 (by decide) hni)
         clear hag hd hdn
         go_simp
         exact ⟨_,rfl,rfl,hJ.add' 5 (by decide),SN.quiet 5 (by decide) (by decide) (by decide) (World.grownBy.refl _ _)⟩
        ·refine RStepJ.of rfl fun T W Ls hag hni hJ hdn hd=>?_
         have hw:=hJ.fresh 6 (by decide) hni
         obtain ⟨i0,hi0,hz0,hz1,hz2⟩:=info_parts infoPL
         refine wp_one_of 65 (.const (.slice none 0 0)) rfl 115 i0 _ 1 Tryz.underlying65 hi0 hz0 hz1 (by decide) (by decide) (.slice none 0 0) rfl rfl ?_
         exact ⟨_,rfl,⟨W.heap.size,rfl,hw.touch.size,heap_alloc_new W _⟩,hJ.grow 6 (by decide) hni (hw.grow (World.grownBy_alloc W _ _)) (fun h=>absurd h (by decide)),SN.quiet 6 (by decide) (by decide) (by decide) (World.grownBy_alloc W _ _)⟩
        ·refine RStepJ.of rfl fun T W Ls hag hni hJ hdn hd=>?_
         have d76:T.getD 76 undef=_:=hd ⟨5,.data⟩ (by simp) rfl _ rfl
         have x77:=hd ⟨6,.data⟩ (by simp) rfl _ rfl
         have hw:=hJ.fresh 7 (by decide) hni
         obtain ⟨x,(dx:T.getD 77 undef=_),hx1,hx2⟩:=x77
         obtain ⟨i0,hi0,hz0,hz1,hz2⟩:=info_parts infoPL
         refine wp_push_of (.tmp 76) (.tmp 77) 65 rfl 115 i0 _ 1 24 Tryz.underlying65 hi0 hz0 hz1 hz2 rfl (by decide) l0 k vs0 d76 _ hw.t0 ⟨x,0,none⟩ 1 1 [.slice none 0 0] dx rfl (World.news_of_block hx2) (fun u hu=>by rw [List.mem_singleton.1 hu];rfl) (by simp only [maxLen];omega) (by omega) ?_
         intro v' w' hnew hgr hold
         refine ⟨_,rfl,hnew.owner (fun y _ hy=>hy.imp id (fun h=>Nat.le_trans hw.touch.size h)),hJ.grow 7 (by decide) hni (hw.push0 (by decide) hgr hold) (fun h=>absurd h (by decide)),?_⟩
         unfold SN;rw [if_pos rfl];exact hgr
        ·refine RStepJ.of rfl fun T W Ls hag hni hJ hdn hd=>?_
         have e4:T.getD 4 undef=_:=(agree_at hag 4 (by kernel_rfl)).trans rfl
         clear hag hd hdn
         go_simp
         exact ⟨_,rfl,rfl,hJ.add' 8 (by decide),SN.quiet 8 (by decide) (by decide) (by decide) (World.grownBy.refl _ _)⟩
        ·refine RStepJ.of rfl fun T W Ls hag hni hJ hdn hd=>?_
         have d79:T.getD 79 undef=_:=hd ⟨8,.data⟩ (by simp) rfl _ rfl
         clear hag hd hdn
         go_simp
         exact ⟨_,rfl,rfl,hJ.add' 9 (by decide),SN.quiet 9 (by decide) (by decide) (by decide) (World.grownBy.refl _ _)⟩
        ·refine RStepJ.of rfl fun T W Ls hag hni hJ hdn hd=>?_
         have d80:T.getD 80 undef=_:=hd ⟨9,.data⟩ (by simp) rfl _ rfl
         clear hag hd hdn
         go_simp
         exact ⟨_,rfl,rfl,hJ.add' 10 (by decide),SN.quiet 10 (by decide) (by decide) (by decide) (World.grownBy.refl _ _)⟩
        ·refine RStepJ.of rfl fun T W Ls hag hni hJ hdn hd=>?_
         have d81:T.getD 81 undef=_:=hd ⟨10,.data⟩ (by simp) rfl _ rfl
         have fct0:=KC1.out W (hJ.fresh 11 (by decide) hni)
         clear hag hd hdn
         go_simp
         exact ⟨_,rfl,rfl,hJ.add' 11 (by decide),SN.quiet 11 (by decide) (by decide) (by decide) (World.grownBy.refl _ _)⟩
        ·refine RStepJ.of rfl fun T W Ls hag hni hJ hdn hd=>?_
         have hw:=hJ.fresh 12 (by decide) hni
         obtain ⟨i0,hi0,hz0,hz1,hz2⟩:=info_parts infoSL
         refine wp_one_of 64 (.const (.slice none 0 0)) rfl 63 i0 _ 1 Tryz.underlying64 hi0 hz0 hz1 (by decide) (by decide) (.slice none 0 0) rfl rfl ?_
         exact ⟨_,rfl,⟨W.heap.size,rfl,hw.touch.size,heap_alloc_new W _⟩,hJ.grow 12 (by decide) hni (hw.grow (World.grownBy_alloc W _ _)) (fun h=>absurd h (by decide)),SN.quiet 12 (by decide) (by decide) (by decide) (World.grownBy_alloc W _ _)⟩
        ·refine RStepJ.of rfl fun T W Ls hag hni hJ hdn hd=>?_
         have d82:T.getD 82 undef=_:=hd ⟨11,.data⟩ (by simp) rfl _ rfl
         have x83:=hd ⟨12,.data⟩ (by simp) rfl _ rfl
         have hw:=hJ.fresh 13 (by decide) hni
         obtain ⟨x,(dx:T.getD 83 undef=_),hx1,hx2⟩:=x83
         obtain ⟨i0,hi0,hz0,hz1,hz2⟩:=info_parts infoSL
         refine wp_push_of (.tmp 82) (.tmp 83) 64 rfl 63 i0 _ 1 24 Tryz.underlying64 hi0 hz0 hz1 hz2 rfl (by decide) l1 k vs1 d82 _ hw.t1 ⟨x,0,none⟩ 1 1 [.slice none 0 0] dx rfl (World.news_of_block hx2) (fun u hu=>by rw [List.mem_singleton.1 hu];rfl) (by simp only [maxLen];omega) (by omega) ?_
         intro v' w' hnew hgr hold
         refine ⟨_,rfl,hnew.owner (fun y _ hy=>hy.imp id (fun h=>Nat.le_trans hw.touch.size h)),hJ.grow 13 (by decide) hni (hw.push1 (by decide) hgr hold) (fun _=>hdn ⟨12,.data⟩ (by simp) rfl),?_⟩
         unfold SN;rw [if_neg (by decide),if_pos rfl];exact hgr
        ·refine RStepJ.of rfl fun T W Ls hag hni hJ hdn hd=>?_
         have d71:T.getD 71 undef=_:=hd ⟨0,.data⟩ (by simp) rfl _ rfl
         clear hag hd hdn
         go_simp
         exact ⟨_,rfl,rfl,hJ.add' 14 (by decide),SN.quiet 14 (by decide) (by decide) (by decide) (World.grownBy.refl _ _)⟩
        ·refine RStepJ.of rfl fun T W Ls hag hni hJ hdn hd=>?_
         have d85:T.getD 85 undef=_:=hd ⟨14,.data⟩ (by simp) rfl _ rfl
         clear hag hd hdn
         go_simp
         exact ⟨_,rfl,rfl,hJ.add' 15 (by decide),SN.quiet 15 (by decide) (by decide) (by decide) (World.grownBy.refl _ _)⟩
        ·refine RStepJ.of rfl fun T W Ls hag hni hJ hdn hd=>?_
         have d86:T.getD 86 undef=_:=hd ⟨15,.data⟩ (by simp) rfl _ rfl
         have x78:=hd ⟨7,.data⟩ (by simp) rfl _ rfl
         have hw:=hJ.fresh 16 (by decide) hni
         have x78':RowAt W (fun q=>O3 q=.tab 2∨w3.heap.size≤q) 115 1 (T.getD 78 undef) (k+1) (vs0++[.slice none 0 0]):=x78
         obtain ⟨A9,c9,e78,_,_⟩:=x78'.val
         rw [e78] at x78'
         have cc:W.cell? ⟨B,2,none⟩=some l0:=KC0.out W hw
         have cf:W.frozen? ⟨B,2,none⟩=false:=KCF.out W hw
         have hdeps:=And.intro (hdn ⟨5,.phase⟩ (by simp) rfl) (And.intro (hdn ⟨6,.phase⟩ (by simp) rfl) (And.intro (hdn ⟨7,.data⟩ (by simp) rfl) (And.intro (hdn ⟨11,.phase⟩ (by simp) rfl) (hdn ⟨13,.phase⟩ (by simp) rfl))))
         have HJ2:Hid (JN15 w3 O3 B k l0 l1 vs0 vs1 (fun j=>decide (16=j)||Ls j) (W.setCell ⟨B,2,none⟩ (.slice A9 (k+1) c9))):=hJ.store hni hdeps hw x78' ⟨_,_,rfl⟩
         have HS2:Hid (SN 7 13 16 B l0 l1 16 W (W.setCell ⟨B,2,none⟩ (.slice A9 (k+1) c9))):=by
          show SN _ _ _ _ _ _ _ _ _;unfold SN;rw [if_neg (by decide),if_neg (by decide),if_pos rfl];exact (Touch.refl (fun q=>q=B) W).setCell (p:=⟨B,2,none⟩) rfl _
         rw [Array.getD_eq_getD_getElem?] at e78
         clear hag hd hdn x78 x78' hdeps
         go_simp
         exact ⟨trivial,HJ2.out,HS2.out⟩
        ·refine RStepJ.of rfl fun T W Ls hag hni hJ hdn hd=>?_
         have d72:T.getD 72 undef=_:=hd ⟨1,.data⟩ (by simp) rfl _ rfl
         clear hag hd hdn
         go_simp
         exact ⟨_,rfl,rfl,hJ.add' 17 (by decide),SN.quiet 17 (by decide) (by decide) (by decide) (World.grownBy.refl _ _)⟩
        ·refine RStepJ.of rfl fun T W Ls hag hni hJ hdn hd=>?_
         have d87:T.getD 87 undef=_:=hd ⟨17,.data⟩ (by simp) rfl _ rfl
         clear hag hd hdn
         go_simp
         exact ⟨_,rfl,rfl,hJ.add' 18 (by decide),SN.quiet 18 (by decide) (by decide) (by decide) (World.grownBy.refl _ _)⟩
        ·refine RLastJ.of rfl fun T W Ls hag hall hni hJ hd=>?_
         have d88:T.getD 88 undef=_:=hd 18 _ (by simp) rfl
         have x84:=hd 13 _ (by simp) rfl
         obtain ⟨W3,v9,hj3,hrow3,⟨A9,c9,rfl⟩,rfl⟩:=hJ.done (hall 16 (by decide))
         have hv1':RowAt (W3.setCell ⟨B,2,none⟩ (.slice A9 (k+1) c9)) (fun q=>O3 q=.tab 3∨w3.heap.size≤q) 63 1 (T.getD 84 undef) (k+1) (vs1++[.slice none 0 0]):=hd 13 _ (by simp) rfl
         obtain ⟨A8,c8,e84,hx9,hy9⟩:=hv1'.val
         clear hx9 hy9
         rw [e84] at hv1'
         have HFIN:=Lib.hid (KEND.out W3 A9 c9 A8 c8 hj3 hrow3 hv1')
         obtain ⟨f,hf,hT⟩:=agree_fn hag
         have h84:=(hf 84).trans e84
         have h88:=(hf 88).trans d88
         have cc:(W3.setCell ⟨B,2,none⟩ (.slice A9 (k+1) c9)).cell? ⟨B,3,none⟩=some l1:=HFIN.out.1
         have cf:(W3.setCell ⟨B,2,none⟩ (.slice A9 (k+1) c9)).frozen? ⟨B,3,none⟩=false:=HFIN.out.2.1
         clear hag hd d88 hf hv1' hj3 hrow3 hJ hall hni e84
         rw [hT]
         clear hT
         simp only [List.filterMap_cons,List.filterMap_nil,List.foldl_cons,List.foldl_nil,List.setIfInBounds_toArray,List.set_cons_succ,List.set_cons_zero,h84,h88]
         obtain ⟨O4,L4,hat4,hO4,hb4⟩:=HFIN.out.2.2
         have HX4:=Lib.hid (And.intro hat4 (And.intro hO4 hb4))
         clear hat4 hO4 hb4
         go_wp2_with fail
         go_roundw
         case rel=>exact ⟨k+1,O4,L4,by go_num,by omega,HX4.out.1,HX4.out.2.1,HX4.out.2.2,HG2⟩
         case measure=>simp [intOf];omega
   ·obtain rfl:k=R:=by omega
    have HAT:=Lib.hid hat
    have HO:=Lib.hid hO
    have HBL:=Lib.hid hb
    have hyes:mayV zs=true:=by
     unfold mayV
     simp only [Bool.and_eq_true,decide_eq_true_eq,Bool.not_eq_true',List.any_eq_false]
     refine ⟨by rw [HR.out];omega,by rw [HR.out];omega,fun z hz=>?_⟩
     obtain ⟨i,hi⟩:=List.getElem?_of_mem hz
     have:=HG.out i z (by rw [← HR.out];exact (List.getElem?_eq_some_iff.1 hi).1) hi
     simp [this]
    have HYES:=Lib.hid hyes
    clear hat hO hb hyes HG
    go_wp2
    go_ret2
    refine ⟨?_,by rw [← HBB.out];exact HBL.out⟩
    unfold NewE
    rw [if_pos HYES.out]
    refine ⟨B,fun q=>O q≠.none,rfl,⟨O,L,?_,fun q=>Iff.rfl,fun q hq=>(HO.out q hq).2⟩,fun q hq=>by rw [← HBB.out];exact (HO.out q hq).1⟩
    have h:=HAT.out
    unfold Gz at h
    rw [List.take_of_length_le (by rw [HR.out];omega)] at h
    exact h
 ·have hno:mayV zs=false:=by
   unfold mayV
   by_cases h1:0<zs.length
   ·have:¬ zs.length≤8:=by omega
    simp [this]
   ·simp [h1]
  have HNO:=Lib.hid hno
  clear hno hy hB0
  generalize zs.length=R at *
  by_cases h1:R<1
  ·go_enter Tryz.func9,Tryz.ntmps9
   go_wp2
   go_ret2
   exact ⟨by unfold NewE;rw [HNO.out];rfl,Below.refl _ _⟩
  ·have h2:8<R:=by omega
   go_enter Tryz.func9,Tryz.ntmps9
   go_wp2
   go_ret2
   exact ⟨by unfold NewE;rw [HNO.out];rfl,Below.refl _ _⟩
end Go.Proofs.YtamnpblijdgdaaaGreat
