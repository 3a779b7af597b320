/- For VolAll: contracts and facts, part 26. -/
import Derived.Test.YtamnpblijdgdaaaGreatV25
namespace Go.Proofs.YtamnpblijdgdaaaGreat
open Go.ChangeShapes Go.WideShapes Go.ChangeAt Go.RowKit
set_option linter.unusedVariables false
set_option maxRecDepth 100000
def Poss (m:DM) (r i:Nat) (b:List Int):Prop:=(sureRow m r)[i]?=some b∨∃ x∈since m r,x.r=r∧x.i=i∧x.b=b
structure Fit (m:DM) (r N:Nat):Prop where
 ok:m.Ok
 told:Told m
 lt:r<m.now.length
 len:N≤(nowRow m r).length
theorem rowW_mem:∀ (l:List DWr) (r:Nat) (kept:Nat→Bool) (nth:Nat) (s:List (List Int)) (i:Nat) (b:List Int),(rowW l r kept nth s)[i]?=some b→s[i]?=some b∨∃ x∈l,x.r=r∧x.i=i∧x.b=b
 | [],_,_,_,s,i,b,h=>Or.inl h
 | x :: l,r,kept,nth,s,i,b,h=>by
   unfold rowW at h
   have up:∀ {s':List (List Int)},(s'[i]?=some b∨∃ y∈l,y.r=r∧y.i=i∧y.b=b)→s'[i]?=some b∨∃ y∈x :: l,y.r=r∧y.i=i∧y.b=b:=fun h=>h.imp id fun ⟨y,h1,h2⟩=>⟨y,by simp [h1],h2⟩
   split at h
   ·rename_i hr
    split at h
    ·exact Or.inl h
    ·rcases rowW_mem l r kept _ _ i b h with h1 | h1
     ·split at h1
      ·by_cases e:x.i=i
       ·have hlt:=(List.getElem?_eq_some_iff.1 h1).1
        rw [List.length_set] at hlt
        rw [e,List.getElem?_set_self hlt] at h1
        injection h1 with h1
        exact Or.inr ⟨x,by simp,hr,e,h1⟩
       ·rw [List.getElem?_set_ne e] at h1
        exact Or.inl h1
      ·exact Or.inl h1
     ·exact up (s':=s) (Or.inr h1)
   ·exact up (rowW_mem l r kept _ _ i b h)
theorem now_poss {m:DM} {r N:Nat} (h:Fit m r N) {i:Nat} {b:List Int} (hb:(nowRow m r)[i]?=some b):Poss m r i b:=by
 rw [← h.told.full r h.lt] at hb
 exact rowW_mem _ _ _ _ _ _ _ hb
theorem Fit.row {m:DM} {r N:Nat} (h:Fit m r N):m.now[r]?=some (nowRow m r):=by
 unfold nowRow
 rw [List.getD,List.getElem?_eq_getElem h.lt];rfl
theorem Fit.small {m:DM} {r N:Nat} (h:Fit m r N):N≤1000:=Nat.le_trans h.len (h.ok.rows r _ h.row).1
theorem Fit.get {m:DM} {r N:Nat} (h:Fit m r N) {i:Nat} (hi:i<N):∃ b,(nowRow m r)[i]?=some b:=⟨_,List.getElem?_eq_getElem (Nat.lt_of_lt_of_le hi h.len)⟩
theorem Fit.blk {m:DM} {r N:Nat} (h:Fit m r N) {i:Nat} {b:List Int} (hb:(nowRow m r)[i]?=some b):BlkOk b:=(h.ok.rows r _ h.row).2 b (List.mem_of_getElem? hb)
theorem Fit.hR {m:DM} {r N:Nat} (h:Fit m r N):hasR m (r:Int)=true:=by
 unfold hasR
 have:=h.lt
 simp;exact this
theorem Fit.hB {m:DM} {r N:Nat} (h:Fit m r N) (i:Nat):hasB m (r:Int) (i:Int)=decide (i<(nowRow m r).length):=by
 unfold hasB
 rw [h.hR,Int.toNat_natCast,rowLen_of h.row]
 simp
theorem Fit.rV {m:DM} {r N:Nat} (h:Fit m r N) (i:Nat):rowV m (r:Int) (i:Int)=(nowRow m r)[i]?:=by
 unfold rowV
 rw [h.hB,Int.toNat_natCast,Int.toNat_natCast]
 show (if _ then (nowRow m r)[i]? else none)=_
 by_cases hi:i<(nowRow m r).length
 ·rw [if_pos (by simpa using hi)]
 ·rw [if_neg (by simpa using hi),List.getElem?_eq_none (by omega)]
theorem Fit.rV_blk {m:DM} {r N:Nat} (h:Fit m r N) (i:Int) (b:List Int) (hb:rowV m (r:Int) i=some b):BlkOk b:=by
 unfold rowV at hb
 split at hb
 ·rename_i hh
  obtain ⟨rn,j,row,e1,rfl,hrow,hj⟩:=hasB_row hh
  rw [e1,Int.toNat_natCast,Int.toNat_natCast,List.getD,hrow] at hb
  exact (h.ok.rows rn row hrow).2 b (List.mem_of_getElem? hb)
 ·cases hb
theorem stop_write {m:DM} (hs:stopped m=true) (r i:Int) (b:List Int):m.doWrite r i b=m:=by unfold DM.doWrite;rw [if_neg (by rw [hs];simp)]
theorem stop_barrier {m:DM} (hs:stopped m=true) (r:Int):m.doBarrier r=m:=by unfold DM.doBarrier;rw [if_neg (by rw [hs];simp)]
theorem Fit.write {m:DM} {r N:Nat} (h:Fit m r N) (hs:stopped m=false) {i:Nat} (hi:i<N) {b:List Int} (hb:BlkOk b):Fit (m.doWrite r i b) r N∧(∀ j c,Poss (m.doWrite r i b) r j c→Poss m r j c∨(j=i∧c=b))∧(∀ j,(nowRow (m.doWrite r i b) r)[j]?=if j=i then some b else (nowRow m r)[j]?)∧(m.doWrite r i b).stops=m.stops:=by
 have hil:i<(nowRow m r).length:=Nat.lt_of_lt_of_le hi h.len
 have e:m.doWrite r i b=m.write r i b:=by
  unfold DM.doWrite
  rw [if_pos ⟨by rw [h.hB];simpa using hil,hb.1,hs⟩,Int.toNat_natCast,Int.toNat_natCast]
 have hn:nowRow (m.write r i b) r=(nowRow m r).set i b:=setAt_row _ _ _ _
 have hl:(m.write r i b).now.length=m.now.length:=by show (setAt _ _ _ _).length=_;unfold setAt;simp
 have h1000:=h.small
 rw [e]
 refine ⟨⟨h.ok.write h.row hil hb,h.told.write h.ok r i b (by omega),by rw [hl];exact h.lt,by rw [hn,List.length_set];exact h.len⟩,fun j c hp=>?_,fun j=>?_,rfl⟩
 ·rcases hp with hp | ⟨x,hx,h1,h2,h3⟩
  ·exact Or.inl (Or.inl hp)
  ·rw [since_write h.ok h.lt] at hx
   rcases List.mem_append.1 hx with hx | hx
   ·exact Or.inl (Or.inr ⟨x,hx,h1,h2,h3⟩)
   ·rw [List.mem_singleton.1 hx] at h2 h3
    exact Or.inr ⟨h2.symm,h3.symm⟩
 ·rw [hn,List.getElem?_set]
  by_cases hj:i=j
  ·subst hj;rw [if_pos rfl,if_pos hil,if_pos rfl]
  ·rw [if_neg hj,if_neg (fun h=>hj h.symm)]
theorem Fit.barrier {m:DM} {r N:Nat} (h:Fit m r N) (hs:stopped m=false):Fit (m.doBarrier r) r N∧(∀ j c,Poss (m.doBarrier r) r j c→(nowRow m r)[j]?=some c)∧(∀ j:Nat,(nowRow (m.doBarrier r) r)[j]?=(nowRow m r)[j]?)∧stopped (m.doBarrier r)=false∧(m.doBarrier r).stops=m.stops:=by
 have e:m.doBarrier r=m.barrier r:=by
  unfold DM.doBarrier
  rw [if_pos ⟨h.hR,hs⟩,Int.toNat_natCast]
 obtain ⟨h1,h2,h3,h4,h5⟩:=barrier_rows h.told h.ok h.lt
 rw [e]
 refine ⟨⟨(h.ok.tell h.lt).settle r _,h.told.barrier h.ok h.lt,h.lt,by rw [h3];exact h.len⟩,fun j c hp=>?_,fun j=>by rw [h3],hs,rfl⟩
 rcases hp with hp | ⟨x,hx,_⟩
 ·rw [h1] at hp;exact hp
 ·rw [h4] at hx;cases hx
theorem crash1_rest {m:DM} (h:m.Ok) {r:Nat} (hr:r<m.now.length) (bs:List Int):since (m.crash1 r bs) r=[]∧sureRow (m.crash1 r bs) r=nowRow (m.crash1 r bs) r:=by
 refine ⟨settle_since h hr (bitAt bs),?_⟩
 unfold nowRow DM.crash1
 simp [List.getD,hr]
 rfl
theorem crashN_rest {m:DM} (h:m.Ok) (ks:List (List Int)):∀ n,n≤m.now.length→∀ r,r<n→since (crashN m ks n) r=[]∧sureRow (crashN m ks n) r=nowRow (crashN m ks n) r
 | 0,_,r,hr=>by omega
 | n+1,hn,r,hr=>by
   have hok:=crashN_ok h ks n (by omega)
   have hl:n<(crashN m ks n).now.length:=by rw [(crashN_len m ks n).1];omega
   show since ((crashN m ks n).crash1 n (ks.getD n [])) r=[]∧sureRow ((crashN m ks n).crash1 n (ks.getD n [])) r=nowRow ((crashN m ks n).crash1 n (ks.getD n [])) r
   by_cases e:r=n
   ·subst e
    exact crash1_rest hok hl _
   ·obtain ⟨g1,g2,g3⟩:=crash1_other (crashN m ks n) n (ks.getD n []) e
    obtain ⟨f1,f2⟩:=crashN_rest h ks n (by omega) r (by omega)
    exact ⟨g3.trans f1,g2.trans (f2.trans g1.symm)⟩
theorem crash_rest {m:DM} (h:m.Ok) (ks:List (List Int)) {r:Nat} (hr:r<m.now.length):since (m.crash ks) r=[]∧sureRow (m.crash ks) r=nowRow (m.crash ks) r:=crashN_rest h ks _ (Nat.le_refl _) r hr
theorem Fit.crash {m:DM} {r N:Nat} (h:Fit m r N) (ks:List (List Int)):Fit (m.crash ks) r N∧(∀ j b,(nowRow (m.crash ks) r)[j]?=some b→Poss m r j b)∧(∀ j c,Poss (m.crash ks) r j c→(nowRow (m.crash ks) r)[j]?=some c):=by
 have hl:=crash_len (m:=m) ks
 have hd:=dims_crash h.ok ks
 refine ⟨⟨crash_ok h.ok ks,⟨fun r' hr' x hx=>?_,fun r' hr'=>?_⟩,by rw [hl];exact h.lt,?_⟩,fun j b hb=>?_,fun j c hp=>?_⟩
 ·rw [(crash_rest h.ok ks (by rw [← hl];exact hr')).1] at hx;cases hx
 ·rw [(crash_rest h.ok ks (by rw [← hl];exact hr')).1,(crash_rest h.ok ks (by rw [← hl];exact hr')).2];rfl
 ·have h1:=rowLen_dims (m.crash ks) r
  rw [hd,← rowLen_dims] at h1
  show _≤rowLen (m.crash ks).now r
  rw [h1];exact h.len
 ·rw [crash_row h.ok ks h.lt] at hb
  exact rowW_mem _ _ _ _ _ _ _ hb
 ·rcases hp with hp | ⟨x,hx,_⟩
  ·rw [(crash_rest h.ok ks h.lt).2] at hp;exact hp
  ·rw [(crash_rest h.ok ks h.lt).1] at hx;cases hx
structure Mtb (m:DM) (r n g e:Nat) (S0:List Bk) (Rs:List (List Wr)):Prop where
 fit:Fit m r (2+g+n)
 e1:1≤e
 e2:e<65000
 len:S0.length=n
 ok:BksOk S0
 n200:n≤200
 rs:∀ l∈Rs,MayL l∧WrsOk l
 an:(nowRow m r)[e%2]?=some (anchorB 0 e)
 ao:∀ b,(nowRow m r)[(e+1)%2]?=some b→anOk b ((e+1)%2)=true→takeA 0 b<e
 hm:∀ (i:Nat) (x:Bk),S0[i]?=some x→Untouched Rs.flatten i→(nowRow m r)[2+g+i]?=some (sealB 0 x.k i x.bs)
 lg:∃ rest,((nowRow m r).drop 2).take g=putsL e 0 Rs++rest∧¬ Taken 0 e Rs.length rest
 od:∀ i,i<g→∀ b,(nowRow m r)[2+i]?=some b→Old (e+1) b
def Fz (m:DM) (r n g:Nat) (D:List Bk→Prop) (E:Nat):Prop:=Fit m r (2+g+n)∧∀ m',Fit m' r (2+g+n)→(∀ i b,(nowRow m' r)[i]?=some b→Poss m r i b)→∃ e S0 Rs,Mtb m' r n g e S0 Rs∧D (applyW S0 Rs.flatten)∧e≤E
structure Idle (m:DM) (r n g e:Nat) (S0:List Bk) (Rs:List (List Wr)) (k:Nat) (l:List Wr) (j:Nat):Prop where
 fit:Fit m r (2+g+n)
 e1:1≤e
 e2:e<65000
 len:S0.length=n
 ok:BksOk S0
 n200:n≤200
 rs:∀ l∈Rs,MayL l∧WrsOk l
 kle:k≤Rs.length
 fits:(putsL e 0 Rs).length+j≤g
 an:∀ b,Poss m r (e%2) b→b=anchorB 0 e
 ao:∀ b,Poss m r ((e+1)%2) b→anOk b ((e+1)%2)=true→takeA 0 b<e
 hm:∀ (i:Nat) (x:Bk),S0[i]?=some x→∀ b,Poss m r (2+g+i) b→b=sealB 0 x.k i x.bs
 lg:∀ (i:Nat) (c:List Int),(putsL e 0 Rs)[i]?=some c→∀ b,Poss m r (2+i) b→b=c∨Old e b
 sure:∀ (i:Nat) (c:List Int),(putsL e 0 (Rs.take k))[i]?=some c→∀ b,Poss m r (2+i) b→b=c
 nw:∀ (i:Nat) (c:List Int),(putsL e 0 Rs)[i]?=some c→(nowRow m r)[2+i]?=some c
 part:j=0∨(MayL l∧WrsOk l∧j≤l.length)
 pt:∀ i,i<j→∀ b,Poss m r (2+((putsL e 0 Rs).length+i)) b→some b=(putL 0 e Rs.length l)[i]?∨Old e b
 ptn:∀ i,i<j→(nowRow m r)[2+((putsL e 0 Rs).length+i)]?=(putL 0 e Rs.length l)[i]?
 old:∀ i,(putsL e 0 Rs).length+j≤i→i<g→∀ b,Poss m r (2+i) b→Old e b
theorem log_at {m:DM} {r g i:Nat} {b:List Int} (h:(((nowRow m r).drop 2).take g)[i]?=some b):i<g∧(nowRow m r)[2+i]?=some b:=by
 rw [List.getElem?_take] at h
 split at h
 ·rename_i hi
  rw [List.getElem?_drop] at h
  exact ⟨hi,h⟩
 ·cases h
theorem log_len {m:DM} {r N g:Nat} (h:Fit m r N) (hg:2+g≤N):(((nowRow m r).drop 2).take g).length=g:=by
 rw [List.length_take,List.length_drop]
 have:=h.len
 omega
theorem Idle.od {m:DM} {r n g e:Nat} {S0:List Bk} {Rs:List (List Wr)} {k:Nat} {l:List Wr} {j:Nat} (h:Idle m r n g e S0 Rs k l j) {i:Nat} (hi:i<g) {b:List Int} (hb:Poss m r (2+i) b):Old (e+1) b:=by
 by_cases h1:i<(putsL e 0 Rs).length
 ·obtain ⟨c,hc⟩:∃ c,(putsL e 0 Rs)[i]?=some c:=⟨_,List.getElem?_eq_getElem h1⟩
  rcases h.lg i c hc b hb with h2 | h2
  ·rw [h2];exact (putsL_mem h.rs (List.mem_of_getElem? hc)).old h.e1
  ·exact h2.mono (Nat.le_succ _)
 ·by_cases h2:i<(putsL e 0 Rs).length+j
  ·have h3:=h.pt (i-(putsL e 0 Rs).length) (by omega) b (by rw [show (putsL e 0 Rs).length+(i-(putsL e 0 Rs).length)=i by omega];exact hb)
   rcases h3 with h3 | h3
   ·rcases h.part with h4 | ⟨h4,h5,_⟩
    ·omega
    ·exact (putL_logB h4 h5 (List.mem_of_getElem? h3.symm)).old h.e1
   ·exact h3.mono (Nat.le_succ _)
  ·exact (h.old i (by omega) hi b hb).mono (Nat.le_succ _)
theorem Idle.mtb {m:DM} {r n g e:Nat} {S0:List Bk} {Rs:List (List Wr)} {k:Nat} {l:List Wr} {j:Nat} (h:Idle m r n g e S0 Rs k l j) {m':DM} (hf:Fit m' r (2+g+n)) (hp:∀ i b,(nowRow m' r)[i]?=some b→Poss m r i b):∃ k',k≤k'∧k'≤Rs.length∧Mtb m' r n g e S0 (Rs.take k'):=by
 have hlen:=log_len (g:=g) hf (by omega)
 obtain ⟨k',h1,h2,rest,h3,h4⟩:=log_out h.e1 (by have:=h.e2;omega) l j (h.part.imp id fun h=>⟨h.1,h.2.2⟩) Rs 0 (((nowRow m' r).drop 2).take g) k h.kle h.rs (by rw [hlen];have:=h.fits;omega)
  (fun i c hc b hb=>h.lg i c hc b (hp _ _ (log_at hb).2)) (fun i c hc b hb=>h.sure i c hc b (hp _ _ (log_at hb).2))
  (fun i hi b hb=>by rw [Nat.zero_add];exact h.pt i hi b (hp _ _ (log_at hb).2)) (fun i hi b hb=>h.old i hi (log_at hb).1 b (hp _ _ (log_at hb).2))
 rw [Nat.zero_add] at h4
 have hN:∀ i,i<2+g+n→∃ b,(nowRow m' r)[i]?=some b:=fun i hi=>hf.get hi
 refine ⟨k',h1,h2,⟨hf,h.e1,h.e2,h.len,h.ok,h.n200,fun l' hl'=>h.rs l' (List.mem_of_mem_take hl'),?_,fun b hb=>h.ao b (hp _ _ hb),fun i x hx _=>?_,⟨rest,h3,by rw [List.length_take,show min k' Rs.length=k' by omega];exact h4⟩,fun i hi b hb=>h.od hi (hp _ _ hb)⟩⟩
 ·obtain ⟨b,hb⟩:=hN (e%2) (by have:=Nat.mod_lt e (show 0<2 by omega);omega)
  rw [hb,h.an b (hp _ _ hb)]
 ·have hi:=(List.getElem?_eq_some_iff.1 hx).1
  rw [h.len] at hi
  obtain ⟨b,hb⟩:=hN (2+g+i) (by omega)
  rw [hb,h.hm i x hx b (hp _ _ hb)]
theorem Idle.mtb_now {m:DM} {r n g e:Nat} {S0:List Bk} {Rs:List (List Wr)} {k:Nat} {l:List Wr} (h:Idle m r n g e S0 Rs k l 0):Mtb m r n g e S0 Rs:=by
 have hp:∀ i b,(nowRow m r)[i]?=some b→Poss m r i b:=fun i b hb=>now_poss h.fit hb
 have hlen:=log_len (g:=g) h.fit (by omega)
 have hfit:=h.fits
 have hX:((nowRow m r).drop 2).take g=putsL e 0 Rs++(((nowRow m r).drop 2).take g).drop (putsL e 0 Rs).length:=by
  apply List.ext_getElem?
  intro i
  by_cases hi:i<(putsL e 0 Rs).length
  ·rw [List.getElem?_append_left hi]
   obtain ⟨c,hc⟩:∃ c,(putsL e 0 Rs)[i]?=some c:=⟨_,List.getElem?_eq_getElem hi⟩
   rw [hc,List.getElem?_take,if_pos (by omega),List.getElem?_drop]
   exact h.nw i c hc
  ·rw [List.getElem?_append_right (by omega),List.getElem?_drop,show (putsL e 0 Rs).length+(i-(putsL e 0 Rs).length)=i by omega]
 refine ⟨h.fit,h.e1,h.e2,h.len,h.ok,h.n200,h.rs,?_,fun b hb=>h.ao b (hp _ _ hb),fun i x hx _=>?_,⟨_,hX,nt_old (by have:=h.e2;omega) fun b hb=>?_⟩,fun i hi b hb=>h.od hi (hp _ _ hb)⟩
 ·obtain ⟨b,hb⟩:=h.fit.get (i:=e%2) (by have:=Nat.mod_lt e (show 0<2 by omega);omega)
  rw [hb,h.an b (hp _ _ hb)]
 ·have hi:=(List.getElem?_eq_some_iff.1 hx).1
  rw [h.len] at hi
  obtain ⟨b,hb⟩:=h.fit.get (i:=2+g+i) (by omega)
  rw [hb,h.hm i x hx b (hp _ _ hb)]
 ·rw [List.getElem?_drop] at hb
  exact h.old _ (by omega) (log_at hb).1 b (hp _ _ (log_at hb).2)
theorem Idle.fz {m:DM} {r n g e:Nat} {S0:List Bk} {Rs:List (List Wr)} {k:Nat} {l:List Wr} {j:Nat} (h:Idle m r n g e S0 Rs k l j) {D:List Bk→Prop} {E:Nat} (hD:∀ k',k≤k'→k'≤Rs.length→D (applyW S0 (Rs.take k').flatten)) (hE:e≤E):Fz m r n g D E :=
 ⟨h.fit,fun m' hf hp=>by
   obtain ⟨k',h1,h2,h3⟩:=h.mtb hf hp
   exact ⟨e,S0,_,h3,hD k' h1 h2,hE⟩⟩
def AllSure (m:DM) (r:Nat):Prop:=∀ j c,Poss m r j c→(nowRow m r)[j]?=some c
def Go2 (m:DM) (Q F:DM→Prop):Prop:=(stopped m=false∧Q m)∨(stopped m=true∧F m)
section
variable {m:DM} {r n g e:Nat} {S0:List Bk} {Rs:List (List Wr)} {k:Nat} {l:List Wr} {j:Nat}
theorem Idle.bar (h:Idle m r n g e S0 Rs k l 0) (hs:stopped m=false):Idle (m.doBarrier r) r n g e S0 Rs Rs.length l 0∧AllSure (m.doBarrier r) r:=by
 obtain ⟨h1,h2,h3,_,_⟩:=h.fit.barrier hs
 have hp:∀ i b,Poss (m.doBarrier r) r i b→Poss m r i b:=fun i b hb=>now_poss h.fit (h2 i b hb)
 refine ⟨⟨h1,h.e1,h.e2,h.len,h.ok,h.n200,h.rs,Nat.le_refl _,h.fits,fun b hb=>h.an b (hp _ _ hb),fun b hb=>h.ao b (hp _ _ hb),fun i x hx b hb=>h.hm i x hx b (hp _ _ hb),fun i c hc b hb=>h.lg i c hc b (hp _ _ hb),fun i c hc b hb=>?_,fun i c hc=>by rw [h3];exact h.nw i c hc,Or.inl rfl,fun i hi=>by omega,fun i hi=>by omega,fun i h4 h5 b hb=>h.old i h4 h5 b (hp _ _ hb)⟩,fun i c hc=>by rw [h3];exact h2 i c hc⟩
 rw [List.take_length] at hc
 have h6:=h2 _ _ hb
 rw [h.nw i c hc] at h6
 injection h6 with h6;exact h6.symm
theorem Idle.relabel (h:Idle m r n g e S0 Rs k l 0) (l':List Wr):Idle m r n g e S0 Rs k l' 0 :=
 { h with part:=Or.inl rfl,pt:=fun i hi=>by omega,ptn:=fun i hi=>by omega }
theorem sealB_blk {k:Int} {bs:List Int} (t:Nat) (hk:0≤k∧k≤7) (h56:bs.length=56) (hB:AllB bs):BlkOk (sealB 0 k t bs):=⟨sealB_length h56,sealB_allB (by omega) hk hB⟩
theorem Idle.write (h:Idle m r n g e S0 Rs k l j) (hs:stopped m=false) (hl:MayL l∧WrsOk l) (hj:j≤l.length) (hfit:(putsL e 0 Rs).length+(1+l.length)≤g) {c:List Int} (hc:(putL 0 e Rs.length l)[j]?=some c) :
 (j<l.length→Idle (m.doWrite r ((2+((putsL e 0 Rs).length+j):Nat):Int) c) r n g e S0 Rs k l (j+1))∧(j=l.length→Idle (m.doWrite r ((2+((putsL e 0 Rs).length+j):Nat):Int) c) r n g e S0 (Rs++[l]) k [] 0):=by
 have hcb:BlkOk c:=putL_blk e Rs.length hl.1 hl.2 c (List.mem_of_getElem? hc)
 obtain ⟨f1,f2,f3,_⟩:=h.fit.write hs (i:=2+((putsL e 0 Rs).length+j)) (by omega) hcb
 have hpo:∀ i b,i≠2+((putsL e 0 Rs).length+j)→Poss (m.doWrite r ((2+((putsL e 0 Rs).length+j):Nat):Int) c) r i b→Poss m r i b:=fun i b hi hb=>(f2 i b hb).resolve_right fun h=>hi h.1
 have hno:∀ i,i≠2+((putsL e 0 Rs).length+j)→(nowRow (m.doWrite r ((2+((putsL e 0 Rs).length+j):Nat):Int) c) r)[i]?=(nowRow m r)[i]?:=fun i hi=>by rw [f3,if_neg hi]
 have hat:=f3 (2+((putsL e 0 Rs).length+j))
 rw [if_pos rfl] at hat
 have hm2:∀ x:Nat,x%2<2:=fun x=>Nat.mod_lt _ (by omega)
 have han:∀ b,Poss (m.doWrite r ((2+((putsL e 0 Rs).length+j):Nat):Int) c) r (e%2) b→b=anchorB 0 e:=fun b hb=>h.an b (hpo _ _ (by have:=hm2 e;omega) hb)
 have hao:∀ b,Poss (m.doWrite r ((2+((putsL e 0 Rs).length+j):Nat):Int) c) r ((e+1)%2) b→anOk b ((e+1)%2)=true→takeA 0 b<e:=fun b hb=>h.ao b (hpo _ _ (by have:=hm2 (e+1);omega) hb)
 have hhm:∀ (i:Nat) (x:Bk),S0[i]?=some x→∀ b,Poss (m.doWrite r ((2+((putsL e 0 Rs).length+j):Nat):Int) c) r (2+g+i) b→b=sealB 0 x.k i x.bs:=fun i x hx b hb=>h.hm i x hx b (hpo _ _ (by omega) hb)
 have hkl:(putsL e 0 (Rs.take k)).length≤(putsL e 0 Rs).length:=by
  have h5:putsL e 0 Rs=putsL e 0 (Rs.take k)++putsL e (0+(Rs.take k).length) (Rs.drop k):=by rw [← putsL_append,List.take_append_drop]
  rw [h5,List.length_append];omega
 have hsu:∀ (i:Nat) (c':List Int),(putsL e 0 (Rs.take k))[i]?=some c'→∀ b,Poss (m.doWrite r ((2+((putsL e 0 Rs).length+j):Nat):Int) c) r (2+i) b→b=c':=fun i c' hc' b hb=>h.sure i c' hc' b (hpo _ _ (by have:=(List.getElem?_eq_some_iff.1 hc').1;omega) hb)
 have hpt:∀ i,i<j+1→∀ b,Poss (m.doWrite r ((2+((putsL e 0 Rs).length+j):Nat):Int) c) r (2+((putsL e 0 Rs).length+i)) b→some b=(putL 0 e Rs.length l)[i]?∨Old e b:=fun i hi b hb=>by
  by_cases hij:i=j
  ·subst hij
   rcases f2 _ _ hb with h1 | ⟨_,h1⟩
   ·exact Or.inr (h.old _ (Nat.le_refl _) (by omega) b h1)
   ·exact Or.inl (by rw [hc,h1])
  ·exact h.pt i (by omega) b (hpo _ _ (by omega) hb)
 have hptn:∀ i,i<j+1→(nowRow (m.doWrite r ((2+((putsL e 0 Rs).length+j):Nat):Int) c) r)[2+((putsL e 0 Rs).length+i)]?=(putL 0 e Rs.length l)[i]?:=fun i hi=>by
  by_cases hij:i=j
  ·subst hij;rw [hat,hc]
  ·rw [hno _ (by omega)];exact h.ptn i (by omega)
 refine ⟨fun hjl=>⟨f1,h.e1,h.e2,h.len,h.ok,h.n200,h.rs,h.kle,by omega,han,hao,hhm,fun i c' hc' b hb=>h.lg i c' hc' b (hpo _ _ (by have:=(List.getElem?_eq_some_iff.1 hc').1;omega) hb),hsu,fun i c' hc'=>by rw [hno _ (by have:=(List.getElem?_eq_some_iff.1 hc').1;omega)];exact h.nw i c' hc',Or.inr ⟨hl.1,hl.2,hjl⟩,hpt,hptn,fun i h1 h2 b hb=>h.old i (by omega) h2 b (hpo _ _ (by omega) hb)⟩,fun hjl=>?_⟩
 have hap:putsL e 0 (Rs++[l])=putsL e 0 Rs++putL 0 e Rs.length l:=by rw [putsL_append,putsL_one,Nat.zero_add]
 have hpl:(putL 0 e Rs.length l).length=1+l.length:=putL_length _ _ _ _
 have hal:(putsL e 0 (Rs++[l])).length=(putsL e 0 Rs).length+(1+l.length):=by rw [hap,List.length_append,hpl]
 refine ⟨f1,h.e1,h.e2,h.len,h.ok,h.n200,fun l' hl'=>?_,by rw [List.length_append];have:=h.kle;omega,by rw [hal];omega,han,hao,hhm,fun i c' hc' b hb=>?_,fun i c' hc' b hb=>?_,fun i c' hc'=>?_,Or.inl rfl,fun i hi=>by omega,fun i hi=>by omega,fun i h1 h2 b hb=>h.old i (by rw [hal] at h1;omega) h2 b (hpo _ _ (by rw [hal] at h1;omega) hb)⟩
 ·rcases List.mem_append.1 hl' with h1 | h1
  ·exact h.rs l' h1
  ·rw [List.mem_singleton.1 h1];exact hl
 ·rw [hap] at hc'
  by_cases hi:i<(putsL e 0 Rs).length
  ·rw [List.getElem?_append_left hi] at hc'
   exact h.lg i c' hc' b (hpo _ _ (by omega) hb)
  ·rw [List.getElem?_append_right (by omega)] at hc'
   have hi2:=(List.getElem?_eq_some_iff.1 hc').1
   have h1:=hpt (i-(putsL e 0 Rs).length) (by omega) b (by rw [show (putsL e 0 Rs).length+(i-(putsL e 0 Rs).length)=i by omega];exact hb)
   rw [hc'] at h1
   exact h1.imp (fun h2=>by injection h2) id
 ·rw [List.take_append_of_le_length h.kle] at hc'
  exact hsu i c' hc' b hb
 ·rw [hap] at hc'
  by_cases hi:i<(putsL e 0 Rs).length
  ·rw [List.getElem?_append_left hi] at hc'
   rw [hno _ (by omega)];exact h.nw i c' hc'
  ·rw [List.getElem?_append_right (by omega)] at hc'
   have hi2:=(List.getElem?_eq_some_iff.1 hc').1
   have h1:=hptn (i-(putsL e 0 Rs).length) (by omega)
   rw [show (putsL e 0 Rs).length+(i-(putsL e 0 Rs).length)=i by omega,hc'] at h1
   exact h1
end
theorem logW_stop {m:DM} (hs:stopped m=true) (r:Int):∀ (l:List (List Int)) (o:Nat),logW r m o l=m
 | [],_=>rfl
 | b :: l,o=>by show logW r (m.doWrite r _ b) (o+1) l=m;rw [stop_write hs,logW_stop hs r l]
theorem put_go {r n g e:Nat} {S0:List Bk} {Rs:List (List Wr)} {k:Nat} {l:List Wr} {F:DM→Prop} (hl:MayL l∧WrsOk l) (hfit:(putsL e 0 Rs).length+(1+l.length)≤g) (hF:∀ m j,Idle m r n g e S0 Rs k l j→F m) (hF2:∀ m,Idle m r n g e S0 (Rs++[l]) k [] 0→F m) :
 ∀ (d:Nat) (m:DM) (j:Nat),j+d=l.length→Go2 m (fun m=>Idle m r n g e S0 Rs k l j) F→Go2 (logW r m ((putsL e 0 Rs).length+j) ((putL 0 e Rs.length l).drop j)) (fun m=>Idle m r n g e S0 (Rs++[l]) k [] 0) F:=by
 intro d
 have hpl:(putL 0 e Rs.length l).length=1+l.length:=putL_length _ _ _ _
 induction d with
 | zero =>
   intro m j hj hg
   obtain ⟨c,hc⟩:∃ c,(putL 0 e Rs.length l)[j]?=some c:=⟨_,List.getElem?_eq_getElem (by omega)⟩
   have hd:(putL 0 e Rs.length l).drop j=[c]:=by
    rw [List.drop_eq_getElem_cons (by omega),(List.getElem?_eq_some_iff.1 hc).2,List.drop_of_length_le (by omega)]
   rw [hd]
   show Go2 (m.doWrite r ((2+((putsL e 0 Rs).length+j):Nat):Int) c) _ _
   rcases hg with ⟨hs,hI⟩ | ⟨hs,hf⟩
   ·have h1:=(hI.write hs hl (by omega) hfit hc).2 (by omega)
    cases hs2:stopped (m.doWrite r ((2+((putsL e 0 Rs).length+j):Nat):Int) c)
    ·exact Or.inl ⟨hs2,h1⟩
    ·exact Or.inr ⟨hs2,hF2 _ h1⟩
   ·rw [stop_write hs];exact Or.inr ⟨hs,hf⟩
 | succ d ih =>
   intro m j hj hg
   obtain ⟨c,hc⟩:∃ c,(putL 0 e Rs.length l)[j]?=some c:=⟨_,List.getElem?_eq_getElem (by omega)⟩
   rw [List.drop_eq_getElem_cons (by omega),(List.getElem?_eq_some_iff.1 hc).2]
   show Go2 (logW r (m.doWrite r ((2+((putsL e 0 Rs).length+j):Nat):Int) c) ((putsL e 0 Rs).length+j+1) _) _ _
   refine ih _ (j+1) (by omega) ?_
   rcases hg with ⟨hs,hI⟩ | ⟨hs,hf⟩
   ·have h1:=(hI.write hs hl (by omega) hfit hc).1 (by omega)
    cases hs2:stopped (m.doWrite r ((2+((putsL e 0 Rs).length+j):Nat):Int) c)
    ·exact Or.inl ⟨hs2,h1⟩
    ·exact Or.inr ⟨hs2,hF _ _ h1⟩
   ·rw [stop_write hs];exact Or.inr ⟨hs,hf⟩
structure Tied (v:VM) (r n g e:Nat) (S0:List Bk) (Rs:List (List Wr)):Prop where
 vr:v.r=(r:Int)
 vn:v.n=n
 vg:v.g=g
 ve:v.ep=e
 vok:v.Ok
 val:v.B.map val=applyW S0 Rs.flatten
 fl:∀ (i:Nat) (x:HB),v.B[i]?=some x→x.lg=false→Untouched Rs.flatten i
theorem Tied.at_ {v:VM} {r n g e:Nat} {S0:List Bk} {Rs:List (List Wr)} (h:Tied v r n g e S0 Rs) {i:Nat} {x:HB} (hx:v.B[i]?=some x):(applyW S0 Rs.flatten)[i]?=some (Proofs.YtamnpblijdgdaaaGreat.val x):=by
 rw [← h.val,List.getElem?_map,hx];rfl
theorem homeW_stop {m:DM} (hs:stopped m=true) (r:Int) (g:Nat):∀ (l:List HB) (o:Nat),homeW r g m o l=m
 | [],_=>rfl
 | x :: l,o=>by
   show homeW r g (if x.lg then m.doWrite r _ _ else m) (o+1) l=m
   rw [show (if x.lg then m.doWrite r ((2+g+o:Nat):Int) (sealB 0 x.k o x.bs) else m)=m by split;exact stop_write hs _ _ _;rfl,homeW_stop hs r g l]
theorem begin_stop {m:DM} (hs:stopped m=true) (r:Int) (e:Nat):m.doBegin r e=m:=by
 unfold DM.doBegin
 rw [stop_barrier hs,stop_write hs,stop_barrier hs]
theorem home_now {r g N:Nat}:∀ (l:List HB) (o:Nat) (m:DM),Fit m r N→2+g+o+l.length≤N→HBsOk l→stopped (homeW r g m o l)=false →
 Fit (homeW r g m o l) r N∧(∀ j,(j<2+g+o∨2+g+o+l.length≤j)→(nowRow (homeW r g m o l) r)[j]?=(nowRow m r)[j]?)∧∀ (i:Nat) (x:HB),l[i]?=some x→(nowRow (homeW r g m o l) r)[2+g+(o+i)]?=if x.lg then some (sealB 0 x.k (o+i) x.bs) else (nowRow m r)[2+g+(o+i)]?
 | [],o,m,hf,_,_,_=>⟨hf,fun _ _=>rfl,fun i x hx=>by cases hx⟩
 | y :: l,o,m,hf,hN,hok,hst=>by
   rw [List.length_cons] at hN
   have hy:=hok y (by simp)
   have hs:stopped m=false:=by
    cases hs:stopped m
    ·rfl
    ·rw [homeW_stop hs,hs] at hst;cases hst
   have hst':stopped (homeW r g (if y.lg then m.doWrite r ((2+g+o:Nat):Int) (sealB 0 y.k o y.bs) else m) (o+1) l)=false:=hst
   cases hlg:y.lg
   ·rw [hlg] at hst'
    obtain ⟨h1,h2,h3⟩:=home_now l (o+1) m hf (by omega) (fun x hx=>hok x (by simp [hx])) hst'
    have e:homeW r g m o (y :: l)=homeW r g m (o+1) l:=by show homeW r g (if y.lg then _ else _) (o+1) l=_;rw [hlg];rfl
    rw [e]
    refine ⟨h1,fun j hj=>h2 j (by rw [List.length_cons] at hj;omega),fun i x hx=>?_⟩
    cases i with
    | zero =>
      injection hx with hx;subst hx
      rw [hlg,Nat.add_zero,h2 _ (by omega)];rfl
    | succ i =>
      have:=h3 i x hx
      rw [show o+1+i=o+(i+1) by omega] at this
      exact this
   ·rw [hlg] at hst'
    obtain ⟨w1,_,w3,_⟩:=hf.write hs (i:=2+g+o) (by omega) (sealB_blk o hy.k hy.len hy.b)
    obtain ⟨h1,h2,h3⟩:=home_now l (o+1) _ w1 (by omega) (fun x hx=>hok x (by simp [hx])) hst'
    have e:homeW r g m o (y :: l)=homeW r g (m.doWrite r ((2+g+o:Nat):Int) (sealB 0 y.k o y.bs)) (o+1) l:=by show homeW r g (if y.lg then _ else _) (o+1) l=_;rw [hlg];rfl
    rw [e]
    refine ⟨h1,fun j hj=>by rw [h2 j (by rw [List.length_cons] at hj;omega),w3,if_neg (by rw [List.length_cons] at hj;omega)],fun i x hx=>?_⟩
    cases i with
    | zero =>
      injection hx with hx;subst hx
      show (nowRow _ r)[2+g+o]?=if y.lg then some (sealB 0 y.k o y.bs) else (nowRow m r)[2+g+o]?
      rw [hlg,h2 _ (by omega),w3,if_pos rfl];rfl
    | succ i =>
      have:=h3 i x hx
      rw [show o+1+i=o+(i+1) by omega,w3,if_neg (show ¬ 2+g+(o+(i+1))=2+g+o by omega)] at this
      exact this
theorem takeA_anchor {e:Nat} (he:e<65000):takeA 0 (anchorB 0 e)=e:=by
 unfold takeA
 rw [if_pos ((takenA_anchor (lb:=0) (lb':=0) (e:=e) (by omega)).2 ⟨rfl,by omega⟩)]
 exact anE_anchor (by omega)
theorem idle_of_now {m:DM} {r n g e:Nat} {S:List Bk} (fit:Fit m r (2+g+n)) (hs:AllSure m r) (e1:1≤e) (e2:e<65000) (len:S.length=n) (ok:BksOk S) (n200:n≤200) (an:(nowRow m r)[e%2]?=some (anchorB 0 e)) (ao:∀ b,(nowRow m r)[(e+1)%2]?=some b→anOk b ((e+1)%2)=true→takeA 0 b<e)
 (hm:∀ (i:Nat) (x:Bk),S[i]?=some x→(nowRow m r)[2+g+i]?=some (sealB 0 x.k i x.bs)) (od:∀ i,i<g→∀ b,(nowRow m r)[2+i]?=some b→Old e b):Idle m r n g e S [] 0 [] 0 :=
 ⟨fit,e1,e2,len,ok,n200,(fun l hl=>by cases hl),Nat.le_refl _,Nat.zero_le _,fun b hb=>by have:=hs _ _ hb;rw [an] at this;injection this with this;exact this.symm,fun b hb=>ao b (hs _ _ hb),fun i x hx b hb=>by have:=hs _ _ hb;rw [hm i x hx] at this;injection this with this;exact this.symm,(fun i c hc=>by cases hc),(fun i c hc=>by cases hc),(fun i c hc=>by cases hc),Or.inl rfl,fun i hi=>by omega,fun i hi=>by omega,fun i _ hi b hb=>od i hi b (hs _ _ hb)⟩
theorem begin_now {m:DM} {r N e:Nat} (hf:Fit m r N) (hN:2≤N) (hst:stopped (m.doBegin r e)=false):Fit (m.doBegin r e) r N∧AllSure (m.doBegin r e) r∧∀ j,(nowRow (m.doBegin r e) r)[j]?=if j=e%2 then some (anchorB 0 e) else (nowRow m r)[j]?:=by
 have hs:stopped m=false:=by
  cases hs:stopped m
  ·rfl
  ·rw [begin_stop hs,hs] at hst;cases hst
 obtain ⟨b1,_,b3,b4,_⟩:=hf.barrier hs
 have hm2:e%2<2:=Nat.mod_lt _ (by omega)
 obtain ⟨w1,_,w3,_⟩:=b1.write b4 (i:=e%2) (by omega) ⟨anchorB_length 0 e,anchorB_allB e (by omega)⟩
 have hst':stopped (((m.doBarrier r).doWrite r ((e%2:Nat):Int) (anchorB 0 e)).doBarrier r)=false:=hst
 have hs2:stopped ((m.doBarrier r).doWrite r ((e%2:Nat):Int) (anchorB 0 e))=false:=by
  cases hs2:stopped ((m.doBarrier r).doWrite r ((e%2:Nat):Int) (anchorB 0 e))
  ·rfl
  ·rw [stop_barrier hs2,hs2] at hst';cases hst'
 obtain ⟨c1,c2,c3,_,_⟩:=w1.barrier hs2
 refine ⟨c1,fun j c hc=>?_,fun j=>?_⟩
 ·show (nowRow (((m.doBarrier r).doWrite r ((e%2:Nat):Int) (anchorB 0 e)).doBarrier r) r)[j]?=_
  rw [c3];exact c2 j c hc
 ·show (nowRow (((m.doBarrier r).doWrite r ((e%2:Nat):Int) (anchorB 0 e)).doBarrier r) r)[j]?=_
  rw [c3,w3,b3]
theorem Mtb.home {m:DM} {r n g e:Nat} {S0:List Bk} {Rs:List (List Wr)} {v:VM} (h:Mtb m r n g e S0 Rs) (ht:Tied v r n g e S0 Rs) (he:e+1<65000) (hst:stopped (homeM m v)=false):Idle (homeM m v) r n g (e+1) (applyW S0 Rs.flatten) [] 0 [] 0∧AllSure (homeM m v) r:=by
 unfold homeM at hst ⊢
 rw [ht.vr,ht.vg,ht.ve] at hst ⊢
 have hBl:v.B.length=n:=ht.vok.len.trans ht.vn
 have hs1:stopped (homeW r g m 0 v.B)=false:=by
  cases hs:stopped (homeW r g m 0 v.B)
  ·rfl
  ·rw [begin_stop hs,hs] at hst;cases hst
 obtain ⟨h1,h2,h3⟩:=home_now v.B 0 m h.fit (by omega) ht.vok.ok hs1
 obtain ⟨c1,c2,c3⟩:=begin_now h1 (by omega) hst
 have hm2:∀ x:Nat,x%2<2:=fun x=>Nat.mod_lt _ (by omega)
 have hlen:(applyW S0 Rs.flatten).length=n:=by rw [applyW_length];exact h.len
 refine ⟨idle_of_now c1 c2 (by omega) he hlen (applyW_ok (fun w hw=>?_) (fun w hw=>?_) h.ok) h.n200 (by rw [c3,if_pos rfl]) (fun b hb ha=>?_) (fun i x hx=>?_) (fun i hi b hb=>?_),c2⟩
 ·obtain ⟨l,hl,hw⟩:=List.mem_flatten.1 hw
  exact (h.rs l hl).2 w hw
 ·obtain ⟨l,hl,hw⟩:=List.mem_flatten.1 hw
  exact (h.rs l hl).1.kinds w hw
 ·rw [c3,if_neg (by omega),h2 _ (by have:=hm2 (e+1+1);omega),show (e+1+1)%2=e%2 by omega,h.an] at hb
  injection hb with hb
  rw [← hb,takeA_anchor (by omega)];omega
 ·have hi:=(List.getElem?_eq_some_iff.1 hx).1
  rw [hlen] at hi
  obtain ⟨y,hy⟩:∃ y,v.B[i]?=some y:=⟨_,List.getElem?_eq_getElem (by omega)⟩
  have hxy:=ht.at_ hy
  rw [hx] at hxy
  injection hxy with hxy
  have h4:=h3 i y hy
  rw [Nat.zero_add] at h4
  rw [c3,if_neg (by have:=hm2 (e+1);omega),h4,hxy]
  cases hlg:y.lg
  ·have hu:=ht.fl i y hy hlg
   rw [applyW_unt _ _ _ hu] at hx
   have h5:=h.hm i x hx hu
   rw [hxy] at h5
   exact h5
  ·rfl
 ·rw [c3,if_neg (by have:=hm2 (e+1);omega),h2 _ (by omega)] at hb
  exact h.od i hi b hb
end Go.Proofs.YtamnpblijdgdaaaGreat
