/- For VolAll: contracts and facts, part 27. -/
import Derived.Test.YtamnpblijdgdaaaGreatV26
namespace Go.Proofs.YtamnpblijdgdaaaGreat
open Go.ChangeShapes Go.WideShapes Go.ChangeAt Go.RowKit
set_option linter.unusedVariables false
set_option maxRecDepth 100000
theorem ns_of {m:DM} (h:m.stops=false):stopped m=false:=by unfold stopped;rw [h];rfl
theorem ns_write (m:DM) (r i:Int) (b:List Int):(m.doWrite r i b).stops=m.stops:=by unfold DM.doWrite;split <;> rfl
theorem ns_barrier (m:DM) (r:Int):(m.doBarrier r).stops=m.stops:=by unfold DM.doBarrier;split <;> rfl
theorem ns_begin (m:DM) (r:Int) (e:Nat):(m.doBegin r e).stops=m.stops:=by unfold DM.doBegin;rw [ns_barrier,ns_write,ns_barrier]
theorem ns_log (r:Int):∀ (l:List (List Int)) (m:DM) (o:Nat),(logW r m o l).stops=m.stops
 | [],_,_=>rfl
 | b :: l,m,o=>by show (logW r _ (o+1) l).stops=_;rw [ns_log r l,ns_write]
theorem ns_homeW (r:Int) (g:Nat):∀ (l:List HB) (m:DM) (o:Nat),(homeW r g m o l).stops=m.stops
 | [],_,_=>rfl
 | x :: l,m,o=>by
   show (homeW r g _ (o+1) l).stops=_
   rw [ns_homeW r g l]
   split
   ·exact ns_write _ _ _ _
   ·rfl
theorem ns_home (m:DM) (v:VM):(homeM m v).stops=m.stops:=by unfold homeM;rw [ns_begin,ns_homeW]
theorem ns_tidy (m:DM) (v:VM):(tidyM m v).stops=m.stops:=by unfold tidyM;rw [ns_home,ns_barrier]
theorem ns_ch (m:DM) (v:VM) (l:List Wr):(chM m v l).stops=m.stops:=by
 unfold chM putM
 split
 ·split
  ·rw [ns_log,ns_tidy]
  ·rw [ns_log]
 ·rfl
theorem ns_first (r:Int) (g:Nat) (m:DM):∀ k,(firstW r g m k).stops=m.stops
 | 0=>rfl
 | k+1=>by show (DM.doWrite _ _ _ _).stops=_;rw [ns_write,ns_first r g m k]
theorem ns_make (m:DM) (r:Int) (n g:Nat):(makeM m r n g).stops=m.stops:=by unfold makeM;rw [ns_begin,ns_first]
def firstS (n:Nat):List Bk:=(List.range n).map fun i=>⟨firstK i,firstB i⟩
theorem firstS_at {n i:Nat} {x:Bk} (h:(firstS n)[i]?=some x):i<n∧x=⟨firstK i,firstB i⟩:=by
 unfold firstS at h
 rw [List.getElem?_map] at h
 obtain ⟨j,hj,rfl⟩:=Option.map_eq_some_iff.1 h
 have hl:=(List.getElem?_eq_some_iff.1 hj).1
 rw [List.length_range] at hl
 rw [List.getElem?_range hl] at hj
 injection hj with hj;subst hj
 exact ⟨hl,rfl⟩
theorem firstS_len (n:Nat):(firstS n).length=n:=by unfold firstS;simp
theorem firstS_ok (n:Nat):BksOk (firstS n):=fun x hx=>by
 obtain ⟨i,hi⟩:=List.getElem?_of_mem hx
 rw [(firstS_at hi).2]
 exact ⟨firstK_ok i,firstB_len i,firstB_ok i⟩
theorem first_now {r g N:Nat} {m:DM} (hf:Fit m r N) (hns:m.stops=false):∀ k,2+g+k≤N→Fit (firstW r g m k) r N∧(∀ j,(j<2+g∨2+g+k≤j)→(nowRow (firstW r g m k) r)[j]?=(nowRow m r)[j]?)∧∀ i,i<k→(nowRow (firstW r g m k) r)[2+g+i]?=some (sealB 0 (firstK i) i (firstB i))
 | 0,_=>⟨hf,fun _ _=>rfl,fun i hi=>by omega⟩
 | k+1,hN=>by
   obtain ⟨h1,h2,h3⟩:=first_now (g:=g) hf hns k (by omega)
   have hs:stopped (firstW r g m k)=false:=ns_of (by rw [ns_first];exact hns)
   obtain ⟨w1,_,w3,_⟩:=h1.write hs (i:=2+g+k) (by omega) (sealB_blk k (firstK_ok k) (firstB_len k) (firstB_ok k))
   refine ⟨w1,fun j hj=>?_,fun i hi=>?_⟩
   ·show (nowRow (DM.doWrite _ _ _ _) r)[j]?=_
    rw [w3,if_neg (by omega)];exact h2 j (by omega)
   ·show (nowRow (DM.doWrite _ _ _ _) r)[2+g+i]?=_
    rw [w3]
    by_cases hik:i=k
    ·subst hik;rw [if_pos rfl]
    ·rw [if_neg (by omega)];exact h3 i (by omega)
theorem zero_no_anchor:anOk z64b 0=false:=by
 unfold anOk
 rw [decide_eq_false]
 ·rfl
 ·rintro ⟨_,_,h⟩
  have h2:=congrArg (fun b:List Int=>b[0]?) h
  rw [show (anchorB 0 (anE z64b))[0]?=some 65 from rfl] at h2
  exact absurd h2 (by decide)
theorem make_idle {m:DM} {r n g:Nat} (hf:Fit m r (2+g+n)) (hns:m.stops=false) (hn:n≤200) (hz:∀ i b,i<2+g→(nowRow m r)[i]?=some b→b=z64b):Idle (makeM m r n g) r n g 1 (firstS n) [] 0 [] 0∧AllSure (makeM m r n g) r:=by
 obtain ⟨h1,h2,h3⟩:=first_now (g:=g) hf hns n (Nat.le_refl _)
 have hst:stopped ((firstW r g m n).doBegin r 1)=false:=ns_of (by rw [ns_begin,ns_first];exact hns)
 obtain ⟨c1,c2,c3⟩:=begin_now h1 (by omega) hst
 refine ⟨idle_of_now c1 c2 (by omega) (by omega) (firstS_len n) (firstS_ok n) hn (by show (nowRow ((firstW r g m n).doBegin r 1) r)[1%2]?=_;rw [c3,if_pos rfl]) (fun b hb ha=>?_) (fun i x hx=>?_) (fun i hi b hb=>?_),c2⟩
 ·have hb':(nowRow ((firstW r g m n).doBegin r 1) r)[0]?=some b:=hb
  rw [c3,if_neg (by omega),h2 _ (by omega)] at hb'
  rw [hz 0 b (by omega) hb'] at ha
  have ha':anOk z64b 0=true:=ha
  rw [zero_no_anchor] at ha';cases ha'
 ·obtain ⟨hi,rfl⟩:=firstS_at hx
  show (nowRow ((firstW r g m n).doBegin r 1) r)[2+g+i]?=_
  rw [c3,if_neg (by omega)];exact h3 i hi
 ·have hb':(nowRow ((firstW r g m n).doBegin r 1) r)[2+i]?=some b:=hb
  rw [c3,if_neg (by omega),h2 _ (by omega)] at hb'
  exact Or.inl (hz _ b (by omega) hb')
theorem anOk_anchor {e:Nat} (he:e<65000):anOk (anchorB 0 e) (e%2)=true:=by
 unfold anOk
 rw [takeA_anchor he,decide_eq_true ((takenA_anchor (lb:=0) (lb':=0) (e:=e) (by omega)).2 ⟨rfl,by omega⟩),decide_eq_true rfl];rfl
theorem Mtb.epN {m:DM} {r n g e:Nat} {S0:List Bk} {Rs:List (List Wr)} (h:Mtb m r n g e S0 Rs):epN (rowV m r) 2=(e,true):=by
 have r0:=h.fit.rV 0
 have r1:=h.fit.rV 1
 obtain ⟨b0,hb0⟩:=h.fit.get (i:=0) (by omega)
 obtain ⟨b1,hb1⟩:=h.fit.get (i:=1) (by omega)
 rw [hb0] at r0
 rw [hb1] at r1
 have e2:=h.e2
 have ha:=anOk_anchor e2
 have ht:=takeA_anchor e2
 have h1:Proofs.YtamnpblijdgdaaaGreat.epN (rowV m r) 1=if anOk b0 0 then (max 0 (takeA 0 b0),true) else (0,false):=by
  show (if anOk ((rowV m r ((0:Nat):Int)).getD []) 0 then (max _ (takeA 0 ((rowV m r ((0:Nat):Int)).getD [])),true) else _)=_
  rw [r0];rfl
 have h2:Proofs.YtamnpblijdgdaaaGreat.epN (rowV m r) 2=if anOk b1 1 then (max (Proofs.YtamnpblijdgdaaaGreat.epN (rowV m r) 1).1 (takeA 0 b1),true) else Proofs.YtamnpblijdgdaaaGreat.epN (rowV m r) 1:=by
  show (if anOk ((rowV m r ((1:Nat):Int)).getD []) 1 then (max _ (takeA 0 ((rowV m r ((1:Nat):Int)).getD [])),true) else _)=_
  rw [r1];rfl
 rcases Nat.mod_two_eq_zero_or_one e with hm | hm
 ·have hb:=h.an
  rw [hm,hb0] at hb
  injection hb with hb
  rw [hm,← hb] at ha
  rw [← hb] at ht
  rw [h2,h1,ha,if_pos rfl,ht]
  have ho:=h.ao b1 (by rw [show (e+1)%2=1 by omega];exact hb1)
  rw [show (e+1)%2=1 by omega] at ho
  split
  ·rename_i hq
   have:=ho hq
   show (max (max 0 e) (takeA 0 b1),true)=_
   rw [show max (max 0 e) (takeA 0 b1)=e by omega]
  ·show (max 0 e,true)=_
   rw [show max 0 e=e by omega]
 ·have hb:=h.an
  rw [hm,hb1] at hb
  injection hb with hb
  rw [hm,← hb] at ha
  rw [← hb] at ht
  rw [h2,ha,if_pos rfl,ht,h1]
  have ho:=h.ao b0 (by rw [show (e+1)%2=0 by omega];exact hb0)
  rw [show (e+1)%2=0 by omega] at ho
  split
  ·rename_i hq
   have:=ho hq
   show (max (max 0 (takeA 0 b0)) e,true)=_
   rw [show max (max 0 (takeA 0 b0)) e=e by omega]
  ·show (max 0 e,true)=_
   rw [show max 0 e=e by omega]
def homeX (m:DM) (r g:Nat) (i:Nat):List Int:=(nowRow m r).getD (2+g+i) []
def mntV (m:DM) (r n g e:Nat) (fr:Int) (Rs:List (List Wr)):VM:=⟨r,fr,n,g,fetchB (homeX m r g) 0 (layB (List.replicate n zH) Rs.flatten),e,0,0⟩
theorem zeros_rel (n:Nat) (S0:List Bk) (hl:S0.length=n):∀ (i:Nat) (x:HB),(List.replicate n zH)[i]?=some x→(x.lg=true→S0[i]?=some (val x))∧(x.lg=false→S0[i]?=S0[i]?):=fun i x hx=>by
 have:=List.mem_of_getElem? hx
 rw [List.eq_of_mem_replicate this]
 exact ⟨fun h=>(by cases h),fun _=>rfl⟩
theorem Mtb.x_at {m:DM} {r n g e:Nat} {S0:List Bk} {Rs:List (List Wr)} (h:Mtb m r n g e S0 Rs) {i:Nat} {x:Bk} (hx:S0[i]?=some x) (hu:Untouched Rs.flatten i):homeX m r g i=sealB 0 x.k i x.bs:=by
 unfold homeX
 rw [List.getD,h.hm i x hx hu];rfl
theorem Mtb.flOk {m:DM} {r n g e:Nat} {S0:List Bk} {Rs:List (List Wr)} (h:Mtb m r n g e S0 Rs):WrsOk Rs.flatten∧KindsOk Rs.flatten:=⟨fun w hw=>by
 obtain ⟨l,hl,hw⟩:=List.mem_flatten.1 hw
 exact (h.rs l hl).2 w hw,fun w hw=>by
 obtain ⟨l,hl,hw⟩:=List.mem_flatten.1 hw
 exact (h.rs l hl).1.kinds w hw⟩
theorem zH_all (n:Nat):HBsOk (List.replicate n zH):=fun x hx=>by rw [List.eq_of_mem_replicate hx];exact zH_ok
theorem Mtb.tied {m:DM} {r n g e:Nat} {S0:List Bk} {Rs:List (List Wr)} (h:Mtb m r n g e S0 Rs) (fr:Int) (hr:r<1000) (hg:g≤1000):Tied (mntV m r n g e fr Rs) r n g e S0 Rs:=by
 have hrel:=lay_rel Rs.flatten (List.replicate n zH) S0 (fun i=>S0[i]?) (by rw [List.length_replicate,h.len]) (zeros_rel n S0 h.len)
 have hBl:(layB (List.replicate n zH) Rs.flatten).length=n:=by rw [layB_length,List.length_replicate]
 have hBo:=layB_ok (B:=List.replicate n zH) h.flOk.1 h.flOk.2 (zH_all n)
 have key:∀ (i:Nat) (x:HB),(layB (List.replicate n zH) Rs.flatten)[i]?=some x→val (gotH (homeX m r g) i x)∈(applyW S0 Rs.flatten)[i]?∧(gotH (homeX m r g) i x).Ok:=fun i x hx=>by
  have h1:=hrel i x hx
  have hi:=(List.getElem?_eq_some_iff.1 hx).1
  cases hlg:x.lg
  ·obtain ⟨h2,h3,_⟩:=h1.2 hlg
   obtain ⟨y,hy⟩:∃ y,S0[i]?=some y:=⟨_,List.getElem?_eq_getElem (by rw [h.len];omega)⟩
   have hyo:=h.ok y (List.mem_of_getElem? hy)
   have hX:=h.x_at hy h3
   have e1:gotH (homeX m r g) i x=⟨y.k,y.bs,false⟩:=by
    unfold gotH
    rw [hlg,hX,opK_seal,opBs_seal hyo.len];rfl
   rw [e1]
   exact ⟨by rw [h2,hy];rfl,⟨hyo.k,hyo.len,hyo.b⟩⟩
  ·have e1:gotH (homeX m r g) i x=x:=by unfold gotH;rw [hlg];rfl
   rw [e1]
   exact ⟨by rw [h1.1 hlg];rfl,hBo x (List.mem_of_getElem? hx)⟩
 refine ⟨rfl,rfl,rfl,rfl,⟨?_,fun y hy=>?_,h.n200,hg,(by show i64 (r:Int);constructor <;> omega),by have:=h.e2;show e<4294967296;omega,by show (0:Nat)<4294967296;omega,by show (0:Nat)≤2000;omega⟩,?_,fun i x hx hlg=>?_⟩
 ·show (fetchB _ 0 _).length=n
  rw [fetchB_length,hBl]
 ·obtain ⟨i,hi⟩:=List.getElem?_of_mem hy
  have hi':(fetchB (homeX m r g) 0 (layB (List.replicate n zH) Rs.flatten))[i]?=some y:=hi
  rw [fetchB_at] at hi'
  obtain ⟨x,hx,rfl⟩:=Option.map_eq_some_iff.1 hi'
  rw [Nat.zero_add]
  exact (key i x hx).2
 ·apply List.ext_getElem?
  intro i
  show ((fetchB (homeX m r g) 0 (layB (List.replicate n zH) Rs.flatten)).map val)[i]?=_
  rw [List.getElem?_map,fetchB_at,Nat.zero_add]
  by_cases hi:i<n
  ·obtain ⟨x,hx⟩:∃ x,(layB (List.replicate n zH) Rs.flatten)[i]?=some x:=⟨_,List.getElem?_eq_getElem (by omega)⟩
   rw [hx]
   exact ((key i x hx).1).symm
  ·rw [List.getElem?_eq_none (by omega),List.getElem?_eq_none (by rw [applyW_length,h.len];omega)];rfl
 ·have hx':(fetchB (homeX m r g) 0 (layB (List.replicate n zH) Rs.flatten))[i]?=some x:=hx
  rw [fetchB_at,Nat.zero_add] at hx'
  obtain ⟨y,hy,rfl⟩:=Option.map_eq_some_iff.1 hx'
  have hyl:y.lg=false:=by
   cases hq:y.lg
   ·rfl
   ·have:gotH (homeX m r g) i y=y:=by unfold gotH;rw [hq];rfl
    rw [this,hq] at hlg;cases hlg
  exact ((hrel i y hy).2 hyl).2.1
theorem mount_mtb {w0 W:World} {P:Nat→Prop} {q:Nat} {m:DM} (h:DS w0 W P q m) {r n g e:Nat} {S0:List Bk} {Rs:List (List Wr)} (hm:Mtb m r n g e S0 Rs) (hr:r<1000) (hg:g≤1000) (fr:Int) (hrl:Rs.length≤1000000) (hmax:m.done.length≤999000) :
 Calls Tryz.prog 13 #[.pointer (some ⟨q,0,none⟩),.int .i64 r,shQ 0 0 n g fr] W fun en w'=>∃ hp rb,en=.returned (.tuple #[.pointer (some ⟨hp,0,none⟩),.int .i64 0]) ∧
  SV w0 w' (fun k=>P k∨k=hp∨k=rb) q (homeM m (mntV m r n g e fr Rs)) hp rb (homeV (mntV m r n g e fr Rs))∧Same P W w'∧W.heap.size≤hp∧W.heap.size≤rb:=by
 obtain ⟨rest,h1,h2⟩:=hm.lg
 have hrel:=lay_rel Rs.flatten (List.replicate n zH) S0 (fun i=>S0[i]?) (by rw [List.length_replicate,hm.len]) (zeros_rel n S0 hm.len)
 refine vmount_any h r (by constructor <;> omega) n g fr hm.n200 hg e hm.epN (by have:=hm.e2;omega) (fun i b hb=>hm.fit.rV_blk i b hb) (((nowRow m r).drop 2).take g) (log_len hm.fit (by omega)) (fun i b hb=>?_) (fun b hb=>?_) Rs rest hm.rs h1 h2 hrl (homeX m r g) (fun i hi=>?_) (fun i x hx hlg=>?_) hmax
 ·rw [hm.fit.rV];exact (log_at hb).2
 ·obtain ⟨i,hi⟩:=List.getElem?_of_mem hb
  exact hm.fit.blk (log_at hi).2
 ·obtain ⟨b,hb⟩:=hm.fit.get (i:=2+g+i) (by omega)
  rw [hm.fit.rV]
  unfold homeX
  rw [List.getD,hb]
  exact ⟨rfl,hm.fit.blk hb⟩
 ·obtain ⟨_,hu,_⟩:=(hrel i x hx).2 hlg
  have hi:=(List.getElem?_eq_some_iff.1 hx).1
  rw [layB_length,List.length_replicate] at hi
  obtain ⟨y,hy⟩:∃ y,S0[i]?=some y:=⟨_,List.getElem?_eq_getElem (by rw [hm.len];exact hi)⟩
  have hyo:=hm.ok y (List.mem_of_getElem? hy)
  have:=hm.n200
  rw [hm.x_at hy hu]
  exact (opens_iff hyo.len hyo.k (by omega) (by omega)).2 ⟨rfl,rfl⟩
structure Live (m:DM) (v:VM) (r n g e:Nat) (S0:List Bk) (Rs:List (List Wr)) (k:Nat):Prop where
 idle:Idle m r n g e S0 Rs k [] 0
 tied:Tied v r n g e S0 Rs
 sq:v.sq=Rs.length
 us:v.us=(putsL e 0 Rs).length
theorem unlog_val (B:List HB):(B.map unlog).map val=B.map val:=by rw [List.map_map];rfl
theorem Tied.home {v:VM} {r n g e:Nat} {S0:List Bk} {Rs:List (List Wr)} (h:Tied v r n g e S0 Rs) (he:e+1<65000):Tied (homeV v) r n g (e+1) (applyW S0 Rs.flatten) [] :=
 ⟨h.vr,h.vn,h.vg,by show v.ep+1=_;rw [h.ve],homeV_ok h.vok (by rw [h.ve];omega),by show (v.B.map unlog).map Proofs.YtamnpblijdgdaaaGreat.val=applyW _ [].flatten;rw [unlog_val,h.val];rfl,fun i x _ _ w hw=>by simp at hw⟩
theorem Mtb.live {m:DM} {r n g e:Nat} {S0:List Bk} {Rs:List (List Wr)} {v:VM} (h:Mtb m r n g e S0 Rs) (ht:Tied v r n g e S0 Rs) (he:e+1<65000) (hst:stopped (homeM m v)=false):Live (homeM m v) (homeV v) r n g (e+1) (applyW S0 Rs.flatten) [] 0∧AllSure (homeM m v) r :=
 ⟨⟨(h.home ht he hst).1,ht.home he,rfl,rfl⟩,(h.home ht he hst).2⟩
theorem Live.sync {m:DM} {v:VM} {r n g e:Nat} {S0:List Bk} {Rs:List (List Wr)} {k:Nat} (h:Live m v r n g e S0 Rs k) (hs:stopped m=false):Live (m.doBarrier r) v r n g e S0 Rs Rs.length∧AllSure (m.doBarrier r) r :=
 ⟨⟨(h.idle.bar hs).1,h.tied,h.sq,h.us⟩,(h.idle.bar hs).2⟩
theorem tidy_stop {m:DM} (hs:stopped m=true) (v:VM):tidyM m v=m:=by
 unfold tidyM homeM
 rw [stop_barrier hs,homeW_stop hs,begin_stop hs]
theorem Live.tidy {m:DM} {v:VM} {r n g e:Nat} {S0:List Bk} {Rs:List (List Wr)} {k:Nat} (h:Live m v r n g e S0 Rs k) (he:e+1<65000) (hst:stopped (tidyM m v)=false):Live (tidyM m v) (homeV v) r n g (e+1) (applyW S0 Rs.flatten) [] 0∧AllSure (tidyM m v) r:=by
 have hs:stopped m=false:=by
  cases hs:stopped m
  ·rfl
  ·rw [tidy_stop hs,hs] at hst;cases hst
 have h1:=h.sync hs
 unfold tidyM at hst ⊢
 rw [h.tied.vr] at hst ⊢
 exact h1.1.idle.mtb_now.live h.tied he hst
theorem putsL_len (e:Nat):∀ (Rs:List (List Wr)) (s:Nat) (l:List Wr),(putsL e s (Rs++[l])).length=(putsL e s Rs).length+(1+l.length):=fun Rs s l=>by
 rw [putsL_append,putsL_one,List.length_append,putL_length]
theorem Tied.put {v:VM} {r n g e:Nat} {S0:List Bk} {Rs:List (List Wr)} (h:Tied v r n g e S0 Rs) {l:List Wr} (hl:MayL l∧WrsOk l) (hsq:v.sq+1<4294967296) (hus:v.us+(1+l.length)≤2000):Tied (putV v l) r n g e S0 (Rs++[l]):=by
 have hfl:(Rs++[l]).flatten=Rs.flatten++l:=by simp
 refine ⟨h.vr,h.vn,h.vg,h.ve,{ h.vok with len:=(by show (layB v.B l).length=v.n;rw [layB_length];exact h.vok.len),ok:=layB_ok hl.2 hl.1.kinds h.vok.ok,sq:=hsq,us:=hus },?_,fun i x hx hlg=>?_⟩
 ·show (layB v.B l).map Proofs.YtamnpblijdgdaaaGreat.val=_
  rw [layB_val,h.val,hfl,applyW_append]
 ·have hx':(layB v.B l)[i]?=some x:=hx
  have h1:=lay_rel l v.B (v.B.map Proofs.YtamnpblijdgdaaaGreat.val) (fun i=>(v.B.map Proofs.YtamnpblijdgdaaaGreat.val)[i]?) (by simp) (fun i y hy=>⟨fun _=>by rw [List.getElem?_map,hy];rfl,fun _=>rfl⟩) i x hx'
  obtain ⟨_,h2,y,h3,h4⟩:=h1.2 hlg
  have h5:=h.fl i y h3 h4
  rw [hfl]
  intro w hw
  rcases List.mem_append.1 hw with hw | hw
  ·exact h5 w hw
  ·exact h2 w hw
theorem Live.put {m:DM} {v:VM} {r n g e:Nat} {S0:List Bk} {Rs:List (List Wr)} {k:Nat} (h:Live m v r n g e S0 Rs k) {l:List Wr} (hl:MayL l∧WrsOk l) (hfit:v.us+(1+l.length)≤g) (hsq:v.sq+1<4294967296) (hst:stopped (putM m v l)=false):Live (putM m v l) (putV v l) r n g e S0 (Rs++[l]) k:=by
 have hs:stopped m=false:=by
  cases hs:stopped m
  ·rfl
  ·unfold putM at hst;rw [logW_stop hs,hs] at hst;cases hst
 have hg:=h.tied.vok.g
 rw [h.tied.vg] at hg
 have h1:=put_go (F:=fun _=>True) hl (by rw [← h.us];exact hfit) (fun _ _ _=>trivial) (fun _ _=>trivial) l.length m 0 (by omega) (show Go2 m (fun m=>Idle m r n g e S0 Rs k l 0) (fun _=>True) from Or.inl ⟨hs,h.idle.relabel l⟩)
 have e1:logW (r:Int) m ((putsL e 0 Rs).length+0) ((putL 0 e Rs.length l).drop 0)=putM m v l:=by
  unfold putM
  rw [h.tied.vr,h.us,h.tied.ve,h.sq];rfl
 rw [e1] at h1
 rcases h1 with ⟨_,h1⟩ | ⟨h1,_⟩
 ·refine ⟨h1,h.tied.put hl hsq (by omega),?_,?_⟩
  ·show v.sq+1=_;rw [h.sq,List.length_append];rfl
  ·show v.us+(1+l.length)=_;rw [putsL_len,h.us]
 ·rw [hst] at h1;cases h1
def shC (n g:Nat) (f:Int):Array Value:=#[.int .i64 0,.int .i64 0,.int .i64 n,.int .i64 g,.int .i64 f]
theorem shC_one (n g:Nat) (f:Int):(shC n g f).all (·.oneCell')=true:=by
 refine Array.all_eq_true_iff_forall_mem.2 fun v hv=>?_
 unfold shC at hv
 simp only [List.mem_toArray,List.mem_cons,List.not_mem_nil,or_false] at hv
 rcases hv with rfl | rfl | rfl | rfl | rfl <;> rfl
theorem size30:(Tryz.prog.info? 28).map (·.size)=some 5:=by kernel_rfl
section
variable {ops:Array Oper} {rest:List Oper} {o:Oper} {a:Act} {w:World} {Q:Exit→Act→World→Prop}
theorem wpList_storeS (hgd:o.guard=none) (x y:Operand) (ho:o.op=.store 28 x y) (p:Nat) (hx:a.eval x=.pointer (some ⟨p,0,none⟩)) (n g:Nat) (f:Int) (hy:a.eval y=.agg (shC n g f)) (old:Array Value) (hso:old.size=5) (hg:w.heap[p]?=some (.cells old 28 (0,0)))
 (h:wpList Tryz.prog ops Q rest (a.put o.dst undef) (w.setRow p (shC n g f))):wpList Tryz.prog ops Q (o :: rest) a w :=
 wpList_store_row hgd 28 x y ho p _ hx hy _ _ hg (by rw [show (shC n g f).size=5 from rfl];exact size30) (by rw [hso];rfl) (shC_one _ _ _) h
theorem wpList_loadS (hgd:o.guard=none) (x:Operand) (ho:o.op=.load 28 x) (p:Nat) (hx:a.eval x=.pointer (some ⟨p,0,none⟩)) (n g:Nat) (f:Int) (hg:w.heap[p]?=some (.cells (shC n g f) 28 (0,0)))
 (h:wpList Tryz.prog ops Q rest (a.put o.dst (.agg (shC n g f))) w):wpList Tryz.prog ops Q (o :: rest) a w :=
 wpList_load_row hgd 28 x ho p hx _ _ _ _ hg Tryz.underlying28 rfl (by rw [show (shC n g f).size=5 from rfl];exact size30) h
theorem wpList_loadSw (hw:Region.wanted o (yielded ops a.tmps)=true) (x:Operand) (ho:o.op=.load 28 x) (p:Nat) (hx:a.eval x=.pointer (some ⟨p,0,none⟩)) (n g:Nat) (f:Int) (hg:w.heap[p]?=some (.cells (shC n g f) 28 (0,0)))
 (h:wpList Tryz.prog ops Q rest (a.put o.dst (.agg (shC n g f))) w):wpList Tryz.prog ops Q (o :: rest) a w :=
 BigFrame.wpList_want hw fun _ hK=>wp_load_row 28 x ho p hx _ _ _ _ hg Tryz.underlying28 rfl (by rw [show (shC n g f).size=5 from rfl];exact size30) (hK _ _ h)
end
def stV (v:VM):List Bk:=v.B.map val
theorem stV_no {v:VM} {l:List Wr} (h:¬ ChOk v l):chV v l=v:=if_neg h
theorem putsL_few (e:Nat):∀ (Rs:List (List Wr)) (s:Nat),Rs.length≤(putsL e s Rs).length
 | [],_=>Nat.le_refl _
 | l :: Rs,s=>by
   show Rs.length+1≤(putL 0 e s l++putsL e (s+1) Rs).length
   rw [List.length_append,putL_length]
   have:=putsL_few e Rs (s+1)
   omega
section
variable {m:DM} {v:VM} {r n g e:Nat} {S0:List Bk} {Rs:List (List Wr)} {k:Nat}
theorem Live.usg (h:Live m v r n g e S0 Rs k):v.us≤v.g:=by rw [h.us,h.tied.vg];have:=h.idle.fits;omega
theorem Live.sqg (h:Live m v r n g e S0 Rs k):v.sq≤v.g:=by
 have h1:=putsL_few e Rs 0
 have h2:=h.usg
 rw [h.us] at h2
 rw [h.sq];omega
theorem Live.gle (h:Live m v r n g e S0 Rs k):g≤1000:=by rw [← h.tied.vg];exact h.tied.vok.g
def Lv (m:DM) (v:VM) (r n g:Nat):Prop:=∃ S0 Rs k,Live m v r n g v.ep S0 Rs k
theorem Live.lv (h:Live m v r n g e S0 Rs k):Lv m v r n g:=⟨S0,Rs,k,by have:=h.tied.ve;rw [this];exact h⟩
theorem chOk_pos {v:VM} {l:List Wr} (h:ChOk v l):1≤l.length∧l.length≤12:=h.1.1
theorem Live.change (h:Live m v r n g e S0 Rs k) {l:List Wr} (hok:WrsOk l) (hc:ChOk v l) (hg:13≤g) (he:e+1<65000) (hst:stopped (chM m v l)=false):∃ S0' Rs' k',Live (chM m v l) (chV v l) r n g (if Tight v l then e+1 else e) S0' Rs' k':=by
 have hl:=chOk_pos hc
 have hgl:=h.gle
 by_cases ht:Tight v l
 ·have e1:chM m v l=putM (tidyM m v) (homeV v) l:=by unfold chM;rw [if_pos hc,if_pos ht]
  have e2:chV v l=putV (homeV v) l:=by unfold chV;rw [if_pos hc,if_pos ht]
  rw [e1] at hst ⊢
  rw [e2,if_pos ht]
  have hs:stopped (tidyM m v)=false:=by
   cases hs:stopped (tidyM m v)
   ·rfl
   ·unfold putM at hst;rw [logW_stop hs,hs] at hst;cases hst
  have h1:=(h.tidy he hs).1
  exact ⟨_,_,_,h1.put ⟨hc.1,hok⟩ (by show 0+(1+l.length)≤g;omega) (by show 0+1<4294967296;omega) hst⟩
 ·have e1:chM m v l=putM m v l:=by unfold chM;rw [if_pos hc,if_neg ht]
  have e2:chV v l=putV v l:=by unfold chV;rw [if_pos hc,if_neg ht]
  rw [e1] at hst ⊢
  rw [e2,if_neg ht]
  have hu:=h.usg
  have hq:=h.sqg
  unfold Tight at ht
  rw [h.tied.vg] at ht hu hq
  exact ⟨_,_,_,h.put ⟨hc.1,hok⟩ (by omega) (by omega) hst⟩
theorem chV_ep (v:VM) (l:List Wr):(chV v l).ep=if ChOk v l∧Tight v l then v.ep+1 else v.ep:=by
 unfold chV
 by_cases hc:ChOk v l
 ·rw [if_pos hc]
  by_cases ht:Tight v l
  ·rw [if_pos ht,if_pos ⟨hc,ht⟩];rfl
  ·rw [if_neg ht,if_neg (fun h=>ht h.2)];rfl
 ·rw [if_neg hc,if_neg (fun h=>hc h.1)]
theorem Lv.change (h:Lv m v r n g) {l:List Wr} (hok:WrsOk l) (hg:13≤g) (he:v.ep+1<65000) (hns:m.stops=false):Lv (chM m v l) (chV v l) r n g∧v.ep≤(chV v l).ep∧(chV v l).ep≤v.ep+1∧(chM m v l).stops=false:=by
 obtain ⟨S0,Rs,k,h⟩:=h
 have hn:(chM m v l).stops=false:=by rw [ns_ch];exact hns
 have hep:=chV_ep v l
 refine ⟨?_,by rw [hep];split <;> omega,by rw [hep];split <;> omega,hn⟩
 by_cases hc:ChOk v l
 ·obtain ⟨S0',Rs',k',h1⟩:=h.change hok hc hg he (ns_of hn)
  exact h1.lv
 ·have e1:chM m v l=m:=if_neg hc
  rw [e1,stV_no hc];exact ⟨S0,Rs,k,h⟩
theorem Lv.usg (h:Lv m v r n g):v.us≤v.g:=by obtain ⟨_,_,_,h⟩:=h;exact h.usg
theorem Lv.sqg (h:Lv m v r n g):v.sq≤v.g:=by obtain ⟨_,_,_,h⟩:=h;exact h.sqg
theorem Lv.parts (h:Lv m v r n g):v.r=(r:Int)∧v.n=n∧v.g=g∧v.Ok∧g≤1000∧n≤200:=by
 obtain ⟨_,_,_,h⟩:=h;exact ⟨h.tied.vr,h.tied.vn,h.tied.vg,h.tied.vok,h.gle,h.idle.n200⟩
end
theorem putM_done (m:DM) (v:VM) (l:List Wr):(putM m v l).done.length≤m.done.length+(1+l.length):=by
 unfold putM
 have:=logW_done v.r (putL 0 v.ep v.sq l) m v.us
 rw [putL_length] at this
 exact this
theorem chM_done (m:DM) (v:VM) (l:List Wr):(chM m v l).done.length≤m.done.length+v.B.length+17:=by
 unfold chM
 by_cases hc:ChOk v l
 ·have hl:=chOk_pos hc
  rw [if_pos hc]
  split
  ·have h1:=putM_done (tidyM m v) (homeV v) l
   have h2:=tidyM_done m v
   omega
  ·have h1:=putM_done m v l
   omega
 ·rw [if_neg hc];omega
theorem homeM_done' (m:DM) (r n g e:Nat) (fr:Int) (Rs:List (List Wr)):(homeM m (mntV m r n g e fr Rs)).done.length≤m.done.length+n+3:=by
 have h1:=homeM_done m (mntV m r n g e fr Rs)
 have h2:(mntV m r n g e fr Rs).B.length=n:=by show (fetchB _ 0 _).length=n;rw [fetchB_length,layB_length,List.length_replicate]
 omega
theorem makeM_done (m:DM) (r:Int) (n g:Nat):(makeM m r n g).done.length≤m.done.length+n+3:=by
 have h1:=firstW_done r g m n
 have h2:=done_doBarrier (firstW r g m n) r
 have h3:=done_doWrite ((firstW r g m n).doBarrier r) r ((1%2:Nat):Int) (anchorB 0 1)
 have h4:=done_doBarrier (((firstW r g m n).doBarrier r).doWrite r ((1%2:Nat):Int) (anchorB 0 1)) r
 unfold makeM DM.doBegin
 omega
theorem make_row {zs:List Int} {r:Nat} {z:Int} (h:zs[r]?=some z):nowRow (DM.make zs) r=zeroRow z:=by
 unfold nowRow DM.make
 show (zs.map zeroRow).getD r []=_
 rw [List.getD,List.getElem?_map,h];rfl
theorem make_fit {zs:List Int} (hm:mayV zs=true) {r:Nat} {z:Int} (h:zs[r]?=some z) {N:Nat} (hN:N≤z.toNat):Fit (DM.make zs) r N:=by
 refine ⟨DM.make_ok hm,Told.make zs,?_,?_⟩
 ·show r<(zs.map zeroRow).length
  rw [List.length_map];exact (List.getElem?_eq_some_iff.1 h).1
 ·rw [make_row h]
  unfold zeroRow
  rw [List.length_replicate];exact hN
theorem make_zero {zs:List Int} {r:Nat} {z:Int} (h:zs[r]?=some z) {i:Nat} {b:List Int} (hb:(nowRow (DM.make zs) r)[i]?=some b):b=z64b:=by
 rw [make_row h] at hb
 unfold zeroRow at hb
 exact List.eq_of_mem_replicate (List.mem_of_getElem? hb)
theorem new_idle {zs:List Int} (hm:mayV zs=true) {r:Nat} {z:Int} (h:zs[r]?=some z) {n g:Nat} (hN:2+g+n≤z.toNat) (hn:n≤200):Idle (makeM (DM.make zs) r n g) r n g 1 (firstS n) [] 0 [] 0∧AllSure (makeM (DM.make zs) r n g) r∧(makeM (DM.make zs) r n g).stops=false :=
 ⟨(make_idle (make_fit hm h hN) rfl hn (fun i b _ hb=>make_zero h hb)).1,(make_idle (make_fit hm h hN) rfl hn (fun i b _ hb=>make_zero h hb)).2,by rw [ns_make];rfl⟩
end Go.Proofs.YtamnpblijdgdaaaGreat
