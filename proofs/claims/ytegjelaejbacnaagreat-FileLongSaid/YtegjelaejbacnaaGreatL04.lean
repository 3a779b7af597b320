/- For FileLong: contracts and facts, part 4. -/
import Derived.Test.YtegjelaejbacnaaGreatL03
set_option maxRecDepth 100000
set_option maxHeartbeats 25600000
set_option linter.unusedVariables false
open Go.ChangeShapes Go.WideShapes Go.ChangeAt Go.RowKit
namespace Go.Proofs.YtegjelaejbacnaaGreat
def cj (l:List (List (List Int))) (r i:Nat) (b:List Int):List (List (List Int)):=l.set r ((l.getD r []).set i b)
theorem wQ {l:List (List (List Int))} {r:Nat} {row:List (List Int)} (h:l[r]?=some row) (i:Nat) (b:List Int):cj l r i b=l.set r (row.set i b):=by
 unfold cj;rw [List.getD,h];rfl
def DM.write (m:DM) (r i:Nat) (b:List Int):DM :=
 { m with now:=cj m.now r i b,done:=m.done++[⟨r,i,b⟩],left:=if m.stops then m.left-1 else m.left }
theorem wR {l:List (List (List Int))} {r i:Nat} {b:List Int} (k:Nat):((cj l r i b)[k]?).map List.length=(l[k]?).map List.length:=by
 unfold cj;rw [List.getElem?_set];split
 ·rename_i e;subst e;split
  ·rename_i h;simp [List.getElem?_eq_getElem h]
  ·rename_i h;rw [List.getElem?_eq_none Ha]
 ·rfl
theorem AR {l:List (List (List Int))} {r i:Nat} {b:List Int} {k:Nat} {row:List (List Int)} (h:(cj l r i b)[k]?=some row):∃ a,l[k]?=some a/\row.length=a.length:=by
 have:=wR (l:=l) (r:=r) (i:=i) (b:=b) k;rw [h] at this;cases c:l[k]? with
 | none=>rw [c] at this;cases this
 | some a=>rw [c] at this;exact ⟨a,rfl,by simpa using this⟩
theorem qC {l:List (List (List Int))} {r i:Nat} {b:List Int} {k:Nat} {row:List (List Int)} (h:l[k]?=some row):∃ a,(cj l r i b)[k]?=some a/\a.length=row.length:=by
 have:=wR (l:=l) (r:=r) (i:=i) (b:=b) k;rw [h] at this;cases c:(cj l r i b)[k]? with
 | none=>rw [c] at this;cases this
 | some a=>rw [c] at this;exact ⟨a,rfl,by simpa using this⟩
theorem wS {l:List (List (List Int))} {r i:Nat} {b:List Int} (g:cQ b) (h:∀ (k:Nat) (row:List (List Int)),l[k]?=some row->∀ x∈row,cQ x) {k:Nat} {row:List (List Int)} (a:(cj l r i b)[k]?=some row):∀ x∈row,cQ x:=by
 intro x d;unfold cj at a;rw [List.getElem?_set] at a;split at a
 ·rename_i e;subst e;split at a
  ·rename_i c;injection a with a
   subst a;rw [List.getD,List.getElem?_eq_getElem c] at d;rcases List.mem_or_eq_of_mem_set d with f | f
   ·exact h r _ (List.getElem?_eq_getElem c) x f
   ·subst f;exact g
  ·cases a
 ·exact h k row a x d
theorem DM.Ok.write {m:DM} (h:m.Ok) {r i:Nat} {b:List Int} {row:List (List Int)} (q:m.now[r]?=some row) (v:i<row.length) (o:cQ b):(m.write r i b).Ok where
 pos:=by show 0<(cj _ _ _ _).length;unfold cj;rw [List.length_set];exact h.pos
 few:=by show (cj _ _ _ _).length<=8;unfold cj;rw [List.length_set];exact h.few
 sureLen:=by show _=(cj _ _ _ _).length;unfold cj;rw [List.length_set];exact h.sureLen
 unsLen:=by show _=(cj _ _ _ _).length;unfold cj;rw [List.length_set];exact h.unsLen
 rows:=fun k d e=>by
  obtain ⟨c,f,g⟩:=AR e;exact ⟨by rw [g];exact (h.rows k c f).1,wS o (fun k row e=>(h.rows k row e).2) e⟩
 sures:=fun k d e=>by
  obtain ⟨⟨c,f,g⟩,j⟩:=h.sures k d e;obtain ⟨a,h5,p⟩:=qC (r:=r) (i:=i) (b:=b) f;exact ⟨⟨a,h5,Ha⟩,j⟩
 dones:=fun x s=>by
  have l:x∈m.done++[⟨r,i,b⟩]:=s;rcases List.mem_append.1 l with n | n
  ·obtain ⟨⟨c,f,g⟩,j⟩:=h.dones x n;obtain ⟨a,h5,p⟩:=qC (r:=r) (i:=i) (b:=b) f;exact ⟨⟨a,h5,Ha⟩,j⟩
  ·rw [List.mem_singleton.1 n];obtain ⟨a,h5,p⟩:=qC (r:=r) (i:=i) (b:=b) q;exact ⟨⟨a,h5,Or.inl (by show i<_;omega)⟩,o⟩
 unss:=fun k u t=>by
  have:=h.unss k u t;show u<=(m.done++_).length;rw [List.length_append];omega
 left:=by show (if m.stops then m.left-1 else m.left)<=_;have:=h.left;split <;> omega
def Le (r i:Nat) (A:Option Addr) (g o B:Nat) (b:List Int) (k:Nat) (v:Value) (w:World):Prop :=
 match k with
 | 0=>v=.int .i64 r
 | 1=>v=.int .i64 i
 | 2=>v=.complex .f64 (Fx.fb r) (Fx.fb i)
 | 3=>∃ c,v=.slice (some ⟨g,o,none⟩) 64 c
 | 4=>v=.pointer (some ⟨g,o,none⟩)
 | 5=>v=.agg (Bs b).toArray
 | 6=>v=.agg (dr.cs ⟨r,i,b⟩).toArray
 | 7=>∃ q C,v=.pointer (some ⟨q,0,none⟩)/\B<=q/\C.size=65/\w.heap[q]?=some (.cells C 281 (0,0))
 | _=>True
theorem Le.on {r i:Nat} {A:Option Addr} {g o B:Nat} {b:List Int} {k:Nat} {v:Value} {w w':World} (h:Le r i A g o B b k v w) (c:w.grownBy w' none):Le r i A g o B b k v w':=by
 unfold Le at *;split <;> try exact h
 ·obtain ⟨q,C,e,d,f,a⟩:=h;exact ⟨q,C,e,d,f,by rw [c.block q (ah a) Hb];exact a⟩
 ·trivial
def MV (hp r i q g:Nat) (a:Value) (b:List Int) (k:Nat) (v:Value) (w:World):Prop :=
 match k with
 | 0 | 1 | 2=>v=.pointer (some ⟨hp,0,none⟩)
 | 3=>v=a
 | 4=>v=.pointer (some ⟨q,0,none⟩)
 | 5=>v=.complex .f64 (Fx.fb r) (Fx.fb i)
 | 6 | 9=>v=.pointer (some ⟨g,i*64,none⟩)
 | 7=>v=.pointer (some ⟨q,1,none⟩)
 | 8=>v=.agg (Bs b).toArray
 | _=>True
def Lf (hp q B:Nat) (Own:Nat->Prop) (sDone:Value) (n:Nat) (l:List Value) (x:dr) (k:Nat) (v:Value) (w:World):Prop :=
 match k with
 | 0 | 1 | 2 | 8=>v=.pointer (some ⟨hp,0,none⟩)
 | 3 | 9=>v=.pointer (some ⟨hp,2,none⟩)
 | 4=>v=sDone
 | 5=>v=.agg x.cs.toArray
 | 6=>∃ p,v=.slice (some ⟨p,0,none⟩) 1 1/\B<=p/\w.heap[p]?=some (.cells x.cs.toArray 281 (0,0))
 | 7=>aI w (fun k=>Own k\/B<=k) 281 65 v (n+1) (l++x.cs)
 | _=>True
def Lg (sDone:Value) (i:Nat) (w w':World):Prop:=if i=7 then w.grownBy w' sDone.ownBlock else w.grownBy w' none
theorem Lf.on {hp q B:Nat} {Own:Nat->Prop} {sDone:Value} {n:Nat} {l:List Value} {x:dr} (d:∀ k,sDone.ownBlock=some k->k<B) {i k:Nat} {v:Value} {w w':World} (c:i≠k) (h:Lf hp q B Own sDone n l x k v w) (a:Lg sDone i w w'):Lf hp q B Own sDone n l x k v w':=by
 unfold Lg at a;unfold Lf at *;split <;> try exact h
 ·obtain ⟨p,e,f,b⟩:=h;refine ⟨p,e,f,?_⟩;split at a
  ·rw [a.block p (ah b) (fun e=>by have:=d p e.symm;omega)];exact b
  ·rw [a.block p (ah b) Hb];exact b
 ·rw [if_neg c] at a;exact h.keep fun k g _=>a.block k g Hb
 ·trivial
theorem AS {F:Nat->Prop} {w w':World} (h:aE F w w') {q:Addr} {v:Value} (a:w.cell? q=some v) (b:¬ F q.block):w'.cell? q=some v:=by
 rw [World.cell?_of_block (h.block q.block (World.block_lt_of_cell? w q a) b)];exact a
theorem DevRaw.setNow {w:World} {O:Nat->dt} {hp:Nat} {L:jC} {m:DM} (h:DevRaw w O hp L m) {r i:Nat} {row:List (List Int)} (n:m.now[r]?=some row) (o:i<row.length) (f:∀ x∈row,x.length=64) (b:List Int) (p:b.length=64) {g cap j q d:Nat}
 (s:L.sNow=.slice (some ⟨g,0,none⟩) m.now.length cap) (t:w.cell? ⟨g,r,none⟩=some (.slice (some ⟨j,0,none⟩) q d)) (c:O j=.now r):DevRaw (w.setCells j (i*64) (Bs b)) O hp L { m with now:=m.now.set r (row.set i b) } where
 hd:=by rw [bv _ _ _ _ _ (fun e=>by rw [<- e,h.ohd] at c;cases c)];exact h.hd
 ohd:=h.ohd
 now:=h.now.setBlk n o f b p s t (by rw [c];simp) (fun u l=>by rw [c];simp;exact fun e=>l e.symm)
 sure:=h.sure.keep fun k _ a=>bv _ _ _ _ _ (fun e=>by rw [e,c] at a;rcases a with a | ⟨_,a⟩ <;> cases a)
 done:=h.done.keep fun k _ a=>bv _ _ _ _ _ (fun e=>by rw [e,c] at a;cases a)
 uns:=h.uns.keep fun k _ a=>bv _ _ _ _ _ (fun e=>by rw [e,c] at a;cases a)
theorem Cb {w:World} {F:Nat->Prop} {hp:Nat} {m:DM} (h:qn w F hp m) (r i:Nat) {row:List (List Int)} (hr:m.now[r]?=some row) (hi:i<row.length) (A:Option Addr) (bs:List Int) (c:Nat) (hb:cQ bs) (hy:dK w A bs) (bb:aG m=false) (el:m.done.length<=1000000) :
 Calls Tryz.prog 188 #[.pointer (some ⟨hp,0,none⟩),.int .i64 r,.int .i64 i,.slice A 64 c] w fun e w'=>e=.returned (.bool true)/\gD w w' F hp (m.write r i bs):=by
 obtain ⟨O,L,h,hF,b4⟩:=h;have hO:∀ k,O k≠.none->k<w.heap.size:=fun k d=>b4 k ((hF k).2 d);have HH:=He h;have bi:=h.ok.rows _ _ hr;have bk:∀ x∈row,x.length=64:=fun x hx=>(bi.2 x hx).1;have dc:=bi.1;have dg:=(List.getElem?_eq_some_iff.1 hr).1;have few:=h.ok.few;obtain ⟨b0,bl⟩:∃ b,row[i]?=some b:=⟨_,List.getElem?_eq_getElem hi⟩
 have b5:=He (gP h r i (by constructor <;> omega) (by constructor <;> omega));have b6:iN m r i=true:=by
  unfold iN kf;rw [Int.toNat_natCast,kh hr];simp;omega
 rw [b6] at b5;clear b6;have hS:=He (jI h);rw [bb] at hS;have dl:=He bb;obtain ⟨g,dn,g',b8,hv,og,b9,eo,em,hc,_,K⟩:=h.now.blk hr bl bk;have ca:=He K;obtain ⟨ga,oa,rfl,cb⟩:=hy.addr (by rw [hb.1];omega);have M:(Bs bs).length=64:=by rw [ar];exact hb.1
 have HV:=He hv;have HC:=He hc;have dv:=He cb;have an:=He M;have HR:=He hr;have HB:=He hb;have HO:=He hO;have HF:=He hF;have cc:=He (And.intro og b9);have dT:=He bk;have eq:=He bl;clear h hr bl bk K bi hv hc cb M bb hy hb b4 hO hF og b9;generalize hR:m.now.length=R at *;generalize hn:row.length=n at *;generalize hN:m.done.length=N at *;have d1:=He hR;have cg:=He hn;have HN:=He hN;clear hR hn hN;go_enter Tryz.func188,Tryz.ntmps188;go_wp2_with fail
 refine b5.out.mono ?_;rintro e w' ⟨rfl,rfl⟩;go_wp2_with fail
 refine hS.out.mono ?_;rintro e w' ⟨rfl,rfl⟩;go_wp2_with fail
 go_upto_region 5 with fail
 go_cut [9] (fun s wx=>∃ q:Nat,s=.pointer (some ⟨q,0,none⟩)/\w.heap.size<=q/\Below w.heap.size w wx/\wx.heap[q]?=some (.cells (dr.cs ⟨r,i,bs⟩).toArray 281 (0,0)))
 case first =>
  have a:∀ W:World,W.grownBy W none:=fun W=>World.grownBy.refl W _;refine i7 (Le r i (some ⟨ga,oa,none⟩) ga oa w.heap.size bs) (Below w.heap.size w) (fun w w'=>w.grownBy w' none) Hc Hc (fun j v w w' h hg=>h.on hg) ((Below.refl _ _).drew) ?_;simp only [cf];refine ⟨?_,?_,?_,?_,?_,?_,?_,?_,?_⟩
  ·refine aC.of rfl fun T W hag hJ hd=>?_;have e1:=Hf hag 1;exact Hi
  ·refine aC.of rfl fun T W hag hJ hd=>?_;have e2:=Hf hag 2;exact Hi
  ·refine aC.of rfl fun T W hag hJ hd=>?_;have er:T.getD 22 undef=_:=Hg hd 0 rfl;have es:T.getD 23 undef=_:=Hg hd 1 rfl;clear hag hd;go_simp;refine (oI W r i).mono ?_;rintro e w' ⟨rfl,rfl⟩;exact ⟨_,rfl,rfl,hJ,a _⟩
  ·refine aC.of rfl fun T W hag hJ hd=>?_;have e3:T.getD 3 undef=.slice (some ⟨ga,oa,none⟩) 64 c:=(Hf hag 3).trans rfl;clear hag hd;go_simp;exact ⟨_,rfl,c,rfl⟩
  ·refine aC.of rfl fun T W hag hJ hd=>?_;obtain ⟨c',(et:T.getD 25 undef=_)⟩:=Hg hd 3 rfl;clear hag hd;go_simp;exact ⟨_,rfl,rfl,hJ,a _⟩
  ·refine aC.of rfl fun T W hag hJ hd=>?_;have d2:T.getD 26 undef=_:=Hg hd 4 rfl;refine wp_load_mid 262 (.tmp 26) rfl ga oa d2 (Bs bs) _ (fun j v hj=>cO hJ (dv.out j v hj)) Tryz.underlying262 rfl (by rw [an.out];exact mR) ?_;exact ⟨_,rfl,rfl,hJ,a _⟩
  ·refine aC.of rfl fun T W hag hJ hd=>?_;have d3:T.getD 24 undef=_:=Hg hd 2 rfl;have d4:T.getD 27 undef=_:=Hg hd 5 rfl;refine pB 281 _ rfl (dr.cs ⟨r,i,bs⟩).toArray ?_ ?_
   ·simp only [List.map_toArray,List.map_cons,List.map_nil];rw [show (⟨T,[]⟩:Act).eval (.tmp 24)=_ from d3,show (⟨T,[]⟩:Act).eval (.tmp 27)=_ from d4];exact wO r i bs HB.out.1
   ·exact ⟨_,rfl,rfl,hJ,a _⟩
  ·refine aC.of rfl fun T W hag hJ hd=>?_;obtain ⟨i0,S,U,a0,bn⟩:=info_parts qB;refine ce 281 rfl i0 _ S U ?_;refine ⟨_,rfl,⟨W.heap.size,_,rfl,hJ.size,?_,heap_alloc_new W _⟩,hJ.alloc hJ.size _,World.grownBy_alloc W _ _⟩;simp [Value.cells]
  ·refine kd.of rfl fun T W hag hJ hd=>?_;obtain ⟨q,C,(d9:T.getD 9 undef=_),hq,hCs,hqc⟩:=hd 7 _ Hb rfl;have ch:T.getD 28 undef=_:=hd 6 _ Hb rfl;have a1:(dr.cs ⟨r,i,bs⟩).length=65:=dr.cs_length HB.out.1;refine wp_store_mid 281 (.tmp 9) (.tmp 28) rfl q 0 _ d9 ch (fun j hj=>?_) (by simp only [List.size_toArray,a1];exact Eb) (all_oneCell_toArray (dr.cs_one _)) ?_
   ·simp only [List.size_toArray,a1] at hj;rw [Nat.zero_add,af hqc j,aA hqc j];exact ⟨by rw [Array.getElem?_eq_getElem Ha];rfl,rfl⟩
   ·have V:=iD q 281 (dr.cs ⟨r,i,bs⟩) 0 W C.toList (by simpa using hqc) (by rw [a1];simp [hCs]);rw [mO _ _ (by rw [a1];simp [hCs])] at V;have a5:Below w.heap.size w (W.setCells q 0 (dr.cs ⟨r,i,bs⟩)) :=
     ((aE.of_below hJ (fun _=>False)).trans' ((aE.refl (fun k=>k=q) W).setCells rfl 0 _) (fun x hx=>Or.inr Ha)).below (Nat.le_refl _) (fun k d=>d.elim)
    have HM:=He (And.intro hq (And.intro a5 V));obtain ⟨f,hf,hT⟩:=aJ hag;have h9:f 9=_:=(hf 9).trans d9;generalize (W.setCells q 0 (dr.cs ⟨r,i,bs⟩))=W2 at *;clear hag hd ch d9 hf hqc V a5;rw [hT];clear hT;simp only [List.filterMap_cons,List.filterMap_nil,List.foldl_cons,List.foldl_nil,List.setIfInBounds_toArray,List.set_cons_succ,List.set_cons_zero,h9];rename_i X bt;go_wp2_with fail
    refine X _ _ ?_
    repeat apply Exists.intro
    exact ⟨⟨q,rfl,HM.out⟩,rfl⟩
 case rest =>
  obtain ⟨q,rfl,hq,hb,hc⟩:=hcut;obtain ⟨w1,rfl⟩:∃ w1,w1=wc:=⟨wc,rfl⟩
  have HQ:=He hq;have y:=He hb;have a2:=He hc;have eu:=World.rangeAt_of_block hc 0 65;clear hq hb hc;go_wp2_with fail
  go_upto_region 6 with fail
  go_cut [9] (fun s wx=>s=.pointer (some ⟨q,0,none⟩)/\aE (fun k=>k=g') w1 wx/\wx.heap[q]?=some (.cells (dr.cs ⟨r,i,bs⟩).toArray 281 (0,0))/\DevRaw wx O hp L { m with now:=m.now.set r (row.set i bs) })
  case first =>
   have a:∀ W:World,W.grownBy W none:=fun W=>World.grownBy.refl W _;refine i7 (MV hp r i q g' L.sNow bs) (Below w1.heap.size w1) (fun w w'=>w.grownBy w' none) Hc Hc (fun j v w w' h _=>h) ((Below.refl _ _).drew) ?_;simp only [cf];refine ⟨?_,?_,?_,?_,?_,?_,?_,?_,?_,?_,?_⟩
   ·refine aC.of rfl fun T W hag hJ hd=>?_;have e0:=Hf hag 0;exact Hi
   ·refine aC.of rfl fun T W hag hJ hd=>?_;have ev:T.getD 29 undef=_:=Hg hd 0 rfl;exact Hi
   ·refine aC.of rfl fun T W hag hJ hd=>?_;have ew:T.getD 30 undef=_:=Hg hd 1 rfl;exact Hi
   ·refine aC.of rfl fun T W hag hJ hd=>?_;have ex:T.getD 31 undef=_:=Hg hd 2 rfl;have c0:=((HH.out.below y.out).below hJ).c0;exact Hi
   ·refine aC.of rfl fun T W hag hJ hd=>?_;have e9:T.getD 9 undef=.pointer (some ⟨q,0,none⟩):=(Hf hag 9).trans rfl;exact Hi
   ·refine aC.of rfl fun T W hag hJ hd=>?_;have ey:T.getD 33 undef=_:=Hg hd 4 rfl;have c0:W.cell? ⟨q,0,none⟩=some (.complex .f64 (Fx.fb r) (Fx.fb i)):=cO hJ (by rw [af a2.out 0];rfl);exact Hi
   ·refine aC.of rfl fun T W hag hJ hd=>?_;have d5:T.getD 32 undef=_:=Hg hd 3 rfl;have ez:T.getD 34 undef=_:=Hg hd 5 rfl;rw [HV.out] at d5;clear hag hd;go_simp;refine (kZ W g dn R r i g' n b8 dg hi Ha dc (cO hJ (cO y.out HC.out))).mono ?_;rintro e w' ⟨rfl,rfl⟩;exact ⟨_,rfl,rfl,hJ,a _⟩
   ·refine aC.of rfl fun T W hag hJ hd=>?_;have e9:T.getD 9 undef=.pointer (some ⟨q,0,none⟩):=(Hf hag 9).trans rfl;exact Hi
   ·refine aC.of rfl fun T W hag hJ hd=>?_;have d6:T.getD 36 undef=_:=Hg hd 7 rfl;refine wp_load_mid 262 (.tmp 36) rfl q 1 d6 (Bs bs) _ (fun j v hj=>cO hJ (by rw [af a2.out];show (dr.cs ⟨r,i,bs⟩).toArray[1+j]?=_;rw [List.getElem?_toArray,Nat.add_comm];exact hj)) Tryz.underlying262 rfl (by rw [an.out];exact mR) ?_;exact ⟨_,rfl,rfl,hJ,a _⟩
   ·refine aC.of rfl fun T W hag hJ hd=>?_;have eA:T.getD 35 undef=_:=Hg hd 6 rfl;exact Hi
   ·refine kd.of rfl fun T W hag hJ hd=>?_;have ci:T.getD 38 undef=_:=hd 9 _ Hb rfl;have ck:T.getD 37 undef=_:=hd 8 _ Hb rfl;have B:=(HH.out.below y.out).below hJ;have cl:W.cell? ⟨g,r,none⟩=_:=cO hJ (cO y.out HC.out);have cn:=(ca.out.below y.out).below hJ;refine wp_store_mid 262 (.tmp 38) (.tmp 37) rfl g' (i*64) _ ci ck (by simp only [List.size_toArray,an.out];exact cn.there (i*64) 64 Ha) (by simp only [List.size_toArray,an.out];exact mR) (all_oneCell_toArray (io bs)) ?_;have z:=B.toDevRaw.setNow HR.out (by rw [cg.out];exact hi) dT.out bs HB.out.1 (by rw [d1.out];exact HV.out) cl cc.out.2;have I:aE (fun k=>k=g') w1 (W.setCells g' (i*64) (Bs bs)):=((aE.of_below hJ (fun k=>k=g')).setCells rfl _ _)
    have hqc:(W.setCells g' (i*64) (Bs bs)).heap[q]?=_:=(I.block q (ah a2.out) (fun e=>by have:=HQ.out;rw [e] at this;omega)).trans a2.out;have HM:=He (And.intro I (And.intro hqc z));have e9:T.getD 9 undef=.pointer (some ⟨q,0,none⟩):=(Hf hag 9).trans rfl;obtain ⟨f,hf,hT⟩:=aJ hag;generalize (W.setCells g' (i*64) (Bs bs))=W2 at *;clear hag hd ci ck hf B cl cn z I hqc e9;rw [hT];clear hT;simp only [List.filterMap_cons,List.filterMap_nil,List.foldl_cons,List.foldl_nil,List.setIfInBounds_toArray,List.set_cons_succ,List.set_cons_zero];rename_i X bt;go_wp2_with fail
    refine X _ _ ?_
    repeat apply Exists.intro
    exact ⟨⟨rfl,HM.out⟩,rfl⟩
  case rest =>
   obtain ⟨rfl,cp,a3,cr⟩:=hcut;obtain ⟨t,rfl⟩:∃ t,t=wc:=⟨wc,rfl⟩
   have bx:=He cp;have d7:=He a3;have l:=He cr;have d8:=ah a3;have cu:O q=.none:=by
    cases ho:O q with
    | none=>rfl
    | _=>have:=HO.out q (by rw [ho];simp);have:=HQ.out;omega
   have cv:=He cu;clear cp a3 cr cu;have en:hp≠q:=fun e=>by have h1:=cv.out;rw [<- e,l.out.ohd] at h1;cases h1
   go_wp2_with fail
   go_upto_region 7 with fail
   go_cut [9] (fun s wx=>∃ v:Value,s=.pointer (some ⟨q,0,none⟩)/\aE (fun k=>k=hp\/O k=.done) t wx/\(∀ k,v.ownBlock=some k->O k=.done\/t.heap.size<=k)/\DevRaw wx (f7 O t.heap.size v) hp { L with sDone:=v } { m with now:=m.now.set r (row.set i bs),done:=m.done++[⟨r,i,bs⟩] })
   case first =>
    have a:∀ (W:World) (o:Option Nat),W.grownBy W o:=fun W o=>World.grownBy.refl W _;have srefl:∀ (i:Nat) (W:World),Lg L.sDone i W W:=fun i W=>by unfold Lg;split <;> exact World.grownBy.refl W _
    have ea:∀ k,L.sDone.ownBlock=some k->k<t.heap.size:=fun k d=>(l.out.done.1.lt k d).2;have cw:aE (fun k=>O k=.done) t t.drew/\aI t.drew (fun k=>O k=.done) 281 65 L.sDone N (iM m.done):=⟨(aE.refl _ _).drew,by have:=l.out.done;rw [<- HN.out];exact this⟩
    refine gm (Lf hp q t.heap.size (fun k=>O k=.done) L.sDone N (iM m.done) ⟨r,i,bs⟩) (fun W=>aE (fun k=>O k=.done) t W/\aI W (fun k=>O k=.done) 281 65 L.sDone N (iM m.done)) (Lg L.sDone) Hc Hc (fun i j v w w' eb h hg=>h.on ea eb hg) cw ?_;clear cw;have b1:¬ O hp=.done:=by rw [l.out.ohd];simp
    have ec:¬ O q=.done:=by rw [cv.out];simp
    simp only [cf];refine ⟨?_,?_,?_,?_,?_,?_,?_,?_,?_,?_,?_⟩
    ·refine aC.of rfl fun T W hag hJ hd=>?_;have e0:=Hf hag 0;exact Hi
    ·refine aC.of rfl fun T W hag hJ hd=>?_;have e0:=Hf hag 0;exact Hi
    ·refine aC.of rfl fun T W hag hJ hd=>?_;have eB:T.getD 40 undef=_:=Hg hd 1 rfl;exact Hi
    ·refine aC.of rfl fun T W hag hJ hd=>?_;have eC:T.getD 41 undef=_:=Hg hd 2 rfl;exact Hi
    ·refine aC.of rfl fun T W hag hJ hd=>?_;have eD:T.getD 42 undef=_:=Hg hd 3 rfl;have c2:W.cell? ⟨hp,2,none⟩=some L.sDone:=AS hJ.1 l.out.c2 b1;exact Hi
    ·refine aC.of rfl fun T W hag hJ hd=>?_;have e9:T.getD 9 undef=.pointer (some ⟨q,0,none⟩):=(Hf hag 9).trans rfl;have ed:W.heap[q]?=_:=(hJ.1.block q d8 ec).trans d7.out;refine wp_load_mid 281 (.tmp 9) rfl q 0 e9 (dr.cs ⟨r,i,bs⟩) _ (fun j v hj=>by rw [af ed,Nat.zero_add,List.getElem?_toArray];exact hj) Tryz.underlying281 rfl (by rw [dr.cs_length HB.out.1];exact Eb) ?_;exact ⟨_,rfl,rfl,hJ,srefl _ _⟩
    ·refine aC.of rfl fun T W hag hJ hd=>?_;have ee:T.getD 44 undef=_:=Hg hd 5 rfl;obtain ⟨i0,S,U,a0,bn⟩:=info_parts qB;refine gH 171 (.tmp 44) rfl 281 i0 _ 65 Tryz.underlying171 S U a0 Hd Hd _ ee (by simp only [Value.cells,List.size_toArray];exact dr.cs_length HB.out.1) ?_;refine ⟨_,rfl,⟨W.heap.size,rfl,hJ.1.size,heap_alloc_new W _⟩,⟨hJ.1.alloc _,hJ.2.keep fun k d _=>Below.heap_alloc W _ k d⟩,?_⟩;exact World.grownBy_alloc W _ _
    ·refine aC.of rfl fun T W hag hJ hd=>?_;have ef:T.getD 43 undef=L.sDone:=Hg hd 4 rfl;obtain ⟨p,(eg:T.getD 45 undef=_),hp1,hp2⟩:=Hg hd 6 rfl;obtain ⟨i0,S,U,a0,bn⟩:=info_parts qB;refine jk (.tmp 43) (.tmp 45) 171 rfl 281 i0 _ 65 80 Tryz.underlying171 S U a0 bn (by simp [Value.cells]) Hd L.sDone N (iM m.done) ef _ hJ.2 ⟨p,0,none⟩ 1 1 (dr.cs ⟨r,i,bs⟩) eg (by rw [dr.cs_length HB.out.1]) (fun j u hj=>by rw [Addr.add_mid,af hp2,Nat.zero_add,List.getElem?_toArray];exact hj) (dr.cs_one _) (by simp only [maxLen];omega) Ha ?_;intro v' w' cx cz H;refine ⟨_,rfl,cx.owner ?_,⟨?_,H⟩,cz⟩
     ·intro k _ d;rcases d with d | d
      ·exact Or.inl d
      ·exact Or.inr (by have:=hJ.1.size;omega)
     ·exact hJ.1.trans' (aE.of_grown cz) fun k d=>by
       have:=H.2 k d.symm;exact Or.inl this
    ·refine aC.of rfl fun T W hag hJ hd=>?_;have eE:T.getD 39 undef=_:=Hg hd 0 rfl;exact Hi
    ·refine aC.of rfl fun T W hag hJ hd=>?_;have eF:T.getD 47 undef=_:=Hg hd 8 rfl;exact Hi
    ·refine kd.of rfl fun T W hag hJ hd=>?_;have cA:T.getD 48 undef=_:=hd 9 _ Hb rfl;have Y:aI W (fun k=>O k=.done\/t.heap.size<=k) 281 65 (T.getD 46 undef) (N+1) (iM m.done++dr.cs ⟨r,i,bs⟩):=hd 7 _ Hb rfl;obtain ⟨v,b2⟩:∃ v,T.getD 46 undef=v:=⟨_,rfl⟩
     rw [b2] at Y;obtain ⟨A2,cq,rfl,eG,a3⟩:=Y.val;have B:W.heap[hp]?=_:=(hJ.1.block hp l.out.lt b1).trans l.out.hd;have z:DevRaw (W.setCell ⟨hp,2,none⟩ (.slice A2 (N+1) cq)) (f7 O t.heap.size (.slice A2 (N+1) cq)) hp { L with sDone:=.slice A2 (N+1) cq } { m with now:=m.now.set r (row.set i bs),done:=m.done++[⟨r,i,bs⟩] }:=by
      refine l.out.push ⟨r,i,bs⟩ (.slice A2 (N+1) cq) ?_ ?_ ?_
      ·exact ai B _
      ·intro k d b3 eh;rw [Below.heap_setCell _ _ _ _ b3];exact hJ.1.block k d eh
      ·show aI _ _ _ 65 _ (m.done.length+1) _;rw [HN.out];exact Y.keep fun k d ho=>Below.heap_setCell _ _ _ _ (fun e=>by
        subst e;rcases ho with ho | ho
        ·exact b1 ho
        ·have:=l.out.lt;omega)
     have I:aE (fun k=>k=hp\/O k=.done) t (W.setCell ⟨hp,2,none⟩ (.slice A2 (N+1) cq)):=aE.setCell (F:=fun k=>k=hp\/O k=.done) (hJ.1.mono fun k _ h=>Or.inr h) (p:=⟨hp,2,none⟩) (Or.inl rfl) _;have HM:=He (And.intro I (And.intro (fun k d=>Y.2 k d:∀ k,(Value.slice A2 (N+1) cq).ownBlock=some k->O k=.done\/t.heap.size<=k) z));have c2:W.cell? ⟨hp,2,none⟩=some L.sDone:=af B 2;have f2:W.frozen? ⟨hp,2,none⟩=false:=aA B 2;have e9:T.getD 9 undef=.pointer (some ⟨q,0,none⟩):=(Hf hag 9).trans rfl;have a6:=b2;have a7:=cA;rw [Array.getD_eq_getD_getElem?] at a6 a7;have cP:=He hag;clear hag hd B z I Y e9;go_simp;obtain ⟨f,hf,hT⟩:=aJ cP.out;generalize (W.setCell ⟨hp,2,none⟩ (.slice A2 (N+1) cq))=W2 at *;clear cP hf b2 cA a6 a7 c2 f2;rw [hT];clear hT;simp only [List.filterMap_cons,List.filterMap_nil,List.foldl_cons,List.foldl_nil,List.setIfInBounds_toArray,List.set_cons_succ,List.set_cons_zero];rename_i X bt;refine bt _ _ (X _ _ ?_)
     repeat apply Exists.intro
     exact ⟨⟨_,rfl,HM.out⟩,rfl⟩
   case rest =>
    obtain ⟨v,rfl,c1,c3,Z⟩:=hcut;obtain ⟨w3,rfl⟩:∃ w3,w3=wc:=⟨wc,rfl⟩
    have c6:=He c1;have eH:=He c3;have a4:=He Z;have c4:w3.cell? ⟨hp,4,none⟩=some (.bool m.stops):=Z.c4;have c5:w3.cell? ⟨hp,5,none⟩=some (.int .i64 m.left):=Z.c5;have f5:=Z.f 5;have ei:=HH.out.ok.left;clear c1 c3 Z;have c7:∀ w4:World,aE (fun k=>k=hp) w3 w4->DevRaw w4 (f7 O t.heap.size v) hp { L with sDone:=v } (m.write r i bs)->gD w w4 F hp (m.write r i bs):=by
     intro w4 ht ej;have H:∀ k,f7 O t.heap.size v k≠.none->F k\/w.heap.size<=k:=fun k d=>by
      rcases jm d with h1 | ⟨h1,h2⟩
      ·exact Or.inl ((HF.out k).2 h1)
      ·have h3:=y.out.size;have h4:=bx.out.size;exact Or.inr Ha
     have c8:F hp:=(HF.out hp).2 (by rw [l.out.ohd];simp);refine ⟨fun k=>f7 O t.heap.size v k≠.none,⟨_,_,⟨ej,HH.out.ok.write HR.out (by rw [cg.out];exact hi) HB.out⟩,fun k=>Iff.rfl,fun k d=>?_⟩,?_,H⟩
     ·have h5:=ht.size;have h6:=c6.out.size;have h7:=bx.out.size;have h8:=y.out.size;rcases jm d with h1 | ⟨h1,h2⟩
      ·have:=HO.out k h1;omega
      ·have:=(a4.out.done.1.lt k h2).2;omega
     ·refine (((aE.of_below y.out F).trans' bx.out fun k d=>?_).trans' c6.out fun k d=>?_).trans' ht fun k d=>?_
      ·subst d;exact Or.inl ((HF.out _).2 (by rw [cc.out.2];simp))
      ·rcases d with rfl | d
       ·exact Or.inl c8
       ·exact Or.inl ((HF.out k).2 (by rw [d];simp))
      ·subst d;exact Or.inl c8
    have c9:=He c7;clear c7;have a8:cj m.now r i bs=m.now.set r (row.set i bs):=wQ HR.out i bs;have a9:=He a8;clear a8;cases hs:m.stops with
    | false =>
      have ad:=He hs;rw [hs] at c4;clear hs;go_wp2;go_ret;refine ⟨rfl,c9.out _ (aE.refl _ _) ?_⟩;have:=a4.out;unfold DM.write;rw [a9.out,ad.out];exact ⟨by have:=this.hd;rw [ad.out] at this;exact this,this.ohd,this.now,this.sure,this.done,this.uns⟩
    | true =>
      have ad:=He hs;rw [hs] at c4;have eI:m.left≠0:=fun e=>by
       have:=dl.out;unfold aG at this;rw [hs,e] at this;simp at this
      clear hs;generalize da:m.left=lf at *;have ek:=He da;have eJ:IntKind.i64.wrap ((lf:Int)-1)=(lf:Int)-1:=IntWalk.i64_in _ Ha;clear da;go_wp2;go_ret;have e1:((lf:Int)-1)=((lf-1:Nat):Int):=Ha;rw [e1];refine ⟨rfl,c9.out _ ((aE.refl (fun k=>k=hp) _).setCell (p:=⟨hp,5,none⟩) rfl _) ?_⟩;have:=a4.out.tail (w':=w3.setCell ⟨hp,5,none⟩ (.int .i64 ((lf-1:Nat):Int))) true (lf-1) (by rw [ai a4.out.hd];rw [ad.out];rfl) (fun k d b3=>Below.heap_setCell _ _ _ _ b3);unfold DM.write;rw [a9.out,ad.out,ek.out];exact this
def bE:List dr->Nat->(Nat->Bool)->Nat->List (List (List Int))->List (List (List Int))
 | [],_,_,_,s=>s
 | x :: l,r,kept,a,s=>if x.r=r then (if x.i=65535 then s else bE l r kept (a+1) (if kept a then cj s x.r x.i x.b else s)) else bE l r kept a s
theorem vf (l:List dr) (r:Nat) (kept:Nat->Bool) (a:Nat) (s:List (List (List Int))):∀ n k,l.length-k=n->k<=l.length->bE (l.drop k) r kept a s=bE (l.drop (go l r k)) r kept a s:=by
 intro n
 induction n with
 | zero =>
   intro k d f;obtain rfl:k=l.length:=Ha;rw [tz]
 | succ n ih =>
   intro k d f;have b:k<l.length:=Ha;have c:l[k]?=some l[k]:=List.getElem?_eq_getElem b;by_cases e:l[k].r=r
   ·rw [qA c e]
   ·rw [wL c e,<- ih (k+1) Ha Ha,List.drop_eq_getElem_cons b,bE,if_neg e]
theorem qD {l:List dr} {r:Nat} {k:Nat} {x:dr} (d:l[k]?=some x) (e:x.r=r) (kept:Nat->Bool) (a:Nat) (s:List (List (List Int))) :
 bE (l.drop k) r kept a s=if x.i=65535 then s else bE (l.drop (k+1)) r kept (a+1) (if kept a then cj s x.r x.i x.b else s):=by
 have c:=(List.getElem?_eq_some_iff.1 d).1;rw [List.drop_eq_getElem_cons c,(List.getElem?_eq_some_iff.1 d).2,bE,if_pos e]
theorem wT (l:List dr) (r:Nat) (kept:Nat->Bool) (a:Nat) (s:List (List (List Int))):bE (l.drop l.length) r kept a s=s:=by rw [List.drop_length];rfl
def DM.settle (m:DM) (r:Nat) (kept:Nat->Bool):DM :=
 { m with sure:=bE (m.done.drop (m.uns.getD r 0)) r kept 0 m.sure,uns:=m.uns.set r m.done.length }
structure jV (m:DM) (s:List (List (List Int))):Prop where
 len:s.length=m.now.length
 rows:∀ (r:Nat) (row:List (List Int)),s[r]?=some row->(∃ row':List (List Int),m.now[r]?=some row'/\row.length=row'.length)/\(∀ b∈row,cQ b)
theorem jV.set {m:DM} {s:List (List (List Int))} (h:jV m s) {r i:Nat} {b:List Int} (f:cQ b):jV m (cj s r i b) where
 len:=by unfold cj;rw [List.length_set];exact h.len
 rows:=fun k a e=>by
  obtain ⟨c,g,l⟩:=AR e;obtain ⟨⟨d,j,h5⟩,_⟩:=h.rows k c g;exact ⟨⟨d,j,Ha⟩,wS f (fun k a e=>(h.rows k a e).2) e⟩
theorem DM.Ok.sureOk {m:DM} (h:m.Ok):jV m m.sure:=⟨h.sureLen,h.sures⟩
theorem qE {m:DM} {r:Nat} {kept:Nat->Bool}:∀ (l:List dr) (a:Nat) (s:List (List (List Int))),(∀ x∈l,cQ x.b)->jV m s->jV m (bE l r kept a s)
 | [],_,_,_,h=>h
 | x :: l,a,s,c,h=>by
   unfold bE;have ih:=fun a s=>qE (m:=m) (r:=r) (kept:=kept) l a s (fun y d=>c y (by simp [d]));split
   ·split
    ·exact h
    ·exact ih _ _ (by split;exact h.set (c x Hb);exact h)
   ·exact ih _ _ h
theorem DM.Ok.withSure {m:DM} (h:m.Ok) {s:List (List (List Int))} (a:jV m s):({ m with sure:=s }:DM).Ok :=
 { pos:=h.pos,few:=h.few,sureLen:=a.len,unsLen:=h.unsLen,rows:=h.rows,sures:=a.rows,dones:=h.dones,unss:=h.unss,left:=h.left }
theorem DM.Ok.settle {m:DM} (h:m.Ok) (r:Nat) (kept:Nat->Bool):(m.settle r kept).Ok :=
 have b:jV m (bE (m.done.drop (m.uns.getD r 0)) r kept 0 m.sure):=qE _ _ _ (fun x c=>(h.dones x (List.mem_of_mem_drop c)).2) h.sureOk
 { pos:=h.pos,few:=h.few,sureLen:=b.len,unsLen:=by show (m.uns.set _ _).length=_;rw [List.length_set];exact h.unsLen,rows:=h.rows,sures:=b.rows,dones:=h.dones
   unss:=fun k u d=>by
    have a:(m.uns.set r m.done.length)[k]?=some u:=d;rw [List.getElem?_set] at a;split at a
    ·split at a
     ·injection a with a;show u<=m.done.length;omega
     ·cases a
    ·exact h.unss k u a
   left:=h.left }
theorem DevRaw.setSure {w:World} {O:Nat->dt} {hp:Nat} {L:jC} {m:DM} (h:DevRaw w O hp L m) {r i:Nat} {row:List (List Int)} (n:m.sure[r]?=some row) (o:i<row.length) (f:∀ x∈row,x.length=64) (b:List Int) (p:b.length=64) {g cap j q d:Nat}
 (s:L.sSure=.slice (some ⟨g,0,none⟩) m.sure.length cap) (t:w.cell? ⟨g,r,none⟩=some (.slice (some ⟨j,0,none⟩) q d)) (c:O j=.sure r):DevRaw (w.setCells j (i*64) (Bs b)) O hp L { m with sure:=m.sure.set r (row.set i b) } where
 hd:=by rw [bv _ _ _ _ _ (fun e=>by rw [<- e,h.ohd] at c;cases c)];exact h.hd
 ohd:=h.ohd
 now:=h.now.keep fun k _ a=>bv _ _ _ _ _ (fun e=>by rw [e,c] at a;rcases a with a | ⟨_,a⟩ <;> cases a)
 sure:=h.sure.setBlk n o f b p s t (by rw [c];simp) (fun u l=>by rw [c];simp;exact fun e=>l e.symm)
 done:=h.done.keep fun k _ a=>bv _ _ _ _ _ (fun e=>by rw [e,c] at a;cases a)
 uns:=h.uns.keep fun k _ a=>bv _ _ _ _ _ (fun e=>by rw [e,c] at a;cases a)
theorem DevRaw.unsAt {w:World} {O:Nat->dt} {hp:Nat} {L:jC} {m:DM} (h:DevRaw w O hp L m) {r u:Nat} (a:m.uns[r]?=some u) :
 ∃ g cap,L.sUns=.slice (some ⟨g,0,none⟩) m.uns.length cap/\O g=.uns/\g<w.heap.size/\w.cell? ⟨g,r,none⟩=some (.int .i64 u)/\w.frozen? ⟨g,r,none⟩=false:=by
 have b:=(List.getElem?_eq_some_iff.1 a).1;obtain ⟨g,cap,c,d,e,j,k,f,i⟩:=h.uns.pos Ha;refine ⟨g,cap,c,d,e,?_,i r⟩;rw [f r Ha];unfold sK;rw [List.getElem?_map,a];rfl
theorem DevRaw.setUns {w:World} {O:Nat->dt} {hp:Nat} {L:jC} {m:DM} (h:DevRaw w O hp L m) (r u:Nat) {g cap:Nat} (c:L.sUns=.slice (some ⟨g,0,none⟩) m.uns.length cap) (b:O g=.uns) :
 DevRaw (w.setCell ⟨g,r,none⟩ (.int .i64 u)) O hp L { m with uns:=m.uns.set r u } where
 hd:=by rw [Below.heap_setCell _ _ _ _ (fun e=>by have:=h.ohd;rw [e,b] at this;cases this)];exact h.hd
 ohd:=h.ohd
 now:=h.now.keep fun k _ a=>Below.heap_setCell _ _ _ _ (fun e=>by subst e;rcases a with a | ⟨_,a⟩ <;> rw [b] at a <;> cases a)
 sure:=h.sure.keep fun k _ a=>Below.heap_setCell _ _ _ _ (fun e=>by subst e;rcases a with a | ⟨_,a⟩ <;> rw [b] at a <;> cases a)
 done:=h.done.keep fun k _ a=>Below.heap_setCell _ _ _ _ (fun e=>by subst e;rw [b] at a;cases a)
 uns:=by
  have:=h.uns;rw [c] at this ⊢;show aI _ _ _ 1 _ (m.uns.set r u).length (sK (m.uns.set r u));rw [List.length_set];unfold sK at this ⊢;rw [List.map_set];exact this.stored r _
def JU (w:World) (O:Nat->dt) (hp:Nat) (L:jC) (m:DM) (r:Nat) (fv:Value) (kept:Nat->Bool) (a:Act) (wr:World):Prop :=
 ∃ (b k:Nat) (s:List (List (List Int))),k<=m.done.length/\b<=k/\jV m s/\du wr O hp L { m with sure:=s }/\aE (fun k=>O k=.sure r) w wr /\
  bE (m.done.drop k) r kept b s=bE (m.done.drop (m.uns.getD r 0)) r kept 0 m.sure /\
  ∃ u8 u9 c d e f g h i j l n o p q t u v x y z A B C u32 H I K M N R S T U V W X Y Z ad an a0 a1 a2 a3 a4 a5 a6 a7 a8 a9 bb bi bk bl bn bs bt bx b0 b1 b2 b3 b4 b5 b6 b8 b9 ca cb:Value,a={ tmps:=#[.pointer (some ⟨hp,0,none⟩),.int .i64 r,fv,undef,undef,undef,.int .i64 b,.int .i64 k,u8,u9,c,d,e,f,g,h,i,j,l,n,o,p,q,t,u,v,x,y,z,A,B,C,u32,H,I,K,M,N,R,S,T,U,V,W,X,Y,Z,ad,an,a0,a1,a2,a3,a4,a5,a6,a7,a8,a9,bb,bi,bk,bl,bn,bs,bt,bx,b0,b1,b2,b3,b4,b5,b6,b8,b9,ca,cb],defers:=[] }
def Ec (w:World) (O:Nat->dt) (hp:Nat) (L:jC) (m:DM) (r:Nat) (fv:Value) (kept:Nat->Bool) (a:Act) (wr:World):Prop :=
 du wr O hp L { m with sure:=bE (m.done.drop (m.uns.getD r 0)) r kept 0 m.sure }/\aE (fun k=>O k=.sure r) w wr /\
  ∃ (b k:Nat) (u8 u9 c d e f g h i j l n o p q s t u v x y z A B u32 C H I K M N R S T U V W X Y Z ad an a0 a1 a2 a3 a4 a5 a6 a7 a8 a9 bb bi bk bl bn bs bt bx b0 b1 b2 b3 b4 b5 b6 b8 b9 ca:Value),a={ tmps:=#[.pointer (some ⟨hp,0,none⟩),.int .i64 r,fv,undef,undef,undef,.int .i64 b,.int .i64 k,u8,u9,c,d,e,f,g,h,i,j,l,n,o,p,q,s,t,u,v,x,y,z,A,B,u32,C,H,I,K,M,N,R,S,T,U,V,W,X,Y,Z,ad,an,a0,a1,a2,a3,a4,a5,a6,a7,a8,a9,bb,bi,bk,bl,bn,bs,bt,bx,b0,b1,b2,b3,b4,b5,b6,b8,b9,ca],defers:=[] }
def MW (hp i a gd c:Nat) (sSure sDone:Value) (x:dr) (k:Nat) (v:Value) (w:World):Prop :=
 match k with
 | 0 | 1 | 4 | 5 | 13 | 14=>v=.pointer (some ⟨hp,0,none⟩)
 | 2=>v=.pointer (some ⟨hp,1,none⟩)
 | 3=>v=sSure
 | 6 | 15=>v=.pointer (some ⟨hp,2,none⟩)
 | 7 | 16=>v=sDone
 | 8 | 17=>v=.int .i64 i
 | 9 | 10 | 18=>v=.pointer (some ⟨gd,i*65,none⟩)
 | 11=>v=.complex .f64 (Fx.fb x.r) (Fx.fb x.i)
 | 12 | 21=>v=.pointer (some ⟨c,a*64,none⟩)
 | 19=>v=.pointer (some ⟨gd,i*65+1,none⟩)
 | 20=>v=.agg (Bs x.b).toArray
 | _=>True
theorem zo {w:World} {O:Nat->dt} {hp:Nat} {L:jC} {m:DM} (h:du w O hp L m) (r:Nat) (hr:r<m.now.length) (hm:m.done.length<=1000000) (fn:Nat) (caps:Array Value) (kept:Nat->Bool)
 (hcf:∀ (args:Array Value) (W:World),(callFunc fn args).run Tryz.prog W=.ok (.enter fn args) W)
 (hk:∀ W (n:Nat),aE (fun k=>O k=.sure r) w W->n<=1000000->Calls Tryz.prog fn (#[.int .i64 n]++caps) W fun e w'=>e=.returned (.bool (kept n))/\W=w') :
 Calls Tryz.prog 210 #[.pointer (some ⟨hp,0,none⟩),.int .i64 r,.func (.func fn) #[] caps] w fun e w'=>e=.returned (.tuple #[])/\du w' O hp L (m.settle r kept)/\aE (fun k=>O k=.uns\/O k=.sure r) w w':=by
 have few:=h.ok.few;obtain ⟨u,hu⟩:∃ u,m.uns[r]?=some u:=⟨_,List.getElem?_eq_getElem (by rw [h.ok.unsLen];exact hr)⟩
 have hul:=h.ok.unss r u hu;obtain ⟨gu,capu,hvu,ogu,hgu,hcu,hfu⟩:=h.unsAt hu;have HH:=He h;have HK:=He hk;have HU:=He hu;have HVU:=He (And.intro hvu ogu);have hUR:m.uns.length=m.now.length:=h.ok.unsLen;have hud:m.uns.getD r 0=u:=by rw [List.getD,hu];rfl
 have HUD:=He hud;have c3:=fun q=>(show (w.drewN q).cell? ⟨hp,3,none⟩=some L.sUns from h.c3)
 rw [hvu,hUR] at c3;have cu:=fun q=>(show (w.drewN q).cell? ⟨gu,r,none⟩=some (.int .i64 u) from hcu)
 clear h hk hu hvu ogu hcu hfu hud;have HUR:=He hUR;clear hUR;generalize hR:m.now.length=R at *;generalize hN:m.done.length=N at *;have HR:=He hR;have HN:=He hN;clear hR hN;have hr1:(r:Int)<R:=Ha;go_enter Tryz.func210,Tryz.ntmps210;refine zc (JU w O hp L m r (.func (.func fn) #[] caps) kept) (Ec w O hp L m r (.func (.func fn) #[] caps) kept) (fun a' _=>N-(intOf (a'.tmps.getD 7 undef)).toNat) rfl rfl ?_ ?_ ?_
 ·intro HF0;have HF:=He HF0;clear HF0;go_wp2
  go_quiet (fail)
  go_wp2;go_step3;rename_i hK;refine hK _ _ (HF.out _ _ ⟨0,u,m.sure,by rw [HN.out];exact hul,Nat.zero_le _,HH.out.ok.sureOk,HH.out.drewN nq,(aE.refl _ _).drewN nq,by rw [HUD.out],_,_,_,_,_,_,_,_,_,_,_,_,_,_,_,_,_,_,_,_,_,_,_,_,_,_,_,_,_,_,_,_,_,_,_,_,_,_,_,_,_,_,_,_,_,_,_,_,_,_,_,_,_,_,_,_,_,_,_,_,_,_,_,_,_,_,_,_,_,_,rfl⟩)
 ·rintro a wr ⟨nth,k,s,hk,hnk,hs,hd,ht,he,u8,u9,u10,u11,u12,u13,u14,u15,u16,u17,u18,u19,u20,u21,u22,u23,u24,u25,u26,u27,u28,u29,u30,u31,u32,u33,u34,u35,u36,u37,u38,u39,u40,u41,u42,u43,u44,u45,u46,u47,u48,u49,u50,u51,u52,u53,u54,u55,u56,u57,u58,u59,u60,u61,u62,u63,u64,u65,u66,u67,u68,u69,u70,u71,u72,u73,u74,u75,u76,u77,rfl⟩;have HS:=He hs;have HD:=He hd;have HT:=He ht;have HE:=He he;rw [HN.out] at hk;have hnx:=He (D7 hd r k (by show r<m.now.length;rw [HR.out];exact hr) (by show k<=m.done.length;rw [HN.out];exact hk) (by show m.done.length<=_;rw [HN.out];exact hm));have hle:k<=go m.done r k/\go m.done r k<=N:=by have:=D5 (l:=m.done) (r:=r) (i:=k) (by rw [HN.out];exact hk);rw [HN.out] at this;exact this
  have hsn:=vf m.done r kept nth s _ k rfl (by rw [HN.out];exact hk);have hat:=fun h=>D6 (l:=m.done) (r:=r) (i:=k) h;rw [he] at hsn;have HSN:=He hsn;have HAT:=He hat;clear hs hd ht he hsn hat;change Hid (Calls _ _ _ _ (fun e w'=>e=.returned (.int .i64 (go m.done r k))/\wr=w')) at hnx;generalize go m.done r k=k' at *;go_wp2_with fail
  refine hnx.out.mono ?_;rintro e w' ⟨rfl,rfl⟩;have c2:=HD.out.c2;obtain ⟨Ad,capd,hvd,hd1,hd2⟩:=HD.out.done.val;have hvd':L.sDone=.slice Ad N capd:=by rw [hvd];show Value.slice Ad m.done.length capd=_;rw [HN.out]
  rw [hvd'] at c2;have HVD:=He hvd';clear hvd hvd';by_cases hkn:k'=N
  ·subst hkn;have hfin:s=bE (m.done.drop (m.uns.getD r 0)) r kept 0 m.sure:=by rw [HSN.out,<- HN.out,wT]
   have HFIN:=He hfin;clear hfin;go_wp2;go_step3;exact (show Ec _ _ _ _ _ _ _ _ _ _ from ⟨by rw [<- HFIN.out];exact HD.out,HT.out,nth,k',_,_,_,_,_,_,_,_,_,_,_,_,_,_,_,_,_,_,_,_,_,_,_,_,_,_,_,_,_,_,_,_,_,_,_,_,_,_,_,_,_,_,_,_,_,_,_,_,_,_,_,_,_,_,_,_,_,_,_,_,_,_,_,_,_,_,_,_,_,_,rfl⟩)
  ·have hkl:k'<N:=Ha;have hq:((k':Int)==N)=false:=by simp;omega
   obtain ⟨x,hx,hxr⟩:=HAT.out (by rw [HN.out];exact hkl);obtain ⟨g,cap',hv,_,_,_,e0,er,_⟩:=HD.out.doneAt (i:=k') (x:=x) hx;have hv2:=HVD.out;rw [hv] at hv2;injection hv2 with e1 e2 e3
   subst e1;subst e3;have hxi:=HD.out.ok.done_r (x:=x) (List.mem_of_getElem? hx);have hx65:x.i<2 ^ 53:=by have:=hxi.2;omega
   have ef:=Jl x.i 65535 Ha Ha;rw [JT] at ef;have HX:=He hx;have HXR:=He hxr;have HER:=He er;clear e2 hv hx hxr er;by_cases hxq:x.i=65535
   ·rw [decide_eq_true hxq] at ef;have hfin:s=bE (m.done.drop (m.uns.getD r 0)) r kept 0 m.sure:=by rw [HSN.out,qD HX.out HXR.out,if_pos hxq]
    have HFIN:=He hfin;clear hfin hxq;go_wp2;go_step3;exact (show Ec _ _ _ _ _ _ _ _ _ _ from ⟨by rw [<- HFIN.out];exact HD.out,HT.out,nth,k',_,_,_,_,_,_,_,_,_,_,_,_,_,_,_,_,_,_,_,_,_,_,_,_,_,_,_,_,_,_,_,_,_,_,_,_,_,_,_,_,_,_,_,_,_,_,_,_,_,_,_,_,_,_,_,_,_,_,_,_,_,_,_,_,_,_,_,_,_,_,rfl⟩)
   ·rw [decide_eq_false hxq] at ef;have hstep:bE (m.done.drop (k'+1)) r kept (nth+1) (if kept nth then cj s x.r x.i x.b else s)=bE (m.done.drop (m.uns.getD r 0)) r kept 0 m.sure:=by rw [HSN.out,qD HX.out HXR.out,if_neg hxq]
    have HSTEP:=He hstep;have HXQ:=He hxq;clear hstep hxq;have hcall:=He (HK.out wr nth HT.out Ha);go_wp2_with fail
    refine hcall.out.mono ?_;rintro e w' ⟨rfl,rfl⟩;cases hq2:kept nth with
    | false =>
      rw [hq2] at HSTEP;have HQ:=He hq2;clear hq2;go_wp2;go_step3;refine ⟨⟨nth+1,k'+1,s,by rw [HN.out];omega,Ha,HS.out,HD.out,HT.out,HSTEP.out,_,_,_,_,_,_,_,_,_,_,_,_,_,_,_,_,_,_,_,_,_,_,_,_,_,_,_,_,_,_,_,_,_,_,_,_,_,_,_,_,_,_,_,_,_,_,_,_,_,_,_,_,_,_,_,_,_,_,_,_,_,_,_,_,_,_,_,_,_,_,rfl⟩,?_⟩;simp [intOf];omega
    | true =>
      rw [hq2] at HSTEP;have HQ:=He hq2;clear hq2;go_wp2_with fail
      obtain ⟨srow,hsr⟩:∃ srow,s[r]?=some srow:=⟨_,List.getElem?_eq_getElem (by rw [HS.out.len,HR.out];exact hr)⟩
      obtain ⟨⟨nrow,hnr,hlen⟩,hblk⟩:=HS.out.rows r srow hsr;have hnr':=HD.out.ok.rows r nrow hnr;have hxd:=HD.out.ok.dones x (List.mem_of_getElem? HX.out);have hxi3:x.i<srow.length:=by
       obtain ⟨⟨row,h1,h2⟩,_⟩:=hxd;have h1':m.now[x.r]?=some row:=h1;rw [HXR.out,hnr] at h1';injection h1' with h1'
       subst h1';rcases h2 with h2 | h2
       ·omega
       ·exact absurd h2 HXQ.out
      have h64:∀ b∈srow,b.length=64:=fun b hb=>(hblk b hb).1;have hxb:=hxd.2;obtain ⟨b0,hb0⟩:∃ b,srow[x.i]?=some b:=⟨_,List.getElem?_eq_getElem hxi3⟩
      obtain ⟨gt,capt,gs,caps',hvs,_,ogs,hgt,hgs,hcs,_,hrow⟩:=HD.out.sure.blk (r:=r) (i:=x.i) hsr hb0 h64;have hvs':L.sSure=.slice (some ⟨gt,0,none⟩) R capt:=by rw [hvs];show Value.slice _ s.length capt=_;rw [HS.out.len,HR.out]
      have hsl1:srow.length<=1000:=by have:=hnr'.1;omega
      have hbl:(Bs x.b).length=64:=by rw [ar];exact hxb.1
      have E0:=He e0;have HVS:=He hvs';have HCS:=He hcs;have HROW:=He hrow;have HSR:=He hsr;have H64:=He h64;have HXB:=He hxb;have HBL:=He hbl;have HOGS:=He ogs;have hkk:(k':Int)<N:=Ha;clear hsr hnr hlen hblk hnr' hxd h64 hxb hb0 hvs hvs' ogs hcs hrow hbl e0 ef c2;have grefl:∀ W:World,W.grownBy W none:=fun W=>World.grownBy.refl W _;refine i7 (MW hp k' x.i g gs L.sSure (.slice (some ⟨g,0,none⟩) N cap') x) (Below wr.heap.size wr) (fun w w'=>w.grownBy w' none) Hc Hc (fun j v w w' h _=>h) ((Below.refl _ _).drew) ?_;simp only [cf];refine ⟨?_,?_,?_,?_,?_,?_,?_,?_,?_,?_,?_,?_,?_,?_,?_,?_,?_,?_,?_,?_,?_,?_,?_⟩
      ·refine aC.of rfl fun T W hag hJ hd=>?_;have e0:=Hf hag 0;exact Hi
      ·refine aC.of rfl fun T W hag hJ hd=>?_;have d41:T.getD 41 undef=_:=Hg hd 0 rfl;exact Hi
      ·refine aC.of rfl fun T W hag hJ hd=>?_;have d42:T.getD 42 undef=_:=Hg hd 1 rfl;exact Hi
      ·refine aC.of rfl fun T W hag hJ hd=>?_;have d43:T.getD 43 undef=_:=Hg hd 2 rfl;have fct0:=(HD.out.below hJ).c1;exact Hi
      ·refine aC.of rfl fun T W hag hJ hd=>?_;have e0:=Hf hag 0;exact Hi
      ·refine aC.of rfl fun T W hag hJ hd=>?_;have d45:T.getD 45 undef=_:=Hg hd 4 rfl;exact Hi
      ·refine aC.of rfl fun T W hag hJ hd=>?_;have d46:T.getD 46 undef=_:=Hg hd 5 rfl;exact Hi
      ·refine aC.of rfl fun T W hag hJ hd=>?_;have d47:T.getD 47 undef=_:=Hg hd 6 rfl;have fct0:=(show W.cell? ⟨hp,2,none⟩=some (.slice (some ⟨g,0,none⟩) N cap') from by rw [<- HVD.out];exact (HD.out.below hJ).c2)
       exact Hi
      ·refine aC.of rfl fun T W hag hJ hd=>?_;have e7:=Hf hag 7;exact Hi
      ·refine aC.of rfl fun T W hag hJ hd=>?_;have d48:T.getD 48 undef=_:=Hg hd 7 rfl;have d49:T.getD 49 undef=_:=Hg hd 8 rfl;exact Hi
      ·refine aC.of rfl fun T W hag hJ hd=>?_;have d50:T.getD 50 undef=_:=Hg hd 9 rfl;exact Hi
      ·refine aC.of rfl fun T W hag hJ hd=>?_;have d51:T.getD 51 undef=_:=Hg hd 10 rfl;have fct0:=cO hJ E0.out;exact Hi
      ·refine aC.of rfl fun T W hag hJ hd=>?_;have d44:T.getD 44 undef=_:=Hg hd 3 rfl;have d52:T.getD 52 undef=_:=Hg hd 11 rfl;rw [HVS.out] at d44;rw [HXR.out] at d52;clear hag hd;go_simp;refine (kZ W gt capt R r x.i gs srow.length caps' hr hxi3 Ha hsl1 (cO hJ HCS.out)).mono ?_;rintro e w' ⟨rfl,rfl⟩;exact ⟨_,rfl,rfl,hJ,grefl _⟩
      ·refine aC.of rfl fun T W hag hJ hd=>?_;have e0:=Hf hag 0;exact Hi
      ·refine aC.of rfl fun T W hag hJ hd=>?_;have d54:T.getD 54 undef=_:=Hg hd 13 rfl;exact Hi
      ·refine aC.of rfl fun T W hag hJ hd=>?_;have d55:T.getD 55 undef=_:=Hg hd 14 rfl;exact Hi
      ·refine aC.of rfl fun T W hag hJ hd=>?_;have d56:T.getD 56 undef=_:=Hg hd 15 rfl;have fct0:=(show W.cell? ⟨hp,2,none⟩=some (.slice (some ⟨g,0,none⟩) N cap') from by rw [<- HVD.out];exact (HD.out.below hJ).c2)
       exact Hi
      ·refine aC.of rfl fun T W hag hJ hd=>?_;have e7:=Hf hag 7;exact Hi
      ·refine aC.of rfl fun T W hag hJ hd=>?_;have d57:T.getD 57 undef=_:=Hg hd 16 rfl;have d58:T.getD 58 undef=_:=Hg hd 17 rfl;exact Hi
      ·refine aC.of rfl fun T W hag hJ hd=>?_;have d59:T.getD 59 undef=_:=Hg hd 18 rfl;exact Hi
      ·refine aC.of rfl fun T W hag hJ hd=>?_;have d60:T.getD 60 undef=_:=Hg hd 19 rfl;refine wp_load_mid 262 (.tmp 60) rfl g (k'*65+1) d60 (Bs x.b) _ (fun j v hj=>cO hJ (HER.out j v hj)) Tryz.underlying262 rfl (by rw [HBL.out];exact mR) ?_;exact ⟨_,rfl,rfl,hJ,grefl _⟩
      ·refine aC.of rfl fun T W hag hJ hd=>?_;have d53:T.getD 53 undef=_:=Hg hd 12 rfl;exact Hi
      ·refine kd.of rfl fun T W hag hJ hd=>?_;have d62:T.getD 62 undef=_:=hd 21 _ Hb rfl;have d61:T.getD 61 undef=_:=hd 20 _ Hb rfl;have hrW:=HROW.out.below hJ;refine wp_store_mid 262 (.tmp 62) (.tmp 61) rfl gs (x.i*64) _ d62 d61 (by simp only [List.size_toArray,HBL.out];exact hrW.there (x.i*64) 64 Ha) (by simp only [List.size_toArray,HBL.out];exact mR) (all_oneCell_toArray (io x.b)) ?_;have hnew:=(HD.out.below hJ).toDevRaw.setSure (r:=r) (i:=x.i) HSR.out hxi3 H64.out x.b HXB.out.1 (by rw [HVS.out];show _=Value.slice _ s.length _;rw [HS.out.len,HR.out]) (cO hJ HCS.out) HOGS.out;have htc:aE (fun k=>O k=.sure r) w (W.setCells gs (x.i*64) (Bs x.b)):=(HT.out.trans (aE.of_below hJ _)).setCells HOGS.out _ _;have hset:cj s x.r x.i x.b=s.set r (srow.set x.i x.b):=by rw [HXR.out];exact wQ HSR.out _ _
       have hsok:jV m (s.set r (srow.set x.i x.b)):=by rw [<- hset];exact HS.out.set HXB.out
       have hnewD:du (W.setCells gs (x.i*64) (Bs x.b)) O hp L { m with sure:=s.set r (srow.set x.i x.b) }:=⟨hnew,HH.out.ok.withSure hsok⟩
       have hfin:=HSTEP.out;rw [if_pos trivial,hset] at hfin;have HM:=He (And.intro hsok (And.intro hnewD (And.intro htc hfin)));obtain ⟨f,hf,hT⟩:=aJ hag;generalize (W.setCells gs (x.i*64) (Bs x.b))=W2 at *;clear hag hd d62 d61 hf hrW hnew htc hset hsok hnewD hfin;rw [hT];clear hT;simp only [List.filterMap_cons,List.filterMap_nil,List.foldl_cons,List.foldl_nil,List.setIfInBounds_toArray,List.set_cons_succ,List.set_cons_zero];go_wp2;go_step3;refine ⟨⟨nth+1,k'+1,_,by rw [HN.out];omega,Ha,HM.out.1,HM.out.2.1,HM.out.2.2.1,HM.out.2.2.2,_,_,_,_,_,_,_,_,_,_,_,_,_,_,_,_,_,_,_,_,_,_,_,_,_,_,_,_,_,_,_,_,_,_,_,_,_,_,_,_,_,_,_,_,_,_,_,_,_,_,_,_,_,_,_,_,_,_,_,_,_,_,_,_,_,_,_,_,_,_,rfl⟩,?_⟩;simp [intOf];omega
 ·rintro a wr ⟨hd,ht,nth,k,u8,u9,u10,u11,u12,u13,u14,u15,u16,u17,u18,u19,u20,u21,u22,u23,u24,u25,u26,u27,u28,u29,u30,u31,u32,u33,u34,u35,u36,u37,u38,u39,u40,u41,u42,u43,u44,u45,u46,u47,u48,u49,u50,u51,u52,u53,u54,u55,u56,u57,u58,u59,u60,u61,u62,u63,u64,u65,u66,u67,u68,u69,u70,u71,u72,u73,u74,u75,u76,u77,rfl⟩;have HD:=He hd;have HT:=He ht;obtain ⟨gv,capv,hvv,ogv,hgv,hcv,hfv⟩:=hd.unsAt (r:=r) HU.out;obtain ⟨Ad,capd,hvd,hd1,hd2⟩:=hd.done.val;have hvd':L.sDone=.slice Ad N capd:=by rw [hvd];show Value.slice Ad m.done.length capd=_;rw [HN.out]
  have hvv':L.sUns=.slice (some ⟨gv,0,none⟩) R capv:=by rw [hvv];show Value.slice _ m.uns.length _=_;rw [HUR.out]
  have c2:=hd.c2;have c3':=hd.c3;rw [hvd'] at c2;rw [hvv'] at c3';have HV3:=He (And.intro hvv' ogv);clear hd ht hvd hvv hvd' hvv' ogv c3 cu;go_wp2
  go_region
  all_goals
   show cK (fun _ _ _=>False) _ Exit.normal _ _;rw [uV]
   go_end0
   have hst:=HD.out.toDevRaw.setUns r N (g:=gv) (cap:=capv) (by rw [HV3.out.1];show _=Value.slice _ m.uns.length _;rw [HUR.out]) HV3.out.2;rw [show bE (m.done.drop (m.uns.getD r 0)) r kept 0 m.sure=(m.settle r kept).sure from rfl] at hst;refine ⟨rfl,⟨?_,HH.out.ok.settle r kept⟩,?_⟩
   ·have:m.settle r kept={ m with sure:=(m.settle r kept).sure,uns:=m.uns.set r N }:=by unfold DM.settle;rw [HN.out]
    rw [this];exact DevRaw.keep (w':=_) hst fun _ _ _=>rfl
   ·exact (aE.setCell (F:=fun k=>O k=.uns\/O k=.sure r) (HT.out.mono fun k _ h=>Or.inr h) (p:=⟨gv,r,none⟩) (Or.inl HV3.out.2) _).drew
def DM.barrier (m:DM) (r:Nat):DM:=({ m with done:=m.done++[⟨r,65535,List.replicate 64 0⟩] }:DM).settle r (fun _=>true)
theorem qo:cQ (List.replicate 64 0):=⟨Hb,fun x a=>by rw [(List.mem_replicate.1 a).2];omega⟩
theorem DM.Ok.tell {m:DM} (h:m.Ok) {r:Nat} (c:r<m.now.length):({ m with done:=m.done++[⟨r,65535,List.replicate 64 0⟩] }:DM).Ok :=
 { pos:=h.pos,few:=h.few,sureLen:=h.sureLen,unsLen:=h.unsLen,rows:=h.rows,sures:=h.sures
   dones:=fun x d=>by
    have a:x∈m.done++[⟨r,65535,List.replicate 64 0⟩]:=d;rcases List.mem_append.1 a with b | b
    ·exact h.dones x b
    ·rw [List.mem_singleton.1 b];exact ⟨⟨_,List.getElem?_eq_getElem c,Or.inr rfl⟩,qo⟩
   unss:=fun k u e=>by
    have:=h.unss k u e;show u<=(m.done++_).length;rw [List.length_append];omega
   left:=h.left }
theorem Cc {f : Nat} {b : Func} {c : Code} (d : Tryz.prog.funcs[f]? = some b) (a : (b.name == "runtime.NumGoroutine") = false) (e : b.body = some c) (args : Array Value) (w : World) : (callFunc f args).run Tryz.prog w = .ok (.enter f args) w := by
 unfold callFunc;have g : ¬ b.name = "runtime.NumGoroutine" := by simpa using a
 simp [d,g,e]
def Lh (hp B:Nat) (Own:Nat->Prop) (sDone:Value) (n:Nat) (l:List Value) (x:dr) (k:Nat) (v:Value) (w:World):Prop :=
 match k with
 | 0 | 1 | 2 | 10=>v=.pointer (some ⟨hp,0,none⟩)
 | 3 | 11=>v=.pointer (some ⟨hp,2,none⟩)
 | 4=>v=sDone
 | 5=>v=.int .i64 x.r
 | 6=>v=.complex .f64 (Fx.fb x.r) (Fx.fb 65535)
 | 7=>v=.agg x.cs.toArray
 | 8=>∃ p,v=.slice (some ⟨p,0,none⟩) 1 1/\B<=p/\w.heap[p]?=some (.cells x.cs.toArray 281 (0,0))
 | 9=>aI w (fun k=>Own k\/B<=k) 281 65 v (n+1) (l++x.cs)
 | _=>True
def Li (sDone:Value) (i:Nat) (w w':World):Prop:=if i=9 then w.grownBy w' sDone.ownBlock else w.grownBy w' none
theorem Lh.on {hp B:Nat} {Own:Nat->Prop} {sDone:Value} {n:Nat} {l:List Value} {x:dr} (d:∀ k,sDone.ownBlock=some k->k<B) {i k:Nat} {v:Value} {w w':World} (c:i≠k) (h:Lh hp B Own sDone n l x k v w) (a:Li sDone i w w'):Lh hp B Own sDone n l x k v w':=by
 unfold Li at a;unfold Lh at *;split <;> try exact h
 ·obtain ⟨p,e,f,b⟩:=h;refine ⟨p,e,f,?_⟩;split at a
  ·rw [a.block p (ah b) (fun e=>by have:=d p e.symm;omega)];exact b
  ·rw [a.block p (ah b) Hb];exact b
 ·rw [if_neg c] at a;exact h.keep fun k g _=>a.block k g Hb
 ·trivial
theorem wU {w:World} {F:Nat->Prop} {hp:Nat} {m:DM} (h:qn w F hp m) (r:Nat) (hr:r<m.now.length) (I:aG m=false) (b0:m.done.length<1000000) :
 Calls Tryz.prog 190 #[.pointer (some ⟨hp,0,none⟩),.int .i64 r] w fun e w'=>e=.returned (.bool true)/\gD w w' F hp (m.barrier r):=by
 obtain ⟨O,L,h,hF,K⟩:=h;have hO:∀ k,O k≠.none->k<w.heap.size:=fun k a=>K k ((hF k).2 a);have b:=He h;have few:=h.ok.few;have M:=He (iE h r (by constructor <;> omega));have R:kf m r=true:=by unfold kf;simp;omega
 rw [R] at M;clear R;have hS:=He (jI h);rw [I] at hS;have HO:=He hO;have HF:=He hF;have HR:=He hr;clear h I K hO hF;generalize hN:m.done.length=N at *;have HN:=He hN;clear hN;go_enter Tryz.func190,Tryz.ntmps190;go_wp2_with fail
 refine M.out.mono ?_;rintro e w' ⟨rfl,rfl⟩;go_wp2_with fail
 refine hS.out.mono ?_;rintro e w' ⟨rfl,rfl⟩;go_wp2_with fail
 go_upto_region 5 with fail
 go_cut [4] (fun s wx=>∃ v:Value,s=.bool false/\aE (fun k=>k=hp\/O k=.done) w wx/\(∀ k,v.ownBlock=some k->O k=.done\/w.heap.size<=k)/\DevRaw wx (f7 O w.heap.size v) hp { L with sDone:=v } { m with done:=m.done++[⟨r,65535,List.replicate 64 0⟩] })
 case first =>
  have srefl:∀ (i:Nat) (W:World),Li L.sDone i W W:=fun i W=>by unfold Li;split <;> exact World.grownBy.refl W _
  have a6:∀ k,L.sDone.ownBlock=some k->k<w.heap.size:=fun k a=>(b.out.done.1.lt k a).2;have S:aE (fun k=>O k=.done) w w.drew/\aI w.drew (fun k=>O k=.done) 281 65 L.sDone N (iM m.done):=⟨(aE.refl _ _).drew,by have:=b.out.done;rw [<- HN.out];exact this⟩
  have t:¬ O hp=.done:=by rw [b.out.ohd];simp
  refine gm (Lh hp w.heap.size (fun k=>O k=.done) L.sDone N (iM m.done) ⟨r,65535,List.replicate 64 0⟩) (fun W=>aE (fun k=>O k=.done) w W/\aI W (fun k=>O k=.done) 281 65 L.sDone N (iM m.done)) (Li L.sDone) Hc Hc (fun i j v w w' a7 h hg=>h.on a6 a7 hg) S ?_;clear S;simp only [cf];refine ⟨?_,?_,?_,?_,?_,?_,?_,?_,?_,?_,?_,?_,?_⟩
  ·refine aC.of rfl fun T W hag hJ hd=>?_;have e0:=Hf hag 0;exact Hj
  ·refine aC.of rfl fun T W hag hJ hd=>?_;have e0:=Hf hag 0;exact Hj
  ·refine aC.of rfl fun T W hag hJ hd=>?_;have b2:T.getD 12 undef=_:=Hg hd 1 rfl;exact Hj
  ·refine aC.of rfl fun T W hag hJ hd=>?_;have b3:T.getD 13 undef=_:=Hg hd 2 rfl;exact Hj
  ·refine aC.of rfl fun T W hag hJ hd=>?_;have b4:T.getD 14 undef=_:=Hg hd 3 rfl;have b1:=(AS hJ.1 b.out.c2 t)
   exact Hj
  ·refine aC.of rfl fun T W hag hJ hd=>?_;have e1:=Hf hag 1;exact Hj
  ·refine aC.of rfl fun T W hag hJ hd=>?_;have b5:T.getD 16 undef=_:=Hg hd 5 rfl;clear hag hd;go_simp;refine (oI W r 65535).mono ?_;rintro e w' ⟨rfl,rfl⟩;exact ⟨_,rfl,rfl,hJ,srefl _ _⟩
  ·refine aC.of rfl fun T W hag hJ hd=>?_;have a8:T.getD 17 undef=_:=Hg hd 6 rfl;refine pB 281 _ rfl (dr.cs ⟨r,65535,List.replicate 64 0⟩).toArray ?_ ?_
   ·simp only [List.map_toArray,List.map_cons,List.map_nil];rw [show (⟨T,[]⟩:Act).eval (.tmp 17)=_ from a8];exact wP r 65535
   ·exact ⟨_,rfl,rfl,hJ,srefl _ _⟩
  ·refine aC.of rfl fun T W hag hJ hd=>?_;have a9:T.getD 18 undef=_:=Hg hd 7 rfl;obtain ⟨i0,x,y,z,U⟩:=info_parts qB;refine gH 171 (.tmp 18) rfl 281 i0 _ 65 Tryz.underlying171 x y z Hd Hd _ a9 (by simp only [Value.cells,List.size_toArray];exact dr.cs_length qo.1) ?_;refine ⟨_,rfl,⟨W.heap.size,rfl,hJ.1.size,heap_alloc_new W _⟩,⟨hJ.1.alloc _,hJ.2.keep fun k a _=>Below.heap_alloc W _ k a⟩,?_⟩;exact World.grownBy_alloc W _ _
  ·refine aC.of rfl fun T W hag hJ hd=>?_;have bb:T.getD 15 undef=L.sDone:=Hg hd 4 rfl;obtain ⟨p,(bi:T.getD 19 undef=_),hp1,hp2⟩:=Hg hd 8 rfl;obtain ⟨i0,x,y,z,U⟩:=info_parts qB;refine jk (.tmp 15) (.tmp 19) 171 rfl 281 i0 _ 65 80 Tryz.underlying171 x y z U (by simp [Value.cells]) Hd L.sDone N (iM m.done) bb _ hJ.2 ⟨p,0,none⟩ 1 1 (dr.cs ⟨r,65535,List.replicate 64 0⟩) bi (by rw [dr.cs_length qo.1]) (fun j u hj=>by rw [Addr.add_mid,af hp2,Nat.zero_add,List.getElem?_toArray];exact hj) (dr.cs_one _) (by simp only [maxLen];omega) Ha ?_;intro v' w' V X g;refine ⟨_,rfl,V.owner ?_,⟨?_,g⟩,X⟩
   ·intro k _ a;rcases a with a | a
    ·exact Or.inl a
    ·exact Or.inr (by have:=hJ.1.size;omega)
   ·exact hJ.1.trans' (aE.of_grown X) fun k a=>Or.inl (g.2 k a.symm)
  ·refine aC.of rfl fun T W hag hJ hd=>?_;have b6:T.getD 11 undef=_:=Hg hd 0 rfl;exact Hj
  ·refine aC.of rfl fun T W hag hJ hd=>?_;have b8:T.getD 21 undef=_:=Hg hd 10 rfl;exact Hj
  ·refine kd.of rfl fun T W hag hJ hd=>?_;have Y:T.getD 22 undef=_:=hd 11 _ Hb rfl;have x20:aI W (fun k=>O k=.done\/w.heap.size<=k) 281 65 (T.getD 20 undef) (N+1) (iM m.done++dr.cs ⟨r,65535,List.replicate 64 0⟩):=hd 9 _ Hb rfl;obtain ⟨v,A⟩:∃ v,T.getD 20 undef=v:=⟨_,rfl⟩
   rw [A] at x20;obtain ⟨B,C,rfl,b9,ca⟩:=x20.val;have d:W.heap[hp]?=_:=(hJ.1.block hp b.out.lt t).trans b.out.hd;have l:DevRaw (W.setCell ⟨hp,2,none⟩ (.slice B (N+1) C)) (f7 O w.heap.size (.slice B (N+1) C)) hp { L with sDone:=.slice B (N+1) C } { m with done:=m.done++[⟨r,65535,List.replicate 64 0⟩] }:=by
    refine b.out.toDevRaw.push ⟨r,65535,List.replicate 64 0⟩ (.slice B (N+1) C) ?_ ?_ ?_
    ·exact ai d _
    ·intro k a bk bl;rw [Below.heap_setCell _ _ _ _ bk];exact hJ.1.block k a bl
    ·rw [HN.out];exact x20.keep fun k a ho=>Below.heap_setCell _ _ _ _ (fun e=>by
      subst e;rcases ho with ho | ho
      ·exact t ho
      ·have:=b.out.lt;omega)
   have Z:aE (fun k=>k=hp\/O k=.done) w (W.setCell ⟨hp,2,none⟩ (.slice B (N+1) C)):=aE.setCell (F:=fun k=>k=hp\/O k=.done) (hJ.1.mono fun k _ h=>Or.inr h) (p:=⟨hp,2,none⟩) (Or.inl rfl) _;have HM:=He (And.intro Z (And.intro (fun k a=>x20.2 k a:∀ k,(Value.slice B (N+1) C).ownBlock=some k->O k=.done\/w.heap.size<=k) l));have c2:W.cell? ⟨hp,2,none⟩=some L.sDone:=af d 2;have f2:W.frozen? ⟨hp,2,none⟩=false:=aA d 2;have o:=A;have q:=Y;rw [Array.getD_eq_getD_getElem?] at o q;have ad:=He hag;clear hag hd d l Z x20;go_simp;obtain ⟨f,hf,hT⟩:=aJ ad.out;generalize (W.setCell ⟨hp,2,none⟩ (.slice B (N+1) C))=W2 at *;clear ad hf A Y o q c2 f2;rw [hT];clear hT;simp only [List.filterMap_cons,List.filterMap_nil,List.foldl_cons,List.foldl_nil,List.setIfInBounds_toArray,List.set_cons_succ,List.set_cons_zero];rename_i bn bs;refine bs _ _ (bn _ _ ?_)
   repeat apply Exists.intro
   exact ⟨⟨_,rfl,HM.out⟩,rfl⟩
 case rest =>
  obtain ⟨v,rfl,an,a0,a1⟩:=hcut;obtain ⟨w3,rfl⟩:∃ w3,w3=wc:=⟨wc,rfl⟩
  have H:du w3 (f7 O w.heap.size v) hp { L with sDone:=v } { m with done:=m.done++[⟨r,65535,List.replicate 64 0⟩] }:=⟨a1,b.out.ok.tell HR.out⟩
  have a2:=He (zo H r HR.out (by show (m.done++_).length<=_;rw [List.length_append,HN.out];simp;omega) 211 #[] (fun _=>true) (fun args W=>Cc Tryz.func211 Hc rfl args W) (fun W n _ _=>qz W n));have a3:=He an;have cb:=He a0;have bt:=He H;clear an a0 a1 H;go_wp2_with fail
  refine a2.out.mono ?_;rintro e w4 ⟨rfl,a4,a5⟩;have HM:=He (And.intro a4 a5);clear a4 a5;go_wp2;go_ret;refine ⟨rfl,fun k=>f7 O w.heap.size v k≠.none,⟨_,_,HM.out.1,fun k=>Iff.rfl,fun k a=>?_⟩,?_,fun k a=>?_⟩
  ·have h1:=HM.out.2.size;have h2:=a3.out.size;rcases jm a with c | ⟨c,h4⟩
   ·have:=HO.out k c;omega
   ·have:=(bt.out.done.1.lt k h4).2;omega
  ·refine (a3.out.mono fun k _ a=>?_).trans' HM.out.2 fun k a=>?_
   ·rcases a with rfl | a
    ·exact (HF.out _).2 (by rw [b.out.ohd];simp)
    ·exact (HF.out k).2 (by rw [a];simp)
   ·have bx:f7 O w.heap.size v k≠.none:=by rcases a with a | a <;> rw [a] <;> simp
    rcases jm bx with c | ⟨c,h4⟩
    ·exact Or.inl ((HF.out k).2 c)
    ·exact Or.inr c
  ·rcases jm a with c | ⟨c,h4⟩
   ·exact Or.inl ((HF.out k).2 c)
   ·exact Or.inr c
theorem di (a:Addr) (i:Nat):(a.add i).block=a.block:=by unfold Addr.add;split <;> rfl
end Go.Proofs.YtegjelaejbacnaaGreat
