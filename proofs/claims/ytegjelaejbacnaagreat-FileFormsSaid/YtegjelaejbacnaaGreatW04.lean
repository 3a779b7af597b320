/- For FileForms: contracts and facts, part 4. -/
import Derived.Test.YtegjelaejbacnaaGreatW03
set_option maxRecDepth 100000
set_option maxHeartbeats 25600000
set_option linter.unusedVariables false
open Go.ChangeShapes Go.WideShapes Go.ChangeAt Go.RowKit
namespace Go.Proofs.YtegjelaejbacnaaGreat
def bX (l:List (List (List Int))) (r i:Nat) (b:List Int):List (List (List Int)):=l.set r ((l.getD r []).set i b)
theorem vh {l:List (List (List Int))} {r:Nat} {row:List (List Int)} (h:l[r]?=some row) (i:Nat) (b:List Int):bX l r i b=l.set r (row.set i b):=by
 unfold bX;rw [List.getD,h];rfl
def DM.write (m:DM) (r i:Nat) (b:List Int):DM :=
 { m with now:=bX m.now r i b,done:=m.done++[⟨r,i,b⟩],left:=if m.stops then m.left-1 else m.left }
theorem vi {l:List (List (List Int))} {r i:Nat} {b:List Int} (k:Nat):((bX l r i b)[k]?).map List.length=(l[k]?).map List.length:=by
 unfold bX;rw [List.getElem?_set];split
 ·rename_i e;subst e;split
  ·rename_i h;simp [List.getElem?_eq_getElem h]
  ·rename_i h;rw [List.getElem?_eq_none Ha]
 ·rfl
theorem zo {l:List (List (List Int))} {r i:Nat} {b:List Int} {k:Nat} {row:List (List Int)} (h:(bX l r i b)[k]?=some row):∃ row',l[k]?=some row'/\row.length=row'.length:=by
 have:=vi (l:=l) (r:=r) (i:=i) (b:=b) k;rw [h] at this;cases hl:l[k]? with
 | none=>rw [hl] at this;cases this
 | some row'=>rw [hl] at this;exact ⟨row',rfl,by simpa using this⟩
theorem pD {l:List (List (List Int))} {r i:Nat} {b:List Int} {k:Nat} {row:List (List Int)} (h:l[k]?=some row):∃ row',(bX l r i b)[k]?=some row'/\row'.length=row.length:=by
 have:=vi (l:=l) (r:=r) (i:=i) (b:=b) k;rw [h] at this;cases hl:(bX l r i b)[k]? with
 | none=>rw [hl] at this;cases this
 | some row'=>rw [hl] at this;exact ⟨row',rfl,by simpa using this⟩
theorem vj {l:List (List (List Int))} {r i:Nat} {b:List Int} (hb:cG b) (h:∀ (k:Nat) (row:List (List Int)),l[k]?=some row->∀ x∈row,cG x) {k:Nat} {row:List (List Int)} (hr:(bX l r i b)[k]?=some row):∀ x∈row,cG x:=by
 intro x hx;unfold bX at hr;rw [List.getElem?_set] at hr;split at hr
 ·rename_i e;subst e;split at hr
  ·rename_i hlt;injection hr with hr
   subst hr;rw [List.getD,List.getElem?_eq_getElem hlt] at hx;rcases List.mem_or_eq_of_mem_set hx with h1 | h1
   ·exact h r _ (List.getElem?_eq_getElem hlt) x h1
   ·subst h1;exact hb
  ·cases hr
 ·exact h k row hr x hx
theorem DM.Ok.write {m:DM} (h:m.Ok) {r i:Nat} {b:List Int} {row:List (List Int)} (hr:m.now[r]?=some row) (hi:i<row.length) (hb:cG b):(m.write r i b).Ok where
 pos:=by show 0<(bX _ _ _ _).length;unfold bX;rw [List.length_set];exact h.pos
 few:=by show (bX _ _ _ _).length<=8;unfold bX;rw [List.length_set];exact h.few
 sureLen:=by show _=(bX _ _ _ _).length;unfold bX;rw [List.length_set];exact h.sureLen
 unsLen:=by show _=(bX _ _ _ _).length;unfold bX;rw [List.length_set];exact h.unsLen
 rows:=fun k row' hk=>by
  obtain ⟨row2,h2,h3⟩:=zo hk;exact ⟨by rw [h3];exact (h.rows k row2 h2).1,vj hb (fun k row hk=>(h.rows k row hk).2) hk⟩
 sures:=fun k row' hk=>by
  obtain ⟨⟨row2,h2,h3⟩,h4⟩:=h.sures k row' hk;obtain ⟨row3,h5,h6⟩:=pD (r:=r) (i:=i) (b:=b) h2;exact ⟨⟨row3,h5,Ha⟩,h4⟩
 dones:=fun x hx=>by
  have hx':x∈m.done++[⟨r,i,b⟩]:=hx;rcases List.mem_append.1 hx' with h1 | h1
  ·obtain ⟨⟨row2,h2,h3⟩,h4⟩:=h.dones x h1;obtain ⟨row3,h5,h6⟩:=pD (r:=r) (i:=i) (b:=b) h2;exact ⟨⟨row3,h5,Ha⟩,h4⟩
  ·rw [List.mem_singleton.1 h1];obtain ⟨row3,h5,h6⟩:=pD (r:=r) (i:=i) (b:=b) hr;exact ⟨⟨row3,h5,Or.inl (by show i<_;omega)⟩,hb⟩
 unss:=fun k u hu=>by
  have:=h.unss k u hu;show u<=(m.done++_).length;rw [List.length_append];omega
 left:=by show (if m.stops then m.left-1 else m.left)<=_;have:=h.left;split <;> omega
def Jm (r i:Nat) (A:Option Addr) (g o B:Nat) (b:List Int) (k:Nat) (v:Value) (w:World):Prop :=
 match k with
 | 0=>v=.int .i64 r
 | 1=>v=.int .i64 i
 | 2=>v=.complex .f64 (Fx.fb r) (Fx.fb i)
 | 3=>∃ c,v=.slice (some ⟨g,o,none⟩) 64 c
 | 4=>v=.pointer (some ⟨g,o,none⟩)
 | 5=>v=.agg (Bs b).toArray
 | 6=>v=.agg (dd.cs ⟨r,i,b⟩).toArray
 | 7=>∃ q C,v=.pointer (some ⟨q,0,none⟩)/\B<=q/\C.size=65/\w.heap[q]?=some (.cells C 281 (0,0))
 | _=>True
theorem Jm.on {r i:Nat} {A:Option Addr} {g o B:Nat} {b:List Int} {k:Nat} {v:Value} {w w':World} (h:Jm r i A g o B b k v w) (hg:w.grownBy w' none):Jm r i A g o B b k v w':=by
 unfold Jm at *;split <;> try exact h
 ·obtain ⟨q,C,e,h1,h2,h3⟩:=h;exact ⟨q,C,e,h1,h2,by rw [hg.block q (ai h3) Hb];exact h3⟩
 ·trivial
def K3 (hp r i q g:Nat) (sNow:Value) (b:List Int) (k:Nat) (v:Value) (w:World):Prop :=
 match k with
 | 0 | 1 | 2=>v=.pointer (some ⟨hp,0,none⟩)
 | 3=>v=sNow
 | 4=>v=.pointer (some ⟨q,0,none⟩)
 | 5=>v=.complex .f64 (Fx.fb r) (Fx.fb i)
 | 6 | 9=>v=.pointer (some ⟨g,i*64,none⟩)
 | 7=>v=.pointer (some ⟨q,1,none⟩)
 | 8=>v=.agg (Bs b).toArray
 | _=>True
def Jn (hp q B:Nat) (Own:Nat->Prop) (sDone:Value) (n:Nat) (l:List Value) (x:dd) (k:Nat) (v:Value) (w:World):Prop :=
 match k with
 | 0 | 1 | 2 | 8=>v=.pointer (some ⟨hp,0,none⟩)
 | 3 | 9=>v=.pointer (some ⟨hp,2,none⟩)
 | 4=>v=sDone
 | 5=>v=.agg x.cs.toArray
 | 6=>∃ p,v=.slice (some ⟨p,0,none⟩) 1 1/\B<=p/\w.heap[p]?=some (.cells x.cs.toArray 281 (0,0))
 | 7=>aG w (fun k=>Own k\/B<=k) 281 65 v (n+1) (l++x.cs)
 | _=>True
def Jo (sDone:Value) (i:Nat) (w w':World):Prop:=if i=7 then w.grownBy w' sDone.ownBlock else w.grownBy w' none
theorem Jn.on {hp q B:Nat} {Own:Nat->Prop} {sDone:Value} {n:Nat} {l:List Value} {x:dd} (hB:∀ k,sDone.ownBlock=some k->k<B) {i k:Nat} {v:Value} {w w':World} (hik:i≠k) (h:Jn hp q B Own sDone n l x k v w) (hg:Jo sDone i w w'):Jn hp q B Own sDone n l x k v w':=by
 unfold Jo at hg;unfold Jn at *;split <;> try exact h
 ·obtain ⟨p,e,h1,h2⟩:=h;refine ⟨p,e,h1,?_⟩;split at hg
  ·rw [hg.block p (ai h2) (fun e=>by have:=hB p e.symm;omega)];exact h2
  ·rw [hg.block p (ai h2) Hb];exact h2
 ·rw [if_neg hik] at hg;exact h.keep fun k hk _=>hg.block k hk Hb
 ·trivial
theorem zp {F:Nat->Prop} {w w':World} (h:aD F w w') {q:Addr} {v:Value} (hq:w.cell? q=some v) (hF:¬ F q.block):w'.cell? q=some v:=by
 rw [World.cell?_of_block (h.block q.block (World.block_lt_of_cell? w q hq) hF)];exact hq
theorem DevRaw.setNow {w:World} {O:Nat->de} {hp:Nat} {L:jd} {m:DM} (h:DevRaw w O hp L m) {r i:Nat} {row:List (List Int)} (hr:m.now[r]?=some row) (hi:i<row.length) (h64:∀ x∈row,x.length=64) (b:List Int) (hb:b.length=64) {g cap g' n' cap':Nat}
 (hv:L.sNow=.slice (some ⟨g,0,none⟩) m.now.length cap) (hc:w.cell? ⟨g,r,none⟩=some (.slice (some ⟨g',0,none⟩) n' cap')) (ho:O g'=.now r):DevRaw (w.setCells g' (i*64) (Bs b)) O hp L { m with now:=m.now.set r (row.set i b) } where
 hd:=by rw [bq _ _ _ _ _ (fun e=>by rw [<- e,h.ohd] at ho;cases ho)];exact h.hd
 ohd:=h.ohd
 now:=h.now.setBlk hr hi h64 b hb hv hc (by rw [ho];simp) (fun r' hne=>by rw [ho];simp;exact fun e=>hne e.symm)
 sure:=h.sure.keep fun k _ hk=>bq _ _ _ _ _ (fun e=>by rw [e,ho] at hk;rcases hk with hk | ⟨_,hk⟩ <;> cases hk)
 done:=h.done.keep fun k _ hk=>bq _ _ _ _ _ (fun e=>by rw [e,ho] at hk;cases hk)
 uns:=h.uns.keep fun k _ hk=>bq _ _ _ _ _ (fun e=>by rw [e,ho] at hk;cases hk)
theorem Az {w:World} {F:Nat->Prop} {hp:Nat} {m:DM} (h:pe w F hp m) (r i:Nat) {row:List (List Int)} (hr:m.now[r]?=some row) (hi:i<row.length) (A:Option Addr) (bs:List Int) (c:Nat) (hb:cG bs) (hy:dD w A bs) (hst:aF m=false) (hmax:m.done.length<=1000000) :
 Calls Tryz.prog 188 #[.pointer (some ⟨hp,0,none⟩),.int .i64 r,.int .i64 i,.slice A 64 c] w fun e w'=>e=.returned (.bool true)/\f7 w w' F hp (m.write r i bs):=by
 obtain ⟨O,L,h,hF,hlt⟩:=h;have hO:∀ k,O k≠.none->k<w.heap.size:=fun k hk=>hlt k ((hF k).2 hk);have HH:=He h;have hok:=h.ok.rows _ _ hr;have h64:∀ x∈row,x.length=64:=fun x hx=>(hok.2 x hx).1;have hn1:=hok.1;have hrl:=(List.getElem?_eq_some_iff.1 hr).1;have few:=h.ok.few;obtain ⟨b0,hb0⟩:∃ b,row[i]?=some b:=⟨_,List.getElem?_eq_getElem hi⟩
 have hBm:=He (gw h r i (by constructor <;> omega) (by constructor <;> omega));have hbt:ig m r i=true:=by
  unfold ig jM;rw [Int.toNat_natCast,jN hr];simp;omega
 rw [hbt] at hBm;clear hbt;have hS:=He (ji h);rw [hst] at hS;have HST:=He hst;obtain ⟨g,cap,g',cap',hv,og,og',hgl,hgl',hc,_,hrow0⟩:=h.now.blk hr hb0 h64;have HROW:=He hrow0;obtain ⟨ga,oa,rfl,hra⟩:=hy.addr (by rw [hb.1];omega);have hblen:(Bs bs).length=64:=by rw [ar];exact hb.1
 have HV:=He hv;have HC:=He hc;have HRA:=He hra;have HBL:=He hblen;have HR:=He hr;have HB:=He hb;have HO:=He hO;have HF:=He hF;have HOG:=He (And.intro og og');have H64:=He h64;have HB0:=He hb0;clear h hr hb0 h64 hrow0 hok hv hc hra hblen hst hy hb hlt hO hF og og';generalize hR:m.now.length=R at *;generalize hn:row.length=n at *;generalize hN:m.done.length=N at *;have HR2:=He hR;have HNN:=He hn;have HN:=He hN;clear hR hn hN;go_enter Tryz.func188,Tryz.ntmps188;go_wp2_with fail
 refine hBm.out.mono ?_;rintro e w' ⟨rfl,rfl⟩;go_wp2_with fail
 refine hS.out.mono ?_;rintro e w' ⟨rfl,rfl⟩;go_wp2_with fail
 go_upto_region 5 with fail
 go_cut [9] (fun s wx=>∃ q:Nat,s=.pointer (some ⟨q,0,none⟩)/\w.heap.size<=q/\Below w.heap.size w wx/\wx.heap[q]?=some (.cells (dd.cs ⟨r,i,bs⟩).toArray 281 (0,0)))
 case first =>
  have grefl:∀ W:World,W.grownBy W none:=fun W=>World.grownBy.refl W _;refine iI (Jm r i (some ⟨ga,oa,none⟩) ga oa w.heap.size bs) (Below w.heap.size w) (fun w w'=>w.grownBy w' none) Hc Hc (fun j v w w' h hg=>h.on hg) ((Below.refl _ _).drew) ?_;simp only [bW];refine ⟨?_,?_,?_,?_,?_,?_,?_,?_,?_⟩
  ·refine aA.of rfl fun T W hag hJ hd=>?_;have e1:=Hf hag 1;exact Hi
  ·refine aA.of rfl fun T W hag hJ hd=>?_;have e2:=Hf hag 2;exact Hi
  ·refine aA.of rfl fun T W hag hJ hd=>?_;have d22:T.getD 22 undef=_:=Hg hd 0 rfl;have d23:T.getD 23 undef=_:=Hg hd 1 rfl;clear hag hd;go_simp;refine (nP W r i).mono ?_;rintro e w' ⟨rfl,rfl⟩;exact ⟨_,rfl,rfl,hJ,grefl _⟩
  ·refine aA.of rfl fun T W hag hJ hd=>?_;have e3:T.getD 3 undef=.slice (some ⟨ga,oa,none⟩) 64 c:=(Hf hag 3).trans rfl;clear hag hd;go_simp;exact ⟨_,rfl,c,rfl⟩
  ·refine aA.of rfl fun T W hag hJ hd=>?_;obtain ⟨c',(d25:T.getD 25 undef=_)⟩:=Hg hd 3 rfl;clear hag hd;go_simp;exact ⟨_,rfl,rfl,hJ,grefl _⟩
  ·refine aA.of rfl fun T W hag hJ hd=>?_;have d26:T.getD 26 undef=_:=Hg hd 4 rfl;refine wp_load_mid 262 (.tmp 26) rfl ga oa d26 (Bs bs) _ (fun j v hj=>cF hJ (HRA.out j v hj)) Tryz.underlying262 rfl (by rw [HBL.out];exact me) ?_;exact ⟨_,rfl,rfl,hJ,grefl _⟩
  ·refine aA.of rfl fun T W hag hJ hd=>?_;have d24:T.getD 24 undef=_:=Hg hd 2 rfl;have d27:T.getD 27 undef=_:=Hg hd 5 rfl;refine oE 281 _ rfl (dd.cs ⟨r,i,bs⟩).toArray ?_ ?_
   ·simp only [List.map_toArray,List.map_cons,List.map_nil];rw [show (⟨T,[]⟩:Act).eval (.tmp 24)=_ from d24,show (⟨T,[]⟩:Act).eval (.tmp 27)=_ from d27];exact vd r i bs HB.out.1
   ·exact ⟨_,rfl,rfl,hJ,grefl _⟩
  ·refine aA.of rfl fun T W hag hJ hd=>?_;obtain ⟨i0,hi0,hz0,hz1,hz2⟩:=info_parts pC;refine bV 281 rfl i0 _ hi0 hz0 ?_;refine ⟨_,rfl,⟨W.heap.size,_,rfl,hJ.size,?_,heap_alloc_new W _⟩,hJ.alloc hJ.size _,World.grownBy_alloc W _ _⟩;simp [Value.cells]
  ·refine jK.of rfl fun T W hag hJ hd=>?_;obtain ⟨q,C,(d9:T.getD 9 undef=_),hq,hCs,hqc⟩:=hd 7 _ Hb rfl;have d28:T.getD 28 undef=_:=hd 6 _ Hb rfl;have hxl:(dd.cs ⟨r,i,bs⟩).length=65:=dd.cs_length HB.out.1;refine wp_store_mid 281 (.tmp 9) (.tmp 28) rfl q 0 _ d9 d28 (fun j hj=>?_) (by simp only [List.size_toArray,hxl];exact CN) (all_oneCell_toArray (dd.cs_one _)) ?_
   ·simp only [List.size_toArray,hxl] at hj;rw [Nat.zero_add,af hqc j,az hqc j];exact ⟨by rw [Array.getElem?_eq_getElem Ha];rfl,rfl⟩
   ·have hblk:=gY q 281 (dd.cs ⟨r,i,bs⟩) 0 W C.toList (by simpa using hqc) (by rw [hxl];simp [hCs]);rw [l9 _ _ (by rw [hxl];simp [hCs])] at hblk;have hbel:Below w.heap.size w (W.setCells q 0 (dd.cs ⟨r,i,bs⟩)) :=
     ((aD.of_below hJ (fun _=>False)).trans' ((aD.refl (fun k=>k=q) W).setCells rfl 0 _) (fun x hx=>Or.inr Ha)).below (Nat.le_refl _) (fun k hk=>hk.elim)
    have HM:=He (And.intro hq (And.intro hbel hblk));obtain ⟨f,hf,hT⟩:=aH hag;have h9:f 9=_:=(hf 9).trans d9;generalize (W.setCells q 0 (dd.cs ⟨r,i,bs⟩))=W2 at *;clear hag hd d28 d9 hf hqc hblk hbel;rw [hT];clear hT;simp only [List.filterMap_cons,List.filterMap_nil,List.foldl_cons,List.foldl_nil,List.setIfInBounds_toArray,List.set_cons_succ,List.set_cons_zero,h9];rename_i hJc hKc;go_wp2_with fail
    refine hJc _ _ ?_
    repeat apply Exists.intro
    exact ⟨⟨q,rfl,HM.out⟩,rfl⟩
 case rest =>
  obtain ⟨q,rfl,hq,hb,hc⟩:=hcut;obtain ⟨w1,rfl⟩:∃ w1,w1=wc:=⟨wc,rfl⟩
  have HQ:=He hq;have HB1:=He hb;have HC1:=He hc;have hqr:=World.rangeAt_of_block hc 0 65;clear hq hb hc;go_wp2_with fail
  go_upto_region 6 with fail
  go_cut [9] (fun s wx=>s=.pointer (some ⟨q,0,none⟩)/\aD (fun k=>k=g') w1 wx/\wx.heap[q]?=some (.cells (dd.cs ⟨r,i,bs⟩).toArray 281 (0,0))/\DevRaw wx O hp L { m with now:=m.now.set r (row.set i bs) })
  case first =>
   have grefl:∀ W:World,W.grownBy W none:=fun W=>World.grownBy.refl W _;refine iI (K3 hp r i q g' L.sNow bs) (Below w1.heap.size w1) (fun w w'=>w.grownBy w' none) Hc Hc (fun j v w w' h _=>h) ((Below.refl _ _).drew) ?_;simp only [bW];refine ⟨?_,?_,?_,?_,?_,?_,?_,?_,?_,?_,?_⟩
   ·refine aA.of rfl fun T W hag hJ hd=>?_;have e0:=Hf hag 0;exact Hi
   ·refine aA.of rfl fun T W hag hJ hd=>?_;have d29:T.getD 29 undef=_:=Hg hd 0 rfl;exact Hi
   ·refine aA.of rfl fun T W hag hJ hd=>?_;have d30:T.getD 30 undef=_:=Hg hd 1 rfl;exact Hi
   ·refine aA.of rfl fun T W hag hJ hd=>?_;have d31:T.getD 31 undef=_:=Hg hd 2 rfl;have c0:=((HH.out.below HB1.out).below hJ).c0;exact Hi
   ·refine aA.of rfl fun T W hag hJ hd=>?_;have e9:T.getD 9 undef=.pointer (some ⟨q,0,none⟩):=(Hf hag 9).trans rfl;exact Hi
   ·refine aA.of rfl fun T W hag hJ hd=>?_;have d33:T.getD 33 undef=_:=Hg hd 4 rfl;have c0:W.cell? ⟨q,0,none⟩=some (.complex .f64 (Fx.fb r) (Fx.fb i)):=cF hJ (by rw [af HC1.out 0];rfl);exact Hi
   ·refine aA.of rfl fun T W hag hJ hd=>?_;have d32:T.getD 32 undef=_:=Hg hd 3 rfl;have d34:T.getD 34 undef=_:=Hg hd 5 rfl;rw [HV.out] at d32;clear hag hd;go_simp;refine (kA W g cap R r i g' n cap' hrl hi Ha hn1 (cF hJ (cF HB1.out HC.out))).mono ?_;rintro e w' ⟨rfl,rfl⟩;exact ⟨_,rfl,rfl,hJ,grefl _⟩
   ·refine aA.of rfl fun T W hag hJ hd=>?_;have e9:T.getD 9 undef=.pointer (some ⟨q,0,none⟩):=(Hf hag 9).trans rfl;exact Hi
   ·refine aA.of rfl fun T W hag hJ hd=>?_;have d36:T.getD 36 undef=_:=Hg hd 7 rfl;refine wp_load_mid 262 (.tmp 36) rfl q 1 d36 (Bs bs) _ (fun j v hj=>cF hJ (by rw [af HC1.out];show (dd.cs ⟨r,i,bs⟩).toArray[1+j]?=_;rw [List.getElem?_toArray,Nat.add_comm];exact hj)) Tryz.underlying262 rfl (by rw [HBL.out];exact me) ?_;exact ⟨_,rfl,rfl,hJ,grefl _⟩
   ·refine aA.of rfl fun T W hag hJ hd=>?_;have d35:T.getD 35 undef=_:=Hg hd 6 rfl;exact Hi
   ·refine jK.of rfl fun T W hag hJ hd=>?_;have d38:T.getD 38 undef=_:=hd 9 _ Hb rfl;have d37:T.getD 37 undef=_:=hd 8 _ Hb rfl;have hdW:=(HH.out.below HB1.out).below hJ;have hcW:W.cell? ⟨g,r,none⟩=_:=cF hJ (cF HB1.out HC.out);have hrW:=(HROW.out.below HB1.out).below hJ;refine wp_store_mid 262 (.tmp 38) (.tmp 37) rfl g' (i*64) _ d38 d37 (by simp only [List.size_toArray,HBL.out];exact hrW.there (i*64) 64 Ha) (by simp only [List.size_toArray,HBL.out];exact me) (all_oneCell_toArray (gQ bs)) ?_;have hnew:=hdW.toDevRaw.setNow HR.out (by rw [HNN.out];exact hi) H64.out bs HB.out.1 (by rw [HR2.out];exact HV.out) hcW HOG.out.2;have htc:aD (fun k=>k=g') w1 (W.setCells g' (i*64) (Bs bs)):=((aD.of_below hJ (fun k=>k=g')).setCells rfl _ _)
    have hqc:(W.setCells g' (i*64) (Bs bs)).heap[q]?=_:=(htc.block q (ai HC1.out) (fun e=>by have:=HQ.out;rw [e] at this;omega)).trans HC1.out;have HM:=He (And.intro htc (And.intro hqc hnew));have e9:T.getD 9 undef=.pointer (some ⟨q,0,none⟩):=(Hf hag 9).trans rfl;obtain ⟨f,hf,hT⟩:=aH hag;generalize (W.setCells g' (i*64) (Bs bs))=W2 at *;clear hag hd d38 d37 hf hdW hcW hrW hnew htc hqc e9;rw [hT];clear hT;simp only [List.filterMap_cons,List.filterMap_nil,List.foldl_cons,List.foldl_nil,List.setIfInBounds_toArray,List.set_cons_succ,List.set_cons_zero];rename_i hJc hKc;go_wp2_with fail
    refine hJc _ _ ?_
    repeat apply Exists.intro
    exact ⟨⟨rfl,HM.out⟩,rfl⟩
  case rest =>
   obtain ⟨rfl,hT1,hc2,hd2⟩:=hcut;obtain ⟨w2,rfl⟩:∃ w2,w2=wc:=⟨wc,rfl⟩
   have HT1:=He hT1;have HC2:=He hc2;have HD2:=He hd2;have hq2:=ai hc2;have hoq:O q=.none:=by
    cases ho:O q with
    | none=>rfl
    | _=>have:=HO.out q (by rw [ho];simp);have:=HQ.out;omega
   have HOQ:=He hoq;clear hT1 hc2 hd2 hoq;have hqhp:hp≠q:=fun e=>by have h1:=HOQ.out;rw [<- e,HD2.out.ohd] at h1;cases h1
   go_wp2_with fail
   go_upto_region 7 with fail
   go_cut [9] (fun s wx=>∃ v:Value,s=.pointer (some ⟨q,0,none⟩)/\aD (fun k=>k=hp\/O k=.done) w2 wx/\(∀ k,v.ownBlock=some k->O k=.done\/w2.heap.size<=k)/\DevRaw wx (fL O w2.heap.size v) hp { L with sDone:=v } { m with now:=m.now.set r (row.set i bs),done:=m.done++[⟨r,i,bs⟩] })
   case first =>
    have grefl:∀ (W:World) (o:Option Nat),W.grownBy W o:=fun W o=>World.grownBy.refl W _;have srefl:∀ (i:Nat) (W:World),Jo L.sDone i W W:=fun i W=>by unfold Jo;split <;> exact World.grownBy.refl W _
    have hBd:∀ k,L.sDone.ownBlock=some k->k<w2.heap.size:=fun k hk=>(HD2.out.done.1.lt k hk).2;have hJ0:aD (fun k=>O k=.done) w2 w2.drew/\aG w2.drew (fun k=>O k=.done) 281 65 L.sDone N (ie m.done):=⟨(aD.refl _ _).drew,by have:=HD2.out.done;rw [<- HN.out];exact this⟩
    refine fR (Jn hp q w2.heap.size (fun k=>O k=.done) L.sDone N (ie m.done) ⟨r,i,bs⟩) (fun W=>aD (fun k=>O k=.done) w2 W/\aG W (fun k=>O k=.done) 281 65 L.sDone N (ie m.done)) (Jo L.sDone) Hc Hc (fun i j v w w' hij h hg=>h.on hBd hij hg) hJ0 ?_;clear hJ0;have hpn:¬ O hp=.done:=by rw [HD2.out.ohd];simp
    have hqn:¬ O q=.done:=by rw [HOQ.out];simp
    simp only [bW];refine ⟨?_,?_,?_,?_,?_,?_,?_,?_,?_,?_,?_⟩
    ·refine aA.of rfl fun T W hag hJ hd=>?_;have e0:=Hf hag 0;exact Hi
    ·refine aA.of rfl fun T W hag hJ hd=>?_;have e0:=Hf hag 0;exact Hi
    ·refine aA.of rfl fun T W hag hJ hd=>?_;have d40:T.getD 40 undef=_:=Hg hd 1 rfl;exact Hi
    ·refine aA.of rfl fun T W hag hJ hd=>?_;have d41:T.getD 41 undef=_:=Hg hd 2 rfl;exact Hi
    ·refine aA.of rfl fun T W hag hJ hd=>?_;have d42:T.getD 42 undef=_:=Hg hd 3 rfl;have c2:W.cell? ⟨hp,2,none⟩=some L.sDone:=zp hJ.1 HD2.out.c2 hpn;exact Hi
    ·refine aA.of rfl fun T W hag hJ hd=>?_;have e9:T.getD 9 undef=.pointer (some ⟨q,0,none⟩):=(Hf hag 9).trans rfl;have hqW:W.heap[q]?=_:=(hJ.1.block q hq2 hqn).trans HC2.out;refine wp_load_mid 281 (.tmp 9) rfl q 0 e9 (dd.cs ⟨r,i,bs⟩) _ (fun j v hj=>by rw [af hqW,Nat.zero_add,List.getElem?_toArray];exact hj) Tryz.underlying281 rfl (by rw [dd.cs_length HB.out.1];exact CN) ?_;exact ⟨_,rfl,rfl,hJ,srefl _ _⟩
    ·refine aA.of rfl fun T W hag hJ hd=>?_;have d44:T.getD 44 undef=_:=Hg hd 5 rfl;obtain ⟨i0,hi0,hz0,hz1,hz2⟩:=info_parts pC;refine gf 171 (.tmp 44) rfl 281 i0 _ 65 Tryz.underlying171 hi0 hz0 hz1 Hd Hd _ d44 (by simp only [Value.cells,List.size_toArray];exact dd.cs_length HB.out.1) ?_;refine ⟨_,rfl,⟨W.heap.size,rfl,hJ.1.size,heap_alloc_new W _⟩,⟨hJ.1.alloc _,hJ.2.keep fun k hk _=>Below.heap_alloc W _ k hk⟩,?_⟩;exact World.grownBy_alloc W _ _
    ·refine aA.of rfl fun T W hag hJ hd=>?_;have d43:T.getD 43 undef=L.sDone:=Hg hd 4 rfl;obtain ⟨p,(d45:T.getD 45 undef=_),hp1,hp2⟩:=Hg hd 6 rfl;obtain ⟨i0,hi0,hz0,hz1,hz2⟩:=info_parts pC;refine iW (.tmp 43) (.tmp 45) 171 rfl 281 i0 _ 65 80 Tryz.underlying171 hi0 hz0 hz1 hz2 (by simp [Value.cells]) Hd L.sDone N (ie m.done) d43 _ hJ.2 ⟨p,0,none⟩ 1 1 (dd.cs ⟨r,i,bs⟩) d45 (by rw [dd.cs_length HB.out.1]) (fun j u hj=>by rw [Addr.add_mid,af hp2,Nat.zero_add,List.getElem?_toArray];exact hj) (dd.cs_one _) (by simp only [maxLen];omega) Ha ?_;intro v' w' hrow hgr hold;refine ⟨_,rfl,hrow.owner ?_,⟨?_,hold⟩,hgr⟩
     ·intro k _ hk;rcases hk with hk | hk
      ·exact Or.inl hk
      ·exact Or.inr (by have:=hJ.1.size;omega)
     ·exact hJ.1.trans' (aD.of_grown hgr) fun k hk=>by
       have:=hold.2 k hk.symm;exact Or.inl this
    ·refine aA.of rfl fun T W hag hJ hd=>?_;have d39:T.getD 39 undef=_:=Hg hd 0 rfl;exact Hi
    ·refine aA.of rfl fun T W hag hJ hd=>?_;have d47:T.getD 47 undef=_:=Hg hd 8 rfl;exact Hi
    ·refine jK.of rfl fun T W hag hJ hd=>?_;have d48:T.getD 48 undef=_:=hd 9 _ Hb rfl;have x46:aG W (fun k=>O k=.done\/w2.heap.size<=k) 281 65 (T.getD 46 undef) (N+1) (ie m.done++dd.cs ⟨r,i,bs⟩):=hd 7 _ Hb rfl;obtain ⟨v,d46⟩:∃ v,T.getD 46 undef=v:=⟨_,rfl⟩
     rw [d46] at x46;obtain ⟨A2,cq,rfl,hc1,hc2⟩:=x46.val;have hdW:W.heap[hp]?=_:=(hJ.1.block hp HD2.out.lt hpn).trans HD2.out.hd;have hnew:DevRaw (W.setCell ⟨hp,2,none⟩ (.slice A2 (N+1) cq)) (fL O w2.heap.size (.slice A2 (N+1) cq)) hp { L with sDone:=.slice A2 (N+1) cq } { m with now:=m.now.set r (row.set i bs),done:=m.done++[⟨r,i,bs⟩] }:=by
      refine HD2.out.push ⟨r,i,bs⟩ (.slice A2 (N+1) cq) ?_ ?_ ?_
      ·exact ah hdW _
      ·intro k hk hne hod;rw [Below.heap_setCell _ _ _ _ hne];exact hJ.1.block k hk hod
      ·show aG _ _ _ 65 _ (m.done.length+1) _;rw [HN.out];exact x46.keep fun k hk ho=>Below.heap_setCell _ _ _ _ (fun e=>by
        subst e;rcases ho with ho | ho
        ·exact hpn ho
        ·have:=HD2.out.lt;omega)
     have htc:aD (fun k=>k=hp\/O k=.done) w2 (W.setCell ⟨hp,2,none⟩ (.slice A2 (N+1) cq)):=aD.setCell (F:=fun k=>k=hp\/O k=.done) (hJ.1.mono fun k _ h=>Or.inr h) (p:=⟨hp,2,none⟩) (Or.inl rfl) _;have HM:=He (And.intro htc (And.intro (fun k hk=>x46.2 k hk:∀ k,(Value.slice A2 (N+1) cq).ownBlock=some k->O k=.done\/w2.heap.size<=k) hnew));have c2:W.cell? ⟨hp,2,none⟩=some L.sDone:=af hdW 2;have f2:W.frozen? ⟨hp,2,none⟩=false:=az hdW 2;have e9:T.getD 9 undef=.pointer (some ⟨q,0,none⟩):=(Hf hag 9).trans rfl;have d46':=d46;have d48':=d48;rw [Array.getD_eq_getD_getElem?] at d46' d48';have HAG:=He hag;clear hag hd hdW hnew htc x46 e9;go_simp;obtain ⟨f,hf,hT⟩:=aH HAG.out;generalize (W.setCell ⟨hp,2,none⟩ (.slice A2 (N+1) cq))=W2 at *;clear HAG hf d46 d48 d46' d48' c2 f2;rw [hT];clear hT;simp only [List.filterMap_cons,List.filterMap_nil,List.foldl_cons,List.foldl_nil,List.setIfInBounds_toArray,List.set_cons_succ,List.set_cons_zero];rename_i hJc hKc;refine hKc _ _ (hJc _ _ ?_)
     repeat apply Exists.intro
     exact ⟨⟨_,rfl,HM.out⟩,rfl⟩
   case rest =>
    obtain ⟨v,rfl,hT3,hv3,hd3⟩:=hcut;obtain ⟨w3,rfl⟩:∃ w3,w3=wc:=⟨wc,rfl⟩
    have HT3:=He hT3;have HV3:=He hv3;have HD3:=He hd3;have c4:w3.cell? ⟨hp,4,none⟩=some (.bool m.stops):=hd3.c4;have c5:w3.cell? ⟨hp,5,none⟩=some (.int .i64 m.left):=hd3.c5;have f5:=hd3.f 5;have hleft:=HH.out.ok.left;clear hT3 hv3 hd3;have fin:∀ w4:World,aD (fun k=>k=hp) w3 w4->DevRaw w4 (fL O w2.heap.size v) hp { L with sDone:=v } (m.write r i bs)->f7 w w4 F hp (m.write r i bs):=by
     intro w4 ht hdr;have hold:∀ k,fL O w2.heap.size v k≠.none->F k\/w.heap.size<=k:=fun k hk=>by
      rcases iY hk with h1 | ⟨h1,h2⟩
      ·exact Or.inl ((HF.out k).2 h1)
      ·have h3:=HB1.out.size;have h4:=HT1.out.size;exact Or.inr Ha
     have hFp:F hp:=(HF.out hp).2 (by rw [HD2.out.ohd];simp);refine ⟨fun k=>fL O w2.heap.size v k≠.none,⟨_,_,⟨hdr,HH.out.ok.write HR.out (by rw [HNN.out];exact hi) HB.out⟩,fun k=>Iff.rfl,fun k hk=>?_⟩,?_,hold⟩
     ·have h5:=ht.size;have h6:=HT3.out.size;have h7:=HT1.out.size;have h8:=HB1.out.size;rcases iY hk with h1 | ⟨h1,h2⟩
      ·have:=HO.out k h1;omega
      ·have:=(HD3.out.done.1.lt k h2).2;omega
     ·refine (((aD.of_below HB1.out F).trans' HT1.out fun k hk=>?_).trans' HT3.out fun k hk=>?_).trans' ht fun k hk=>?_
      ·subst hk;exact Or.inl ((HF.out _).2 (by rw [HOG.out.2];simp))
      ·rcases hk with rfl | hk
       ·exact Or.inl hFp
       ·exact Or.inl ((HF.out k).2 (by rw [hk];simp))
      ·subst hk;exact Or.inl hFp
    have FIN:=He fin;clear fin;have hnow:bX m.now r i bs=m.now.set r (row.set i bs):=vh HR.out i bs;have HNOW:=He hnow;clear hnow;cases hs:m.stops with
    | false =>
      have HSF:=He hs;rw [hs] at c4;clear hs;go_wp2;go_ret;refine ⟨rfl,FIN.out _ (aD.refl _ _) ?_⟩;have:=HD3.out;unfold DM.write;rw [HNOW.out,HSF.out];exact ⟨by have:=this.hd;rw [HSF.out] at this;exact this,this.ohd,this.now,this.sure,this.done,this.uns⟩
    | true =>
      have HSF:=He hs;rw [hs] at c4;have hl0:m.left≠0:=fun e=>by
       have:=HST.out;unfold aF at this;rw [hs,e] at this;simp at this
      clear hs;generalize hlf:m.left=lf at *;have HLF:=He hlf;have hwr:IntKind.i64.wrap ((lf:Int)-1)=(lf:Int)-1:=IntWalk.i64_in _ Ha;clear hlf;go_wp2;go_ret;have e1:((lf:Int)-1)=((lf-1:Nat):Int):=Ha;rw [e1];refine ⟨rfl,FIN.out _ ((aD.refl (fun k=>k=hp) _).setCell (p:=⟨hp,5,none⟩) rfl _) ?_⟩;have:=HD3.out.tail (w':=w3.setCell ⟨hp,5,none⟩ (.int .i64 ((lf-1:Nat):Int))) true (lf-1) (by rw [ah HD3.out.hd];rw [HSF.out];rfl) (fun k hk hne=>Below.heap_setCell _ _ _ _ hne);unfold DM.write;rw [HNOW.out,HSF.out,HLF.out];exact this
def bC:List dd->Nat->(Nat->Bool)->Nat->List (List (List Int))->List (List (List Int))
 | [],_,_,_,s=>s
 | x :: l,r,kept,nth,s=>if x.r=r then (if x.i=65535 then s else bC l r kept (nth+1) (if kept nth then bX s x.r x.i x.b else s)) else bC l r kept nth s
theorem tX (l:List dd) (r:Nat) (kept:Nat->Bool) (nth:Nat) (s:List (List (List Int))):∀ n k,l.length-k=n->k<=l.length->bC (l.drop k) r kept nth s=bC (l.drop (fS l r k)) r kept nth s:=by
 intro n
 induction n with
 | zero =>
   intro k h1 h2;obtain rfl:k=l.length:=Ha;rw [sj]
 | succ n ih =>
   intro k h1 h2;have hlt:k<l.length:=Ha;have hx:l[k]?=some l[k]:=List.getElem?_eq_getElem hlt;by_cases e:l[k].r=r
   ·rw [pB hx e]
   ·rw [va hx e,<- ih (k+1) Ha Ha,List.drop_eq_getElem_cons hlt,bC,if_neg e]
theorem pE {l:List dd} {r:Nat} {k:Nat} {x:dd} (hx:l[k]?=some x) (hr:x.r=r) (kept:Nat->Bool) (nth:Nat) (s:List (List (List Int))) :
 bC (l.drop k) r kept nth s=if x.i=65535 then s else bC (l.drop (k+1)) r kept (nth+1) (if kept nth then bX s x.r x.i x.b else s):=by
 have hlt:=(List.getElem?_eq_some_iff.1 hx).1;rw [List.drop_eq_getElem_cons hlt,(List.getElem?_eq_some_iff.1 hx).2,bC,if_pos hr]
theorem vk (l:List dd) (r:Nat) (kept:Nat->Bool) (nth:Nat) (s:List (List (List Int))):bC (l.drop l.length) r kept nth s=s:=by rw [List.drop_length];rfl
def DM.settle (m:DM) (r:Nat) (kept:Nat->Bool):DM :=
 { m with sure:=bC (m.done.drop (m.uns.getD r 0)) r kept 0 m.sure,uns:=m.uns.set r m.done.length }
structure jw (m:DM) (s:List (List (List Int))):Prop where
 len:s.length=m.now.length
 rows:∀ (r:Nat) (row:List (List Int)),s[r]?=some row->(∃ row':List (List Int),m.now[r]?=some row'/\row.length=row'.length)/\(∀ b∈row,cG b)
theorem jw.set {m:DM} {s:List (List (List Int))} (h:jw m s) {r i:Nat} {b:List Int} (hb:cG b):jw m (bX s r i b) where
 len:=by unfold bX;rw [List.length_set];exact h.len
 rows:=fun k row hk=>by
  obtain ⟨row',h2,h3⟩:=zo hk;obtain ⟨⟨row2,h4,h5⟩,_⟩:=h.rows k row' h2;exact ⟨⟨row2,h4,Ha⟩,vj hb (fun k row hk=>(h.rows k row hk).2) hk⟩
theorem DM.Ok.sureOk {m:DM} (h:m.Ok):jw m m.sure:=⟨h.sureLen,h.sures⟩
theorem pF {m:DM} {r:Nat} {kept:Nat->Bool}:∀ (l:List dd) (nth:Nat) (s:List (List (List Int))),(∀ x∈l,cG x.b)->jw m s->jw m (bC l r kept nth s)
 | [],_,_,_,h=>h
 | x :: l,nth,s,hl,h=>by
   unfold bC;have ih:=fun nth s=>pF (m:=m) (r:=r) (kept:=kept) l nth s (fun y hy=>hl y (by simp [hy]));split
   ·split
    ·exact h
    ·exact ih _ _ (by split;exact h.set (hl x Hb);exact h)
   ·exact ih _ _ h
theorem DM.Ok.withSure {m:DM} (h:m.Ok) {s:List (List (List Int))} (hs:jw m s):({ m with sure:=s }:DM).Ok :=
 { pos:=h.pos,few:=h.few,sureLen:=hs.len,unsLen:=h.unsLen,rows:=h.rows,sures:=hs.rows,dones:=h.dones,unss:=h.unss,left:=h.left }
theorem DM.Ok.settle {m:DM} (h:m.Ok) (r:Nat) (kept:Nat->Bool):(m.settle r kept).Ok :=
 have hs:jw m (bC (m.done.drop (m.uns.getD r 0)) r kept 0 m.sure):=pF _ _ _ (fun x hx=>(h.dones x (List.mem_of_mem_drop hx)).2) h.sureOk
 { pos:=h.pos,few:=h.few,sureLen:=hs.len,unsLen:=by show (m.uns.set _ _).length=_;rw [List.length_set];exact h.unsLen,rows:=h.rows,sures:=hs.rows,dones:=h.dones
   unss:=fun k u hu=>by
    have hu':(m.uns.set r m.done.length)[k]?=some u:=hu;rw [List.getElem?_set] at hu';split at hu'
    ·split at hu'
     ·injection hu' with hu';show u<=m.done.length;omega
     ·cases hu'
    ·exact h.unss k u hu'
   left:=h.left }
theorem DevRaw.setSure {w:World} {O:Nat->de} {hp:Nat} {L:jd} {m:DM} (h:DevRaw w O hp L m) {r i:Nat} {row:List (List Int)} (hr:m.sure[r]?=some row) (hi:i<row.length) (h64:∀ x∈row,x.length=64) (b:List Int) (hb:b.length=64) {g cap g' n' cap':Nat}
 (hv:L.sSure=.slice (some ⟨g,0,none⟩) m.sure.length cap) (hc:w.cell? ⟨g,r,none⟩=some (.slice (some ⟨g',0,none⟩) n' cap')) (ho:O g'=.sure r):DevRaw (w.setCells g' (i*64) (Bs b)) O hp L { m with sure:=m.sure.set r (row.set i b) } where
 hd:=by rw [bq _ _ _ _ _ (fun e=>by rw [<- e,h.ohd] at ho;cases ho)];exact h.hd
 ohd:=h.ohd
 now:=h.now.keep fun k _ hk=>bq _ _ _ _ _ (fun e=>by rw [e,ho] at hk;rcases hk with hk | ⟨_,hk⟩ <;> cases hk)
 sure:=h.sure.setBlk hr hi h64 b hb hv hc (by rw [ho];simp) (fun r' hne=>by rw [ho];simp;exact fun e=>hne e.symm)
 done:=h.done.keep fun k _ hk=>bq _ _ _ _ _ (fun e=>by rw [e,ho] at hk;cases hk)
 uns:=h.uns.keep fun k _ hk=>bq _ _ _ _ _ (fun e=>by rw [e,ho] at hk;cases hk)
theorem DevRaw.unsAt {w:World} {O:Nat->de} {hp:Nat} {L:jd} {m:DM} (h:DevRaw w O hp L m) {r u:Nat} (hu:m.uns[r]?=some u) :
 ∃ g cap,L.sUns=.slice (some ⟨g,0,none⟩) m.uns.length cap/\O g=.uns/\g<w.heap.size/\w.cell? ⟨g,r,none⟩=some (.int .i64 u)/\w.frozen? ⟨g,r,none⟩=false:=by
 have hlt:=(List.getElem?_eq_some_iff.1 hu).1;obtain ⟨g,cap,hv,ho,hg,hn,hm,hc,hf⟩:=h.uns.pos Ha;refine ⟨g,cap,hv,ho,hg,?_,hf r⟩;rw [hc r Ha];unfold rH;rw [List.getElem?_map,hu];rfl
theorem DevRaw.setUns {w:World} {O:Nat->de} {hp:Nat} {L:jd} {m:DM} (h:DevRaw w O hp L m) (r u:Nat) {g cap:Nat} (hv:L.sUns=.slice (some ⟨g,0,none⟩) m.uns.length cap) (ho:O g=.uns) :
 DevRaw (w.setCell ⟨g,r,none⟩ (.int .i64 u)) O hp L { m with uns:=m.uns.set r u } where
 hd:=by rw [Below.heap_setCell _ _ _ _ (fun e=>by have:=h.ohd;rw [e,ho] at this;cases this)];exact h.hd
 ohd:=h.ohd
 now:=h.now.keep fun k _ hk=>Below.heap_setCell _ _ _ _ (fun e=>by subst e;rcases hk with hk | ⟨_,hk⟩ <;> rw [ho] at hk <;> cases hk)
 sure:=h.sure.keep fun k _ hk=>Below.heap_setCell _ _ _ _ (fun e=>by subst e;rcases hk with hk | ⟨_,hk⟩ <;> rw [ho] at hk <;> cases hk)
 done:=h.done.keep fun k _ hk=>Below.heap_setCell _ _ _ _ (fun e=>by subst e;rw [ho] at hk;cases hk)
 uns:=by
  have:=h.uns;rw [hv] at this ⊢;show aG _ _ _ 1 _ (m.uns.set r u).length (rH (m.uns.set r u));rw [List.length_set];unfold rH at this ⊢;rw [List.map_set];exact this.stored r _
def GZ (w:World) (O:Nat->de) (hp:Nat) (L:jd) (m:DM) (r:Nat) (fv:Value) (kept:Nat->Bool) (a:Act) (wr:World):Prop :=
 ∃ (nth k:Nat) (s:List (List (List Int))),k<=m.done.length/\nth<=k/\jw m s/\df wr O hp L { m with sure:=s }/\aD (fun k=>O k=.sure r) w wr /\
  bC (m.done.drop k) r kept nth s=bC (m.done.drop (m.uns.getD r 0)) r kept 0 m.sure /\
  ∃ u8 u9 u10 u11 u12 u13 u14 u15 u16 u17 u18 u19 u20 u21 u22 u23 u24 u25 u26 u27 u28 u29 u30 u31 u32 u33 u34 u35 u36 u37 u38 u39 u40 u41 u42 u43 u44 u45 u46 u47 u48 u49 u50 u51 u52 u53 u54 u55 u56 u57 u58 u59 u60 u61 u62 u63 u64 u65 u66 u67 u68 u69 u70 u71 u72 u73 u74 u75 u76 u77:Value,a={ tmps:=#[.pointer (some ⟨hp,0,none⟩),.int .i64 r,fv,undef,undef,undef,.int .i64 nth,.int .i64 k,u8,u9,u10,u11,u12,u13,u14,u15,u16,u17,u18,u19,u20,u21,u22,u23,u24,u25,u26,u27,u28,u29,u30,u31,u32,u33,u34,u35,u36,u37,u38,u39,u40,u41,u42,u43,u44,u45,u46,u47,u48,u49,u50,u51,u52,u53,u54,u55,u56,u57,u58,u59,u60,u61,u62,u63,u64,u65,u66,u67,u68,u69,u70,u71,u72,u73,u74,u75,u76,u77],defers:=[] }
def CO (w:World) (O:Nat->de) (hp:Nat) (L:jd) (m:DM) (r:Nat) (fv:Value) (kept:Nat->Bool) (a:Act) (wr:World):Prop :=
 df wr O hp L { m with sure:=bC (m.done.drop (m.uns.getD r 0)) r kept 0 m.sure }/\aD (fun k=>O k=.sure r) w wr /\
  ∃ (nth k:Nat) (u8 u9 u10 u11 u12 u13 u14 u15 u16 u17 u18 u19 u20 u21 u22 u23 u24 u25 u26 u27 u28 u29 u30 u31 u32 u33 u34 u35 u36 u37 u38 u39 u40 u41 u42 u43 u44 u45 u46 u47 u48 u49 u50 u51 u52 u53 u54 u55 u56 u57 u58 u59 u60 u61 u62 u63 u64 u65 u66 u67 u68 u69 u70 u71 u72 u73 u74 u75 u76 u77:Value),a={ tmps:=#[.pointer (some ⟨hp,0,none⟩),.int .i64 r,fv,undef,undef,undef,.int .i64 nth,.int .i64 k,u8,u9,u10,u11,u12,u13,u14,u15,u16,u17,u18,u19,u20,u21,u22,u23,u24,u25,u26,u27,u28,u29,u30,u31,u32,u33,u34,u35,u36,u37,u38,u39,u40,u41,u42,u43,u44,u45,u46,u47,u48,u49,u50,u51,u52,u53,u54,u55,u56,u57,u58,u59,u60,u61,u62,u63,u64,u65,u66,u67,u68,u69,u70,u71,u72,u73,u74,u75,u76,u77],defers:=[] }
def K4 (hp i bi gd gs:Nat) (sSure sDone:Value) (x:dd) (k:Nat) (v:Value) (w:World):Prop :=
 match k with
 | 0 | 1 | 4 | 5 | 13 | 14=>v=.pointer (some ⟨hp,0,none⟩)
 | 2=>v=.pointer (some ⟨hp,1,none⟩)
 | 3=>v=sSure
 | 6 | 15=>v=.pointer (some ⟨hp,2,none⟩)
 | 7 | 16=>v=sDone
 | 8 | 17=>v=.int .i64 i
 | 9 | 10 | 18=>v=.pointer (some ⟨gd,i*65,none⟩)
 | 11=>v=.complex .f64 (Fx.fb x.r) (Fx.fb x.i)
 | 12 | 21=>v=.pointer (some ⟨gs,bi*64,none⟩)
 | 19=>v=.pointer (some ⟨gd,i*65+1,none⟩)
 | 20=>v=.agg (Bs x.b).toArray
 | _=>True
theorem xN {w:World} {O:Nat->de} {hp:Nat} {L:jd} {m:DM} (h:df w O hp L m) (r:Nat) (hr:r<m.now.length) (hm:m.done.length<=1000000) (fn:Nat) (caps:Array Value) (kept:Nat->Bool)
 (hcf:∀ (args:Array Value) (W:World),(callFunc fn args).run Tryz.prog W=.ok (.enter fn args) W)
 (hk:∀ W (n:Nat),aD (fun k=>O k=.sure r) w W->n<=1000000->Calls Tryz.prog fn (#[.int .i64 n]++caps) W fun e w'=>e=.returned (.bool (kept n))/\W=w') :
 Calls Tryz.prog 210 #[.pointer (some ⟨hp,0,none⟩),.int .i64 r,.func (.func fn) #[] caps] w fun e w'=>e=.returned (.tuple #[])/\df w' O hp L (m.settle r kept)/\aD (fun k=>O k=.uns\/O k=.sure r) w w':=by
 have few:=h.ok.few;obtain ⟨u,hu⟩:∃ u,m.uns[r]?=some u:=⟨_,List.getElem?_eq_getElem (by rw [h.ok.unsLen];exact hr)⟩
 have hul:=h.ok.unss r u hu;obtain ⟨gu,capu,hvu,ogu,hgu,hcu,hfu⟩:=h.unsAt hu;have HH:=He h;have HK:=He hk;have HU:=He hu;have HVU:=He (And.intro hvu ogu);have hUR:m.uns.length=m.now.length:=h.ok.unsLen;have hud:m.uns.getD r 0=u:=by rw [List.getD,hu];rfl
 have HUD:=He hud;have c3:=fun q=>(show (w.drewN q).cell? ⟨hp,3,none⟩=some L.sUns from h.c3)
 rw [hvu,hUR] at c3;have cu:=fun q=>(show (w.drewN q).cell? ⟨gu,r,none⟩=some (.int .i64 u) from hcu)
 clear h hk hu hvu ogu hcu hfu hud;have HUR:=He hUR;clear hUR;generalize hR:m.now.length=R at *;generalize hN:m.done.length=N at *;have HR:=He hR;have HN:=He hN;clear hR hN;have hr1:(r:Int)<R:=Ha;go_enter Tryz.func210,Tryz.ntmps210;refine xD (GZ w O hp L m r (.func (.func fn) #[] caps) kept) (CO w O hp L m r (.func (.func fn) #[] caps) kept) (fun a' _=>N-(intOf (a'.tmps.getD 7 undef)).toNat) rfl rfl ?_ ?_ ?_
 ·intro HF0;have HF:=He HF0;clear HF0;go_wp2
  go_quiet (fail)
  go_wp2;go_step3;rename_i hK;refine hK _ _ (HF.out _ _ ⟨0,u,m.sure,by rw [HN.out];exact hul,Nat.zero_le _,HH.out.ok.sureOk,HH.out.drewN nq,(aD.refl _ _).drewN nq,by rw [HUD.out],_,_,_,_,_,_,_,_,_,_,_,_,_,_,_,_,_,_,_,_,_,_,_,_,_,_,_,_,_,_,_,_,_,_,_,_,_,_,_,_,_,_,_,_,_,_,_,_,_,_,_,_,_,_,_,_,_,_,_,_,_,_,_,_,_,_,_,_,_,_,rfl⟩)
 ·rintro a wr ⟨nth,k,s,hk,hnk,hs,hd,ht,he,u8,u9,u10,u11,u12,u13,u14,u15,u16,u17,u18,u19,u20,u21,u22,u23,u24,u25,u26,u27,u28,u29,u30,u31,u32,u33,u34,u35,u36,u37,u38,u39,u40,u41,u42,u43,u44,u45,u46,u47,u48,u49,u50,u51,u52,u53,u54,u55,u56,u57,u58,u59,u60,u61,u62,u63,u64,u65,u66,u67,u68,u69,u70,u71,u72,u73,u74,u75,u76,u77,rfl⟩;have HS:=He hs;have HD:=He hd;have HT:=He ht;have HE:=He he;rw [HN.out] at hk;have hnx:=He (CJ hd r k (by show r<m.now.length;rw [HR.out];exact hr) (by show k<=m.done.length;rw [HN.out];exact hk) (by show m.done.length<=_;rw [HN.out];exact hm));have hle:k<=fS m.done r k/\fS m.done r k<=N:=by have:=CH (l:=m.done) (r:=r) (i:=k) (by rw [HN.out];exact hk);rw [HN.out] at this;exact this
  have hsn:=tX m.done r kept nth s _ k rfl (by rw [HN.out];exact hk);have hat:=fun h=>CI (l:=m.done) (r:=r) (i:=k) h;rw [he] at hsn;have HSN:=He hsn;have HAT:=He hat;clear hs hd ht he hsn hat;change Hid (Calls _ _ _ _ (fun e w'=>e=.returned (.int .i64 (fS m.done r k))/\wr=w')) at hnx;generalize fS m.done r k=k' at *;go_wp2_with fail
  refine hnx.out.mono ?_;rintro e w' ⟨rfl,rfl⟩;have c2:=HD.out.c2;obtain ⟨Ad,capd,hvd,hd1,hd2⟩:=HD.out.done.val;have hvd':L.sDone=.slice Ad N capd:=by rw [hvd];show Value.slice Ad m.done.length capd=_;rw [HN.out]
  rw [hvd'] at c2;have HVD:=He hvd';clear hvd hvd';by_cases hkn:k'=N
  ·subst hkn;have hfin:s=bC (m.done.drop (m.uns.getD r 0)) r kept 0 m.sure:=by rw [HSN.out,<- HN.out,vk]
   have HFIN:=He hfin;clear hfin;go_wp2;go_step3;exact (show CO _ _ _ _ _ _ _ _ _ _ from ⟨by rw [<- HFIN.out];exact HD.out,HT.out,nth,k',_,_,_,_,_,_,_,_,_,_,_,_,_,_,_,_,_,_,_,_,_,_,_,_,_,_,_,_,_,_,_,_,_,_,_,_,_,_,_,_,_,_,_,_,_,_,_,_,_,_,_,_,_,_,_,_,_,_,_,_,_,_,_,_,_,_,_,_,_,_,rfl⟩)
  ·have hkl:k'<N:=Ha;have hq:((k':Int)==N)=false:=by simp;omega
   obtain ⟨x,hx,hxr⟩:=HAT.out (by rw [HN.out];exact hkl);obtain ⟨g,cap',hv,_,_,_,e0,er,_⟩:=HD.out.doneAt (i:=k') (x:=x) hx;have hv2:=HVD.out;rw [hv] at hv2;injection hv2 with e1 e2 e3
   subst e1;subst e3;have hxi:=HD.out.ok.done_r (x:=x) (List.mem_of_getElem? hx);have hx65:x.i<2 ^ 53:=by have:=hxi.2;omega
   have ef:=Gq x.i 65535 Ha Ha;rw [GY] at ef;have HX:=He hx;have HXR:=He hxr;have HER:=He er;clear e2 hv hx hxr er;by_cases hxq:x.i=65535
   ·rw [decide_eq_true hxq] at ef;have hfin:s=bC (m.done.drop (m.uns.getD r 0)) r kept 0 m.sure:=by rw [HSN.out,pE HX.out HXR.out,if_pos hxq]
    have HFIN:=He hfin;clear hfin hxq;go_wp2;go_step3;exact (show CO _ _ _ _ _ _ _ _ _ _ from ⟨by rw [<- HFIN.out];exact HD.out,HT.out,nth,k',_,_,_,_,_,_,_,_,_,_,_,_,_,_,_,_,_,_,_,_,_,_,_,_,_,_,_,_,_,_,_,_,_,_,_,_,_,_,_,_,_,_,_,_,_,_,_,_,_,_,_,_,_,_,_,_,_,_,_,_,_,_,_,_,_,_,_,_,_,_,rfl⟩)
   ·rw [decide_eq_false hxq] at ef;have hstep:bC (m.done.drop (k'+1)) r kept (nth+1) (if kept nth then bX s x.r x.i x.b else s)=bC (m.done.drop (m.uns.getD r 0)) r kept 0 m.sure:=by rw [HSN.out,pE HX.out HXR.out,if_neg hxq]
    have HSTEP:=He hstep;have HXQ:=He hxq;clear hstep hxq;have hcall:=He (HK.out wr nth HT.out Ha);go_wp2_with fail
    refine hcall.out.mono ?_;rintro e w' ⟨rfl,rfl⟩;cases hq2:kept nth with
    | false =>
      rw [hq2] at HSTEP;have HQ:=He hq2;clear hq2;go_wp2;go_step3;refine ⟨⟨nth+1,k'+1,s,by rw [HN.out];omega,Ha,HS.out,HD.out,HT.out,HSTEP.out,_,_,_,_,_,_,_,_,_,_,_,_,_,_,_,_,_,_,_,_,_,_,_,_,_,_,_,_,_,_,_,_,_,_,_,_,_,_,_,_,_,_,_,_,_,_,_,_,_,_,_,_,_,_,_,_,_,_,_,_,_,_,_,_,_,_,_,_,_,_,rfl⟩,?_⟩;simp [intOf];omega
    | true =>
      rw [hq2] at HSTEP;have HQ:=He hq2;clear hq2;go_wp2_with fail
      obtain ⟨srow,hsr⟩:∃ srow,s[r]?=some srow:=⟨_,List.getElem?_eq_getElem (by rw [HS.out.len,HR.out];exact hr)⟩
      obtain ⟨⟨nrow,hnr,hlen⟩,hblk⟩:=HS.out.rows r srow hsr;have hnr':=HD.out.ok.rows r nrow hnr;have hxd:=HD.out.ok.dones x (List.mem_of_getElem? HX.out);have hxi3:x.i<srow.length:=by
       obtain ⟨⟨row,h1,h2⟩,_⟩:=hxd;have h1':m.now[x.r]?=some row:=h1;rw [HXR.out,hnr] at h1';injection h1' with h1'
       subst h1';rcases h2 with h2 | h2
       ·omega
       ·exact absurd h2 HXQ.out
      have h64:∀ b∈srow,b.length=64:=fun b hb=>(hblk b hb).1;have hxb:=hxd.2;obtain ⟨b0,hb0⟩:∃ b,srow[x.i]?=some b:=⟨_,List.getElem?_eq_getElem hxi3⟩
      obtain ⟨gt,capt,gs,caps',hvs,_,ogs,hgt,hgs,hcs,_,hrow⟩:=HD.out.sure.blk (r:=r) (i:=x.i) hsr hb0 h64;have hvs':L.sSure=.slice (some ⟨gt,0,none⟩) R capt:=by rw [hvs];show Value.slice _ s.length capt=_;rw [HS.out.len,HR.out]
      have hsl1:srow.length<=1000:=by have:=hnr'.1;omega
      have hbl:(Bs x.b).length=64:=by rw [ar];exact hxb.1
      have E0:=He e0;have HVS:=He hvs';have HCS:=He hcs;have HROW:=He hrow;have HSR:=He hsr;have H64:=He h64;have HXB:=He hxb;have HBL:=He hbl;have HOGS:=He ogs;have hkk:(k':Int)<N:=Ha;clear hsr hnr hlen hblk hnr' hxd h64 hxb hb0 hvs hvs' ogs hcs hrow hbl e0 ef c2;have grefl:∀ W:World,W.grownBy W none:=fun W=>World.grownBy.refl W _;refine iI (K4 hp k' x.i g gs L.sSure (.slice (some ⟨g,0,none⟩) N cap') x) (Below wr.heap.size wr) (fun w w'=>w.grownBy w' none) Hc Hc (fun j v w w' h _=>h) ((Below.refl _ _).drew) ?_;simp only [bW];refine ⟨?_,?_,?_,?_,?_,?_,?_,?_,?_,?_,?_,?_,?_,?_,?_,?_,?_,?_,?_,?_,?_,?_,?_⟩
      ·refine aA.of rfl fun T W hag hJ hd=>?_;have e0:=Hf hag 0;exact Hi
      ·refine aA.of rfl fun T W hag hJ hd=>?_;have d41:T.getD 41 undef=_:=Hg hd 0 rfl;exact Hi
      ·refine aA.of rfl fun T W hag hJ hd=>?_;have d42:T.getD 42 undef=_:=Hg hd 1 rfl;exact Hi
      ·refine aA.of rfl fun T W hag hJ hd=>?_;have d43:T.getD 43 undef=_:=Hg hd 2 rfl;have fct0:=(HD.out.below hJ).c1;exact Hi
      ·refine aA.of rfl fun T W hag hJ hd=>?_;have e0:=Hf hag 0;exact Hi
      ·refine aA.of rfl fun T W hag hJ hd=>?_;have d45:T.getD 45 undef=_:=Hg hd 4 rfl;exact Hi
      ·refine aA.of rfl fun T W hag hJ hd=>?_;have d46:T.getD 46 undef=_:=Hg hd 5 rfl;exact Hi
      ·refine aA.of rfl fun T W hag hJ hd=>?_;have d47:T.getD 47 undef=_:=Hg hd 6 rfl;have fct0:=(show W.cell? ⟨hp,2,none⟩=some (.slice (some ⟨g,0,none⟩) N cap') from by rw [<- HVD.out];exact (HD.out.below hJ).c2)
       exact Hi
      ·refine aA.of rfl fun T W hag hJ hd=>?_;have e7:=Hf hag 7;exact Hi
      ·refine aA.of rfl fun T W hag hJ hd=>?_;have d48:T.getD 48 undef=_:=Hg hd 7 rfl;have d49:T.getD 49 undef=_:=Hg hd 8 rfl;exact Hi
      ·refine aA.of rfl fun T W hag hJ hd=>?_;have d50:T.getD 50 undef=_:=Hg hd 9 rfl;exact Hi
      ·refine aA.of rfl fun T W hag hJ hd=>?_;have d51:T.getD 51 undef=_:=Hg hd 10 rfl;have fct0:=cF hJ E0.out;exact Hi
      ·refine aA.of rfl fun T W hag hJ hd=>?_;have d44:T.getD 44 undef=_:=Hg hd 3 rfl;have d52:T.getD 52 undef=_:=Hg hd 11 rfl;rw [HVS.out] at d44;rw [HXR.out] at d52;clear hag hd;go_simp;refine (kA W gt capt R r x.i gs srow.length caps' hr hxi3 Ha hsl1 (cF hJ HCS.out)).mono ?_;rintro e w' ⟨rfl,rfl⟩;exact ⟨_,rfl,rfl,hJ,grefl _⟩
      ·refine aA.of rfl fun T W hag hJ hd=>?_;have e0:=Hf hag 0;exact Hi
      ·refine aA.of rfl fun T W hag hJ hd=>?_;have d54:T.getD 54 undef=_:=Hg hd 13 rfl;exact Hi
      ·refine aA.of rfl fun T W hag hJ hd=>?_;have d55:T.getD 55 undef=_:=Hg hd 14 rfl;exact Hi
      ·refine aA.of rfl fun T W hag hJ hd=>?_;have d56:T.getD 56 undef=_:=Hg hd 15 rfl;have fct0:=(show W.cell? ⟨hp,2,none⟩=some (.slice (some ⟨g,0,none⟩) N cap') from by rw [<- HVD.out];exact (HD.out.below hJ).c2)
       exact Hi
      ·refine aA.of rfl fun T W hag hJ hd=>?_;have e7:=Hf hag 7;exact Hi
      ·refine aA.of rfl fun T W hag hJ hd=>?_;have d57:T.getD 57 undef=_:=Hg hd 16 rfl;have d58:T.getD 58 undef=_:=Hg hd 17 rfl;exact Hi
      ·refine aA.of rfl fun T W hag hJ hd=>?_;have d59:T.getD 59 undef=_:=Hg hd 18 rfl;exact Hi
      ·refine aA.of rfl fun T W hag hJ hd=>?_;have d60:T.getD 60 undef=_:=Hg hd 19 rfl;refine wp_load_mid 262 (.tmp 60) rfl g (k'*65+1) d60 (Bs x.b) _ (fun j v hj=>cF hJ (HER.out j v hj)) Tryz.underlying262 rfl (by rw [HBL.out];exact me) ?_;exact ⟨_,rfl,rfl,hJ,grefl _⟩
      ·refine aA.of rfl fun T W hag hJ hd=>?_;have d53:T.getD 53 undef=_:=Hg hd 12 rfl;exact Hi
      ·refine jK.of rfl fun T W hag hJ hd=>?_;have d62:T.getD 62 undef=_:=hd 21 _ Hb rfl;have d61:T.getD 61 undef=_:=hd 20 _ Hb rfl;have hrW:=HROW.out.below hJ;refine wp_store_mid 262 (.tmp 62) (.tmp 61) rfl gs (x.i*64) _ d62 d61 (by simp only [List.size_toArray,HBL.out];exact hrW.there (x.i*64) 64 Ha) (by simp only [List.size_toArray,HBL.out];exact me) (all_oneCell_toArray (gQ x.b)) ?_;have hnew:=(HD.out.below hJ).toDevRaw.setSure (r:=r) (i:=x.i) HSR.out hxi3 H64.out x.b HXB.out.1 (by rw [HVS.out];show _=Value.slice _ s.length _;rw [HS.out.len,HR.out]) (cF hJ HCS.out) HOGS.out;have htc:aD (fun k=>O k=.sure r) w (W.setCells gs (x.i*64) (Bs x.b)):=(HT.out.trans (aD.of_below hJ _)).setCells HOGS.out _ _;have hset:bX s x.r x.i x.b=s.set r (srow.set x.i x.b):=by rw [HXR.out];exact vh HSR.out _ _
       have hsok:jw m (s.set r (srow.set x.i x.b)):=by rw [<- hset];exact HS.out.set HXB.out
       have hnewD:df (W.setCells gs (x.i*64) (Bs x.b)) O hp L { m with sure:=s.set r (srow.set x.i x.b) }:=⟨hnew,HH.out.ok.withSure hsok⟩
       have hfin:=HSTEP.out;rw [if_pos trivial,hset] at hfin;have HM:=He (And.intro hsok (And.intro hnewD (And.intro htc hfin)));obtain ⟨f,hf,hT⟩:=aH hag;generalize (W.setCells gs (x.i*64) (Bs x.b))=W2 at *;clear hag hd d62 d61 hf hrW hnew htc hset hsok hnewD hfin;rw [hT];clear hT;simp only [List.filterMap_cons,List.filterMap_nil,List.foldl_cons,List.foldl_nil,List.setIfInBounds_toArray,List.set_cons_succ,List.set_cons_zero];go_wp2;go_step3;refine ⟨⟨nth+1,k'+1,_,by rw [HN.out];omega,Ha,HM.out.1,HM.out.2.1,HM.out.2.2.1,HM.out.2.2.2,_,_,_,_,_,_,_,_,_,_,_,_,_,_,_,_,_,_,_,_,_,_,_,_,_,_,_,_,_,_,_,_,_,_,_,_,_,_,_,_,_,_,_,_,_,_,_,_,_,_,_,_,_,_,_,_,_,_,_,_,_,_,_,_,_,_,_,_,_,_,rfl⟩,?_⟩;simp [intOf];omega
 ·rintro a wr ⟨hd,ht,nth,k,u8,u9,u10,u11,u12,u13,u14,u15,u16,u17,u18,u19,u20,u21,u22,u23,u24,u25,u26,u27,u28,u29,u30,u31,u32,u33,u34,u35,u36,u37,u38,u39,u40,u41,u42,u43,u44,u45,u46,u47,u48,u49,u50,u51,u52,u53,u54,u55,u56,u57,u58,u59,u60,u61,u62,u63,u64,u65,u66,u67,u68,u69,u70,u71,u72,u73,u74,u75,u76,u77,rfl⟩;have HD:=He hd;have HT:=He ht;obtain ⟨gv,capv,hvv,ogv,hgv,hcv,hfv⟩:=hd.unsAt (r:=r) HU.out;obtain ⟨Ad,capd,hvd,hd1,hd2⟩:=hd.done.val;have hvd':L.sDone=.slice Ad N capd:=by rw [hvd];show Value.slice Ad m.done.length capd=_;rw [HN.out]
  have hvv':L.sUns=.slice (some ⟨gv,0,none⟩) R capv:=by rw [hvv];show Value.slice _ m.uns.length _=_;rw [HUR.out]
  have c2:=hd.c2;have c3':=hd.c3;rw [hvd'] at c2;rw [hvv'] at c3';have HV3:=He (And.intro hvv' ogv);clear hd ht hvd hvv hvd' hvv' ogv c3 cu;go_wp2
  go_region
  all_goals
   show cB (fun _ _ _=>False) _ Exit.normal _ _;rw [tM]
   go_end0
   have hst:=HD.out.toDevRaw.setUns r N (g:=gv) (cap:=capv) (by rw [HV3.out.1];show _=Value.slice _ m.uns.length _;rw [HUR.out]) HV3.out.2;rw [show bC (m.done.drop (m.uns.getD r 0)) r kept 0 m.sure=(m.settle r kept).sure from rfl] at hst;refine ⟨rfl,⟨?_,HH.out.ok.settle r kept⟩,?_⟩
   ·have:m.settle r kept={ m with sure:=(m.settle r kept).sure,uns:=m.uns.set r N }:=by unfold DM.settle;rw [HN.out]
    rw [this];exact DevRaw.keep (w':=_) hst fun _ _ _=>rfl
   ·exact (aD.setCell (F:=fun k=>O k=.uns\/O k=.sure r) (HT.out.mono fun k _ h=>Or.inr h) (p:=⟨gv,r,none⟩) (Or.inl HV3.out.2) _).drew
def DM.barrier (m:DM) (r:Nat):DM:=({ m with done:=m.done++[⟨r,65535,List.replicate 64 0⟩] }:DM).settle r (fun _=>true)
theorem pf:cG (List.replicate 64 0):=⟨Hb,fun x hx=>by rw [(List.mem_replicate.1 hx).2];omega⟩
theorem DM.Ok.tell {m:DM} (h:m.Ok) {r:Nat} (hr:r<m.now.length):({ m with done:=m.done++[⟨r,65535,List.replicate 64 0⟩] }:DM).Ok :=
 { pos:=h.pos,few:=h.few,sureLen:=h.sureLen,unsLen:=h.unsLen,rows:=h.rows,sures:=h.sures
   dones:=fun x hx=>by
    have hx':x∈m.done++[⟨r,65535,List.replicate 64 0⟩]:=hx;rcases List.mem_append.1 hx' with h1 | h1
    ·exact h.dones x h1
    ·rw [List.mem_singleton.1 h1];exact ⟨⟨_,List.getElem?_eq_getElem hr,Or.inr rfl⟩,pf⟩
   unss:=fun k u hu=>by
    have:=h.unss k u hu;show u<=(m.done++_).length;rw [List.length_append];omega
   left:=h.left }
theorem AA {f : Nat} {fn : Func} {c : Code} (hf : Tryz.prog.funcs[f]? = some fn) (hname : (fn.name == "runtime.NumGoroutine") = false) (hb : fn.body = some c) (args : Array Value) (w : World) : (callFunc f args).run Tryz.prog w = .ok (.enter f args) w := by
 unfold callFunc;have hn : ¬ fn.name = "runtime.NumGoroutine" := by simpa using hname
 simp [hf,hn,hb]
def Jp (hp B:Nat) (Own:Nat->Prop) (sDone:Value) (n:Nat) (l:List Value) (x:dd) (k:Nat) (v:Value) (w:World):Prop :=
 match k with
 | 0 | 1 | 2 | 10=>v=.pointer (some ⟨hp,0,none⟩)
 | 3 | 11=>v=.pointer (some ⟨hp,2,none⟩)
 | 4=>v=sDone
 | 5=>v=.int .i64 x.r
 | 6=>v=.complex .f64 (Fx.fb x.r) (Fx.fb 65535)
 | 7=>v=.agg x.cs.toArray
 | 8=>∃ p,v=.slice (some ⟨p,0,none⟩) 1 1/\B<=p/\w.heap[p]?=some (.cells x.cs.toArray 281 (0,0))
 | 9=>aG w (fun k=>Own k\/B<=k) 281 65 v (n+1) (l++x.cs)
 | _=>True
def Jq (sDone:Value) (i:Nat) (w w':World):Prop:=if i=9 then w.grownBy w' sDone.ownBlock else w.grownBy w' none
theorem Jp.on {hp B:Nat} {Own:Nat->Prop} {sDone:Value} {n:Nat} {l:List Value} {x:dd} (hB:∀ k,sDone.ownBlock=some k->k<B) {i k:Nat} {v:Value} {w w':World} (hik:i≠k) (h:Jp hp B Own sDone n l x k v w) (hg:Jq sDone i w w'):Jp hp B Own sDone n l x k v w':=by
 unfold Jq at hg;unfold Jp at *;split <;> try exact h
 ·obtain ⟨p,e,h1,h2⟩:=h;refine ⟨p,e,h1,?_⟩;split at hg
  ·rw [hg.block p (ai h2) (fun e=>by have:=hB p e.symm;omega)];exact h2
  ·rw [hg.block p (ai h2) Hb];exact h2
 ·rw [if_neg hik] at hg;exact h.keep fun k hk _=>hg.block k hk Hb
 ·trivial
theorem vl {w:World} {F:Nat->Prop} {hp:Nat} {m:DM} (h:pe w F hp m) (r:Nat) (hr:r<m.now.length) (hst:aF m=false) (hmax:m.done.length<1000000) :
 Calls Tryz.prog 190 #[.pointer (some ⟨hp,0,none⟩),.int .i64 r] w fun e w'=>e=.returned (.bool true)/\f7 w w' F hp (m.barrier r):=by
 obtain ⟨O,L,h,hF,hlt⟩:=h;have hO:∀ k,O k≠.none->k<w.heap.size:=fun k hk=>hlt k ((hF k).2 hk);have HH:=He h;have few:=h.ok.few;have hRm:=He (gZ h r (by constructor <;> omega));have hbt:jM m r=true:=by unfold jM;simp;omega
 rw [hbt] at hRm;clear hbt;have hS:=He (ji h);rw [hst] at hS;have HO:=He hO;have HF:=He hF;have HR:=He hr;clear h hst hlt hO hF;generalize hN:m.done.length=N at *;have HN:=He hN;clear hN;go_enter Tryz.func190,Tryz.ntmps190;go_wp2_with fail
 refine hRm.out.mono ?_;rintro e w' ⟨rfl,rfl⟩;go_wp2_with fail
 refine hS.out.mono ?_;rintro e w' ⟨rfl,rfl⟩;go_wp2_with fail
 go_upto_region 5 with fail
 go_cut [4] (fun s wx=>∃ v:Value,s=.bool false/\aD (fun k=>k=hp\/O k=.done) w wx/\(∀ k,v.ownBlock=some k->O k=.done\/w.heap.size<=k)/\DevRaw wx (fL O w.heap.size v) hp { L with sDone:=v } { m with done:=m.done++[⟨r,65535,List.replicate 64 0⟩] })
 case first =>
  have srefl:∀ (i:Nat) (W:World),Jq L.sDone i W W:=fun i W=>by unfold Jq;split <;> exact World.grownBy.refl W _
  have hBd:∀ k,L.sDone.ownBlock=some k->k<w.heap.size:=fun k hk=>(HH.out.done.1.lt k hk).2;have hJ0:aD (fun k=>O k=.done) w w.drew/\aG w.drew (fun k=>O k=.done) 281 65 L.sDone N (ie m.done):=⟨(aD.refl _ _).drew,by have:=HH.out.done;rw [<- HN.out];exact this⟩
  have hpn:¬ O hp=.done:=by rw [HH.out.ohd];simp
  refine fR (Jp hp w.heap.size (fun k=>O k=.done) L.sDone N (ie m.done) ⟨r,65535,List.replicate 64 0⟩) (fun W=>aD (fun k=>O k=.done) w W/\aG W (fun k=>O k=.done) 281 65 L.sDone N (ie m.done)) (Jq L.sDone) Hc Hc (fun i j v w w' hij h hg=>h.on hBd hij hg) hJ0 ?_;clear hJ0;simp only [bW];refine ⟨?_,?_,?_,?_,?_,?_,?_,?_,?_,?_,?_,?_,?_⟩
  ·refine aA.of rfl fun T W hag hJ hd=>?_;have e0:=Hf hag 0;exact Hj
  ·refine aA.of rfl fun T W hag hJ hd=>?_;have e0:=Hf hag 0;exact Hj
  ·refine aA.of rfl fun T W hag hJ hd=>?_;have d12:T.getD 12 undef=_:=Hg hd 1 rfl;exact Hj
  ·refine aA.of rfl fun T W hag hJ hd=>?_;have d13:T.getD 13 undef=_:=Hg hd 2 rfl;exact Hj
  ·refine aA.of rfl fun T W hag hJ hd=>?_;have d14:T.getD 14 undef=_:=Hg hd 3 rfl;have fct0:=(zp hJ.1 HH.out.c2 hpn)
   exact Hj
  ·refine aA.of rfl fun T W hag hJ hd=>?_;have e1:=Hf hag 1;exact Hj
  ·refine aA.of rfl fun T W hag hJ hd=>?_;have d16:T.getD 16 undef=_:=Hg hd 5 rfl;clear hag hd;go_simp;refine (nP W r 65535).mono ?_;rintro e w' ⟨rfl,rfl⟩;exact ⟨_,rfl,rfl,hJ,srefl _ _⟩
  ·refine aA.of rfl fun T W hag hJ hd=>?_;have d17:T.getD 17 undef=_:=Hg hd 6 rfl;refine oE 281 _ rfl (dd.cs ⟨r,65535,List.replicate 64 0⟩).toArray ?_ ?_
   ·simp only [List.map_toArray,List.map_cons,List.map_nil];rw [show (⟨T,[]⟩:Act).eval (.tmp 17)=_ from d17];exact vf r 65535
   ·exact ⟨_,rfl,rfl,hJ,srefl _ _⟩
  ·refine aA.of rfl fun T W hag hJ hd=>?_;have d18:T.getD 18 undef=_:=Hg hd 7 rfl;obtain ⟨i0,hi0,hz0,hz1,hz2⟩:=info_parts pC;refine gf 171 (.tmp 18) rfl 281 i0 _ 65 Tryz.underlying171 hi0 hz0 hz1 Hd Hd _ d18 (by simp only [Value.cells,List.size_toArray];exact dd.cs_length pf.1) ?_;refine ⟨_,rfl,⟨W.heap.size,rfl,hJ.1.size,heap_alloc_new W _⟩,⟨hJ.1.alloc _,hJ.2.keep fun k hk _=>Below.heap_alloc W _ k hk⟩,?_⟩;exact World.grownBy_alloc W _ _
  ·refine aA.of rfl fun T W hag hJ hd=>?_;have d15:T.getD 15 undef=L.sDone:=Hg hd 4 rfl;obtain ⟨p,(d19:T.getD 19 undef=_),hp1,hp2⟩:=Hg hd 8 rfl;obtain ⟨i0,hi0,hz0,hz1,hz2⟩:=info_parts pC;refine iW (.tmp 15) (.tmp 19) 171 rfl 281 i0 _ 65 80 Tryz.underlying171 hi0 hz0 hz1 hz2 (by simp [Value.cells]) Hd L.sDone N (ie m.done) d15 _ hJ.2 ⟨p,0,none⟩ 1 1 (dd.cs ⟨r,65535,List.replicate 64 0⟩) d19 (by rw [dd.cs_length pf.1]) (fun j u hj=>by rw [Addr.add_mid,af hp2,Nat.zero_add,List.getElem?_toArray];exact hj) (dd.cs_one _) (by simp only [maxLen];omega) Ha ?_;intro v' w' hrow hgr hold;refine ⟨_,rfl,hrow.owner ?_,⟨?_,hold⟩,hgr⟩
   ·intro k _ hk;rcases hk with hk | hk
    ·exact Or.inl hk
    ·exact Or.inr (by have:=hJ.1.size;omega)
   ·exact hJ.1.trans' (aD.of_grown hgr) fun k hk=>Or.inl (hold.2 k hk.symm)
  ·refine aA.of rfl fun T W hag hJ hd=>?_;have d11:T.getD 11 undef=_:=Hg hd 0 rfl;exact Hj
  ·refine aA.of rfl fun T W hag hJ hd=>?_;have d21:T.getD 21 undef=_:=Hg hd 10 rfl;exact Hj
  ·refine jK.of rfl fun T W hag hJ hd=>?_;have d22:T.getD 22 undef=_:=hd 11 _ Hb rfl;have x20:aG W (fun k=>O k=.done\/w.heap.size<=k) 281 65 (T.getD 20 undef) (N+1) (ie m.done++dd.cs ⟨r,65535,List.replicate 64 0⟩):=hd 9 _ Hb rfl;obtain ⟨v,d20⟩:∃ v,T.getD 20 undef=v:=⟨_,rfl⟩
   rw [d20] at x20;obtain ⟨A2,cq,rfl,hc1,hc2⟩:=x20.val;have hdW:W.heap[hp]?=_:=(hJ.1.block hp HH.out.lt hpn).trans HH.out.hd;have hnew:DevRaw (W.setCell ⟨hp,2,none⟩ (.slice A2 (N+1) cq)) (fL O w.heap.size (.slice A2 (N+1) cq)) hp { L with sDone:=.slice A2 (N+1) cq } { m with done:=m.done++[⟨r,65535,List.replicate 64 0⟩] }:=by
    refine HH.out.toDevRaw.push ⟨r,65535,List.replicate 64 0⟩ (.slice A2 (N+1) cq) ?_ ?_ ?_
    ·exact ah hdW _
    ·intro k hk hne hod;rw [Below.heap_setCell _ _ _ _ hne];exact hJ.1.block k hk hod
    ·rw [HN.out];exact x20.keep fun k hk ho=>Below.heap_setCell _ _ _ _ (fun e=>by
      subst e;rcases ho with ho | ho
      ·exact hpn ho
      ·have:=HH.out.lt;omega)
   have htc:aD (fun k=>k=hp\/O k=.done) w (W.setCell ⟨hp,2,none⟩ (.slice A2 (N+1) cq)):=aD.setCell (F:=fun k=>k=hp\/O k=.done) (hJ.1.mono fun k _ h=>Or.inr h) (p:=⟨hp,2,none⟩) (Or.inl rfl) _;have HM:=He (And.intro htc (And.intro (fun k hk=>x20.2 k hk:∀ k,(Value.slice A2 (N+1) cq).ownBlock=some k->O k=.done\/w.heap.size<=k) hnew));have c2:W.cell? ⟨hp,2,none⟩=some L.sDone:=af hdW 2;have f2:W.frozen? ⟨hp,2,none⟩=false:=az hdW 2;have d20':=d20;have d22':=d22;rw [Array.getD_eq_getD_getElem?] at d20' d22';have HAG:=He hag;clear hag hd hdW hnew htc x20;go_simp;obtain ⟨f,hf,hT⟩:=aH HAG.out;generalize (W.setCell ⟨hp,2,none⟩ (.slice A2 (N+1) cq))=W2 at *;clear HAG hf d20 d22 d20' d22' c2 f2;rw [hT];clear hT;simp only [List.filterMap_cons,List.filterMap_nil,List.foldl_cons,List.foldl_nil,List.setIfInBounds_toArray,List.set_cons_succ,List.set_cons_zero];rename_i hJc hKc;refine hKc _ _ (hJc _ _ ?_)
   repeat apply Exists.intro
   exact ⟨⟨_,rfl,HM.out⟩,rfl⟩
 case rest =>
  obtain ⟨v,rfl,hT3,hv3,hd3⟩:=hcut;obtain ⟨w3,rfl⟩:∃ w3,w3=wc:=⟨wc,rfl⟩
  have hd4:df w3 (fL O w.heap.size v) hp { L with sDone:=v } { m with done:=m.done++[⟨r,65535,List.replicate 64 0⟩] }:=⟨hd3,HH.out.ok.tell HR.out⟩
  have hset:=He (xN hd4 r HR.out (by show (m.done++_).length<=_;rw [List.length_append,HN.out];simp;omega) 211 #[] (fun _=>true) (fun args W=>AA Tryz.func211 Hc rfl args W) (fun W n _ _=>pA W n));have HT3:=He hT3;have HV3:=He hv3;have HD4:=He hd4;clear hT3 hv3 hd3 hd4;go_wp2_with fail
  refine hset.out.mono ?_;rintro e w4 ⟨rfl,hd5,ht5⟩;have HM:=He (And.intro hd5 ht5);clear hd5 ht5;go_wp2;go_ret;refine ⟨rfl,fun k=>fL O w.heap.size v k≠.none,⟨_,_,HM.out.1,fun k=>Iff.rfl,fun k hk=>?_⟩,?_,fun k hk=>?_⟩
  ·have h1:=HM.out.2.size;have h2:=HT3.out.size;rcases iY hk with h3 | ⟨h3,h4⟩
   ·have:=HO.out k h3;omega
   ·have:=(HD4.out.done.1.lt k h4).2;omega
  ·refine (HT3.out.mono fun k _ hk=>?_).trans' HM.out.2 fun k hk=>?_
   ·rcases hk with rfl | hk
    ·exact (HF.out _).2 (by rw [HH.out.ohd];simp)
    ·exact (HF.out k).2 (by rw [hk];simp)
   ·have hk':fL O w.heap.size v k≠.none:=by rcases hk with hk | hk <;> rw [hk] <;> simp
    rcases iY hk' with h3 | ⟨h3,h4⟩
    ·exact Or.inl ((HF.out k).2 h3)
    ·exact Or.inr h3
  ·rcases iY hk with h3 | ⟨h3,h4⟩
   ·exact Or.inl ((HF.out k).2 h3)
   ·exact Or.inr h3
theorem dP (a:Addr) (i:Nat):(a.add i).block=a.block:=by unfold Addr.add;split <;> rfl
end Go.Proofs.YtegjelaejbacnaaGreat
