/- For FileForms: contracts and facts, part 24. -/
import Derived.Test.YtegjelaejbacnaaGreatW18
import Derived.Test.YtegjelaejbacnaaGreatW23
set_option maxRecDepth 100000
set_option maxHeartbeats 25600000
set_option linter.unusedVariables false
open Go.ChangeShapes Go.WideShapes Go.ChangeAt Go.RowKit
namespace Go.Proofs.YtegjelaejbacnaaGreat
structure TC where
 w0:World
 F:Nat->Prop
 (q hp rb n c:Nat)
 m:DM
 v:VM
 (tb kb:Nat)
abbrev TC.K (C:TC) (W:World) (pv:Value) (P:List Wr) (T:List Bool):Prop:=KT C.w0 W C.F C.q C.hp C.rb C.n C.c C.m C.v C.tb C.kb pv P T
structure BN where
 b:List Bk
 n:Nat
def BN.N (B:BN) (P:List Wr):List Bk:=applyW B.b P
abbrev TC.bn (C:TC):BN:=⟨kf C.v,C.n⟩
abbrev TC.N (C:TC) (P:List Wr):List Bk:=C.bn.N P
section
variable {C:TC} {W W':World} {pv:Value} {P:List Wr} {T:List Bool}
theorem KT.bl (h:C.K W pv P T):C.bn.b.length=C.n:=by rw [gU h.ks.vol.toOk,h.vn]
theorem KT.nl (h:C.K W pv P T):(C.N P).length=C.n:=by unfold TC.N BN.N;rw [cZ,h.bl]
theorem KT.typ {k:Nat} {Z:Array Value} {ty:TypeId} {fr:Nat × Nat} (h:C.K W pv P T) (hk:W.heap[k]?=some (.cells Z ty fr)) (h1:ty≠107) (h2:ty≠197) (h3:ty≠52):k≠C.tb/\k≠C.kb/\pv.ownBlock≠some k :=
 ⟨bu hk h.ks.tx.hd h1,bu hk h.ks.tx.bits.hp h2,fun e=>by
   obtain ⟨Y,hY⟩:=db h.ks.tx.own e;exact bu hk hY h3 rfl⟩
theorem KT.cell {j:Nat} {Z:Array Value} {ty:TypeId} {fr:Nat × Nat} (h:C.K W pv P T) (hg:W.grownBy W' (some j)) (hj:W.heap[j]?=some (.cells Z ty fr)) (h1:ty≠107) (h2:ty≠197) (h3:ty≠52) (h4:ty≠118) (h5:ty≠113) (hF:¬ C.F j) (hl:C.w0.heap.size<=j):C.K W' pv P T:=by
 obtain ⟨n1,n2,n3⟩:=h.typ hj h1 h2 h3;have hv:=h.tv.touch hg hF (bu hj h.ks.vol.hd h4) (bu hj h.ks.vol.row h5) hl;exact { h with tv:=hv,ks:=⟨⟨bo hg h.ks.tx.hd (fun e=>n1 (by injection e)),fy h.ks.tx.own (fun k hk=>hg.block k (by obtain ⟨Y,hY⟩:=db h.ks.tx.own hk;exact ai hY) (fun e=>n3 (by rw [hk,e]))),h.ks.tx.ok,h.ks.tx.srt,h.ks.tx.few,⟨h.ks.tx.bits.len,bo hg h.ks.tx.bits.hp (fun e=>n2 (by injection e))⟩⟩,hv.at_,h.ks.inn⟩ }
end
structure dj (C:TC) (W0:World) (o0:Option Nat) (W:World) (ob:Option Nat):Prop where
 sz:W0.heap.size<=W.heap.size
 fr:∀ k,k<W0.heap.size->k≠C.tb->k≠C.kb->o0≠some k->W.heap[k]?=W0.heap[k]?
 pn:∀ k,ob=some k->o0=some k\/W0.heap.size<=k
section
variable {C:TC} {G:Nat->Obj->Prop} {W0 W W':World} {o0 ob ob':Option Nat}
theorem dj.refl (C:TC) (W:World) (o:Option Nat):dj C W o W o:=⟨Nat.le_refl _,fun _ _ _ _ _=>rfl,fun _ h=>.inl h⟩
theorem dj.trans (h:dj C W0 o0 W ob) (h2:dj C W ob W' ob'):dj C W0 o0 W' ob' :=
 ⟨Nat.le_trans h.sz h2.sz,fun k hk h1 h3 h4=>(h2.fr k (Nat.lt_of_lt_of_le hk h.sz) h1 h3 (fun e=>by rcases h.pn k e with h5 | h5;exact h4 h5;omega)).trans (h.fr k hk h1 h3 h4),fun k hk=>by
   rcases h2.pn k hk with h5 | h5
   ·exact h.pn k h5
   ·exact .inr (Nat.le_trans h.sz h5)⟩
theorem dj.below (h:dj C W0 o0 W ob) (hb:Below W.heap.size W W'):dj C W0 o0 W' ob:=h.trans ⟨hb.size,fun k hk _ _ _=>hb.block k hk,fun _ h=>.inl h⟩
theorem dj.own (h:dj C W0 o0 W ob) {j:Nat} (hg:W.grownBy W' (some j)) (hj:W0.heap.size<=j\/j=C.kb\/j=C.tb):dj C W0 o0 W' ob :=
 ⟨Nat.le_trans h.sz hg.size,fun k hk h1 h3 h4=>(hg.block k (Nat.lt_of_lt_of_le hk h.sz) (fun e=>by injection e with e;subst e;rcases hj with h5 | h5 | h5;omega;exact h3 h5;exact h1 h5)).trans (h.fr k hk h1 h3 h4),h.pn⟩
end
section
variable {C:TC} {W:World} {pv:Value} {P:List Wr} {T:List Bool}
theorem KT.get1 (h:C.K W pv P T) (t:Int) (ht:i64 t):Calls Tryz.prog 23 #[.pointer (some ⟨C.tb,0,none⟩),.int .i64 t] W fun e w'=>e=.returned (.tuple #[.agg (ab (gB (C.N P) t).k (gB (C.N P) t).bs),.bool (decide (0<=t/\t<C.n))])/\Below W.heap.size W w':=h.get _ rfl t ht
theorem KT.take1 (h:C.K W pv P T) (h1:0<C.n) (h200:C.n<=200):Calls Tryz.prog 18 #[.pointer (some ⟨C.tb,0,none⟩)] W fun e w'=>e=.returned (nI (iy (C.N P) T))/\C.K w' pv P (gP (C.N P) T)/\W.grownBy w' (some C.kb):=h.take _ rfl h1 h200
theorem KT.put1 (h:C.K W pv P T) (t:Int) (ht:i64 t) (x:Bk) (hx:x.Wk) (hfew:P.length<200):Calls Tryz.prog 21 #[.pointer (some ⟨C.tb,0,none⟩),.int .i64 t,.agg (ab x.k x.bs)] W fun e w'=>e=.returned (.bool (decide (0<=t/\t<C.n)))/\∃ pv',C.K w' pv' (if 0<=t/\t<C.n then gm P ⟨t,x.k,x.bs⟩ else P) T/\dj C W pv.ownBlock w' pv'.ownBlock/\∀ k,k<W.heap.size->k≠C.tb->pv.ownBlock≠some k->w'.heap[k]?=W.heap[k]?:=by
 have hp:=BZ h.ks t ht x hx.k hx.len hx.b hfew;rw [h.vn] at hp;refine hp.mono ?_;rintro e w' ⟨rfl,pv',hk,hpt,hob⟩;have hnew:∀ k,pv'.ownBlock=some k->pv.ownBlock=some k\/W.heap.size<=k:=fun k hk2=>by
  rcases hob with ho | ⟨k3,ho,hle⟩
  ·exact .inl (by rw [<- ho];exact hk2)
  ·rw [ho] at hk2;injection hk2 with hk2;subst hk2;exact .inr hle
 refine ⟨rfl,pv',⟨h.tv.put hpt h.ft h.fo h.lt h.lo h.hne.1 h.hne.2.1 (fun e=>(h.one _ e).1 rfl) (fun e=>(h.one _ e).2 rfl),hk,h.ft,h.fk,fun k hk2=>?_,h.lt,h.lk,fun k hk2=>?_⟩,⟨hpt.size,fun k h1 h2 _ h4=>hpt.block k h1 h2 (fun e=>h4 e.symm),hnew⟩,fun k h1 h2 h4=>hpt.block k h1 h2 (fun e=>h4 e.symm)⟩
 ·rcases hnew k hk2 with h1 | h1
  ·exact h.fo k h1
  ·exact h.tv.new h1
 ·rcases hnew k hk2 with h1 | h1
  ·exact h.lo k h1
  ·exact Nat.le_trans h.tv.bel.size h1
end
def pT (C:BN) (P:List Wr) (a:Int) (x:Bk):List Wr:=if 0<=a/\a<C.n then gm P ⟨a,x.k,x.bs⟩ else P
def Ap (tb:Nat) (t:Int) (nd:Nd) (iv:Value):Array Value:=#[.pointer (some ⟨tb,0,none⟩),.int .i64 t,.int .u32 nd.g,.int .i64 nd.l,.int .i64 nd.s,.int .i64 nd.a,.int .i64 nd.b,.int .i64 nd.c,.int .i64 nd.d,.int .i64 nd.x,.string (strOfNums nd.t),iv]
def EA:Nat->Obj->Prop:=fun _ _=>False
structure FS (C:TC) (G:Nat->Obj->Prop) (W0:World) (o0:Option Nat) (W:World) (pv:Value) (P:List Wr) (T:List Bool) (ob:Nat) (t:Int) (nd:Nd) (ib cap:Nat) (ix:List Int):Prop where
 k:C.K W pv P T
 s:dj C W0 o0 W pv.ownBlock
 hd:W.heap[ob]?=some (.cells (Ap C.tb t nd (.slice (some ⟨ib,0,none⟩) 16 cap)) 157 (0,0))
 row:W.ownsRow W0.heap.size 3 1 (.slice (some ⟨ib,0,none⟩) 16 cap) 16 (Is ix)
 lo:W0.heap.size<=ob
 fo:¬ C.F ob
 fi:¬ C.F ib
 ok:mw nd
 il:ix.length=16
 ii:∀ p∈ix,i64 p
 ti:i64 t
 gd:∀ k o,G k o->W.heap[k]?=some o/\k≠ob/\k≠ib/\k≠C.tb/\k≠C.kb/\pv.ownBlock≠some k
section
variable {C:TC} {G:Nat->Obj->Prop} {W0 W W':World} {o0:Option Nat} {pv:Value} {P:List Wr} {T:List Bool} {ob ib cap:Nat} {t:Int} {nd:Nd} {ix:List Int}
theorem FS.below (h:FS C G W0 o0 W pv P T ob t nd ib cap ix) (hb:Below W.heap.size W W'):FS C G W0 o0 W' pv P T ob t nd ib cap ix:={ h with k:=h.k.below hb,s:=h.s.below hb,hd:=kb hb h.hd,row:=hU h.row hb,gd:=fun k o hk=>(h.gd k o hk).imp_left (kb hb) }
theorem FS.rb (h:FS C G W0 o0 W pv P T ob t nd ib cap ix):∃ Z,W.heap[ib]?=some (.cells Z 3 (0,0)):=db h.row rfl
theorem FS.bi (h:FS C G W0 o0 W pv P T ob t nd ib cap ix):W0.heap.size<=ib:=by
 rcases h.row.2 with ⟨e,_⟩ | ⟨g,cp,cur,e,hb,_⟩
 ·cases e
 ·injection e with e _ _;injection e with e;injection e with e _ _;subst e;exact hb
theorem FS.oi (h:FS C G W0 o0 W pv P T ob t nd ib cap ix):ib≠ob:=by
 obtain ⟨Z,hZ⟩:=h.rb;exact bu hZ h.hd Hd
theorem FS.lw (h:FS C G W0 o0 W pv P T ob t nd ib cap ix) (h0:C.w0.heap.size<=W0.heap.size):C.w0.heap.size<=ob/\C.w0.heap.size<=ib:=⟨Nat.le_trans h0 h.lo,Nat.le_trans h0 h.bi⟩
theorem FS.put (h:FS C G W0 o0 W pv P T ob t nd ib cap ix) (a:Int) (ha:i64 a) (x:Bk) (hx:x.Wk) (hfew:P.length<200):Calls Tryz.prog 21 #[.pointer (some ⟨C.tb,0,none⟩),.int .i64 a,.agg (ab x.k x.bs)] W fun e w'=>e=.returned (.bool (decide (0<=a/\a<C.n)))/\∃ pv',FS C G W0 o0 w' pv' (pT C.bn P a x) T ob t nd ib cap ix:=by
 refine (h.k.put1 a ha x hx hfew).mono ?_;rintro e w' ⟨rfl,pv',hk,hs,hf⟩;obtain ⟨Z,hZ⟩:=h.rb;obtain ⟨n1,n2,n3⟩:=h.k.typ h.hd Hd Hd Hd;obtain ⟨m1,m2,m3⟩:=h.k.typ hZ Hd Hd Hd;exact ⟨rfl,pv',{ h with k:=hk,s:=h.s.trans hs,hd:=(hf ob (ai h.hd) n1 n3).trans h.hd,row:=fy h.row fun k e=>by injection e with e;subst e;exact hf _ (ai hZ) m1 m3,gd:=fun k o hk=>let ⟨q1,q2,q3,q4,q5,q6⟩:=h.gd k o hk;⟨(hf k (ai q1) q4 q6).trans q1,q2,q3,q4,q5,fun e=>by rcases hs.pn k e with e2 | e2;exact q6 e2;have:=ai q1;omega⟩ }⟩
theorem FS.take (h:FS C G W0 o0 W pv P T ob t nd ib cap ix) (h1:0<C.n) (h200:C.n<=200):Calls Tryz.prog 18 #[.pointer (some ⟨C.tb,0,none⟩)] W fun e w'=>e=.returned (nI (iy (C.N P) T))/\FS C G W0 o0 w' pv P (gP (C.N P) T) ob t nd ib cap ix:=by
 refine (h.k.take1 h1 h200).mono ?_;rintro e w' ⟨rfl,hk,hg⟩;obtain ⟨Z,hZ⟩:=h.rb;obtain ⟨n1,n2,n3⟩:=h.k.typ h.hd Hd Hd Hd;obtain ⟨m1,m2,m3⟩:=h.k.typ hZ Hd Hd Hd;exact ⟨rfl,{ h with k:=hk,s:=h.s.own hg (.inr (.inl rfl)),hd:=bo hg h.hd (fun e=>n2 (by injection e with e;exact e.symm)),row:=fy h.row fun k e=>by injection e with e;subst e;exact hg.block _ (ai hZ) (fun e=>m2 (by injection e)),gd:=fun k o hk=>let ⟨q1,q2,q3,q4,q5,q6⟩:=h.gd k o hk;⟨bo hg q1 (fun e=>q5 (by injection e with e;exact e.symm)),q2,q3,q4,q5,q6⟩ }⟩
theorem FS.set (h:FS C G W0 o0 W pv P T ob t nd ib cap ix) (h0:C.w0.heap.size<=W0.heap.size) (j:Nat) (u:Value) (nd':Nd) (hn:mw nd') (he:∀ iv,(Ap C.tb t nd iv).setIfInBounds j u=Ap C.tb t nd' iv):FS C G W0 o0 (W.setCell ⟨ob,j,none⟩ u) pv P T ob t nd' ib cap ix:=by
 have hg:=br W ob j u;exact { h with k:=h.k.cell hg h.hd Hd Hd Hd Hd Hd h.fo (h.lw h0).1,s:=h.s.own hg (.inl h.lo),hd:=(ah h.hd u).trans (by rw [he]),row:=fy h.row fun k e=>by injection e with e;subst e;exact heap_setCell_other _ _ _ _ h.oi,ok:=hn,gd:=fun k o hk=>let ⟨q1,q2,q3⟩:=h.gd k o hk;⟨(heap_setCell_other _ _ _ _ q2).trans q1,q2,q3⟩ }
theorem FS.setI (h:FS C G W0 o0 W pv P T ob t nd ib cap ix) (h0:C.w0.heap.size<=W0.heap.size) (j:Nat) (hj:j<16) (x:Int) (hx:i64 x):FS C G W0 o0 (W.setCell ⟨ib,j,none⟩ (.int .i64 x)) pv P T ob t nd ib cap (ix.set j x):=by
 have hg:=br W ib j (.int .i64 x);obtain ⟨Z,hZ⟩:=h.rb;refine { h with k:=h.k.cell hg hZ Hd Hd Hd Hd Hd h.fi (h.lw h0).2,s:=h.s.own hg (.inl h.bi),hd:=(heap_setCell_other _ _ _ _ (fun e=>h.oi e.symm)).trans h.hd,row:=?_,il:=by rw [List.length_set];exact h.il,ii:=fun p hp=>?_,gd:=fun k o hk=>?_ }
 ·have:=ml h.row (k:=j) Ha (.int .i64 x)
  rwa [show (Is ix).set j (.int .i64 x)=Is (ix.set j x) by unfold Is;rw [List.map_set]] at this
 ·rcases List.mem_or_eq_of_mem_set hp with hp | rfl
  ·exact h.ii p hp
  ·exact hx
 ·obtain ⟨q1,q2,q3,q4⟩:=h.gd k o hk;exact ⟨(heap_setCell_other _ _ _ _ q3).trans q1,q2,q3,q4⟩
theorem FS.re (h:FS C G W0 o0 W pv P T ob t nd ib cap ix) {G':Nat->Obj->Prop} (hg:∀ k o,G' k o->∃ Z ty fr,o=.cells Z ty fr/\W.heap[k]?=some o/\ty≠157/\ty≠3/\ty≠107/\ty≠197/\ty≠52):FS C G' W0 o0 W pv P T ob t nd ib cap ix :=
 { h with gd:=fun k o hk=>let ⟨Z,ty,fr,he,h1,h2,h3,h4,h5,h6⟩:=hg k o hk;let ⟨Y,hY⟩:=h.rb;have h1':W.heap[k]?=some (.cells Z ty fr):=he ▸ h1;let ⟨n1,n2,n3⟩:=h.k.typ h1' h4 h5 h6;⟨h1,bu h1' h.hd h2,bu h1' hY h3,n1,n2,n3⟩ }
theorem FS.c (h:FS C G W0 o0 W pv P T ob t nd ib cap ix) (j:Nat):W.cell? ⟨ob,j,none⟩=(Ap C.tb t nd (.slice (some ⟨ib,0,none⟩) 16 cap))[j]?:=af h.hd j
theorem FS.f (h:FS C G W0 o0 W pv P T ob t nd ib cap ix) (j:Nat):W.frozen? ⟨ob,j,none⟩=false:=az h.hd j
theorem FS.ci (h:FS C G W0 o0 W pv P T ob t nd ib cap ix) {j:Nat} {x:Int} (hx:ix[j]?=some x):W.cell? ⟨ib,j,none⟩=some (.int .i64 x):=jU h.row (uX hx)
theorem FS.fri (h:FS C G W0 o0 W pv P T ob t nd ib cap ix) (j:Nat):W.frozen? ⟨ib,j,none⟩=false:=qh h.row j
theorem FS.nts (h:FS C G W0 o0 W pv P T ob t nd ib cap ix):jf W (some ⟨ib,0,none⟩) ix:=fun i x hx=>⟨_,rfl,by rw [fP];exact h.ci hx⟩
theorem FS.lit (h:FS C G W0 o0 W pv P T ob t nd ib cap ix):16<=cap/\cap<=9223372036854775807:=by
 obtain ⟨cur,_,h2,h3,_⟩:=gE h.row;exact ⟨h2,by simp only [maxLen] at h3;omega⟩
end
def FT (x:Int):Bool:=decide (x ≠ -1)
theorem FU (w:World) (x:Int):Calls Tryz.prog 140 #[.int .i64 x] w fun e w'=>e=.returned (.bool (FT x))/\w=w':=by
 go_enter Tryz.func140,Tryz.ntmps140;go_wp2;go_ret;exact ⟨aj (by unfold FT;by_cases h:x = -1 <;> simp [h]),rfl⟩
theorem FV (A:Option Addr) (zs:List Int) (n c:Nat) (w:World) (hn:zs.length=n) (hy:jf w A zs) (hl:n<=1000) :
 Calls Tryz.prog 174 #[.slice A n c,.func (.func 140) #[] #[]] w fun e w'=>(∃ k:Int,(0<=k↔zs.any FT=true)/\i64 k/\e=.returned (.int .i64 k))/\w=w':=by
 have HY:=He hy;have HN:=He hn;clear hn hy;go_enter Tryz.func174,Tryz.ntmps174;go_wp2
 go_loop [8] (fun i=>∃ k:Nat,k<=n/\i=.int .i64 k/\Hid ((zs.take k).any FT=false)) (fun i=>n-(intOf i).toNat)
 case atStart=>exact ⟨0,Nat.zero_le _,rfl,He Hb⟩
 case round =>
  obtain ⟨k,hk,rfl,HK⟩:=hrel;by_cases hlt:k<n
  ·obtain ⟨x,hx⟩:∃ x,zs[k]?=some x:=⟨_,List.getElem?_eq_getElem (by rw [HN.out];exact hlt)⟩
   obtain ⟨a,rfl,hc⟩:=HY.out _ _ hx;have HX:=He hx;have HM:=He (FU w x);clear hx;cases hq:FT x
   ·have HQ:=He hq;rw [hq] at HM;clear hq;go_wp2_with fail
    refine HM.out.mono ?_;rintro e w' ⟨rfl,rfl⟩;go_wp2
    go_round
    case rel=>exact ⟨k+1,Ha,by go_num,He (by rw [au HX.out,List.any_append,HK.out];simp [HQ.out])⟩
    case measure=>simp [intOf];omega
   ·have HQ:=He hq;rw [hq] at HM;clear hq;go_wp2_with fail
    refine HM.out.mono ?_;rintro e w' ⟨rfl,rfl⟩;go_wp2;go_ret;exact ⟨⟨k,⟨fun _=>List.any_eq_true.2 ⟨x,List.mem_of_getElem? HX.out,HQ.out⟩,fun _=>Ha⟩,by constructor <;> omega,rfl⟩,rfl⟩
  ·obtain rfl:k=n:=Ha;go_wp2;go_ret;have:=HK.out;rw [List.take_of_length_le (by rw [HN.out];exact Nat.le_refl _)] at this;exact ⟨⟨-1,⟨fun h=>Ha,fun h=>by
    obtain ⟨x,h1,h2⟩:=h;rw [List.any_eq_true.2 ⟨x,h1,h2⟩] at this;cases this⟩,by constructor <;> omega,rfl⟩,rfl⟩
theorem FW (A:Option Addr) (zs:List Int) (n c:Nat) (w:World) (hn:zs.length=n) (hy:jf w A zs) (hl:n<=1000) :
 Calls Tryz.prog 139 #[.slice A n c,.func (.func 140) #[] #[]] w fun e w'=>e=.returned (.bool (zs.any FT))/\w=w':=by
 have HF:=He (FV A zs n c w hn hy hl);clear hy hn;generalize zs.any FT=b at *;go_enter Tryz.func139,Tryz.ntmps139;go_wp2_with fail
 refine HF.out.mono ?_;rintro e w' ⟨⟨k,hk,hi,rfl⟩,rfl⟩;have HK:=He hk;clear hk;go_wp2;go_ret;exact ⟨aj (by rw [Bool.eq_iff_iff,decide_eq_true_eq];exact HK.out),rfl⟩
def mostN (off:Nat):Nat:=min ((off/56+4)*56) 1120-off
theorem xn (off:Nat) (h:off<1120) (w:World):Calls Tryz.prog 77 #[.int .i64 (off:Int)] w fun e w'=>e=.returned (.int .i64 (mostN off:Nat))/\w=w':=by
 obtain ⟨q,hq⟩:∃ q:Nat,(off:Int).tdiv 56=q/\q=off/56:=⟨off/56,by rw [Int.tdiv_eq_ediv_of_nonneg Ha];omega,rfl⟩
 obtain ⟨hq,hqo⟩:=hq;have HQ:=He hqo;have hq20:q<20:=Ha;clear hqo;by_cases h1:(1120:Int)<(q+4)*56
 ·have hv:((mostN off:Nat):Int)=1120-off:=by have:=HQ.out;unfold mostN;rw [Nat.min_def];split <;> omega
  rw [hv];clear hv;go_enter Tryz.func77,Tryz.ntmps77;go_wp2_with fail
  go_ret;exact ⟨rfl,rfl⟩
 ·have hv:((mostN off:Nat):Int)=((q:Int)+4)*56-off:=by have:=HQ.out;unfold mostN;rw [Nat.min_def];split <;> omega
  rw [hv];clear hv;go_enter Tryz.func77,Tryz.ntmps77;go_wp2_with fail
  go_ret;exact ⟨rfl,rfl⟩
section
variable {C:TC} {G:Nat->Obj->Prop} {W0 W:World} {o0:Option Nat} {pv:Value} {P:List Wr} {T:List Bool} {ob ib cap:Nat} {t:Int} {nd:Nd} {ix:List Int}
theorem xo (h:FS C G W0 o0 W pv P T ob t nd ib cap ix) (a:Int) (ha:i64 a):Calls Tryz.prog 143 #[.pointer (some ⟨ob,0,none⟩),.int .i64 a] W fun e w'=>e=.returned (.bool (decide (0<=a/\a<C.n)))/\Below W.heap.size W w':=by
 have HG:=He (h.k.get1 a ha);have c0:W.cell? ⟨ob,0,none⟩=some (.pointer (some ⟨C.tb,0,none⟩)):=h.c 0;have HW:Hid ((gB (C.N P) a).bs.length=56):=(Ak (fun y hy=>(h.k.ks.wk y hy).2) a).1;generalize gB (C.N P) a=x at *;generalize decide (0<=a/\a<(C.n:Int))=b at *;clear h;go_enter Tryz.func143,Tryz.ntmps143;go_wp2_with fail
 refine HG.out.mono ?_;rintro e w1 ⟨rfl,hb⟩;have h5:=heap_alloc_new w1 (.cells (ab 0 ay) 37);have HB:=He (hb.trans ((below_setRow (aK (w:=w1) (.cells (ab 0 ay) 37)) (Nat.le_refl _) (ab x.k x.bs)).mono hb.size));clear hb c0;go_upto_region 2 with (first | (refine aq rfl rfl ?_) | (refine ap rfl (.tmp 5) (.tmp 14) rfl w1.heap.size rfl x.k 0 x.bs ay rfl HW.out al h5 ?_))
 clear h5;generalize (w1.alloc (.cells (ab 0 ay) 37)).setRow w1.heap.size (ab x.k x.bs)=w2 at *;go_wp2_with fail
 go_ret;exact ⟨rfl,HB.out⟩
def kT (C:BN) (P:List Wr) (T:List Bool):Nat:=oz (iy (C.N P) T)
theorem tD (h:FS C G W0 o0 W pv P T ob t nd ib cap ix) (h1:0<C.n) (h200:C.n<=200) (a:Addr) (ha:∀ W',FS C G W0 o0 W' pv P (gP (C.N P) T) ob t nd ib cap ix->(∃ z,W'.cell? a=some (.int .i64 z))/\W'.frozen? a=false):Calls Tryz.prog 144 #[.pointer (some ⟨ob,0,none⟩),.pointer (some a)] W fun e w'=>e=.returned (.bool (decide (kT C.bn P T<C.n)))/\∃ w1,FS C G W0 o0 w1 pv P (gP (C.N P) T) ob t nd ib cap ix/\w'=if kT C.bn P T<C.n then w1.setCell a (.int .i64 (kT C.bn P T:Nat)) else w1:=by
 have HT:=He (h.take h1 h200);have c0:W.cell? ⟨ob,0,none⟩=some (.pointer (some ⟨C.tb,0,none⟩)):=h.c 0;have hl:(iy (C.N P) T).length=C.n:=by rw [tB,h.k.nl]
 have hf:nI (iy (C.N P) T)=if kT C.bn P T<C.n then .tuple #[.int .i64 (kT C.bn P T:Nat),.bool true] else .tuple #[.int .i64 0,.bool false]:=by unfold nI kT;rw [hl]
 rw [hf] at HT;have HA:=He ha;obtain ⟨f,hfe⟩:∃ f,f=kT C.bn P T:=⟨_,rfl⟩
 rw [<- hfe] at HT ⊢;clear h hf hfe ha hl;by_cases hlt:f<C.n
 ·rw [if_pos hlt] at HT;simp only [if_pos hlt,decide_eq_true hlt];clear hlt;go_enter Tryz.func144,Tryz.ntmps144;go_wp2_with fail
  refine HT.out.mono ?_;rintro e w1 ⟨rfl,hs⟩;obtain ⟨⟨z,hz⟩,hfz⟩:=HA.out w1 hs;have HS:=He hs;clear hs;go_wp2_with fail
  go_ret;exact ⟨rfl,w1,HS.out,rfl⟩
 ·rw [if_neg hlt] at HT;simp only [if_neg hlt,decide_eq_false hlt];clear hlt;go_enter Tryz.func144,Tryz.ntmps144;go_wp2_with fail
  refine HT.out.mono ?_;rintro e w1 ⟨rfl,hs⟩;have HS:=He hs;clear hs;go_wp2_with fail
  go_ret;exact ⟨rfl,w1,HS.out,rfl⟩
def Ct (ob ib k:Nat):Addr:=if k<4 then ⟨ob,5+k,none⟩ else ⟨ib,k-4,none⟩
theorem lG (h:FS C G W0 o0 W pv P T ob t nd ib cap ix) (k:Nat) (hk:k<20):Calls Tryz.prog 74 #[.pointer (some ⟨ob,0,none⟩),.int .i64 (k:Int)] W fun e w'=>e=.returned (.pointer (some (Ct ob ib k)))/\W=w':=by
 have HW:=He (Bw (k:Int) W (by constructor <;> omega));have c11:W.cell? ⟨ob,11,none⟩=some (.slice (some ⟨ib,0,none⟩) 16 cap):=h.c 11;have hcap:=h.lit;clear h;by_cases h4:k<4
 ·rw [show Bv (k:Int)=.tuple #[.int .i64 k,.int .i64 (-1),.bool true] by unfold Bv;rw [show Dy (k:Int)=k by unfold Dy;rw [if_neg Ha,if_pos Ha],show Dz (k:Int) = -1 by unfold Dz;rw [if_neg Ha,if_pos Ha],decide_eq_true Ha]] at HW;unfold Ct;rw [if_pos h4];have h4i:(k:Int)<4:=Ha;have hm:¬ (k:Int) = -1:=Ha;go_enter Tryz.func74,Tryz.ntmps74;go_wp2_with fail
  refine HW.out.mono ?_;rintro e w1 ⟨rfl,rfl⟩;go_wp2_with fail
  go_ret;exact ⟨rfl,rfl⟩
 ·obtain ⟨j,rfl⟩:∃ j,k=j+4:=⟨k-4,Ha⟩
  rw [show Bv ((j+4:Nat):Int)=.tuple #[.int .i64 (-1),.int .i64 (j:Nat),.bool true] by unfold Bv;rw [show Dy ((j+4:Nat):Int) = -1 by unfold Dy;rw [if_neg Ha,if_neg Ha],show Dz ((j+4:Nat):Int)=j by unfold Dz;rw [if_neg Ha,if_neg Ha];omega,decide_eq_true Ha]] at HW;unfold Ct;rw [if_neg h4,Nat.add_sub_cancel];have hj:j<16:=Ha;have hji:(j:Int)<16:=Ha;clear h4;go_enter Tryz.func74,Tryz.ntmps74;go_wp2_with fail
  refine HW.out.mono ?_;rintro e w1 ⟨rfl,rfl⟩;go_wp2_with fail
  go_ret;exact ⟨rfl,rfl⟩
end
theorem IP (tb:Nat) (t:Int) (nd:Nd) (iv:Value):∀ j,j<9->(Ap tb t nd iv)[2+j]?=(bD nd).toList[j]?
 | 0,_ | 1,_ | 2,_ | 3,_ | 4,_ | 5,_ | 6,_ | 7,_ | 8,_=>rfl
 | n+9,h=>absurd h Ha
def FX (C:BN) (P:List Wr) (nd:Nd) (ix:List Int):List Wr × Nd:=if ix.any FT then (pT C P nd.x (BG ix),nd) else (P,{ nd with x := -1 })
section
variable {C:TC} {G:Nat->Obj->Prop} {W0 W:World} {o0:Option Nat} {pv:Value} {P:List Wr} {T:List Bool} {ob ib cap:Nat} {t:Int} {nd:Nd} {ix:List Int}
theorem FS.rgN (h:FS C G W0 o0 W pv P T ob t nd ib cap ix):W.rangeAt ob 2 (bD nd).toList:=fun j v hj=>by
 rw [af h.hd,IP _ _ _ _ j (List.getElem?_eq_some_iff.1 hj).1];exact hj
theorem FY (h:mw nd):(jE 1 nd).Wk:=by
 have:=Ae (k:=1) (n:=nd) Ha h.t;exact ⟨by have:=this.k;constructor <;> omega,this.len,this.b⟩
theorem F3 (l:List Int):(BG l).Wk:=⟨by have:=(uC l).k;constructor <;> omega,(uC l).len,(uC l).b⟩
theorem tE (h:FS C G W0 o0 W pv P T ob t nd ib cap ix) (hfew:P.length<200):Calls Tryz.prog 76 #[.pointer (some ⟨ob,0,none⟩)] W fun e w'=>e=.returned (.tuple #[])/\∃ pv',FS C G W0 o0 w' pv' (pT C.bn P t (jE 1 nd)) T ob t nd ib cap ix:=by
 have HN:=He (wo 1 nd W h.ok);have HW:=He (FY h.ok);change Hid (Calls Tryz.prog _ _ W fun e w'=>e=.returned (.tuple #[.agg (ab (jE 1 nd).k (jE 1 nd).bs),_])/\_) at HN;generalize jE 1 nd=x at *;generalize decide (aS 1 nd)=mb at *;have HS:=He h;clear h;go_enter Tryz.func76,Tryz.ntmps76;go_wp2_with (first | (refine wpList_load_mid rfl 137 (.tmp 7) rfl ob 2 rfl (bD nd).toList _ HS.out.rgN Tryz.underlying137 rfl sX ?_))
 refine HN.out.mono ?_;rintro e w1 ⟨rfl,hb⟩;have h2:=heap_alloc_new w1 (.cells (ab 0 ay) 37);have hb2:Below W.heap.size W ((w1.alloc (.cells (ab 0 ay) 37)).setRow w1.heap.size (ab x.k x.bs)):=hb.trans ((below_setRow (aK (w:=w1) (.cells (ab 0 ay) 37)) (Nat.le_refl _) (ab x.k x.bs)).mono hb.size);have HX:=He (am (D:=ab x.k x.bs) h2);have HF:=He (HS.out.below hb2);clear hb HN hb2;go_upto_region 1 with (first | (refine aq rfl rfl ?_) | (refine ap rfl (.tmp 2) (.tmp 10) rfl w1.heap.size rfl x.k 0 x.bs ay rfl HW.out.len al h2 ?_))
 clear h2;generalize (w1.alloc (.cells (ab 0 ay) 37)).setRow w1.heap.size (ab x.k x.bs)=w2 at *;generalize w1.heap.size=p2 at *;have c0:∀ W,Below w2.heap.size w2 W->W.cell? ⟨ob,0,none⟩=some (.pointer (some ⟨C.tb,0,none⟩)):=fun W hb=>(HF.out.below hb).c 0;have c1:∀ W,Below w2.heap.size w2 W->W.cell? ⟨ob,1,none⟩=some (.int .i64 t):=fun W hb=>(HF.out.below hb).c 1;have srefl:∀ W:World,W.grownBy W none:=fun W=>World.grownBy.refl _ _;refine cU (fun _ W=>Below w2.heap.size w2 W) (fun _ w w'=>w.grownBy w' none) (Below.refl _ _).drew ?_;refine xr ?_;refine XK.v (.agg (ab x.k x.bs)) (fun T w L hag hJ hd=>?_) ?_
 ·have e2:=hag 2 Hb;exact wp_load_mid 37 (.tmp 2) rfl p2 0 e2 (blkL x.k x.bs) _ (rangeB (Go.Proofs.YtegjelaejbacnaaGreat.kb hJ HX.out)) Tryz.underlying37 rfl (bQ HW.out.len) ⟨_,rfl,rfl,rfl⟩
 refine XK.last ?_;intro W' L h1 h2 hJ;simp only [lL,forall_eq,List.setIfInBounds_toArray,List.set_cons_succ,List.set_cons_zero];have HP:=He ((HF.out.below hJ).put t HF.out.ti x HW.out hfew);clear c0 c1 srefl;go_wp2_with fail
 refine HP.out.mono ?_;rintro e w3 ⟨rfl,pv',hs⟩;have HZ:=He hs;clear hs;go_wp2_with fail
 go_end0
 exact ⟨rfl,pv',HZ.out⟩
theorem tF (h:FS C G W0 o0 W pv P T ob t nd ib cap ix) (h0:C.w0.heap.size<=W0.heap.size) (hfew:P.length<200):Calls Tryz.prog 75 #[.pointer (some ⟨ob,0,none⟩)] W fun e w'=>e=.returned (.tuple #[])/\∃ pv',FS C G W0 o0 w' pv' (FX C.bn P nd ix).1 T ob t (FX C.bn P nd ix).2 ib cap ix:=by
 have HC:=He (FW (some ⟨ib,0,none⟩) ix 16 cap W h.il h.nts Ha);have HS:=He h;have c11:W.cell? ⟨ob,11,none⟩=some (.slice (some ⟨ib,0,none⟩) 16 cap):=h.c 11;have c9:W.cell? ⟨ob,9,none⟩=some (.int .i64 nd.x):=h.c 9;have f9:=h.f 9;unfold FX;cases hr:ix.any FT with
 | false =>
   rw [hr] at HC;have HZ:=He (h.set h0 9 (.int .i64 (-1)) { nd with x := -1 } { h.ok with x:=(show i64 (-1) from ⟨Hd,Hd⟩) } (fun iv=>rfl));simp only [Bool.false_eq_true,if_false];generalize ({ nd with x := -1 }:Nd)=nd2 at *;clear h hr;go_enter Tryz.func75,Tryz.ntmps75;go_wp2_with fail
   refine HC.out.mono ?_;rintro e w1 ⟨rfl,rfl⟩;go_wp2_with fail
   refine bodyPost_ret (results_none rfl _ _ _) rfl ?_;exact ⟨rfl,pv,HZ.out⟩
 | true =>
   rw [hr] at HC;simp only [if_true];have HI:=He (tg (some ⟨ib,0,none⟩) ix 16 cap W h.il h.nts);have HW:=He (F3 ix);change Hid (Calls Tryz.prog _ _ W fun e w'=>e=.returned (.tuple #[.agg (ab (BG ix).k (BG ix).bs),_])/\_) at HI;generalize BG ix=x at *;generalize gJ ix=mb at *;clear h hr;go_enter Tryz.func75,Tryz.ntmps75;go_wp2_with fail
   refine HC.out.mono ?_;rintro e w0 ⟨rfl,rfl⟩;go_wp2_with fail
   refine HI.out.mono ?_;rintro e w1 ⟨rfl,hb⟩;have h2:=heap_alloc_new w1 (.cells (ab 0 ay) 37);have hb2:Below W.heap.size W ((w1.alloc (.cells (ab 0 ay) 37)).setRow w1.heap.size (ab x.k x.bs)):=hb.trans ((below_setRow (aK (w:=w1) (.cells (ab 0 ay) 37)) (Nat.le_refl _) (ab x.k x.bs)).mono hb.size);have HX:=He (am (D:=ab x.k x.bs) h2);have HF:=He (HS.out.below hb2);clear hb hb2 c11 c9 f9;go_upto_region 3 with (first | (refine aq rfl rfl ?_) | (refine ap rfl (.tmp 2) (.tmp 20) rfl w1.heap.size rfl x.k 0 x.bs ay rfl HW.out.len al h2 ?_))
   clear h2;generalize (w1.alloc (.cells (ab 0 ay) 37)).setRow w1.heap.size (ab x.k x.bs)=w2 at *;generalize w1.heap.size=p2 at *;have c0:∀ W,Below w2.heap.size w2 W->W.cell? ⟨ob,0,none⟩=some (.pointer (some ⟨C.tb,0,none⟩)):=fun W hb=>(HF.out.below hb).c 0;have c9:∀ W,Below w2.heap.size w2 W->W.cell? ⟨ob,9,none⟩=some (.int .i64 nd.x):=fun W hb=>(HF.out.below hb).c 9;have srefl:∀ W:World,W.grownBy W none:=fun W=>World.grownBy.refl _ _;refine cU (fun _ W=>Below w2.heap.size w2 W) (fun _ w w'=>w.grownBy w' none) (Below.refl _ _).drew ?_;refine xr ?_;refine XK.v (.agg (ab x.k x.bs)) (fun T w L hag hJ hd=>?_) ?_
   ·have e2:=hag 2 Hb;exact wp_load_mid 37 (.tmp 2) rfl p2 0 e2 (blkL x.k x.bs) _ (rangeB (Go.Proofs.YtegjelaejbacnaaGreat.kb hJ HX.out)) Tryz.underlying37 rfl (bQ HW.out.len) ⟨_,rfl,rfl,rfl⟩
   refine XK.last ?_;intro W' L h1 h2 hJ;simp only [lL,forall_eq,List.setIfInBounds_toArray,List.set_cons_succ,List.set_cons_zero];have HP:=He ((HF.out.below hJ).put nd.x HF.out.ok.x x HW.out hfew);clear c0 c9 srefl;go_wp2_with fail
   refine HP.out.mono ?_;rintro e w3 ⟨rfl,pv',hs⟩;have HZ:=He hs;clear hs;go_wp2_with fail
   go_end0
   exact ⟨rfl,pv',HZ.out⟩
end
theorem Cc (k:Int) (bs:List Int) (h:bs.length=56) (f:Nat) (zs:List Int) (hf:f+zs.length<=56):((ab k bs).toList.take (1+f)++Bs zs++(ab k bs).toList.drop (1+f+(Bs zs).length)).toArray=ab k (wO bs zs f):=by
 rw [bp,ar];unfold ab blkL wO
 congr 1
 rw [show 1+f=f+1 by omega,List.take_succ_cons,show f+1+zs.length=(f+zs.length)+1 by omega,List.drop_succ_cons];unfold Bs;simp only [List.map_append,List.map_take,List.map_drop,List.cons_append,List.append_assoc]
theorem uP {ops:Array Oper} {rest:List Oper} {o:Oper} {a:Act} {w:World} {Q:Exit->Act->World->Prop} (hgd:o.guard=none) (s x:Operand) (ho:o.op=.call { callee:=.builtin .copy,args:=#[s,x],argTypes:=#[22,22] })
 (g:Nat) (k:Int) (bs zs:List Int) (f r dc:Nat) (ad:Addr) (m c:Nat) (hs:a.eval s=.slice (some ⟨g,1+f,none⟩) r dc) (hx:a.eval x=.slice (some ad) m c) (h56:bs.length=56) (hm:zs.length=m) (hf:f+r<=56) (hy:dD w (some ad) zs) (hg:w.heap[g]?=some (.cells (ab k bs) 37 (0,0)))
 (h:wpList Tryz.prog ops Q rest (a.put o.dst (goInt ((min m r:Nat):Int))) (w.setRow g (ab k (wO bs (zs.take r) f)))):wpList Tryz.prog ops Q (o :: rest) a w :=
 wpList_plain hgd fun _ hK=>by
  obtain ⟨i0,hi,hz0,hz1,hz2⟩:=info_parts iT;have hl:(zs.take r).length=min m r:=by rw [List.length_take,hm,Nat.min_comm]
  have hr:=run_copy_row Tryz.prog w 22 22 o.type 5 g (1+f) r dc ad m c (ab k bs) 37 (Bs (zs.take r)) Tryz.underlying22 (by rw [hi];simp [hz1]) hg (by rw [ar,hl])
   (fun j v hj=>by
     unfold Bs at hj;rw [List.getElem?_map] at hj;obtain ⟨x,hx,rfl⟩:=Option.map_eq_some_iff.1 hj;rw [List.getElem?_take] at hx;split at hx
     ·obtain ⟨a',e,hc⟩:=hy j x hx;injection e with e;subst e;exact hc
     ·cases hx) (by rw [ar,aN h56,hl];omega) (gQ _)
  rw [Cc k bs h56 f _ (by rw [hl];omega),ar,hl] at hr;unfold Oper.wp execOp;simp only [ho,resolve,invoke,builtin,Sem.run_bind,Sem.run_pure,Result.andThen_ok,List.map_toArray,List.map_cons,List.map_nil,hs,hx,hr];exact hK _ _ h
theorem lZ {ops:Array Oper} {rest:List Oper} {o:Oper} {a:Act} {w:World} {Q:Exit->Act->World->Prop} (hgd:o.guard=none) (s x y:Operand) (ho:o.op=.slice 35 s (some x) (some y) none) (g f t:Nat) (hs:a.eval s=.pointer (some ⟨g,1,none⟩)) (hx:a.eval x=.int .i64 f) (hy:a.eval y=.int .i64 t) (h1:f<=t) (h2:t<=56) (h3:f<56)
 (h:wpList Tryz.prog ops Q rest (a.put o.dst (.slice (some ⟨g,1+f,none⟩) (t-f) (56-f))) w):wpList Tryz.prog ops Q (o :: rest) a w :=
 wpList_plain hgd fun _ hK=>by
  have hr:=wP g f t h1 h2 h3 w;unfold Oper.wp execOp;simp only [ho,hs,hx,hy,Option.map_some,Option.map_none,Sem.run_bind,hr,Result.andThen_ok];exact hK _ _ h
def Cd (x:Bk) (f t:Nat) (d:List Int):Bk:=⟨x.k,wO x.bs (d.take (t-f)) f⟩
section
variable {C:TC} {G:Nat->Obj->Prop} {W0 W:World} {o0:Option Nat} {pv:Value} {P:List Wr} {T:List Bool} {ob ib cap:Nat} {t:Int} {nd:Nd} {ix:List Int}
def uQ (nd:Nd) (ix:List Int) (k:Nat):Int:=if k<4 then nd.dir.getD k 0 else ix.getD (k-4) 0
def nL (nd:Nd) (ix:List Int) (k:Nat) (a:Int):Nd × List Int:=if k<4 then (nd.setDir k a,ix) else (nd,ix.set (k-4) a)
theorem FS.cP (h:FS C G W0 o0 W pv P T ob t nd ib cap ix) (k:Nat) (hk:k<20):W.cell? (Ct ob ib k)=some (.int .i64 (uQ nd ix k))/\W.frozen? (Ct ob ib k)=false/\i64 (uQ nd ix k):=by
 unfold Ct uQ;by_cases h4:k<4
 ·rw [if_pos h4,if_pos h4];refine ⟨?_,h.f _,?_⟩
  ·rw [h.c];match k,h4 with | 0,_ | 1,_ | 2,_ | 3,_=>rfl
  ·match k,h4 with | 0,_=>exact h.ok.a | 1,_=>exact h.ok.b | 2,_=>exact h.ok.c | 3,_=>exact h.ok.d
 ·rw [if_neg h4,if_neg h4];have hl:k-4<ix.length:=by rw [h.il];omega
  have hx:ix[k-4]?=some (ix.getD (k-4) 0):=by rw [List.getD,List.getElem?_eq_getElem hl];rfl
  exact ⟨h.ci hx,h.fri _,h.ii _ (List.mem_of_getElem? hx)⟩
theorem FS.setP (h:FS C G W0 o0 W pv P T ob t nd ib cap ix) (h0:C.w0.heap.size<=W0.heap.size) (k:Nat) (hk:k<20) (x:Int) (hx:i64 x):FS C G W0 o0 (W.setCell (Ct ob ib k) (.int .i64 x)) pv P T ob t (nL nd ix k x).1 ib cap (nL nd ix k x).2:=by
 unfold Ct nL;by_cases h4:k<4
 ·rw [if_pos h4,if_pos h4];refine h.set h0 (5+k) _ _ ?_ (fun iv=>?_)
  ·match k,h4 with | 0,_=>exact { h.ok with a:=hx } | 1,_=>exact { h.ok with b:=hx } | 2,_=>exact { h.ok with c:=hx } | 3,_=>exact { h.ok with d:=hx }
  ·match k,h4 with | 0,_ | 1,_ | 2,_ | 3,_=>rfl
 ·rw [if_neg h4,if_neg h4];exact h.setI h0 (k-4) Ha x hx
theorem FS.new (h:FS C G W0 o0 W pv P T ob t nd ib cap ix) {j:Nat} {Z D:Array Value} (hj:W.heap[j]?=some (.cells Z 37 (0,0))) (hl:W0.heap.size<=j) (h0:C.w0.heap.size<=W0.heap.size) (hF:¬ C.F j) (hG:∀ o,¬ G j o):FS C G W0 o0 (W.setRow j D) pv P T ob t nd ib cap ix:=by
 have hg:=cd W j D;obtain ⟨Z,hZ⟩:=h.rb;exact { h with k:=h.k.cell hg hj Hd Hd Hd Hd Hd hF (Nat.le_trans h0 hl),s:=h.s.own hg (.inl hl),hd:=bo hg h.hd (fun e=>by injection e with e;exact bu h.hd hj Hd e.symm),row:=fy h.row fun k e=>by injection e with e;subst e;exact hg.block _ (ai hZ) (fun e=>by injection e with e;exact bu hZ hj Hd e),gd:=fun k o hk=>let ⟨q1,q2⟩:=h.gd k o hk;⟨bo hg q1 (fun e=>by injection e with e;subst e;exact hG o hk),q2⟩ }
theorem xp (h:FS C G W0 o0 W pv P T ob t nd ib cap ix) (h0:C.w0.heap.size<=W0.heap.size) (hfew:P.length<200) (k f e:Nat) (hk:k<20) (hfe:f<e) (he:e<=56) (ad:Addr) (d:List Int) (m c:Nat) (hm:d.length=m) (hB:ax d) (hy:dD W (some ad) d):Calls Tryz.prog 73 #[.pointer (some ⟨ob,0,none⟩),.agg (i6 k f e),.slice (some ad) m c] W fun r w'=>r=.returned (.tuple #[])/\∃ pv',FS C G W0 o0 w' pv' (pT C.bn P (uQ nd ix k) (Cd (gB (C.N P) (uQ nd ix k)) f e d)) T ob t nd ib cap ix:=by
 have e4:=heap_alloc_new W (.cells (i6 k f e) 152);have hb1:=aK (w:=W) (.cells (i6 k f e) 152);have HF1:=He (h.below hb1);have HY:=He (hy.keep hb1);have HM:=He hm;obtain ⟨hc,hfz,hi⟩:=HF1.out.cP k hk;have HNM:=He (lG HF1.out k hk);have HNO:=He h.k.ks.wk;obtain ⟨a,ha⟩:∃ a,a=uQ nd ix k:=⟨_,rfl⟩
 rw [<- ha] at hc hi ⊢;have HA:=He ha;have HG:=He (HF1.out.k.get1 a hi);obtain ⟨x,hx⟩:∃ x,x=gB (C.N P) a:=⟨_,rfl⟩
 rw [<- hx] at HG ⊢;have HW:Hid (x.bs.length=56/\ax x.bs/\i64 x.k):=by
  rw [hx];unfold gB;split
  ·unfold iD;rw [List.getD];cases hq:(C.N P)[a.toNat]? with
   | none=>exact ⟨al,dN,Hd⟩
   | some y=>exact (fun h=>⟨h.2.1,h.2.2,h.1⟩) (HNO.out y (List.mem_of_getElem? hq))
  ·exact ⟨al,dN,Hd⟩
 have HI:=He hi;clear ha hx hi;have HB':=He hB;clear h hb1 hy hm;go_enter Tryz.func73,Tryz.ntmps73;go_upto_region 1 with fail
 generalize W.alloc (.cells (i6 k f e) 152)=W1 at *;generalize W.heap.size=p4 at *;have c0:W1.cell? ⟨ob,0,none⟩=some (.pointer (some ⟨C.tb,0,none⟩)):=HF1.out.c 0;have c40:W1.cell? ⟨p4,0,none⟩=some (.int .i64 k):=(af e4 0).trans rfl;go_wp2_with fail
 refine HNM.out.mono ?_;rintro r w2 ⟨rfl,rfl⟩;generalize Ct ob ib k=na at *;go_wp2_with fail
 refine HG.out.mono ?_;rintro r w2 ⟨rfl,hb⟩;have h7:=heap_alloc_new w2 (.cells (ab 0 ay) 37);have hb3:Below W1.heap.size W1 ((w2.alloc (.cells (ab 0 ay) 37)).setRow w2.heap.size (ab x.k x.bs)):=hb.trans ((below_setRow (aK (w:=w2) (.cells (ab 0 ay) 37)) (Nat.le_refl _) (ab x.k x.bs)).mono hb.size);have HX:=He (am (D:=ab x.k x.bs) h7);have HF3:=He (HF1.out.below hb3);have HY3:=He (HY.out.keep hb3);have e43:=Go.Proofs.YtegjelaejbacnaaGreat.kb hb3 e4;have HLE:Hid (W1.heap.size<=w2.heap.size):=hb.size;have HSZ:Hid (W0.heap.size<=W1.heap.size):=HF1.out.s.sz;have HGJ:Hid (∀ o,¬ G w2.heap.size o):=fun o hk=>by have:=ai (HF1.out.gd _ o hk).1;have:=hb.size;omega
 have HNF:Hid (¬ C.F w2.heap.size):=(HF1.out.below hb).k.tv.new (Nat.le_refl _);have HB3:=He hb3;clear hb hb3 hc hfz c40 c0 e4 HG HNM HF1;go_upto_region 3 with (first | (refine aq rfl rfl ?_) | (refine ap rfl (.tmp 7) (.tmp 22) rfl w2.heap.size rfl x.k 0 x.bs ay rfl HW.out.1 al h7 ?_))
 clear h7;generalize (w2.alloc (.cells (ab 0 ay) 37)).setRow w2.heap.size (ab x.k x.bs)=w3 at *;generalize w2.heap.size=p7 at *;have c41:w3.cell? ⟨p4,1,none⟩=some (.int .i64 f):=(af e43 1).trans rfl;have c42:w3.cell? ⟨p4,2,none⟩=some (.int .i64 e):=(af e43 2).trans rfl;go_upto_region 4 with (first
  | (refine lZ rfl (.tmp 24) (.tmp 26) (.tmp 28) rfl p7 f e rfl rfl rfl Ha he Ha ?_)
  | (refine uP rfl (.tmp 29) (.tmp 30) rfl p7 x.k x.bs d f (e-f) (56-f) ad m c rfl rfl HW.out.1 HM.out Ha HY3.out HX.out ?_))
 have hdl:(d.take (e-f)).length<=e-f:=by rw [List.length_take];exact Nat.min_le_left _ _
 have HLW:Hid (Cd x f e d).Wk:=⟨HW.out.2.2,FH HW.out.1 Ha,by
  intro y hy;unfold Cd wO at hy;rcases List.mem_append.1 hy with hy | hy
  ·rcases List.mem_append.1 hy with hy | hy
   ·exact HW.out.2.1 y (List.mem_of_mem_take hy)
   ·exact HB'.out y (List.mem_of_mem_take hy)
  ·exact HW.out.2.1 y (List.mem_of_mem_drop hy)⟩
 obtain ⟨z,hz⟩:∃ z,z=Cd x f e d:=⟨_,rfl⟩
 rw [<- hz] at HLW;have HX5:=He (am (D:=ab z.k z.bs) HX.out);have HF4:=He (HF3.out.new HX.out (D:=ab z.k z.bs) (Nat.le_trans HSZ.out HLE.out) h0 HNF.out HGJ.out);rw [show ab x.k (wO x.bs (d.take (e-f)) f)=ab z.k z.bs by rw [hz];rfl];generalize w3.setRow p7 (ab z.k z.bs)=w4 at *;have HZ:=He hz;clear hz c41 c42 e43 HX hdl;have c0:∀ W,Below w4.heap.size w4 W->W.cell? ⟨ob,0,none⟩=some (.pointer (some ⟨C.tb,0,none⟩)):=fun W hb=>(HF4.out.below hb).c 0;have srefl:∀ W:World,W.grownBy W none:=fun W=>World.grownBy.refl _ _;refine cU (fun _ W=>Below w4.heap.size w4 W) (fun _ w w'=>w.grownBy w' none) (Below.refl _ _).drew ?_;refine xr ?_;refine XK.v (.agg (ab z.k z.bs)) (fun T w L hag hJ hd=>?_) ?_
 ·have e7:=hag 7 Hb;exact wp_load_mid 37 (.tmp 7) rfl p7 0 e7 (blkL z.k z.bs) _ (rangeB (Go.Proofs.YtegjelaejbacnaaGreat.kb hJ HX5.out)) Tryz.underlying37 rfl (bQ HLW.out.len) ⟨_,rfl,rfl,rfl⟩
 refine XK.last ?_;intro W' L h1 h2 hJ;simp only [lL,forall_eq,List.setIfInBounds_toArray,List.set_cons_succ,List.set_cons_zero];have HP:=He ((HF4.out.below hJ).put a HI.out z HLW.out hfew);clear c0 srefl;go_wp2_with fail
 refine HP.out.mono ?_;rintro r w5 ⟨rfl,pv',hs⟩;have HS:=He hs;clear hs;go_wp2_with fail
 go_end0
 exact ⟨rfl,pv',by rw [<- HZ.out];exact HS.out⟩
end
structure km where
 P:List Wr
 T:List Bool
 nd:Nd
 ix:List Int
def Ce (C:BN) (a:Int):Bool:=decide (0<=a/\a<C.n)
def own2 (C:BN) (k:Nat) (s:km):Bool × km :=
 if kT C s.P s.T<C.n then
  let q:=nL s.nd s.ix k (kT C s.P s.T:Nat)
  let P1:=pT C s.P (kT C s.P s.T:Nat) qU
  (true,if 4<=k then ⟨(FX C P1 q.1 q.2).1,gP (C.N s.P) s.T,(FX C P1 q.1 q.2).2,q.2⟩ else ⟨P1,gP (C.N s.P) s.T,q.1,q.2⟩)
 else (false,{ s with T:=gP (C.N s.P) s.T })
def own1 (C:BN) (k:Nat) (s:km):Bool × km :=
 if 4<=k/\Ce C s.nd.x=false then
  if kT C s.P s.T<C.n then own2 C k { s with T:=gP (C.N s.P) s.T,nd:={ s.nd with x:=(kT C s.P s.T:Nat) } }
  else (false,{ s with T:=gP (C.N s.P) s.T })
 else own2 C k s
def sa (C:BN) (k:Nat) (s:km):Bool × km:=if Ce C (uQ s.nd s.ix k)=true then (true,s) else own1 C k s
abbrev FZ (C:TC) (G:Nat->Obj->Prop) (W0:World) (o0:Option Nat) (W:World) (pv:Value) (ob:Nat) (t:Int) (ib cap:Nat) (s:km):Prop:=FS C G W0 o0 W pv s.P s.T ob t s.nd ib cap s.ix
section
variable {C:TC} {G:Nat->Obj->Prop} {W0 W:World} {o0:Option Nat} {pv:Value} {ob ib cap:Nat} {t:Int} {s:km}
theorem Eg:qU.Wk:=⟨by constructor <;> decide,wT.len,wT.b⟩
theorem rl (C:BN) (P:List Wr) (a:Int) (x:Bk):(pT C P a x).length<=P.length+1:=by
 unfold pT;have:=xc P ⟨a,x.k,x.bs⟩;split <;> omega
theorem F4 {nd:Nd} {ix:List Int} (h:ix.length=16) (k:Nat) (hk:k<20) (a:Int):uQ (nL nd ix k a).1 (nL nd ix k a).2 k=a:=by
 unfold uQ nL;by_cases h4:k<4
 ·rw [if_pos h4,if_pos h4]
  match k,h4 with | 0,_ | 1,_ | 2,_ | 3,_=>rfl
 ·rw [if_neg h4,if_neg h4];dsimp only;rw [List.getD,List.getElem?_set_self Ha];rfl
theorem Eh (h:FZ C G W0 o0 W pv ob t ib cap s) (h0:C.w0.heap.size<=W0.heap.size) (k:Nat) (hk:k<20) (h1:0<C.n) (h200:C.n<=200) (hfew:s.P.length<190):Calls Tryz.prog 78 #[.pointer (some ⟨ob,0,none⟩),.int .i64 (k:Int)] W fun e w'=>e=.returned (.bool (sa C.bn k s).1)/\∃ pv',FZ C G W0 o0 w' pv' ob t ib cap (sa C.bn k s).2:=by
 have HS:=He h;have HNM:=He (lG h k hk);obtain ⟨hc,hfz,hi⟩:=h.cP k hk;have HH:=He (xo h _ hi);obtain ⟨R,hR⟩:∃ R,R=sa C.bn k s:=⟨_,rfl⟩
 rw [<- hR];unfold sa at hR;obtain ⟨na,hna⟩:∃ na,na=Ct ob ib k:=⟨_,rfl⟩
 rw [<- hna] at HNM hc hfz;have HNA:=He hna;change Hid (Calls Tryz.prog _ _ _ fun e w'=>e=.returned (.bool (Ce C.bn (uQ s.nd s.ix k)))/\_) at HH;cases hq:Ce C.bn (uQ s.nd s.ix k) with
 | true =>
   rw [hq] at HH;rw [hq,if_pos rfl] at hR;have HR:=He hR;clear h hR hna hq;go_enter Tryz.func78,Tryz.ntmps78;go_wp2_with fail
   refine HNM.out.mono ?_;rintro e w1 ⟨rfl,rfl⟩;go_wp2_with fail
   refine HH.out.mono ?_;rintro e w1 ⟨rfl,hb⟩;have HF:=He (HS.out.below hb);clear hb hc hfz;go_wp2_with fail
   go_ret;exact ⟨by rw [HR.out];rfl,pv,by rw [HR.out];exact HF.out⟩
 | false =>
   rw [hq] at HH;rw [hq,if_neg Hd] at hR;have HR:=He hR;clear h hR hna hq;go_enter Tryz.func78,Tryz.ntmps78;go_wp2_with fail
   refine HNM.out.mono ?_;rintro e w1 ⟨rfl,rfl⟩;obtain ⟨b4,hb4⟩:∃ b4,b4=decide (4<=k):=⟨_,rfl⟩
   have hb4i:decide ((4:Int)<=k)=b4:=by rw [hb4];exact decide_eq_decide.2 Ha
   have HB4:=He hb4;clear hb4;go_upto_region 3 with (rw [hb4i])
   go_wp2_with fail
   refine HH.out.mono ?_;rintro e w1 ⟨rfl,hb⟩;have HF:=He (HS.out.below hb);clear hb hc hfz HS HH;go_upto_region 5 with fail
   go_cut [36] (fun v wx=>∃ (bad:Bool) (T1:List Bool) (n1:Nd),v=.bool bad/\Hid (FZ C G W0 o0 wx pv ob t ib cap { s with T:=T1,nd:=n1 })/\Hid (own1 C.bn k s=if bad=true then (false,{ s with T:=T1,nd:=n1 }) else own2 C.bn k { s with T:=T1,nd:=n1 }))
   case first =>
    cases b4 with
    | false =>
      have hk4:¬ 4<=k:=fun h=>by have:=HB4.out;rw [decide_eq_true h] at this;cases this
      have HO:Hid (own1 C.bn k s=own2 C.bn k s):=by unfold Hid own1;rw [if_neg (fun h=>hk4 h.1)]
      clear hk4;go_wp2_with fail
      go_meet
      case rel=>exact ⟨false,s.T,s.nd,rfl,HF.out,by rw [HO.out];rfl⟩
    | true =>
      have hk4:4<=k:=of_decide_eq_true HB4.out.symm;have c9:w1.cell? ⟨ob,9,none⟩=some (.int .i64 s.nd.x):=HF.out.c 9;have HHX:=He (xo HF.out s.nd.x HF.out.ok.x);change Hid (Calls Tryz.prog _ _ _ fun e w'=>e=.returned (.bool (Ce C.bn s.nd.x))/\_) at HHX;cases hx:Ce C.bn s.nd.x with
      | true =>
        have HO:Hid (own1 C.bn k s=own2 C.bn k s):=by unfold Hid own1;rw [if_neg (fun h=>by rw [hx] at h;cases h.2)]
        rw [hx] at HHX;clear hk4 hx;go_wp2_with fail
        refine HHX.out.mono ?_;rintro e w2 ⟨rfl,hb⟩;have HF2:=He (HF.out.below hb);clear hb c9;go_wp2_with fail
        go_meet
        case rel=>exact ⟨false,s.T,s.nd,rfl,HF2.out,by rw [HO.out];rfl⟩
      | false =>
        have HO:Hid (own1 C.bn k s=if kT C.bn s.P s.T<C.n then own2 C.bn k { s with T:=gP (C.N s.P) s.T,nd:={ s.nd with x:=(kT C.bn s.P s.T:Nat) } } else (false,{ s with T:=gP (C.N s.P) s.T })):=by unfold Hid own1;rw [if_pos ⟨hk4,hx⟩]
        rw [hx] at HHX;clear hk4 hx;go_wp2_with fail
        refine HHX.out.mono ?_;rintro e w2 ⟨rfl,hb⟩;have HF2:=He (HF.out.below hb);have HTK:=He (tD HF2.out h1 h200 ⟨ob,9,none⟩ (fun W' hs=>⟨⟨_,hs.c 9⟩,hs.f 9⟩));clear hb c9 HF;generalize gP (C.N s.P) s.T=T1 at *;generalize kT C.bn s.P s.T=f at *;by_cases hlt:f<C.n
        ·rw [if_pos hlt] at HO;simp only [if_pos hlt,decide_eq_true hlt] at HTK;have HLT:=He hlt;clear hlt;go_wp2_with fail
         refine HTK.out.mono ?_;rintro e w3 ⟨rfl,w4,hs,rfl⟩;have HF4:=He (hs.set h0 9 (.int .i64 (f:Int)) { s.nd with x:=(f:Int) } { hs.ok with x:=(show i64 (f:Int) by constructor <;> (have:=HLT.out;omega)) } (fun iv=>rfl));clear hs;generalize w4.setCell ⟨ob,9,none⟩ (.int .i64 (f:Int))=w5 at *;go_wp2_with fail
         go_meet
         case rel=>exact ⟨false,T1,{ s.nd with x:=(f:Int) },rfl,HF4.out,by rw [HO.out];rfl⟩
        ·rw [if_neg hlt] at HO;simp only [if_neg hlt,decide_eq_false hlt] at HTK;clear hlt;go_wp2_with fail
         refine HTK.out.mono ?_;rintro e w3 ⟨rfl,w4,hs,rfl⟩;have HF4:=He hs;clear hs;go_wp2_with fail
         go_meet
         case rel=>exact ⟨true,T1,s.nd,rfl,HF4.out,by rw [HO.out];rfl⟩
   case rest =>
    obtain ⟨bad,T1,n1,rfl,HF5,HO⟩:=hcut;obtain ⟨w6,rfl⟩:∃ w6,w6=wc:=⟨wc,rfl⟩
    clear HF;cases bad with
    | true =>
      rw [if_pos rfl] at HO;go_wp2_with fail
      go_ret;exact ⟨by rw [HR.out,HO.out];rfl,pv,by rw [HR.out,HO.out];exact HF5.out⟩
    | false =>
      rw [if_neg Hd] at HO;have HTK:=He (tD HF5.out h1 h200 na (fun W' hs=>by
       have:=hs.cP k hk;rw [<- HNA.out] at this;exact ⟨⟨_,this.1⟩,this.2.1⟩))
      unfold own2 at HO;dsimp only at HO;obtain ⟨T2,hT2⟩:∃ T2,T2=gP (C.N s.P) T1:=⟨_,rfl⟩
      obtain ⟨f,hf⟩:∃ f,f=kT C.bn s.P T1:=⟨_,rfl⟩
      rw [<- hT2,<- hf] at HTK;rw [<- hT2,<- hf] at HO;clear hT2 hf;by_cases hlt:f<C.n
      case neg =>
       rw [if_neg hlt] at HO;simp only [if_neg hlt,decide_eq_false hlt] at HTK;clear hlt;go_wp2_with fail
       refine HTK.out.mono ?_;rintro e w7 ⟨rfl,w8,hs,rfl⟩;have HF8:=He hs;clear hs;go_wp2_with fail
       go_ret;exact ⟨by rw [HR.out,HO.out];rfl,pv,by rw [HR.out,HO.out];exact HF8.out⟩
      rw [if_pos hlt] at HO;simp only [if_pos hlt,decide_eq_true hlt] at HTK;have hfi:i64 (f:Int):=by constructor <;> omega
      have HFI:=He hfi;clear hlt;go_wp2_with fail
      refine HTK.out.mono ?_;rintro e w7 ⟨rfl,w8,hs,rfl⟩;have hs2:=hs.setP h0 k hk (f:Int) hfi;rw [<- HNA.out] at hs2;obtain ⟨q,hq⟩:∃ q,q=nL n1 s.ix k (f:Int):=⟨_,rfl⟩
      have hqn:uQ q.1 q.2 k=f:=by rw [hq];exact F4 hs.il k hk f
      rw [<- hq] at hs2 HO;have HF9:=He hs2;have HQN:=He hqn;clear hs hs2 hq hqn HTK HF5 hfi;generalize w8.setCell na (.int .i64 (f:Int))=w9 at *;go_upto_region 9 with fail
      have c0:∀ W,Below w9.heap.size w9 W->W.cell? ⟨ob,0,none⟩=some (.pointer (some ⟨C.tb,0,none⟩)):=fun W hb=>(HF9.out.below hb).c 0;have cn:∀ W,Below w9.heap.size w9 W->W.cell? na=some (.int .i64 f):=fun W hb=>by
       have:=((HF9.out.below hb).cP k hk).1;rw [HQN.out,<- HNA.out] at this;exact this
      have srefl:∀ W:World,W.grownBy W none:=fun W=>World.grownBy.refl _ _;refine cU (fun _ W=>Below w9.heap.size w9 W) (fun _ w w'=>w.grownBy w' none) (Below.refl _ _).drew ?_;refine xr ?_;refine XK.last ?_;intro W' L g1 g2 hJ;simp only [lL,forall_eq,List.setIfInBounds_toArray,List.set_cons_succ,List.set_cons_zero];have HP:=He ((HF9.out.below hJ).put (f:Int) HFI.out qU Eg Ha);change Hid (Calls Tryz.prog _ #[_,_,.agg (ab 4 ay)] _ _) at HP;clear c0 cn srefl;go_wp2_with fail
      refine HP.out.mono ?_;rintro e w10 ⟨rfl,pv2,hs⟩;have HF10:=He hs;have hl:=rl C.bn s.P (f:Int) qU;generalize pT C.bn s.P (f:Int) qU=P1 at *;clear hs HP;cases b4 with
      | false =>
        rw [if_neg (fun h=>by have:=HB4.out;rw [decide_eq_true h] at this;cases this)] at HO;clear hl;go_wp2_with fail
        go_ret;exact ⟨by rw [HR.out,HO.out];rfl,pv2,by rw [HR.out,HO.out];exact HF10.out⟩
      | true =>
        rw [if_pos (of_decide_eq_true HB4.out.symm)] at HO;have HPI:=He (tF HF10.out h0 Ha);clear hl;go_wp2_with fail
        refine HPI.out.mono ?_;rintro e w11 ⟨rfl,pv3,hs⟩;have HF11:=He hs;clear hs HPI;go_wp2_with fail
        go_ret;exact ⟨by rw [HR.out,HO.out];rfl,pv3,by rw [HR.out,HO.out];exact HF11.out⟩
end
theorem Cf (w:World):Calls Tryz.prog 203 #[.int .u64 1,.int .u64 16] w fun e w'=>e=.returned (.tuple #[.int .u64 0,.int .u64 16])/\w=w':=by
 go_enter Tryz.func203,Tryz.ntmps203;go_wp2
 go_ret2
 exact ⟨rfl,rfl⟩
theorem F5 (w:World):Calls Tryz.prog 173 #[.int .u64 1,.int .u64 16] w fun e w'=>e=.returned (.tuple #[.int .u64 0,.int .u64 16])/\w=w':=by
 have H:=He (Cf w);go_enter Tryz.func173,Tryz.ntmps173;go_wp2_with fail
 refine H.out.mono ?_;rintro e w' ⟨rfl,rfl⟩;go_wp2_with fail
 go_ret2
 exact ⟨rfl,rfl⟩
def kU (n:Nat):List Int:=List.replicate n (-1)++List.replicate (16-n) 0
theorem Ei {n:Nat} (h:n<=16):(kU n).length=16:=by unfold kU;simp;omega
theorem tG (w:World) (ty:TypeId) (g n m:Nat) (dc sl sc:Nat) (ad:Addr) (hn:n+m<=16) (hm:m=min sl (16-n)) (hg:w.heap[g]?=some (.cells (Is (kU n)).toArray 3 (0,0))) (hs:∀ j,j<m->w.cell? (ad.add j)=some (.int .i64 (-1))) :
 (Builtin.copy_ #[33,33] ty #[.slice (some ⟨g,n,none⟩) (16-n) dc,.slice (some ad) sl sc]).run Tryz.prog w=.ok (goInt (m:Int)) (w.setRow g (Is (kU (n+m))).toArray):=by
 have hlen:=Ei (n:=n) Ha;have h:=run_copy_row Tryz.prog w 33 33 ty 3 g n (16-n) dc ad sl sc (Is (kU n)).toArray 3 (Is (List.replicate m (-1))) Tryz.underlying33 Gy hg (by rw [ce,List.length_replicate];exact hm)
  (fun j v hj=>by
    unfold Is at hj;rw [List.map_replicate,List.getElem?_replicate] at hj;split at hj
    ·rename_i hj2;injection hj with hj;subst hj;exact hs j hj2
    ·cases hj) (by rw [ce,List.length_replicate,List.size_toArray,ce,hlen];exact hn) (xH _)
 rw [h,ce,List.length_replicate]
 congr 3
 unfold Is kU;rw [List.map_append,List.take_append,List.drop_append];simp only [List.map_append,List.map_replicate,List.take_replicate,List.length_replicate,List.drop_replicate];rw [show min n n=n by omega,show n-n=0 by omega,show n-(n+m)=0 by omega,show n+m-n=m by omega];simp only [Nat.zero_min,List.replicate_zero,List.append_nil,List.nil_append];rw [<- List.replicate_append_replicate,show 16-n-m=16-(n+m) by omega]
theorem ro {ops:Array Oper} {rest:List Oper} {o:Oper} {a:Act} {w:World} {Q:Exit->Act->World->Prop} (hgd:o.guard=none) (x y:Operand) (ho:o.op=.makeSlice 33 x y) (hx:a.eval x=.int .i64 16) (hy:a.eval y=.int .i64 16)
 (h:wpList Tryz.prog ops Q rest (a.put o.dst (.slice (some ⟨w.heap.size,0,none⟩) 16 16)) (w.alloc (.cells (Is (kU 0)).toArray 3))):wpList Tryz.prog ops Q (o :: rest) a w:=by
 obtain ⟨i0,hi,hz0,hz1,hz2⟩:=info_parts zk;refine wpList_plain hgd fun _ hK=>ju ?_ (hK _ _ h);have hr:=run_make (P:=Tryz.prog) w 33 3 i0 _ Tryz.underlying33 hi hz0 .i64 .i64 16 16 Ha Ha (by rw [hz2];decide) Ha;rw [hz1,show (16:Int).toNat=16 from rfl,Nat.mul_one,DD] at hr;unfold execOp;simp only [ho,hx,hy,Sem.run_bind,hr,Result.andThen_ok,Sem.run_pure];rfl
def IQ (w0:World) (g n:Nat) (L7:Bool) (W:World):Prop:=if L7=true then W=w0.setRow g (Is (kU (n+n))).toArray else W=w0
theorem F6 (w:World) (a:Addr) (hc:w.cell? a=some (.int .i64 (-1))):Calls Tryz.prog 132 #[.slice (some a) 1 1,.int .i64 16] w fun e w'=>∃ g,e=.returned (.slice (some ⟨g,0,none⟩) 16 16)/\w'.ownsRow w.heap.size 3 1 (.slice (some ⟨g,0,none⟩) 16 16) 16 (Is (List.replicate 16 (-1)))/\Below w.heap.size w w':=by
 have HM:=He (F5 w);go_enter Tryz.func132,Tryz.ntmps132;go_wp2_with fail
 refine HM.out.mono ?_;rintro e w' ⟨rfl,rfl⟩;have h7:=heap_alloc_new w (.cells (Is (kU 0)).toArray 3);have hb:=aK (w:=w) (.cells (Is (kU 0)).toArray 3);go_upto_region 7 with (refine ro rfl (.tmp 29) (.tmp 29) rfl rfl rfl ?_)
 have hlt:w.heap.size<=w.heap.size:=Nat.le_refl _;have hc1:=cF hb hc;generalize w.alloc (.cells (Is (kU 0)).toArray 3)=w1 at *;obtain ⟨g,hg⟩:∃ g,g=w.heap.size:=⟨_,rfl⟩
 have hgl:w.heap.size<=g:=Ha;rw [<- hg] at h7 ⊢;have HGL:=He hgl;clear hg hlt hgl hc HM;have hcp:=tG w1 3 g 0 1 16 1 1 a Ha Ha h7 (fun j hj=>by
  obtain rfl:j=0:=Ha;rw [show a.add 0=a by unfold Addr.add;simp];exact hc1)
 have HB2:=He (below_setRow hb HGL.out (Is (kU (0+1))).toArray);have HX2:=He (am (D:=(Is (kU (0+1))).toArray) h7);clear h7 hb hc1;go_wp2_with (first | (refine fA rfl _ _ 33 33 rfl _ _ rfl rfl hcp ?_))
 clear hcp;generalize w1.setRow g (Is (kU (0+1))).toArray=w2 at *
 go_loopw [8] (fun i wr=>∃ n:Nat,(n=1\/n=2\/n=4\/n=8\/n=16)/\i=.int .i64 n/\Hid (wr.heap[g]?=some (.cells (Is (kU n)).toArray 3 (0,0)))/\Hid (Below w.heap.size w wr)) (fun i _=>16-(intOf i).toNat)
 case atStart=>exact ⟨1,.inl rfl,rfl,HX2,HB2⟩
 case round =>
  obtain ⟨n,hn,rfl,HX,HB⟩:=hrel;clear HX2 HB2;by_cases h16:n=16
  ·subst h16;go_wp2_with fail
   go_ret;exact ⟨g,rfl,⟨rfl,.inr ⟨g,16,_,rfl,HGL.out,HX.out,Hd,Hd,rfl,Hc⟩⟩,HB.out⟩
  have hn8:1<=n/\n<=8:=Ha;have hni:(n:Int)<16:=Ha;have k1:n<=16:=Ha;have k2:(n:Int)<=16:=Ha;have k3:¬ 16=n:=Ha;have k4:¬ 16<=n:=Ha;have HN:Hid (n=1\/n=2\/n=4\/n=8):=by unfold Hid;omega
  have kw:IntKind.i64.wrap ((n:Int)+n)=n+n:=by rw [IntKind.wrap_i64];omega
  clear hn h16;go_upto_region 9 with fail
  have hcp:=tG wr.drew 3 g n n (16-n) n 16 ⟨g,0,none⟩ Ha Ha HX.out (fun j hj=>by
   rw [fP];refine (af (W:=wr.drew) HX.out j).trans ?_;rw [List.getElem?_toArray];exact uX (by unfold kU;rw [List.getElem?_append_left (by simpa using hj),List.getElem?_replicate,if_pos hj]))
  have srefl:∀ W:World,True:=fun _=>trivial;refine cU (fun L W=>IQ wr.drew g n (L 7) W) (fun _ _ _=>True) rfl ?_;refine xr ?_;refine XK.op (fun v _=>v=.int .i64 n) (fun _ _ _ _ _ _ h _=>h) (fun T W L hag hi hJ hLs hd=>?_) ?_
  ·obtain ⟨d41,d44,_⟩:=hd;unfold IQ at hJ;rw [hi] at hJ;subst hJ;exact rf _ _ 33 33 rfl _ _ d41 d44 hcp ⟨_,rfl,rfl,rfl,trivial⟩
  refine xr ?_;refine XK.last ?_;intro W' L g1 g2 hJ;simp only [lL,forall_eq,List.setIfInBounds_toArray,List.set_cons_succ,List.set_cons_zero];unfold IQ at hJ;rw [g1 7 Ha,if_pos rfl] at hJ;have HX2:Hid (W'.heap[g]?=some (.cells (Is (kU (n+n))).toArray 3 (0,0))):=by rw [hJ];exact am (w:=wr.drew) HX.out
  have HB2:Hid (Below w.heap.size w W'):=by rw [hJ];exact below_setRow HB.out.drew HGL.out _
  clear hJ hcp;go_wp2_with fail
  go_roundw
  case rel=>exact ⟨n+n,by have:=HN.out;omega,by go_num,HX2,HB2⟩
  case measure=>simp [intOf];omega
end Go.Proofs.YtegjelaejbacnaaGreat
