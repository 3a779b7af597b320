/- For FileForms: contracts and facts, part 25. -/
import Derived.Test.YtegjelaejbacnaaGreatW24
set_option maxRecDepth 100000
set_option maxHeartbeats 25600000
set_option linter.unusedVariables false
open Go.ChangeShapes Go.WideShapes Go.ChangeAt Go.RowKit
namespace Go.Proofs.YtegjelaejbacnaaGreat
theorem IR (tb:Nat) (t:Int) (nd:Nd):Tryz.prog.built 157 [(0,.pointer (some ⟨tb,0,none⟩)),(1,.int .i64 t),(2,.agg (bD nd))]=some (Ap tb t nd (.slice none 0 0)):=Hc
theorem sd {ops:Array Oper} {rest:List Oper} {o:Oper} {a:Act} {w:World} {Q:Exit->Act->World->Prop} (hgd:o.guard=none) (x y z:Operand) (tb:Nat) (t:Int) (nd:Nd) (ho:o.op=.build 157 #[(0,x),(1,y),(2,z)]) (hx:a.eval x=.pointer (some ⟨tb,0,none⟩)) (hy:a.eval y=.int .i64 t) (hz:a.eval z=.agg (bD nd))
 (h:wpList Tryz.prog ops Q rest (a.put o.dst (.agg (Ap tb t nd (.slice none 0 0)))) w):wpList Tryz.prog ops Q (o :: rest) a w :=
 wpList_plain hgd fun _ hK=>ju (by
  unfold execOp;have hb:=run_build (P:=Tryz.prog) w 157 #[(0,.pointer (some ⟨tb,0,none⟩)),(1,.int .i64 t),(2,.agg (bD nd))] _ (IR tb t nd);simp only [ho,List.map_toArray,List.map_cons,List.map_nil,hx,hy,hz,Sem.run_bind,hb,Result.andThen_ok,Sem.run_pure]) (hK _ _ h)
def dk (x:Bk):Prop:=aX x.k x.bs/\x.k=1
def ixOf (y:Bk):List Int:=if rD y.k y.bs=true then tkL y.k y.bs else List.replicate 16 (-1)
theorem F7 (y:Bk):(ixOf y).length=16/\∀ p∈ixOf y,i64 p:=by
 unfold ixOf;split
 ·rename_i h;unfold tkL;rw [if_pos h];unfold rD at h;rw [Bool.and_eq_true] at h;exact ⟨dK _,fun p hp=>by have:=kL h.1 p hp;constructor <;> omega⟩
 ·exact ⟨Hb,fun p hp=>by rw [List.eq_of_mem_replicate hp];constructor <;> decide⟩
structure Cu (C:TC) (W0:World) (o0:Option Nat) (W:World) (pv:Value) (P:List Wr) (T:List Bool) (p6:Nat) (x:Bk):Prop where
 k:C.K W pv P T
 s:dj C W0 o0 W pv.ownBlock
 b6:W.heap[p6]?=some (.cells (ab x.k x.bs) 37 (0,0))
 l6:W0.heap.size<=p6
 f6:¬ C.F p6
section
variable {C:TC} {G:Nat->Obj->Prop} {W0 W W':World} {o0:Option Nat} {pv:Value} {P:List Wr} {T:List Bool} {p6 ob:Nat} {x y:Bk} {t:Int} {nd:Nd} {iv:Value}
theorem Cu.below (h:Cu C W0 o0 W pv P T p6 x) (hb:Below W.heap.size W W'):Cu C W0 o0 W' pv P T p6 x:=⟨h.k.below hb,h.s.below hb,kb hb h.b6,h.l6,h.f6⟩
theorem Cu.store (h:Cu C W0 o0 W pv P T p6 x) (h0:C.w0.heap.size<=W0.heap.size) (y:Bk):Cu C W0 o0 (W.setRow p6 (ab y.k y.bs)) pv P T p6 y :=
 ⟨h.k.cell (cd _ _ _) h.b6 Hd Hd Hd Hd Hd h.f6 (Nat.le_trans h0 h.l6),h.s.own (cd _ _ _) (.inl h.l6),am h.b6,h.l6,h.f6⟩
theorem KT.wkN (h:C.K W pv P T) (a:Int):(gB (C.N P) a).Wk:=by
 unfold gB iD;split
 ·rw [List.getD];cases hq:(C.N P)[a.toNat]? with
  | none=>exact ⟨Hd,al,dN⟩
  | some y=>exact (fun h=>⟨h.1,h.2.1,h.2.2⟩) (h.ks.wk y (List.mem_of_getElem? hq))
 ·exact ⟨Hd,al,dN⟩
theorem rp {w:World} {B e sz n:Nat} {v:Value} {xs:List Value} (h:w.ownsRow B e sz v n xs):∃ A cap,v=.slice A n cap:=by
 rcases h.2 with ⟨rfl,rfl⟩ | ⟨g,cap,cur,e,_⟩
 ·exact ⟨_,_,rfl⟩
 ·exact ⟨_,_,e⟩
theorem Ej {w:World} {B B' e sz n:Nat} {v:Value} {xs:List Value} (h:w.ownsRow B e sz v n xs) (hb:B'<=B):w.ownsRow B' e sz v n xs :=
 ⟨h.1,h.2.imp id fun ⟨g,cap,cur,h1,h2,h3⟩=>⟨g,cap,cur,h1,Nat.le_trans hb h2,h3⟩⟩
theorem Cu.done (h:Cu C W0 o0 W pv P T p6 x) (h0:C.w0.heap.size<=W0.heap.size) (hd:W.heap[ob]?=some (.cells (Ap C.tb t nd iv) 157 (0,0))) (hlo:W0.heap.size<=ob) (hfo:¬ C.F ob) (hok:mw nd) (ht:i64 t) {l:List Int} {v:Value} {B:Nat} (hv:W.ownsRow B 3 1 v 16 (Is l)) (hB:W0.heap.size<=B) (hnF:∀ k,B<=k->¬ C.F k) (hl:l.length=16) (hi:∀ p∈l,i64 p):∃ ib cap,FS C EA W0 o0 (W.setCell ⟨ob,11,none⟩ v) pv P T ob t nd ib cap l:=by
 have hg:=br W ob 11 v;obtain ⟨ib,cap,hve,hBi⟩:∃ ib cap,v=.slice (some ⟨ib,0,none⟩) 16 cap/\B<=ib:=by
  rcases hv.2 with ⟨_,e⟩ | ⟨g,cap,cur,e,hg,_⟩
  ·cases e
  ·exact ⟨g,cap,e,hg⟩
 subst hve;obtain ⟨Z,hZ⟩:=db hv rfl;exact ⟨ib,cap,h.k.cell hg hd Hd Hd Hd Hd Hd hfo (Nat.le_trans h0 hlo),h.s.own hg (.inl hlo),(ah hd _).trans rfl,Ej (fy hv fun k e=>by injection e with e;subst e;exact heap_setCell_other _ _ _ _ (bu hZ hd Hd)) hB,hlo,hfo,hnF _ hBi,hok,hl,hi,ht,fun _ _ h=>h.elim⟩
theorem Cu.cell (h:Cu C W0 o0 W pv P T p6 x) (h0:C.w0.heap.size<=W0.heap.size) (hd:W.heap[ob]?=some (.cells (Ap C.tb t nd iv) 157 (0,0))) (hlo:W0.heap.size<=ob) (hfo:¬ C.F ob) (u:Value):Cu C W0 o0 (W.setCell ⟨ob,11,none⟩ u) pv P T p6 x/\(W.setCell ⟨ob,11,none⟩ u).heap[ob]?=some (.cells (Ap C.tb t nd u) 157 (0,0)) :=
 ⟨⟨h.k.cell (br W ob 11 u) hd Hd Hd Hd Hd Hd hfo (Nat.le_trans h0 hlo),h.s.own (br W ob 11 u) (.inl hlo),bo (br W ob 11 u) h.b6 (fun e=>by injection e with e;exact bu h.b6 hd Hd e.symm),h.l6,h.f6⟩,(ah hd u).trans rfl⟩
theorem gX (h:C.K W pv P T) (h0:C.w0.heap.size<=W.heap.size) (t:Int) (ht:i64 t) (x:Bk) (hx:x=gB (C.N P) t) (nd:Nd) (hnd:nd=bj x.k x.bs) (ix:List Int) (hix:ix=ixOf (gB (C.N P) nd.x)):Calls Tryz.prog 71 #[.pointer (some ⟨C.tb,0,none⟩),.int .i64 t] W fun e w' =>
 (¬ dk x->e=.returned (.tuple #[.pointer none,.bool false])/\Below W.heap.size W w')/\(dk x->∃ ob ib cap,e=.returned (.tuple #[.pointer (some ⟨ob,0,none⟩),.bool true])/\FS C EA W pv.ownBlock w' pv P T ob t nd ib cap ix):=by
 have HG:=He (h.get1 t ht);rw [<- hx] at HG;have HW:=He (h.wkN t);rw [<- hx] at HW;have HK:=He h;have HX:=He hx;have HNF:=He (fun k (hk:W.heap.size<=k)=>h.tv.new hk);have HT:=He ht;have HND:Hid (mw nd):=by rw [hnd];exact wB HW.out.len HW.out.b
 have HNT:=He (fun w=>td x.k x.bs w HW.out.k HW.out.len HW.out.b);rw [<- hnd] at HNT;clear h hx ht hnd;go_enter Tryz.func71,Tryz.ntmps71;go_wp2_with fail
 refine HG.out.mono ?_;rintro e w1 ⟨rfl,hb⟩;have h6:=heap_alloc_new w1 (.cells (ab 0 ay) 37);have hb2:Below W.heap.size W ((w1.alloc (.cells (ab 0 ay) 37)).setRow w1.heap.size (ab x.k x.bs)):=hb.trans ((below_setRow (aK (w:=w1) (.cells (ab 0 ay) 37)) (Nat.le_refl _) (ab x.k x.bs)).mono hb.size);have HO:Hid (Cu C W pv.ownBlock ((w1.alloc (.cells (ab 0 ay) 37)).setRow w1.heap.size (ab x.k x.bs)) pv P T w1.heap.size x):=⟨HK.out.below hb2,(dj.refl _ _ _).below hb2,am h6,hb.size,HNF.out _ hb.size⟩
 have HB2:=He hb2;clear hb hb2 HG;go_upto_region 2 with (first | (refine aq rfl rfl ?_) | (refine ap rfl (.tmp 6) (.tmp 15) rfl w1.heap.size rfl x.k 0 x.bs ay rfl HW.out.len al h6 ?_))
 clear h6;generalize (w1.alloc (.cells (ab 0 ay) 37)).setRow w1.heap.size (ab x.k x.bs)=w2 at *;generalize w1.heap.size=p6 at *;go_wp2_with (first | (refine aQ rfl (.tmp 6) rfl p6 rfl x.k x.bs HW.out.len HO.out.b6 ?_))
 refine (HNT.out w2).mono ?_;rintro e w3 ⟨rfl,hb⟩;have h8:=aR.new w3 nd0;have hb4:Below w2.heap.size w2 ((w3.alloc (.cells (bD nd0) 137)).setRow w3.heap.size (bD nd)):=hb.trans ((below_setRow (aK (w:=w3) (.cells (bD nd0) 137)) (Nat.le_refl _) (bD nd)).mono hb.size);have HO4:=He (HO.out.below hb4);have HN4:=He (h8.set nd);have HB4:=He (HB2.out.trans (hb4.mono HB2.out.size));clear hb hb4 HO HB2;go_upto_region 3 with (first | (refine bA rfl rfl ?_) | (refine aL rfl (.tmp 8) (.tmp 20) rfl w3.heap.size rfl nd nd0 rfl h8 ?_))
 clear h8;generalize (w3.alloc (.cells (bD nd0) 137)).setRow w3.heap.size (bD nd)=w4 at *;generalize w3.heap.size=p8 at *;have c60:w4.cell? ⟨p6,0,none⟩=some (.int .i64 x.k):=(af HO4.out.b6 0).trans rfl;by_cases hN:aX x.k x.bs
 case neg =>
  have hf:¬ dk x:=fun h=>hN h.1;have HF:=He hf;rw [decide_eq_false hN];clear hf hN;go_wp2_with fail
  go_ret2
  exact ⟨fun _=>⟨rfl,HB4.out⟩,fun h=>absurd h HF.out⟩
 by_cases h1:x.k=1
 case neg =>
  have hf:¬ dk x:=fun h=>h1 h.2;have HF:=He hf;rw [decide_eq_true hN];clear hf hN;go_wp2_with fail
  go_ret2
  exact ⟨fun _=>⟨rfl,HB4.out⟩,fun h=>absurd h HF.out⟩
 have hf:dk x:=⟨hN,h1⟩
 have HF:=He hf;rw [decide_eq_true hN];clear hf hN;go_upto_region 5 with (rw [h1])
 clear c60 h1;have hob:=heap_alloc_new w4 (.cells (Ap C.tb t nd (.slice none 0 0)) 157);have hb5:=aK (w:=w4) (.cells (Ap C.tb t nd (.slice none 0 0)) 157);have HO5:=He (HO4.out.below hb5);have HN5:=He (HN4.out.below hb5);have HLO:Hid (W.heap.size<=w4.heap.size):=HB4.out.size;have HB5:=He (HB4.out.trans (hb5.mono HB4.out.size));have HOB:=He hob;clear hob hb5;go_upto_region 6 with (first
  | (refine aU rfl (.tmp 8) rfl p8 rfl nd HN4.out ?_)
  | (refine sd rfl (.tmp 29) (.tmp 30) (.tmp 31) C.tb t nd rfl rfl rfl rfl ?_))
 clear HO4 HN4 HB4;generalize w4.alloc (.cells (Ap C.tb t nd (.slice none 0 0)) 157)=w5 at *;generalize w4.heap.size=ob at *;have c87:w5.cell? ⟨p8,7,none⟩=some (.int .i64 nd.x):=(af HN5.out 7).trans rfl;obtain ⟨y,hy⟩:∃ y,y=gB (C.N P) nd.x:=⟨_,rfl⟩
 have HG:=He (HO5.out.k.get1 nd.x HND.out.x);have HY:=He (HO5.out.k.wkN nd.x);rw [<- hy] at HG HY;have HIX:Hid (ix=ixOf y):=by rw [hy];exact hix
 clear hy hix;go_wp2_with fail
 refine HG.out.mono ?_;rintro e w6 ⟨rfl,hb⟩;have HO6:=He (HO5.out.below hb);have HO7:=He (HO6.out.store h0 y);have HOB7:Hid ((w6.setRow p6 (ab y.k y.bs)).heap[ob]?=some (.cells (Ap C.tb t nd (.slice none 0 0)) 157 (0,0))):=bo (cd _ _ _) (Go.Proofs.YtegjelaejbacnaaGreat.kb hb HOB.out) (fun e=>by injection e with e;exact bu HO6.out.b6 (Go.Proofs.YtegjelaejbacnaaGreat.kb hb HOB.out) Hd e);clear hb HO5 HN5 c87 HG HOB;go_upto_region 7 with (first | (refine ap rfl (.tmp 6) (.tmp 39) rfl p6 rfl y.k x.k y.bs x.bs rfl HY.out.len HW.out.len HO6.out.b6 ?_))
 clear HO6;generalize w6.setRow p6 (ab y.k y.bs)=w7 at *;have HTX:=He (qK y.k y.bs w7 HY.out.len HY.out.b);go_wp2_with (first | (refine aQ rfl (.tmp 6) rfl p6 rfl y.k y.bs HY.out.len HO7.out.b6 ?_))
 have HNF7:=He (fun k (hk:w7.heap.size<=k)=>HO7.out.k.tv.new hk);have HSZ:=He HO7.out.s.sz;have HNO:Hid (¬ C.F ob):=HNF.out _ HLO.out;refine HTX.out.mono ?_;rintro e w8 ⟨v,rfl,hown,hb⟩;have HO8:=He (HO7.out.below hb);have hob8:=Go.Proofs.YtegjelaejbacnaaGreat.kb hb HOB7.out;obtain ⟨A8,cp8,hv8⟩:=rp hown;have HOB8:=He hob8;have c11:w8.cell? ⟨ob,11,none⟩=some (.slice none 0 0):=(af hob8 11).trans rfl;have f11:=az hob8 11;obtain ⟨lt,hlt⟩:∃ lt,lt=(tkL y.k y.bs).length:=⟨_,rfl⟩
 rw [<- hlt] at hv8;subst hv8;cases hq:rD y.k y.bs with
 | true =>
   have hixq:ix=tkL y.k y.bs:=by rw [HIX.out];unfold ixOf;rw [if_pos hq]
   have hik:=F7 y;rw [<- HIX.out] at hik;rw [<- hixq] at hown hlt;rw [hik.1] at hlt hown;subst hlt;obtain ⟨ib,cap,hfs⟩:=HO8.out.done h0 HOB8.out HLO.out HNO.out HND.out HT.out hown HSZ.out HNF7.out hik.1 hik.2;have HFS:=He hfs;clear hfs hown hik hixq hq hb hob8;go_wp2_with fail
   generalize w8.setCell ⟨ob,11,none⟩ (.slice A8 16 cp8)=w9 at *;go_wp2_with fail
   go_ret2
   exact ⟨fun h=>absurd HF.out h,fun _=>⟨ob,ib,cap,rfl,HFS.out⟩⟩
 | false =>
   have hixq:ix=List.replicate 16 (-1):=by rw [HIX.out];unfold ixOf;rw [if_neg (by rw [hq];decide)]
   have HI:=He hixq;have HO9:=He (HO8.out.cell h0 HOB8.out HLO.out HNO.out (.slice A8 lt cp8));have HLT:=He hlt;clear hown hixq hq hb hob8 hlt;go_upto_region 9 with fail
   clear c11 f11 HOB8 HO8;generalize w8.setCell ⟨ob,11,none⟩ (.slice A8 lt cp8)=w9 at *;have hbn:=aK (w:=w9) (.cells #[.int .i64 (-1)] 3);have HRP:=He (F6 (w9.alloc (.cells #[.int .i64 (-1)] 3)) ⟨w9.heap.size,0,none⟩ ((af (heap_alloc_new _ _) 0).trans rfl));have HOa:=He (HO9.out.1.below hbn);have HOBa:=He (Go.Proofs.YtegjelaejbacnaaGreat.kb hbn HO9.out.2);go_wp2_with fail
   refine HRP.out.mono ?_;rintro e wa ⟨gr,rfl,hown,hb⟩;have hOb:=HOa.out.below hb;have hOBb:=Go.Proofs.YtegjelaejbacnaaGreat.kb hb HOBa.out;have c11:wa.cell? ⟨ob,11,none⟩=some (.slice A8 lt cp8):=(af hOBb 11).trans rfl;have f11:=az hOBb 11;have hsz9:W.heap.size<=(w9.alloc (.cells #[.int .i64 (-1)] 3)).heap.size:=HOa.out.s.sz;have hnf9:∀ k,(w9.alloc (.cells #[.int .i64 (-1)] 3)).heap.size<=k->¬ C.F k:=fun k hk=>HOa.out.k.tv.new hk;obtain ⟨ib,cap,hfs⟩:=hOb.done h0 hOBb HLO.out HNO.out HND.out HT.out hown hsz9 hnf9 (l:=List.replicate 16 (-1)) Hb (fun p hp=>by rw [List.eq_of_mem_replicate hp];constructor <;> decide);rw [<- HI.out] at hfs;have HFS:=He hfs;clear hOb hOBb hown hb hsz9 hnf9 hfs;go_upto_region 10 with fail
   generalize wa.setCell ⟨ob,11,none⟩ (.slice (some ⟨gr,0,none⟩) 16 16)=wb at *;clear c11 f11;go_wp2_with fail
   go_ret2
   exact ⟨fun h=>absurd HF.out h,fun _=>⟨ob,ib,cap,rfl,HFS.out⟩⟩
end
def Fr (n k:Nat) (L:List Value) (a:Act):Prop:=∃ T,a=⟨T,[]⟩/\T.size=n+k/\T.toList.take n=L
theorem Fr.lit {n k:Nat} {L:List Value} {a:Act} (h:Fr n k L a):∃ u:Nat->Value,a=⟨(L++(List.range k).map u).toArray,[]⟩:=by
 obtain ⟨T,rfl,hs,hl⟩:=h;refine ⟨fun i=>T.getD (n+i) undef,?_⟩
 congr 1
 rw [<- hl];apply Array.ext';rw [List.toList_toArray];apply List.ext_getElem?;intro i;have hL:T.toList.length=n+k:=by simpa using hs
 rw [List.getElem?_append];split
 ·rename_i h;rw [List.length_take] at h;rw [List.getElem?_take,if_pos Ha]
 ·rename_i h;rw [List.length_take] at h ⊢;rw [show min n T.toList.length=n by omega] at h ⊢;by_cases hi:i<n+k
  ·rw [List.getElem?_map,List.getElem?_range Ha];simp only [Option.map_some];rw [show n+(i-n)=i by omega,Array.getElem?_toList,Array.getElem?_eq_getElem Ha,Array.getD_eq_getD_getElem?,Array.getElem?_eq_getElem Ha];rfl
  ·rw [List.getElem?_eq_none Ha,List.getElem?_eq_none (by simp;omega)]
def lenOf:Value->Nat
 | .slice _ n _=>n
 | _=>0
theorem J8:(Tryz.prog.info? 152).map (fun i=>(i.zero,i.size))=some (some (.agg (i6 0 0 0)),3):=Hc
section
variable {ops:Array Oper} {rest:List Oper} {o:Oper} {a:Act} {w:World} {Q:Exit->Act->World->Prop}
theorem jG (hgd:o.guard=none) (ho:o.op=.alloc 152)
 (h:wpList Tryz.prog ops Q rest (a.put o.dst (.pointer (some ⟨w.heap.size,0,none⟩))) (w.alloc (.cells (i6 0 0 0) 152))):wpList Tryz.prog ops Q (o :: rest) a w:=by
 obtain ⟨i0,hi,hz0,hz1⟩:∃ i,Tryz.prog.info? 152=some i/\i.zero=some (.agg (i6 0 0 0))/\i.size=3:=by
  have h:=J8;cases hq:Tryz.prog.info? 152 with
  | none=>rw [hq] at h;cases h
  | some i=>rw [hq] at h;simp only [Option.map_some,Option.some.injEq,Prod.mk.injEq] at h;exact ⟨i,rfl,h.1,h.2⟩
 exact wpList_plain hgd fun _ hK=>bV 152 ho i0 _ hi hz0 (hK _ _ h)
theorem jH (hgd:o.guard=none) (x y:Operand) (ho:o.op=.store 152 x y) (p:Nat) (hx:a.eval x=.pointer (some ⟨p,0,none⟩)) (k f t k' f' t':Int) (hy:a.eval y=.agg (i6 k f t)) (hg:w.heap[p]?=some (.cells (i6 k' f' t') 152 (0,0)))
 (h:wpList Tryz.prog ops Q rest (a.put o.dst undef) (w.setRow p (i6 k f t))):wpList Tryz.prog ops Q (o :: rest) a w :=
 wpList_store_row hgd 152 x y ho p _ hx hy _ _ hg yv rfl (by unfold i6;simp [Value.oneCell']) h
theorem kn (hgd:o.guard=none) (x:Operand) (ho:o.op=.load 152 x) (g b:Nat) (hx:a.eval x=.pointer (some ⟨g,b,none⟩)) (p:Pc) (hg:w.rangeAt g b (encP p))
 (h:wpList Tryz.prog ops Q rest (a.put o.dst (.agg (i6 p.1 p.2.1 p.2.2))) w):wpList Tryz.prog ops Q (o :: rest) a w :=
 wpList_load_mid hgd 152 x ho g b hx (encP p) _ hg Tryz.underlying152 rfl yv h
end
def Cg (W:World) (A:Option Addr) (c:Nat) (l:List Pc):Prop:=l.length<=c/\c<=9223372036854775807/\(l≠[]->∃ g b,A=some ⟨g,b,none⟩/\(∃ Z,W.heap[g]?=some (.cells Z 152 (0,0)))/\∀ i p,l[i]?=some p->W.rangeAt g (b+i*3) (encP p))
theorem Cg.below {W W':World} {A:Option Addr} {c:Nat} {l:List Pc} (h:Cg W A c l) (hb:Below W.heap.size W W'):Cg W' A c l :=
 ⟨h.1,h.2.1,fun hn=>let ⟨g,b,e,⟨Z,hZ⟩,hr⟩:=h.2.2 hn;⟨g,b,e,⟨Z,kb hb hZ⟩,fun i p hp j v hj=>cF hb (hr i p hp j v hj)⟩⟩
theorem uR {W:World} {B:Nat} {v:Value} {l:List Pc} (h:W.ownsRow B 152 3 v l.length (rowL encP l)):∃ A c,v=.slice A l.length c/\Cg W A c l:=by
 rcases h.2 with ⟨e,h0⟩ | ⟨g,cap,cur,e,_,hg,h1,h2,_⟩
 ·exact ⟨none,0,by rw [e,h0],Ha,Ha,fun hn=>absurd (List.eq_nil_of_length_eq_zero h0) hn⟩
 ·subst e;refine ⟨_,cap,rfl,h1,by simp only [maxLen] at h2;omega,fun _=>⟨g,0,rfl,⟨_,hg⟩,fun i p hp=>?_⟩⟩;have:=Bc (Bu l) h hp (o:=0) (c:=3)
  rwa [List.drop_zero,show (encP p).take 3=encP p from rfl,Nat.add_zero,<- Nat.zero_add (i*3)] at this
def Ch (C:BN) (P:List Wr) (nd:Nd) (ix:List Int) (l:List Pc):List Int:=l.flatMap fun p=>((gB (C.N P) (uQ nd ix p.1)).bs.drop p.2.1).take (p.2.2-p.2.1)
theorem oC {off n:Int} {p:Pc} (h:p∈iO off n):p.1<20/\p.2.1<p.2.2/\p.2.2<=56:=by
 unfold iO at h;split at h
 ·rename_i hc;unfold pL at h;obtain ⟨i,hi,rfl⟩:=List.mem_map.1 h;rw [List.mem_range] at hi;unfold Jb;have hN:pN off.toNat (off+n).toNat=((off+n).toNat-1)/56-off.toNat/56+1:=by unfold pN at hi ⊢;split at hi;omega;rename_i hh;rw [if_neg hh]
  have hlt:off.toNat<(off+n).toNat:=by unfold pN at hi;split at hi <;> omega
  rw [hN] at hi ⊢;refine ⟨by show _<20;omega,?_,?_⟩
  ·dsimp only;split <;> split <;> omega
  ·dsimp only;split <;> omega
 ·cases h
theorem F8 {x:Bk} (h:dk x):aS 1 (bj x.k x.bs):=by
 unfold bj;rw [if_pos h.1];have:=h.1.2.1
 rwa [h.2] at this
section
variable {C:TC} {G:Nat->Obj->Prop} {W0 W W':World} {o0:Option Nat} {pv:Value} {P:List Wr} {T:List Bool} {ob ib cap:Nat} {t:Int} {nd:Nd} {ix:List Int}
theorem FS.oth (h:FS C G W0 o0 W pv P T ob t nd ib cap ix) {r:Option Nat} (hg:W.grownBy W' r) {ty:TypeId} (hr:∀ j,r=some j->(∃ Z fr,W.heap[j]?=some (.cells Z ty fr))/\¬ C.F j/\W0.heap.size<=j) (hG:∀ j,r=some j->∀ o,¬ G j o) (h0:C.w0.heap.size<=W0.heap.size) (h1:ty≠107) (h2:ty≠197) (h3:ty≠52) (h4:ty≠118) (h5:ty≠113) (h6:ty≠157) (h7:ty≠3):FS C G W0 o0 W' pv P T ob t nd ib cap ix:=by
 cases r with
 | none=>exact h.below ⟨hg.os,hg.tape,hg.output,hg.size,fun k hk=>hg.block k hk Hb⟩
 | some j =>
   obtain ⟨⟨Z,fr,hj⟩,hF,hl⟩:=hr j rfl;obtain ⟨Y,hY⟩:=h.rb;exact { h with k:=h.k.cell hg hj h1 h2 h3 h4 h5 hF (Nat.le_trans h0 hl),s:=h.s.own hg (.inl hl),hd:=bo hg h.hd (fun e=>by injection e with e;exact bu hj h.hd h6 e),row:=fy h.row fun k e=>by injection e with e;subst e;exact hg.block _ (ai hY) (fun e=>by injection e with e;exact bu hj hY h7 e.symm),gd:=fun k o hk=>let ⟨q1,q2⟩:=h.gd k o hk;⟨bo hg q1 (fun e=>by injection e with e;subst e;exact hG _ rfl o hk),q2⟩ }
theorem Cg.grown {A:Option Addr} {c:Nat} {l:List Pc} (h:Cg W A c l) {r:Option Nat} (hg:W.grownBy W' r) (hr:∀ j,r=some j->∃ Z fr,W.heap[j]?=some (.cells Z 5 fr)):Cg W' A c l :=
 ⟨h.1,h.2.1,fun hn=>by
   obtain ⟨g,b,e,⟨Z,hZ⟩,hrg⟩:=h.2.2 hn;have hk:W'.heap[g]?=W.heap[g]?:=hg.block g (ai hZ) (fun e=>by
    obtain ⟨Y,fr,hY⟩:=hr g e.symm;exact bu hZ hY Hd rfl)
   exact ⟨g,b,e,⟨Z,hk.trans hZ⟩,fun i p hp j v hj=>(af (hk.trans hZ) _).trans ((af hZ _).symm.trans (hrg i p hp j v hj))⟩⟩
theorem Ek {w:World} {g:Nat} {k:Int} {bs:List Int} (h:w.heap[g]?=some (.cells (ab k bs) 37 (0,0))) (f r:Nat):dD w (some ⟨g,1+f,none⟩) ((bs.drop f).take r):=fun i y hy=>by
 refine ⟨_,rfl,?_⟩;rw [dp,af h];rw [List.getElem?_take] at hy;split at hy
 ·rw [List.getElem?_drop] at hy;unfold ab blkL;rw [List.getElem?_toArray,show 1+f+i=(f+i)+1 by omega,List.getElem?_cons_succ];unfold Bs;rw [List.getElem?_map,hy];rfl
 ·cases hy
theorem IS {w:World} {B e sz n:Nat} {v:Value} {xs:List Value} (h:w.ownsRow B e sz v n xs) {k:Nat} (hk:v.ownBlock=some k):B<=k:=by
 rcases h.2 with ⟨rfl,_⟩ | ⟨g,cap,cur,rfl,hb,_⟩
 ·cases hk
 ·injection hk with hk;subst hk;exact hb
def Ld (C:TC) (W:World) (pv:Value) (P:List Wr) (T:List Bool) (t off z:Int) (nd:Nd) (ix:List Int) (a':Act) (w':World):Prop :=
 ∃ (ob ib cap:Nat) (l:List Pc) (A:Option Addr) (c:Nat) (v:Value) (d:List Int),Hid (FS C EA W pv.ownBlock w' pv P T ob t nd ib cap ix)/\Hid (Cg w' A c l)/\Hid (w'.ownsRow W.heap.size 5 1 v d.length (Bs d))/\Hid ((∀ k,v.ownBlock=some k->¬ C.F k))/\Hid (d++Ch C.bn P nd ix l=Ch C.bn P nd ix (iO off z))/\Hid (d.length<=56*(20-l.length)/\l.length<=20)/\Hid (∀ p∈l,p∈iO off z)/\Fr 14 57 [.pointer (some ⟨C.tb,0,none⟩),.int .i64 t,.int .i64 off,.int .i64 z,undef,undef,undef,undef,.slice none 0 0,.int .i64 0,v,.slice A l.length c,.pointer (some ⟨ob,0,none⟩),.bool true] a'
theorem El (h:C.K W pv P T) (h0:C.w0.heap.size<=W.heap.size) (t off n:Int) (ht:i64 t) (ho:i64 off) (hn:i64 n) (x:Bk) (hx:x=gB (C.N P) t) (nd:Nd) (hnd:nd=bj x.k x.bs) (ix:List Int) (hix:ix=ixOf (gB (C.N P) nd.x)) (hf:¬ dk x):Calls Tryz.prog 31 #[.pointer (some ⟨C.tb,0,none⟩),.int .i64 t,.int .i64 off,.int .i64 n] W fun e w'=>e=.returned (.tuple #[.slice none 0 0,.int .i64 2])/\Below W.heap.size W w':=by
 have HO:=He (gX h h0 t ht x hx nd hnd ix hix);have HF:=He hf;clear hx hnd hix hf h;go_enter Tryz.func31,Tryz.ntmps31;go_wp2_with fail
 refine aV (fun _ _=>False) (fun _ _=>0) rfl ?_ (fun a w h=>h.elim);intro _;go_wp2_with fail
 refine HO.out.mono ?_;rintro e w1 ⟨h1,_⟩;obtain ⟨rfl,hb⟩:=h1 HF.out;have HB:=He hb;clear h1 hb;go_wp2_with fail
 simp only [Exit.jump]
 go_ret2
 exact ⟨rfl,HB.out⟩
theorem tH (h:C.K W pv P T) (h0:C.w0.heap.size<=W.heap.size) (t off n:Int) (ht:i64 t) (ho:i64 off) (hn:i64 n) (x:Bk) (hx:x=gB (C.N P) t) (nd:Nd) (hnd:nd=bj x.k x.bs) (ix:List Int) (hix:ix=ixOf (gB (C.N P) nd.x)) (hf:dk x) (hbad:off<0\/n<0):Calls Tryz.prog 31 #[.pointer (some ⟨C.tb,0,none⟩),.int .i64 t,.int .i64 off,.int .i64 n] W fun e w'=>e=.returned (.tuple #[.slice none 0 0,.int .i64 1])/\C.K w' pv P T/\dj C W pv.ownBlock w' pv.ownBlock:=by
 have HO:=He (gX h h0 t ht x hx nd hnd ix hix);have HF:=He hf;clear hx hnd hix hf h;go_enter Tryz.func31,Tryz.ntmps31;go_wp2_with fail
 refine aV (fun _ _=>False) (fun _ _=>0) rfl ?_ (fun a w h=>h.elim);intro _;go_wp2_with fail
 refine HO.out.mono ?_;rintro e w1 ⟨_,h1⟩;obtain ⟨ob,ib,cap,rfl,hs⟩:=h1 HF.out;have HS:=He hs;clear h1 hs;by_cases h1:off<0
 ·go_wp2_with fail
  simp only [Exit.jump]
  go_ret2
  exact ⟨rfl,HS.out.k,HS.out.s⟩
 ·have h2:n<0:=Ha;go_wp2_with fail
  simp only [Exit.jump]
  go_ret2
  exact ⟨rfl,HS.out.k,HS.out.s⟩
theorem Ci (h:C.K W pv P T) (h0:C.w0.heap.size<=W.heap.size) (t off n:Int) (ht:i64 t) (ho:i64 off) (hn:i64 n) (x:Bk) (hx:x=gB (C.N P) t) (nd:Nd) (hnd:nd=bj x.k x.bs) (ix:List Int) (hix:ix=ixOf (gB (C.N P) nd.x)) (hf:dk x) (h1:0<=off) (h2:0<=n) (ho':off<=9223372036854775807):Calls Tryz.prog 31 #[.pointer (some ⟨C.tb,0,none⟩),.int .i64 t,.int .i64 off,.int .i64 n] W fun e w' =>
 ∃ v,e=.returned (.tuple #[v,.int .i64 0])/\w'.ownsRow W.heap.size 5 1 v (Ch C.bn P nd ix (iO off (min n (nd.s-off)))).length (Bs (Ch C.bn P nd ix (iO off (min n (nd.s-off)))))/\C.K w' pv P T/\dj C W pv.ownBlock w' pv.ownBlock:=by
 have HO:=He (gX h h0 t ht x hx nd hnd ix hix);have HF:=He hf;have hmn:=F8 hf;rw [<- hnd] at hmn;have hs:0<=nd.s/\nd.s<=1120:=by
  rcases hmn.2 with ⟨_,h,_⟩ | ⟨e,_⟩ | ⟨e,_⟩
  ·exact h
  ·cases e
  ·cases e
 obtain ⟨z,hz⟩:∃ z,z=min n (nd.s-off):=⟨_,rfl⟩
 rw [<- hz];obtain ⟨R,hR⟩:∃ R,R=Ch C.bn P nd ix (iO off z):=⟨_,rfl⟩
 rw [<- hR];have HR:=He hR;have HZ:=He hz;have hw:IntKind.i64.wrap (nd.s-off)=nd.s-off:=by rw [IntKind.wrap_i64];omega
 have hno:¬ off<0:=Ha;have hnn:¬ n<0:=Ha;clear hx hnd hix hf hmn h hR hz;go_enter Tryz.func31,Tryz.ntmps31;go_wp2_with fail
 refine aV (Ld C W pv P T t off z nd ix) (fun a _=>lenOf (a.tmps.getD 11 undef)) rfl ?_ ?_
 ·intro HJ;go_wp2_with fail
  refine HO.out.mono ?_;rintro e w1 ⟨_,g1⟩;obtain ⟨ob,ib,cap,rfl,hfs⟩:=g1 HF.out;have HS:=He hfs;have c4:w1.cell? ⟨ob,4,none⟩=some (.int .i64 nd.s):=hfs.c 4;clear g1 hfs;go_upto_region 8 with fail
  go_cut [3] (fun v wx=>v=.int .i64 z/\wx=w1)
  case first =>
   by_cases hlt:nd.s-off<n
   ·have hze:nd.s-off=z:=by rw [HZ.out];omega
    go_wp2_with fail
    go_meet
    case rel=>exact ⟨rfl,rfl⟩
   ·have hze:n=z:=by rw [HZ.out];omega
    go_wp2_with fail
    go_meet
    case rel=>exact ⟨rfl,rfl⟩
  case rest =>
   obtain ⟨rfl,rfl⟩:=hcut;have HP:=He (mC off z wc (by constructor <;> omega) (by constructor <;> (have:=HZ.out;omega)));clear c4;go_wp2_with fail
   refine HP.out.mono ?_;rintro e w2 ⟨v,rfl,hown,hb⟩;obtain ⟨A,c,rfl,hpc⟩:=uR hown;have HS2:=He (HS.out.below hb);have HPC:=He hpc;clear hown hb hpc;go_wp2_with fail
   go_step3;rename_i hK;refine hK _ _ (HJ _ _ ⟨ob,ib,cap,iO off z,A,c,.slice none 0 0,[],HS2.out,HPC.out,⟨rfl,.inl ⟨rfl,rfl⟩⟩,(fun k e=>by cases e),by simp [Hid],⟨Nat.zero_le _,?_⟩,(fun p h=>h),⟨_,rfl,rfl,rfl⟩⟩);unfold iO;split
   ·rw [fJ];exact zS _ _ Ha
   ·exact Nat.zero_le _
 ·rintro a' w' ⟨ob,ib,cap,l,A,c,v,d,HS,HPC,HV,HVF,HD,HL,HM,hfr⟩;obtain ⟨u,rfl⟩:=hfr.lit;simp only [List.range,List.range.loop,List.map_cons,List.map_nil,List.cons_append,List.nil_append];clear hfr HO HF hno hnn hw;cases l with
  | nil =>
    have hd:d=R:=by have:=HD.out;rw [<- HR.out] at this;simpa [Ch] using this
    subst hd;go_wp2_with (simp only [List.length_nil])
    simp only [Exit.jump]
    go_ret2
    exact ⟨v,rfl,HV.out,HS.out.k,HS.out.s⟩
  | cons p l =>
    obtain ⟨g,b,rfl,_,hrg⟩:=HPC.out.2.2 Hb;have HR0:Hid (w'.rangeAt g b (encP p)):=by have:=hrg 0 p rfl;rwa [Nat.zero_mul,Nat.add_zero] at this
    obtain ⟨hk20,hft,ht56⟩:=oC (HM.out p (List.mem_cons_self ..));have hc1:1<=c:=by have:=HPC.out.1;simp at this;omega
    have hcm:=HPC.out.2.1;obtain ⟨k,f,e⟩:=p;dsimp only at hk20 hft ht56;have h14:=heap_alloc_new w' (.cells (i6 0 0 0) 152);have hb2:Below w'.heap.size w' ((w'.alloc (.cells (i6 0 0 0) 152)).setRow w'.heap.size (i6 k f e)):=below_setRow (aK (w:=w') (.cells (i6 0 0 0) 152)) (Nat.le_refl _) _;have HX14:=He (am (D:=i6 k f e) h14);have HS2:=He (HS.out.below hb2);have HPC2:=He (HPC.out.below hb2);have HV2:=He (hU HV.out hb2);clear hb2 hrg;rw [List.length_cons];go_upto_region 13 with (first
     | (refine kn rfl (.tmp 48) rfl g b rfl (k,f,e) HR0.out ?_)
     | (refine jG rfl rfl ?_)
     | (refine jH rfl (.tmp 14) (.tmp 49) rfl w'.heap.size rfl k f e 0 0 0 rfl h14 ?_))
    clear h14 HS HPC HV HR0;generalize (w'.alloc (.cells (i6 0 0 0) 152)).setRow w'.heap.size (i6 k f e)=w2 at *;generalize w'.heap.size=p14 at *;have c140:w2.cell? ⟨p14,0,none⟩=some (.int .i64 k):=(af HX14.out 0).trans rfl;have HNM:=He (lG HS2.out k hk20);obtain ⟨cn,fn,hin⟩:=HS2.out.cP k hk20;have HG:=He (HS2.out.k.get1 _ hin);have HWK:=He (HS2.out.k.wkN (uQ nd ix k));obtain ⟨y,hy⟩:∃ y,y=gB (C.N P) (uQ nd ix k):=⟨_,rfl⟩
    rw [<- hy] at HG HWK;have HY:=He hy;generalize Ct ob ib k=na at *;clear hy;go_wp2_with fail
    refine HNM.out.mono ?_;rintro r w3 ⟨rfl,rfl⟩;go_wp2_with fail
    refine HG.out.mono ?_;rintro r w4 ⟨rfl,hb⟩;have h15:=heap_alloc_new w4 (.cells (ab 0 ay) 37);have hb5:Below w2.heap.size w2 ((w4.alloc (.cells (ab 0 ay) 37)).setRow w4.heap.size (ab y.k y.bs)):=hb.trans ((below_setRow (aK (w:=w4) (.cells (ab 0 ay) 37)) (Nat.le_refl _) (ab y.k y.bs)).mono hb.size);have HX15:=He (am (D:=ab y.k y.bs) h15);have HS5:=He (HS2.out.below hb5);have HPC5:=He (HPC2.out.below hb5);have HV5:=He (hU HV2.out hb5);have hx14:=Go.Proofs.YtegjelaejbacnaaGreat.kb hb5 HX14.out;clear hb hb5 c140 cn fn HX14 HS2 HPC2 HV2 HNM HG;go_upto_region 14 with (first | (refine aq rfl rfl ?_) | (refine ap rfl (.tmp 15) (.tmp 59) rfl w4.heap.size rfl y.k 0 y.bs ay rfl HWK.out.len al h15 ?_))
    clear h15;generalize (w4.alloc (.cells (ab 0 ay) 37)).setRow w4.heap.size (ab y.k y.bs)=w5 at *;generalize w4.heap.size=p15 at *;have c1:w5.cell? ⟨p14,1,none⟩=some (.int .i64 f):=(af hx14 1).trans rfl;have c2:w5.cell? ⟨p14,2,none⟩=some (.int .i64 e):=(af hx14 2).trans rfl;have HBY:=He (Ek HX15.out f (e-f));have HYL:Hid (((y.bs.drop f).take (e-f)).length=e-f):=by unfold Hid;rw [List.length_take,List.length_drop,HWK.out.len];omega
    obtain ⟨ys,hys⟩:∃ ys,ys=(y.bs.drop f).take (e-f):=⟨_,rfl⟩
    rw [<- hys] at HBY HYL;have HYS:=He hys;have hdl:d.length+(e-f)<=1000000:=by have:=HL.out.1;omega
    have hw5:W.heap.size<=w5.heap.size:=HS5.out.s.sz;clear hys hx14;go_upto_region 15 with (first
     | (refine lZ rfl (.tmp 62) (.tmp 64) (.tmp 66) rfl p15 f e rfl rfl rfl Ha ht56 Ha ?_)
     | (refine bU w5 rfl (.tmp 61) (.tmp 67) rfl W.heap.size v d.length d rfl HV5.out (some ⟨p15,1+f,none⟩) (e-f) (56-f) ys rfl HBY.out HYL.out hdl hw5 ?_;intro v2 w6 q1 q2 q3;have HV6:=He q1;have HG6:=He q2;have HQ6:=He q3;clear q1 q2 q3))
    have hown:∀ j,v.ownBlock=some j->(∃ Z,w5.heap[j]?=some (.cells Z 5 (0,0)))/\¬ C.F j/\W.heap.size<=j:=fun j hj=>⟨db HV5.out hj,HVF.out j hj,IS HV5.out hj⟩
    have HS6:=He (HS5.out.oth HG6.out (ty:=5) (fun j hj=>by obtain ⟨⟨Z,hZ⟩,h2,h3⟩:=hown j hj;exact ⟨⟨Z,_,hZ⟩,h2,h3⟩) (fun _ _ _ h=>h.elim) h0 Hd Hd Hd Hd Hd Hd Hd);have HPC6:=He (HPC5.out.grown HG6.out (fun j hj=>by obtain ⟨⟨Z,hZ⟩,_⟩:=hown j hj;exact ⟨Z,_,hZ⟩));have HF6:Hid (∀ k,v2.ownBlock=some k->¬ C.F k):=fun k hk=>by
     rcases HQ6.out with h | h
     ·exact HVF.out k (h.symm.trans hk)
     ·rw [h] at hk;injection hk with hk;subst hk;exact HS5.out.k.tv.new (Nat.le_refl _)
    have HD6:Hid ((d++ys)++Ch C.bn P nd ix l=Ch C.bn P nd ix (iO off z)):=by
     unfold Hid;rw [<- HD.out,HYS.out,HY.out,List.append_assoc];rfl
    have HL6:Hid ((d++ys).length<=56*(20-l.length)/\l.length<=20):=by
     have h:=HL.out;simp only [List.length_cons] at h;unfold Hid;rw [List.length_append,HYL.out];omega
    have HM6:Hid (∀ p∈l,p∈iO off z):=fun p hp=>HM.out p (List.mem_cons_of_mem _ hp);have HVL:Hid (w6.ownsRow W.heap.size 5 1 v2 (d++ys).length (Bs (d++ys))):=by unfold Hid;rw [List.length_append,HYL.out];exact HV6.out
    have hpl:=HPC6.out.1;simp only [List.length_cons] at hpl;have HNX:Hid (∀ (A:Option Addr) (c2:Nat),l.length<=c2->c2<=9223372036854775807->(l≠[]->A=some ⟨g,b+3,none⟩)->Cg w6 A c2 l):=fun A c2 q1 q2 q3=>⟨q1,q2,fun hn=>by
     obtain ⟨g',b',e',hZ,hr⟩:=HPC6.out.2.2 Hb;injection e' with e';injection e' with e1 e2;subst e1 e2
     exact ⟨g,b+3,q3 hn,hZ,fun i p hp=>by have:=hr (i+1) p hp;rwa [show b+(i+1)*3=b+3+i*3 by omega] at this⟩⟩
    clear hown c1 c2 HX15 HS5 HPC5 HV5 HG6 HQ6 HVF HD HM HBY HWK hw5 hdl HV6;generalize w5=w5' at *;by_cases hc:c=1
    ·have hl0:l=[]:=List.eq_nil_of_length_eq_zero Ha;have HP7:=He (HNX.out (some ⟨g,b,none⟩) 0 Ha Ha (fun h=>absurd hl0 h));have hlz:l.length=0:=by rw [hl0];rfl
     go_wp2_with fail
     subst hl0;go_step3;exact ⟨rfl,⟨ob,ib,cap,[],_,0,v2,d++ys,HS6.out,HP7.out,HVL.out,HF6.out,HD6.out,HL6.out,HM6.out,⟨_,rfl,rfl,rfl⟩⟩,by simp [lenOf]⟩
    ·have HP7:=He (HNX.out (some ⟨g,b+3,none⟩) (c-1) Ha Ha (fun _=>rfl));have hci:¬ (c:Int)=1:=Ha;have hc2:(1:Int)<=c:=Ha;go_wp2_with fail
     go_step3;exact ⟨rfl,⟨ob,ib,cap,l,_,_,v2,d++ys,HS6.out,HP7.out,HVL.out,HF6.out,HD6.out,HL6.out,HM6.out,⟨_,rfl,rfl,rfl⟩⟩,by simp [lenOf]⟩
end
def GL (l:List Pc):Nat:=(l.map fun p=>p.2.2-p.2.1).sum
theorem IT (o e:Nat) (h:o<e):∀ j,j<=pN o e->GL ((pL o e).take j)=if j=0 then 0 else if j=pN o e then e-o else 56*(o/56+j)-o:=by
 have hN:pN o e=(e-1)/56-o/56+1:=by unfold pN;rw [if_neg Ha]
 intro j
 induction j with
 | zero=>intro _;rfl
 | succ j ih =>
   intro hj;have hj1:j<pN o e:=Ha;have ih:=ih Ha;rw [au (show (pL o e)[j]?=some (Jb o e j) by rw [GC,if_pos hj1])];unfold GL at ih ⊢;rw [List.map_append,List.sum_append,ih];unfold Jb;rw [hN] at hj1 hj ⊢;simp only [List.map_cons,List.map_nil,List.sum_cons,List.sum_nil];by_cases h0:j=0
   ·subst h0;simp only [if_true,Nat.zero_add,if_neg (show ¬ 1=0 by omega)]
    first | (split <;> omega) | (split <;> split <;> omega)
   ·rw [if_neg h0,if_neg (show ¬ j+1=0 by omega),if_neg (show ¬ j=(e-1)/56-o/56+1 by omega),if_neg h0];split <;> omega
theorem F9 (o m:Nat) (hm:0<m) (h:o+m<=1120):GL (iO o m)=m:=by
 unfold iO;rw [if_pos Ha,show ((o:Int)).toNat=o by omega,show ((o:Int)+m).toNat=o+m by omega];have:=IT o (o+m) Ha (pN o (o+m)) (Nat.le_refl _);rw [List.take_of_length_le (by rw [fJ];exact Nat.le_refl _)] at this;have hN:pN o (o+m)=(o+m-1)/56-o/56+1:=by unfold pN;rw [if_neg Ha]
 rw [if_neg Ha,if_pos rfl] at this;omega
def uS (C:BN) (p:Pc) (d:List Int) (s:km):km:={ s with P:=pT C s.P (uQ s.nd s.ix p.1) (Cd (gB (C.N s.P) (uQ s.nd s.ix p.1)) p.2.1 p.2.2 d) }
def GM (C:BN) (d:List Int):List Pc->Nat->km->Bool × Nat × km
 | [],n,s=>(true,n,s)
 | p :: l,n,s=>if (sa C p.1 s).1=true then GM C d l (n+(p.2.2-p.2.1)) (uS C p (d.drop n) (sa C p.1 s).2) else (false,n,(sa C p.1 s).2)
theorem Aq (C:BN) (P:List Wr) (nd:Nd) (ix:List Int):(FX C P nd ix).1.length<=P.length+1:=by
 unfold FX;split
 ·exact rl ..
 ·exact Nat.le_succ _
theorem xu (C:BN) (k:Nat) (s:km):(own2 C k s).2.P.length<=s.P.length+2:=by
 unfold own2;split
 ·dsimp only;have h1:=rl C s.P (kT C s.P s.T:Nat) qU;split
  ·exact Nat.le_trans (Aq ..) Ha
  ·dsimp only;omega
 ·exact Nat.le_add_right _ _
theorem Em (C:BN) (k:Nat) (s:km):(sa C k s).2.P.length<=s.P.length+2:=by
 unfold sa own1;split
 ·exact Nat.le_add_right _ _
 ·split
  ·split
   ·exact xu C k { s with T:=_,nd:=_ }
   ·exact Nat.le_add_right _ _
  ·exact xu ..
theorem dD.since {C:TC} {W0 W:World} {o0 o:Option Nat} {ad:Addr} {d:List Int} (hs:dj C W0 o0 W o) (h:dD W0 (some ad) d) (h1:ad.block<W0.heap.size) (h2:ad.block≠C.tb) (h3:ad.block≠C.kb) (h4:o0≠some ad.block):dD W (some ad) d:=fun i x hx=>by
 obtain ⟨a,e,hc⟩:=h i x hx;injection e with e;subst e
 refine ⟨_,rfl,?_⟩;have hk:=hs.fr ad.block h1 h2 h3 h4;unfold World.cell? at hc ⊢;rw [dP] at hc ⊢;rw [hk];exact hc
theorem dD.drop {W:World} {ad:Addr} {d:List Int} (h:dD W (some ad) d) (q:Nat):dD W (some (ad.add q)) (d.drop q):=fun i x hx=>by
 rw [List.getElem?_drop] at hx;obtain ⟨a,e,hc⟩:=h (q+i) x hx;injection e with e;subst e
 exact ⟨_,rfl,by rw [iS];exact hc⟩
section
variable {C:TC} {W:World} {pv:Value} {P:List Wr} {T:List Bool}
theorem mI (h:C.K W pv P T) (h0:C.w0.heap.size<=W.heap.size) (t off:Int) (ht:i64 t) (x:Bk) (hx:x=gB (C.N P) t) (hf:dk x) (A:Option Addr) (m c:Nat) (er:Int) (hbad:(off<0/\er=1)\/(0<=off/\m=0/\er=0)\/(1120<=off/\0<m/\er=13)):Calls Tryz.prog 34 #[.pointer (some ⟨C.tb,0,none⟩),.int .i64 t,.int .i64 off,.slice A m c] W fun e w'=>e=.returned (.tuple #[.int .i64 0,.int .i64 er])/\C.K w' pv P T/\dj C W pv.ownBlock w' pv.ownBlock:=by
 have HO:=He (gX h h0 t ht x hx _ rfl _ rfl);have HF:=He hf;clear hx hf h;go_enter Tryz.func34,Tryz.ntmps34;go_wp2_with fail
 refine aV (fun _ _=>False) (fun _ _=>0) rfl ?_ (fun a w h=>h.elim);intro _;go_wp2_with fail
 refine HO.out.mono ?_;rintro e w1 ⟨_,h1⟩;obtain ⟨ob,ib,cap,rfl,hs⟩:=h1 HF.out;have HS:=He hs;clear h1 hs;rcases hbad with ⟨q1,rfl⟩ | ⟨q1,rfl,rfl⟩ | ⟨q1,q2,rfl⟩
 ·go_wp2_with fail
  simp only [Exit.jump]
  go_ret2
  exact ⟨rfl,HS.out.k,HS.out.s⟩
 ·have q2:¬ off<0:=Ha;go_wp2_with fail
  simp only [Exit.jump]
  go_ret2
  exact ⟨rfl,HS.out.k,HS.out.s⟩
 ·have q3:¬ off<0:=Ha;have q4:¬ (m:Int)=0:=Ha;have q5:¬ m=0:=Ha;go_wp2_with fail
  simp only [Exit.jump]
  go_ret2
  exact ⟨rfl,HS.out.k,HS.out.s⟩
def Le (C:TC) (W:World) (pv:Value) (P:List Wr) (t:Int) (o m c:Nat) (ad:Addr) (D:List Int) (R:Bool × Nat × km) (a':Act) (w':World):Prop :=
 ∃ (ob ib cap:Nat) (l:List Pc) (A:Option Addr) (c2 n:Nat) (pv':Value) (s:km),Hid (FZ C EA W pv.ownBlock w' pv' ob t ib cap s)/\Hid (Cg w' A c2 l)/\Hid (GM C.bn D l n s=R)/\Hid (s.P.length+3*l.length<=P.length+60)/\Hid (n+GL l=m)/\Hid (∀ p∈l,p∈iO o m)/\Fr 14 69 [.pointer (some ⟨C.tb,0,none⟩),.int .i64 t,.int .i64 (o:Int),.slice (some ad) m c,undef,undef,undef,undef,.int .i64 0,.int .i64 0,.slice A l.length c2,.int .i64 (n:Int),.pointer (some ⟨ob,0,none⟩),.bool true] a'
def GP (p g:Nat) (Z Y:Array Value):Nat->Obj->Prop:=fun k o=>(k=p/\o=.cells Z 152 (0,0))\/(k=g/\o=.cells Y 152 (0,0))
def Cv (C:BN) (t:Int) (o:Nat) (R:Bool × Nat × km):Int × Int × List Wr :=
 if R.1=true then ((R.2.1:Int),0,pT C R.2.2.P t (jE 1 { R.2.2.nd with s:=max R.2.2.nd.s ((o:Int)+(R.2.1:Int)) })) else (0,9,R.2.2.P)
theorem zd (h:C.K W pv P T) (h0:C.w0.heap.size<=W.heap.size) (t:Int) (o:Nat) (ht:i64 t) (ho:o<1120) (x:Bk) (hx:x=gB (C.N P) t) (nd:Nd) (hnd:nd=bj x.k x.bs) (ix:List Int) (hix:ix=ixOf (gB (C.N P) nd.x)) (hf:dk x) (g1:0<C.n) (g200:C.n<=200) (hfew:P.length<=100) (ad:Addr) (d:List Int) (m0 c:Nat) (hm:d.length=m0) (hm0:0<m0) (hmc:m0<=c) (hc:c<=9223372036854775807) (hB:ax d) (hy:dD W (some ad) d) (a1:ad.block<W.heap.size) (a2:ad.block≠C.tb) (a3:ad.block≠C.kb) (a4:pv.ownBlock≠some ad.block) (R:Bool × Nat × km) (hR:R=GM C.bn (d.take (mostN o)) (iO o (min m0 (mostN o):Nat)) 0 ⟨P,T,nd,ix⟩) :
 Calls Tryz.prog 34 #[.pointer (some ⟨C.tb,0,none⟩),.int .i64 t,.int .i64 (o:Int),.slice (some ad) m0 c] W fun e w'=>e=.returned (.tuple #[.int .i64 (Cv C.bn t o R).1,.int .i64 (Cv C.bn t o R).2.1])/\∃ pv',C.K w' pv' (Cv C.bn t o R).2.2 R.2.2.T/\dj C W pv.ownBlock w' pv'.ownBlock:=by
 have HO:=He (gX h h0 t ht x hx nd hnd ix hix);have HF:=He hf;obtain ⟨mo,hmo⟩:∃ mo,mo=mostN o:=⟨_,rfl⟩
 have hmo1:1<=mo/\o+mo<=1120:=by rw [hmo];unfold mostN;rw [Nat.min_def];split <;> omega
 have HMO:=He (xn o ho W);rw [<- hmo] at hR;obtain ⟨m,hme⟩:∃ m,m=min m0 mo:=⟨_,rfl⟩
 rw [<- hme] at hR;have hm1:1<=m/\m<=m0/\m<=mo:=Ha;obtain ⟨D,hD⟩:∃ D,D=d.take mo:=⟨_,rfl⟩
 rw [<- hD] at hR;have HDL:Hid (D.length=m):=by unfold Hid;rw [hD,List.length_take];omega
 have HDB:Hid (ax D):=fun x hx=>hB x (by rw [hD] at hx;exact List.mem_of_mem_take hx);have HDY:Hid (∀ w' o',dj C W pv.ownBlock w' o'->dD w' (some ad) D):=fun w' o' hs=>by
  have:=hy.since hs a1 a2 a3 a4;rw [hD];exact fun i x hx=>this i x (by rw [List.getElem?_take] at hx;split at hx;exact hx;cases hx)
 have HR:=He hR;have HME:=He hme;have HMOE:=He hmo;have hoi:(o:Int)<1120:=Ha;have hm0n:¬ (m0:Int)=0:=Ha;have hm0n':¬ m0=0:=Ha;have hno:¬ (o:Int)<0:=Ha;clear hx hnd hix hf h hy hB hm hR hD hme hmo a1 a2 a3 a4;go_enter Tryz.func34,Tryz.ntmps34;go_wp2_with fail
 refine aV (Le C W pv P t o m c ad D R) (fun a _=>lenOf (a.tmps.getD 10 undef)) rfl ?_ ?_
 ·intro HJ;go_wp2_with fail
  refine HO.out.mono ?_;rintro e w1 ⟨_,k1⟩;obtain ⟨ob,ib,cap,rfl,hfs⟩:=k1 HF.out;have HS:=He hfs;clear k1 hfs;go_upto_region 12 with fail
  have HMO2:=He (xn o ho w1);rw [<- HMOE.out] at HMO2
  go_cut [3] (fun v wx=>v=.slice (some ad) m c/\wx=w1)
  case first =>
   by_cases hlt:(mo:Int)<m0
   ·have hmm:m=mo:=by have:=HME.out;omega
    have k1:(mo:Int)<=c:=Ha;have k2:mo<=c:=Ha;subst hmm;go_wp2_with fail
    refine HMO2.out.mono ?_;rintro e w2 ⟨rfl,rfl⟩;go_wp2_with fail
    go_meet
    case rel=>exact ⟨rfl,rfl⟩
   ·have hmm:m=m0:=by have:=HME.out;omega
    have k1:(m0:Int)<=c:=Ha;subst hmm;go_wp2_with fail
    refine HMO2.out.mono ?_;rintro e w2 ⟨rfl,rfl⟩;go_wp2_with fail
    go_meet
    case rel=>exact ⟨rfl,rfl⟩
  case rest =>
   obtain ⟨rfl,rfl⟩:=hcut;have HP:=He (mC (o:Int) (m:Int) wc (by constructor <;> omega) (by constructor <;> omega));clear HMO2;go_wp2_with fail
   refine HP.out.mono ?_;rintro e w2 ⟨v,rfl,hown,hb⟩;obtain ⟨A,c2,rfl,hpc⟩:=uR hown;have HS2:=He (HS.out.below hb);have HPC:=He hpc;clear hown hb hpc;go_wp2_with fail
   go_step3;rename_i hK;refine hK _ _ (HJ _ _ ⟨ob,ib,cap,iO o m,A,c2,0,pv,⟨P,T,nd,ix⟩,HS2.out,HPC.out,HR.out.symm,?_,?_,(fun p h=>h),⟨_,rfl,rfl,rfl⟩⟩)
   ·show P.length+3*(iO o m).length<=P.length+60;have:(iO (o:Int) (m:Int)).length<=20:=by
     unfold iO;split
     ·rw [fJ];exact zS _ _ Ha
     ·exact Nat.zero_le _
    omega
   ·show 0+GL (iO o m)=m;rw [F9 o m Ha Ha,Nat.zero_add]
 ·rintro a' w' ⟨ob,ib,cap,l,A,c2,n,pv',s,HS,HPC,HRR,HL,HN,HM,hfr⟩;obtain ⟨u,rfl⟩:=hfr.lit;simp only [List.range,List.range.loop,List.map_cons,List.map_nil,List.cons_append,List.nil_append];clear hfr HO HF hno hm0n hm0n' HME HMO HMOE;cases l with
  | nil =>
    have hr:R=(true,n,s):=HRR.out.symm;subst hr;have hnm:n=m:=by have:=HN.out;simpa [GL] using this
    have HNM:=He hnm;obtain ⟨z,hz⟩:∃ z,z=max s.nd.s ((o:Int)+(n:Int)):=⟨_,rfl⟩
    have hzi:i64 z:=by rw [hz];have:=HS.out.ok.s;constructor <;> omega
    have HZ:=He hz;have HFZ:=He (HS.out.set h0 4 (.int .i64 z) { s.nd with s:=z } { HS.out.ok with s:=hzi } (fun iv=>rfl));have c4:w'.cell? ⟨ob,4,none⟩=some (.int .i64 s.nd.s):=HS.out.c 4;have f4:=HS.out.f 4;have hwz:IntKind.i64.wrap ((o:Int)+(n:Int))=o+n:=by rw [IntKind.wrap_i64];omega
    clear hz hzi hnm;rw [List.length_nil];go_upto_region 15 with fail
    go_cut [] (fun wx=>Hid (FS C EA W pv.ownBlock wx pv' s.P s.T ob t { s.nd with s:=z } ib cap s.ix))
    case first =>
     by_cases hlt:s.nd.s<(o:Int)+n
     ·have hze:(o:Int)+n=z:=by rw [HZ.out];omega
      have hw1:IntKind.i64.wrap z=z:=by have:=HNM.out;rw [IntKind.wrap_i64];omega
      go_wp2_with fail
      go_meet
      case rel=>exact HFZ
     ·have hze:s.nd.s=z:=by rw [HZ.out];omega
      go_wp2_with fail
      all_goals go_meet
      all_goals exact HFZ
    case rest =>
     have HPN:=He (tE hcut.out (by have:=HL.out;omega));clear c4 f4 HFZ;go_wp2_with fail
     refine HPN.out.mono ?_;rintro e w2 ⟨rfl,pv2,hs⟩;have HS2:=He hs;clear hs;go_wp2_with fail
     simp only [Exit.jump]
     go_ret2
     refine ⟨rfl,pv2,?_,HS2.out.s⟩;have:=HS2.out.k;rw [HZ.out] at this;exact this
  | cons p l =>
    obtain ⟨g,b,rfl,_,hrg⟩:=HPC.out.2.2 Hb;have HR0:Hid (w'.rangeAt g b (encP p)):=by have:=hrg 0 p rfl;rwa [Nat.zero_mul,Nat.add_zero] at this
    obtain ⟨hk20,hft,ht56⟩:=oC (HM.out p (List.mem_cons_self ..));have hc1:1<=c2:=by have:=HPC.out.1;simp at this;omega
    have hcm:=HPC.out.2.1;obtain ⟨k,f,e⟩:=p;dsimp only at hk20 hft ht56;have h14:=heap_alloc_new w' (.cells (i6 0 0 0) 152);have hb2:Below w'.heap.size w' ((w'.alloc (.cells (i6 0 0 0) 152)).setRow w'.heap.size (i6 k f e)):=below_setRow (aK (w:=w') (.cells (i6 0 0 0) 152)) (Nat.le_refl _) _;have HX14:=He (am (D:=i6 k f e) h14);have HS2:=He (HS.out.below hb2);have HPC2:=He (HPC.out.below hb2);have HL14:Hid (W.heap.size<=w'.heap.size):=HS.out.s.sz;clear hb2 hrg;rw [List.length_cons];go_upto_region 19 with (first
     | (refine kn rfl (.tmp 61) rfl g b rfl (k,f,e) HR0.out ?_)
     | (refine jG rfl rfl ?_)
     | (refine jH rfl (.tmp 14) (.tmp 62) rfl w'.heap.size rfl k f e 0 0 0 rfl h14 ?_))
    clear h14 HS HPC HR0;generalize (w'.alloc (.cells (i6 0 0 0) 152)).setRow w'.heap.size (i6 k f e)=w2 at *;generalize w'.heap.size=p14 at *;have c140:w2.cell? ⟨p14,0,none⟩=some (.int .i64 k):=(af HX14.out 0).trans rfl;obtain ⟨g',b',e',⟨Z,hZ⟩,hr2⟩:=HPC2.out.2.2 Hb;injection e' with e'
    injection e' with e1 e2
    subst e1 e2;have hpl:=HPC2.out.1;simp only [List.length_cons] at hpl;have HNX:Hid (∀ (W6:World),W6.heap[g]?=some (.cells Z 152 (0,0))->∀ (A:Option Addr) (c2:Nat),l.length<=c2->c2<=9223372036854775807->(l≠[]->A=some ⟨g,b+3,none⟩)->Cg W6 A c2 l):=fun W6 h6 A c2 q1 q2 q3=>⟨q1,q2,fun hn=>⟨g,b+3,q3 hn,⟨Z,h6⟩,fun i p hp j v hj=>by
     have:=hr2 (i+1) p hp j v hj;rw [show b+(i+1)*3=b+3+i*3 by omega] at this;exact (af h6 _).trans ((af hZ _).symm.trans this)⟩⟩
    have HSG:=He (HS2.out.re (G':=GP p14 g (i6 k f e) Z) (fun k' o' hk=>by
     rcases hk with ⟨rfl,rfl⟩ | ⟨rfl,rfl⟩
     ·exact ⟨_,_,_,rfl,HX14.out,Hd,Hd,Hd,Hd,Hd⟩
     ·exact ⟨_,_,_,rfl,hZ,Hd,Hd,Hd,Hd,Hd⟩))
    have hL:=HL.out;simp only [List.length_cons] at hL;have HOW:=He (Eh HSG.out h0 k hk20 g1 g200 Ha);have hol:=Em C.bn k s;have hwr:=HRR.out;unfold GM at hwr;dsimp only at hwr;obtain ⟨q,hq⟩:∃ q,q=sa C.bn k s:=⟨_,rfl⟩
    rw [<- hq] at HOW hol hwr;have hnm:n+((e-f)+GL l)=m:=HN.out;have HNM:=He hnm;clear hq hr2 hZ HS2 HPC2 HX14 HRR;obtain ⟨q1,q⟩:=q;dsimp only at HOW hol hwr;cases q1 with
    | false =>
      rw [if_neg Hd] at hwr;subst hwr;clear hL hol hnm;go_wp2_with fail
      refine HOW.out.mono ?_;rintro r w3 ⟨rfl,pv2,hs⟩;have HS3:=He hs;clear hs c140 HOW HSG;go_wp2_with fail
      simp only [Exit.jump]
      go_ret2
      exact ⟨rfl,pv2,HS3.out.k,HS3.out.s⟩
    | true =>
      rw [if_pos rfl] at hwr;have HWR:=He hwr;have hq3:q.P.length<200:=Ha;have HQ3:Hid (q.P.length+1+3*l.length<=P.length+60):=by unfold Hid;omega
      have hnlt:n<m:=Ha;clear hwr hL hol hnm;go_wp2_with fail
      refine HOW.out.mono ?_;rintro r w3 ⟨rfl,pv2,hs⟩;have HS3:=He hs;clear hs c140 HOW HSG;go_upto_region 21 with fail
      have hx14:∀ W,Below w3.heap.size w3 W->W.heap[p14]?=some (.cells (i6 k f e) 152 (0,0)):=fun W hb=>((HS3.out.below hb).gd p14 _ (.inl ⟨rfl,rfl⟩)).1;have c0:∀ W,Below w3.heap.size w3 W->W.cell? ⟨p14,0,none⟩=some (.int .i64 k):=fun W hb=>(af (hx14 W hb) 0).trans rfl;have c1:∀ W,Below w3.heap.size w3 W->W.cell? ⟨p14,1,none⟩=some (.int .i64 f):=fun W hb=>(af (hx14 W hb) 1).trans rfl;have c22:∀ W,Below w3.heap.size w3 W->W.cell? ⟨p14,2,none⟩=some (.int .i64 e):=fun W hb=>(af (hx14 W hb) 2).trans rfl;have srefl:∀ W:World,W.grownBy W none:=fun W=>World.grownBy.refl _ _;have k1:n<=m:=Ha;have k2:(n:Int)<=m:=Ha;have k3:¬ c=n:=Ha;have k4:(m:Int)<=c:=Ha;have k5:¬ n=c:=Ha;clear hx14;refine cU (fun _ W=>Below w3.heap.size w3 W) (fun _ w w'=>w.grownBy w' none) (Below.refl _ _).drew ?_;refine xr ?_;refine XK.last ?_;intro W' L z1 z2 hJ;simp only [lL,forall_eq,List.setIfInBounds_toArray,List.set_cons_succ,List.set_cons_zero];have HS4:=He (HS3.out.below hJ);have HLY:=He (xp HS4.out h0 hq3 k f e hk20 hft ht56 (ad.add n) (D.drop n) (m-n) (c-n) (by rw [List.length_drop,HDL.out]) (fun x hx=>HDB.out x (List.mem_of_mem_drop hx)) ((HDY.out _ _ HS4.out.s).drop n));clear c0 c1 c22 srefl hJ z1 z2 HS3;go_wp2_with fail
      refine HLY.out.mono ?_;rintro r w5 ⟨rfl,pv3,hs⟩;have HS5:=He hs;have hx5:=(hs.gd p14 _ (.inl ⟨rfl,rfl⟩)).1;have HG5:=He (hs.gd g _ (.inr ⟨rfl,rfl⟩)).1;have c1:w5.cell? ⟨p14,1,none⟩=some (.int .i64 f):=(af hx5 1).trans rfl;have c22:w5.cell? ⟨p14,2,none⟩=some (.int .i64 e):=(af hx5 2).trans rfl;have hw1:IntKind.i64.wrap ((e:Int)-f)=e-f:=by rw [IntKind.wrap_i64];omega
      have hw2:IntKind.i64.wrap ((n:Int)+(e-f))=n+(e-f):=by rw [IntKind.wrap_i64];omega
      have hne:(n:Int)+((e:Int)-f)=(n+(e-f):Nat):=Ha;clear hs hx5 HLY HS4;go_upto_region 23 with fail
      rw [show (n:Int)+((e-f:Nat):Int)=((n+(e-f):Nat):Int) by omega];have HS6:Hid (FZ C EA W pv.ownBlock w5 pv3 ob t ib cap (uS C.bn (k,f,e) (D.drop n) q)):=HS5.out.re (fun _ _ h=>h.elim);have HL6:Hid ((uS C.bn (k,f,e) (D.drop n) q).P.length+3*l.length<=P.length+60):=Nat.le_trans (Nat.add_le_add_right (rl C.bn q.P _ _) (3*l.length)) HQ3.out;have HN6:Hid (n+(e-f)+GL l=m):=by have h:=HNM.out;unfold Hid;omega
      have HM6:Hid (∀ p∈l,p∈iO o m):=fun p hp=>HM.out p (List.mem_cons_of_mem _ hp);clear c1 c22 hw1 hw2 hne HS5 k1 k2 k3 k4 k5 hq3;by_cases hc:c2=1
      ·have hl0:l=[]:=List.eq_nil_of_length_eq_zero Ha;have HP7:=He (HNX.out w5 HG5.out (some ⟨g,b,none⟩) 0 Ha Ha (fun h=>absurd hl0 h));have hlz:l.length=0:=by rw [hl0];rfl
       go_wp2_with fail
       subst hl0;go_step3;exact ⟨rfl,⟨ob,ib,cap,[],_,0,_,pv3,_,HS6.out,HP7.out,HWR.out,HL6.out,HN6.out,HM6.out,⟨_,rfl,rfl,rfl⟩⟩,by simp [lenOf]⟩
      ·have HP7:=He (HNX.out w5 HG5.out (some ⟨g,b+3,none⟩) (c2-1) Ha Ha (fun _=>rfl));have hci:¬ (c2:Int)=1:=Ha;have hc2:(1:Int)<=c2:=Ha;go_wp2_with fail
       go_step3;exact ⟨rfl,⟨ob,ib,cap,l,_,_,_,pv3,_,HS6.out,HP7.out,HWR.out,HL6.out,HN6.out,HM6.out,⟨_,rfl,rfl,rfl⟩⟩,by simp [lenOf]⟩
end
end Go.Proofs.YtegjelaejbacnaaGreat
