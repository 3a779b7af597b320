/- For FileForms: contracts and facts, part 22. -/
import Derived.StillTailTactics
import Derived.Lib.Overlaps
import Derived.Lib.AppendZerosOnto
import Derived.Test.YtegjelaejbacnaaGreatW21
set_option maxRecDepth 100000
set_option maxHeartbeats 25600000
set_option linter.unusedVariables false
open Go.ChangeShapes Go.WideShapes Go.ChangeAt Go.RowKit
namespace Go.Proofs.YtegjelaejbacnaaGreat
theorem tB (N:List Bk) (T:List Bool):(iy N T).length=N.length:=by unfold iy;simp
def gP (N:List Bk) (T:List Bool):List Bool:=if oz (iy N T)<N.length then setB T (oz (iy N T):Nat) true else T
theorem KS.own {W W':World} {tb hp kb q rb:Nat} {pv:Value} {P:List Wr} {T T':List Bool} {v:VM} (h:KS W tb hp kb q rb pv P T v) (hg:W.grownBy W' (some kb)) (hs:bm W' kb T'):KS W' tb hp kb q rb pv P T' v:=by
 have hb:=h.tx.bits.hp;have keep:∀ {p:Nat} {C':Array Value} {t:TypeId} {fr':Nat × Nat},W.heap[p]?=some (.cells C' t fr')->t≠197->W'.heap[p]?=some (.cells C' t fr'):=fun hp ht=>bo hg hp (fun e=>by injection e with e;subst e;exact bu hp hb ht rfl);refine ⟨⟨keep h.tx.hd Hd,h.tx.own.kept hg (.inr (lD h.tx.own hb Hd)),h.tx.ok,h.tx.srt,h.tx.few,hs⟩,h.vol.keep ?_ ?_,h.inn⟩
 ·exact (keep h.vol.hd Hd).trans h.vol.hd.symm
 ·exact (keep h.vol.row Hd).trans h.vol.row.symm
section
variable {W:World} {tb hp kb q rb:Nat} {pv:Value} {P:List Wr} {T:List Bool} {v:VM}
theorem yW (h:KS W tb hp kb q rb pv P T v) (N:List Bk) (hN:N=applyW (kf v) P) (hNo:∀ y∈N,i64 y.k/\y.bs.length=56/\ax y.bs) (h1:0<v.n) (h200:v.n<=200) :
 Calls Tryz.prog 18 #[.pointer (some ⟨tb,0,none⟩)] W fun e w'=>e=.returned (nI (iy N T))/\KS w' tb hp kb q rb pv P (gP N T) v/\W.grownBy w' (some kb):=by
 have hnl:N.length=v.n:=by rw [hN,cZ,gU h.vol.toOk]
 have HK:=He (D9 h N hN hNo h1 h200);have HKS:=He h;have hkl:=tB N T;rw [hnl] at hkl;have HTT:Hid (gP N T=if oz (iy N T)<v.n then setB T (oz (iy N T):Nat) true else T):=by unfold Hid gP;rw [hnl]
 have HKL:=He hkl;clear hkl hnl h hN hNo;generalize gP N T=TT at *;generalize iy N T=S at *;obtain ⟨fv,hfv⟩:∃ fv,fv=nI S:=⟨_,rfl⟩
 have HFV:=He hfv;rw [<- hfv];clear hfv;go_enter Tryz.func18,Tryz.ntmps18;go_wp2_with fail
 refine HK.out.mono ?_;rintro e w2 ⟨kg,rfl,hb,hbel,hkge⟩;have HF:=He (BT hb);have HB:=He hbel;have HK2:=He (HKS.out.below hbel);have hgn:=dM hbel;clear hb hbel hkge HK;have hfle:=FL S;rw [<- HFV.out] at HF;have hge:=dM HB.out;have HG:Hid (W.grownBy w2 (some kb)):=⟨hge.os,hge.tape,hge.output,hge.size,fun k hk _=>hge.block k hk Hb⟩
 clear hge hgn;by_cases hlt:oz S<v.n
 ·obtain ⟨z,hz⟩:∃ z,z=oz S:=⟨_,rfl⟩
  have hfv2:fv=.tuple #[.int .i64 (z:Int),.bool true]:=by rw [HFV.out];unfold nI;rw [if_pos (by rw [HKL.out];exact hlt),hz]
  have hTT:TT=setB T (z:Int) true:=by rw [HTT.out,if_pos hlt,hz]
  subst hfv2;subst hTT;have hz200:z<=200:=by rw [hz];omega
  have HBS:=fun W (hb:bm W kb T)=>jb hb (z:Int) (by constructor <;> omega);have HBS:=He HBS;clear hz hlt hfle HTT HFV;go_wp2_with fail
  refine HF.out.mono ?_;rintro e w3 ⟨rfl,rfl⟩;have c2:=HK2.out.tx.c2;have HB2:=He (HBS.out w2 HK2.out.tx.bits);go_wp2_with fail
  refine HB2.out.mono ?_;rintro e w4 ⟨rfl,hs4,ht4⟩;have hgg:=fx ht4;have HG4:=He (aW HG.out hgg);have HK4:Hid (KS w4 tb hp kb q rb pv P (setB T (z:Int) true) v):=HK2.out.own hgg hs4;clear hgg hs4 ht4 HB2 HBS c2;go_wp2_with fail
  go_ret2
  exact ⟨rfl,HK4.out,HG4.out⟩
 ·have hfv2:fv=.tuple #[.int .i64 0,.bool false]:=by rw [HFV.out];unfold nI;rw [if_neg (by rw [HKL.out];exact hlt)]
  have hTT:TT=T:=by rw [HTT.out,if_neg hlt]
  subst hfv2;subst hTT;clear hlt hfle HTT HFV;go_wp2_with fail
  refine HF.out.mono ?_;rintro e w3 ⟨rfl,rfl⟩;go_wp2_with fail
  go_ret2
  exact ⟨rfl,HK2.out,HG.out⟩
theorem xg {x y:Value} (hx:W.heap[tb]?=some (.cells #[.pointer (some ⟨hp,0,none⟩),x,y] 107 (0,0))) (hv:aM W q hp rb v) (h200:v.n<=200) :
 Calls Tryz.prog 45 #[.pointer (some ⟨tb,0,none⟩)] W fun e w'=>e=.returned (.tuple #[])/\∃ kb,KS w' tb hp kb q rb (.slice none 0 0) [] (List.replicate v.n false) v/\W.grownBy w' (some tb)/\W.heap.size<=kb:=by
 have HH:=He hx;have HV:=He hv;have c1:W.cell? ⟨tb,1,none⟩=some x:=(af hx 1).trans rfl;have f1:=az hx 1;have hne:∀ {p:Nat} {C':Array Value} {t:TypeId} {fr':Nat × Nat},W.heap[p]?=some (.cells C' t fr')->t≠107->p≠tb:=fun hp ht=>bu hp hx ht;have hv1:aM (W.setCell ⟨tb,1,none⟩ (.slice none 0 0)) q hp rb v:=hv.keep (heap_setCell_other _ _ _ _ (fun e=>hne hv.hd Hd e)) (heap_setCell_other _ _ _ _ (fun e=>hne hv.row Hd e));have hx1:(W.setCell ⟨tb,1,none⟩ (.slice none 0 0)).heap[tb]?=some (.cells #[.pointer (some ⟨hp,0,none⟩),.slice none 0 0,y] 107 (0,0)):=ah hx _;have HV1:=He hv1;have HX1:=He hx1;have HG1:=He (br W tb 1 (.slice none 0 0));clear hx hv hv1 hx1 hne;obtain ⟨n,hn⟩:∃ n,n=v.n:=⟨_,rfl⟩
 rw [<- hn] at h200 ⊢;have HVN:=He hn;clear hn;go_enter Tryz.func45,Tryz.ntmps45;go_upto_region 1 with fail
 clear c1 f1;generalize W.setCell ⟨tb,1,none⟩ (.slice none 0 0)=W1 at *;have c0:W1.cell? ⟨tb,0,none⟩=some (.pointer (some ⟨hp,0,none⟩)):=(af HX1.out 0).trans rfl;have HVB:=He (kH HV1.out);rw [<- HVN.out] at HVB;have HBN:=He (Aj (n:Int) (by constructor <;> omega) W1);rw [show (min (max (n:Int) 0) 200).toNat=n by omega] at HBN;go_wp2_with fail
 refine HVB.out.mono ?_;rintro e w2 ⟨rfl,rfl⟩;go_wp2_with fail
 refine HBN.out.mono ?_;rintro e w3 ⟨kb,rfl,hkb,hbits,hb3⟩;have hx3:=Go.Proofs.YtegjelaejbacnaaGreat.kb hb3 HX1.out;have c2:w3.cell? ⟨tb,2,none⟩=some y:=(af hx3 2).trans rfl;have f2:=az hx3 2;have hv3:=HV1.out.below hb3;have hne:∀ {p:Nat} {C':Array Value} {t:TypeId} {fr':Nat × Nat},w3.heap[p]?=some (.cells C' t fr')->t≠107->p≠tb:=fun hp ht=>bu hp hx3 ht;have hks:KS (w3.setCell ⟨tb,2,none⟩ (.pointer (some ⟨kb,0,none⟩))) tb hp kb q rb (.slice none 0 0) [] (List.replicate n false) v:=by
  refine ⟨⟨ah hx3 _,World.ownsRow_nil _ _ _ _,(fun x hx=>by cases hx),List.Pairwise.nil,Hb,⟨hbits.len,?_⟩⟩,hv3.keep (heap_setCell_other _ _ _ _ (fun e=>hne hv3.hd Hd e)) (heap_setCell_other _ _ _ _ (fun e=>hne hv3.row Hd e)),(fun x hx=>by cases hx)⟩;exact (heap_setCell_other _ _ _ _ (fun e=>hne hbits.hp Hd e)).trans hbits.hp
 have hgf:W.grownBy (w3.setCell ⟨tb,2,none⟩ (.pointer (some ⟨kb,0,none⟩))) (some tb):=aW (fZ HG1.out hb3) (br w3 tb 2 _);have HKS:=He hks;have HGF:=He hgf;have HKB:Hid (W.heap.size<=kb):=by unfold Hid;rw [hkb];exact HG1.out.size
 clear hks hgf hne hv3 hx3 hbits hb3 hkb;go_wp2_with fail
 go_end0
 exact ⟨rfl,kb,HKS.out,HGF.out,HKB.out⟩
end
theorem BV {W:World} {hp q rb:Nat} {v:VM} (hv:aM W q hp rb v) (h200:v.n<=200) :
 Calls Tryz.prog 16 #[.pointer (some ⟨hp,0,none⟩)] W fun e w'=>∃ tb kb,e=.returned (.pointer (some ⟨tb,0,none⟩))/\KS w' tb hp kb q rb (.slice none 0 0) [] (List.replicate v.n false) v/\Below W.heap.size W w'/\W.heap.size<=tb/\W.heap.size<=kb:=by
 have h0:=heap_alloc_new W (.cells #[.pointer (some ⟨hp,0,none⟩),.slice none 0 0,.pointer none] 107);have hb:=aK (w:=W) (.cells #[.pointer (some ⟨hp,0,none⟩),.slice none 0 0,.pointer none] 107);have HBG:=He (xg h0 (hv.below hb) h200);have HB:=He hb;clear h0 hb hv;go_enter Tryz.func16,Tryz.ntmps16;go_wp2_with fail
 refine HBG.out.mono ?_;rintro e w2 ⟨rfl,kb,hks,hg,hkb⟩;have HKS:=He hks;have HBF:=He (HB.out.grown hg HB.out.size (fun k e=>by injection e with e;subst e;exact Nat.le_refl _));have HKB:Hid (W.heap.size<=kb):=Nat.le_trans HB.out.size hkb;clear hks hg hkb;go_wp2_with fail
 go_ret;exact ⟨_,kb,rfl,HKS.out,HBF.out,Nat.le_refl _,HKB.out⟩
structure TV (w0 W:World) (F:Nat->Prop) (q hp rb n c:Nat) (m:DM) (v:VM):Prop where
 dev:pe W F q m
 at_:aM W q hp rb v
 low:∀ k,F k->w0.heap.size<=k
 nh:¬ F hp
 nr:¬ F rb
 ne:hp≠rb
 lh:w0.heap.size<=hp
 lr:w0.heap.size<=rb
 bel:Below w0.heap.size w0 W
 lv:Lv m v 0 n 40
 ns:m.stops=false
 ep:v.ep<=2+c
 dn:m.done.length<=200+120*c
section
variable {w0 W W':World} {F:Nat->Prop} {q hp rb n c:Nat} {m:DM} {v:VM}
theorem TV.lt (h:TV w0 W F q hp rb n c m v) {k:Nat} (hk:F k):k<W.heap.size:=by obtain ⟨O,L,_,_,h3⟩:=h.dev;exact h3 k hk
theorem TV.new (h:TV w0 W F q hp rb n c m v) {k:Nat} (hk:W.heap.size<=k):¬ F k:=fun hf=>by have:=h.lt hf;omega
theorem TV.vn (h:TV w0 W F q hp rb n c m v):v.n=n:=h.lv.parts.2.1
theorem TV.below (h:TV w0 W F q hp rb n c m v) (hb:Below W.heap.size W W'):TV w0 W' F q hp rb n c m v :=
 ⟨h.dev.below hb,h.at_.below hb,h.low,h.nh,h.nr,h.ne,h.lh,h.lr,h.bel.trans (hb.mono h.bel.size),h.lv,h.ns,h.ep,h.dn⟩
theorem TV.touch (h:TV w0 W F q hp rb n c m v) {j:Nat} (hg:W.grownBy W' (some j)) (hj:¬ F j) (h1:j≠hp) (h2:j≠rb) (h0:w0.heap.size<=j):TV w0 W' F q hp rb n c m v :=
 ⟨h.dev.keep (fun k hk hf=>hg.block k hk (fun e=>by injection e with e;subst e;exact hj hf)) hg.size,h.at_.keep (hg.block _ (ai h.at_.hd) (fun e=>by injection e with e;exact h1 e.symm)) (hg.block _ (ai h.at_.row) (fun e=>by injection e with e;exact h2 e.symm)),h.low,h.nh,h.nr,h.ne,h.lh,h.lr,h.bel.grown hg h.bel.size (fun k e=>by injection e with e;subst e;exact h0),h.lv,h.ns,h.ep,h.dn⟩
theorem TV.mono (h:TV w0 W F q hp rb n c m v) {c':Nat} (hc:c<=c'):TV w0 W F q hp rb n c' m v:={ h with ep:=by have:=h.ep;omega,dn:=by have:=h.dn;omega }
def J4 (W:World) (F:Nat->Prop) (hp rb:Nat) (k:Nat):Prop:=k<W.heap.size/\¬ F k/\k≠hp/\k≠rb
structure KC (W:World) (F:Nat->Prop) (hp rb:Nat) (W':World) (F':Nat->Prop):Prop where
 blk:∀ k,J4 W F hp rb k->W'.heap[k]?=W.heap[k]?
 nf:∀ k,k<W.heap.size->¬ F k->¬ F' k
 size:W.heap.size<=W'.heap.size
theorem TV.sv (h:TV w0 W F q hp rb n c m v):SV w0 W (fun k=>k<W.heap.size/\¬ F k) q m hp rb v :=
 ⟨⟨⟨F,h.dev,h.low,fun k hk=>hk.2⟩,fun k hk=>hk.1,h.bel⟩,h.at_,⟨ai h.at_.hd,h.nh⟩,⟨ai h.at_.row,h.nr⟩,h.lh,h.lr,h.ne⟩
theorem TV.change (h:TV w0 W F q hp rb n c m v) (hc:c<=200) (hn:n<=65) (A:Option Addr) (l:List Wr) (k d:Nat) (hl:l.length=k) (hk:k<=d) (hd:d<=9223372036854775807) (hok:bS l) (hy:o6 W (J4 W F hp rb) A l) :
 Calls Tryz.prog 44 #[.pointer (some ⟨hp,0,none⟩),.slice A k d] W fun e w'=>e=.returned (.int .i64 (if jW v l then 0 else 1))/\∃ F',TV w0 w' F' q hp rb n (c+1) (rB m v l) (rC v l)/\KC W F hp rb w' F':=by
 obtain ⟨p1,p2,p3,p4,p5,p6⟩:=h.lv.parts;have hus:=h.lv.usg;have hsq:=h.lv.sqg;have hep:=h.ep;have hdn:=h.dn;have hst:=h.lv.step hok Ha Ha h.ns;have hd2:=Dk m v l;have hbl:v.B.length=n:=by rw [p4.len,p2]
 refine (vR h.sv A l k d hl hk hd hok (hy.mono (fun j hj=>⟨⟨hj.1,hj.2.1⟩,hj.2.2⟩)) Ha Ha Ha Ha Ha).mono ?_;rintro e w' ⟨he,hs,hm⟩;obtain ⟨F',h1,h2,h3⟩:=hs.ds.dev;refine ⟨he,F',⟨h1,hs.at_,h2,h3 hp ⟨ai h.at_.hd,h.nh⟩,h3 rb ⟨ai h.at_.row,h.nr⟩,h.ne,h.lh,h.lr,hs.ds.bel,hst.1,hst.2.2,Ha,Ha⟩,⟨fun j hj=>hm.blk j ⟨⟨hj.1,hj.2.1⟩,hj.2.2⟩,fun j hj hf=>h3 j ⟨hj,hf⟩,hm.size⟩⟩
end
theorem fy {W W':World} {B e sz n:Nat} {v:Value} {xs:List Value} (h:W.ownsRow B e sz v n xs) (hk:∀ k,v.ownBlock=some k->W'.heap[k]?=W.heap[k]?):W'.ownsRow B e sz v n xs:=by
 refine ⟨h.1,?_⟩;rcases h.2 with h0 | ⟨g,cap,cur,rfl,hb,hg,hr⟩
 ·exact .inl h0
 ·exact .inr ⟨g,cap,cur,rfl,hb,(hk g rfl).trans hg,hr⟩
theorem db {W:World} {B e sz n k:Nat} {v:Value} {xs:List Value} (h:W.ownsRow B e sz v n xs) (hk:v.ownBlock=some k):∃ C,W.heap[k]?=some (.cells C e (0,0)):=by
 rcases h.2 with ⟨rfl,_⟩ | ⟨g,cap,cur,rfl,hb,hg,_⟩
 ·cases hk
 ·injection hk with hk;subst hk;exact ⟨_,hg⟩
section
variable {ops:Array Oper} {rest:List Oper} {o:Oper} {a:Act} {w:World} {K:Act->World->Prop} {Q:Exit->Act->World->Prop}
theorem BW (s x:Operand) (ho:o.op=.call { callee:=.builtin .append,args:=#[s,x],argTypes:=#[49,49] })
 (v:Value) (n:Nat) (xs:List Value) (hs:a.eval s=v) (hown:w.ownsRow 0 52 58 v n xs) (u:Value) (m:Nat) (news:List Value) (hx:a.eval x=u) (hsrc:Kn w u m news) (hl:news.length=m*58) (h1:∀ y∈news,y.oneCell'=true) (h63:n+m<=1000)
 (h:∀ v' w',w'.ownsRow 0 52 58 v' (n+m) (xs++news)->w.grownBy w' v.ownBlock->(v'.ownBlock=v.ownBlock\/v'.ownBlock=some w.heap.size)->nG 52 58 n w w'->K (a.put o.dst v') w'):o.wp Tryz.prog a w K Q:=by
 obtain ⟨i0,hi,hz0,hz1,hz2⟩:=info_parts lR;exact yN s x 49 ho 52 i0 _ 58 72 Tryz.underlying49 hi hz0 hz1 hz2 (by show (cI zW).size=58;exact cQ iA) Hd v n xs hs hown u m news hx hsrc hl h1 (by simp only [maxLen];omega) Ha h
theorem lY (hgd:o.guard=none) (s x:Operand) (ho:o.op=.call { callee:=.builtin .append,args:=#[s,x],argTypes:=#[49,49] })
 (v:Value) (n:Nat) (xs:List Value) (hs:a.eval s=v) (hown:w.ownsRow 0 52 58 v n xs) (u:Value) (m:Nat) (news:List Value) (hx:a.eval x=u) (hsrc:Kn w u m news) (hl:news.length=m*58) (h1:∀ y∈news,y.oneCell'=true) (h63:n+m<=1000)
 (h:∀ v' w',w'.ownsRow 0 52 58 v' (n+m) (xs++news)->w.grownBy w' v.ownBlock->(v'.ownBlock=v.ownBlock\/v'.ownBlock=some w.heap.size)->nG 52 58 n w w'->wpList Tryz.prog ops Q rest (a.put o.dst v') w'):wpList Tryz.prog ops Q (o :: rest) a w :=
 wpList_plain hgd fun _ hK=>BW s x ho v n xs hs hown u m news hx hsrc hl h1 h63 fun v' w' h1 h2 h3 h4=>hK _ _ (h v' w' h1 h2 h3 h4)
end
section
variable {W:World} {tb hp kb:Nat} {pv:Value} {P:List Wr} {T:List Bool}
end
theorem BX {α:Type} {C xs ds ys:List α} {a N s:Nat} (hC:C.take N=xs) (ha:a<=N) (hd:ds=xs.drop a) (hy:ys.length=s) (hl:N+s<=C.length):(splice (splice C (a+s) ds) a ys).take (N+s)=xs.take a++ys++ds:=by
 have hxl:xs.length=N:=by rw [<- hC,List.length_take];omega
 have hdl:ds.length=N-a:=by rw [hd,List.length_drop,hxl]
 have hA:xs.take a=C.take a:=by rw [<- hC,List.take_take,Nat.min_eq_left ha]
 have hAl:(C.take a).length=a:=by rw [List.length_take];omega
 have hBl:((C.take (a+s)).drop a).length=s:=by rw [List.length_drop,List.length_take];omega
 have hAB:C.take (a+s)=C.take a++(C.take (a+s)).drop a:=by
  have:=List.take_append_drop a (C.take (a+s));rw [List.take_take,Nat.min_eq_left Ha] at this;exact this.symm
 generalize hR:C.drop (a+s+ds.length)=R;have hD:splice C (a+s) ds=C.take a++((C.take (a+s)).drop a++(ds++R)):=by
  unfold splice;rw [hR];rw [hAB];simp only [List.append_assoc]
  congr 2
  rw [<- hAB]
 rw [hD];unfold splice;rw [List.take_left' hAl,hA];have e1:(C.take a++((C.take (a+s)).drop a++(ds++R))).drop (a+ys.length)=ds++R:=by
  rw [<- List.append_assoc];exact List.drop_left' (by rw [List.length_append,hAl,hBl,hy])
 rw [e1,show N+s=(C.take a++ys++ds).length by simp only [List.length_append,hAl,hy,hdl];omega,<- List.append_assoc,<- List.append_assoc,List.take_left]
theorem yX {α:Type} {C xs ds ys:List α} {a N s:Nat} (hC:C.take a=xs.take a) (ha:a<=N) (hxl:xs.length=N) (hd:ds=xs.drop a) (hy:ys.length=s) (hl:N+s<=C.length):(splice (splice C a ys) (a+s) ds).take (N+s)=xs.take a++ys++ds:=by
 have hdl:ds.length=N-a:=by rw [hd,List.length_drop,hxl]
 have hAl:(C.take a).length=a:=by rw [List.length_take];omega
 have h1:(splice C a ys).take (a+s)=xs.take a++ys:=by
  unfold splice;rw [<- hC,<- List.append_assoc];exact List.take_left' (l₁:=C.take a++ys) (by rw [List.length_append,hAl,hy])
 have h1l:((splice C a ys).take (a+s)).length=a+s:=by rw [h1,<- hC,List.length_append,hAl,hy]
 generalize splice C a ys=D at h1 h1l;unfold splice;rw [<- h1,<- List.append_assoc,show N+s=(D.take (a+s)++ds).length by rw [List.length_append,h1l,hdl];omega,List.take_left]
section
variable {P:Program}
theorem js (w:World) (dT sT ty elem:TypeId) (b o dLen dCap:Nat) (a:Addr) (sLen sCap sz k:Nat) (cs:List Value)
 (hu:P.underlying dT=some (.slice elem)) (hs:(P.info? elem).map (·.size)=some sz) (hk:Nat.min sLen dLen=k) (hn:cs.length=k*sz)
 (hsrc:∀ j v,cs[j]?=some v->w.cell? (a.add j)=some v) (hc:∀ j,j<cs.length->(w.cell? ⟨b,o+j,none⟩).isSome=true) (hf:∀ j,j<cs.length->w.frozen? ⟨b,o+j,none⟩=false) (h1:∀ v∈cs,v.oneCell'=true) :
 (Builtin.copy_ #[dT,sT] ty #[.slice (some ⟨b,o,none⟩) dLen dCap,.slice (some a) sLen sCap]).run P w=.ok (goInt k) (w.setCells b o cs):=by
 have hl:=run_loadCells_list (P:=P) w a cs hsrc;have hst:=run_storeCells_cells (P:=P) b o cs 0 w (by simpa using hc) (by simpa using hf) h1;cases hq:P.info? elem with
 | none=>simp [hq] at hs
 | some i =>
   have hi:i.size=sz:=by simpa [hq] using hs
   rw [hn] at hl;simp only [Nat.add_zero] at hst;simp [Builtin.copy_,run_underlying hu,Builtin.lenOf,Builtin.firstCells,sizeOf,typeInfo,hq,hi,hk,hl,hst]
theorem rf {o:Oper} {a:Act} {w:World} {K:Act->World->Prop} {Q:Exit->Act->World->Prop} (d s:Operand) (t t':TypeId)
 (ho:o.op=.call { callee:=.builtin .copy,args:=#[d,s],argTypes:=#[t,t'] }) (v u:Value) (hd:a.eval d=v) (hs:a.eval s=u) {v':Value} {w':World}
 (hr:(Builtin.copy_ #[t,t'] o.type #[v,u]).run P w=.ok v' w') (h:K (a.put o.dst v') w'):o.wp P a w K Q:=by
 unfold Oper.wp execOp;simp only [ho,resolve,invoke,builtin,Sem.run_bind,Sem.run_pure,Result.andThen_ok,List.map_toArray,List.map_cons,List.map_nil,hd,hs,hr];exact h
theorem fA {w:World} {ops:Array Oper} {rest:List Oper} {o:Oper} {a:Act} {Q:Exit->Act->World->Prop} (hgd:o.guard=none) (d s:Operand) (t t':TypeId)
 (ho:o.op=.call { callee:=.builtin .copy,args:=#[d,s],argTypes:=#[t,t'] }) (v u:Value) (hd:a.eval d=v) (hs:a.eval s=u) {v':Value} {w':World}
 (hr:(Builtin.copy_ #[t,t'] o.type #[v,u]).run P w=.ok v' w') (h:wpList P ops Q rest (a.put o.dst v') w'):wpList P ops Q (o :: rest) a w :=
 wpList_plain hgd fun _ hK=>rf d s t t' ho v u hd hs hr (hK _ _ h)
end
theorem uM:(Tryz.prog.info? 52).map (·.size)=some 58:=by
 obtain ⟨i0,hi,hz0,hz1,hz2⟩:=info_parts lR;rw [hi];simp [hz1]
section
variable {W:World} {g cap n i sb:Nat} {xs ys:List Value} {C:Array Value} {tS:TypeId}
theorem KD (hs:W.heap[sb]?=some (.cells C tS (0,0))) {cur:Array Value} {tc:TypeId} (hg:W.heap[g]?=some (.cells cur tc (0,0))) (hne:sb≠g) (hcs:cur.size≠0) (k lb cb:Nat) :
 (callFunc 114 #[.slice (some ⟨sb,0,none⟩) 1 1,.slice (some ⟨g,k,none⟩) lb cb]).run Tryz.prog W=.ok (.value (.bool false)) W:=by
 rw [run_callFunc_extern Tryz.func114 Hc Hc Hc (e:=Extern.SlicesOverlaps.overlaps #[49,49] #[4]) Hc,
  Lib.run_overlaps_apart W 49 4 52 Tryz.underlying49 58 (fun w=>by obtain ⟨i0,hi,hz0,hz1,hz2⟩:=info_parts lR;simp [sizeOf,typeInfo,hi,hz1]) ⟨sb,0,none⟩ ⟨g,k,none⟩ 1 1 lb cb hne tS tc C.size cur.size (by simp [World.shape?,hs]) (by simp [World.shape?,hg]) hcs (az hs 0) (az hs C.size)]
 rfl
theorem yY (hown:W.ownsRow 0 52 58 (.slice (some ⟨g,0,none⟩) n cap) n xs) (hi:i<n) (hroom:n+1<=cap) (hn:n<=200) (h1:∀ x∈xs,x.oneCell'=true) (hs:W.heap[sb]?=some (.cells C tS (0,0))) (hC:C.toList=ys) (hy:ys.length=58) (h1y:∀ y∈ys,y.oneCell'=true) (hne:sb≠g) :
 Calls Tryz.prog 52 #[.slice (some ⟨g,0,none⟩) n cap,.int .i64 i,.slice (some ⟨sb,0,none⟩) 1 1] W fun e w'=>e=.returned (.slice (some ⟨g,0,none⟩) (n+1) cap)/\w'.ownsRow 0 52 58 (.slice (some ⟨g,0,none⟩) (n+1) cap) (n+1) (xs.take (i*58)++ys++xs.drop (i*58))/\W.grownBy w' (some g):=by
 obtain ⟨cur,hg,hnc,hcm,hcs,htk,_⟩:=gE hown;have hxl:=hown.1;have hov:=fun lb cb=>KD hs hg hne Ha ((i+1)*58) lb cb;have hdl:(xs.drop (i*58)).length=(n-i)*58:=by rw [List.length_drop,hxl,Nat.sub_mul]
 have hrow:=fun k (hk:k<(n+1)*58)=>(show (W.drew.cell? ⟨g,k,none⟩).isSome=true by
  rw [show W.drew.cell? ⟨g,k,none⟩=W.cell? ⟨g,k,none⟩ from rfl,af hg k,Array.getElem?_eq_getElem (by have:=Nat.mul_le_mul_right 58 hroom;omega)];rfl)
 have hcp1:∀ ty dc sc,(Builtin.copy_ #[49,49] ty #[.slice (some ⟨g,(i+1)*58,none⟩) (n-i) dc,.slice (some ⟨g,i*58,none⟩) (n+1-i) sc]).run Tryz.prog W.drew=.ok (goInt ((n-i:Nat):Int)) (W.drew.setCells g ((i+1)*58) (xs.drop (i*58))):=fun ty dc sc =>
  js W.drew _ _ ty 52 g ((i+1)*58) (n-i) dc ⟨g,i*58,none⟩ (n+1-i) sc 58 (n-i) (xs.drop (i*58)) Tryz.underlying49 uM (by simp only [Nat.min_def];split <;> omega) hdl
   (fun j v hj=>by rw [Addr.add_lit];exact jU hown (by rw [List.getElem?_drop] at hj;exact hj))
   (fun j hj=>hrow _ Ha) (fun j hj=>az hg _) (fun v hv=>h1 v (List.mem_of_mem_drop hv))
 have hh1:=cD (xs.drop (i*58)) ((i+1)*58) cur W.drew hg (by have:=Nat.mul_le_mul_right 58 hroom;omega);have hs1:(W.drew.setCells g ((i+1)*58) (xs.drop (i*58))).heap[sb]?=some (.cells C tS (0,0)):=(dr hne _ _ _).trans hs;have hG1:=cE g (xs.drop (i*58)) ((i+1)*58) W.drew;have hsl:(splice cur.toList ((i+1)*58) (xs.drop (i*58))).length=cur.size:=by rw [dQ _ _ _ (by have:=Nat.mul_le_mul_right 58 hroom;simp;omega)];simp
 obtain ⟨W1,hW1⟩:∃ W1,W1=W.drew.setCells g ((i+1)*58) (xs.drop (i*58)):=⟨_,rfl⟩
 rw [<- hW1] at hcp1 hh1 hs1 hG1;have hcp2:∀ ty dc,(Builtin.copy_ #[49,49] ty #[.slice (some ⟨g,i*58,none⟩) (n+1-i) dc,.slice (some ⟨sb,0,none⟩) 1 1]).run Tryz.prog W1=.ok (goInt 1) (W1.setCells g (i*58) ys):=fun ty dc =>
  js W1 _ _ ty 52 g (i*58) (n+1-i) dc ⟨sb,0,none⟩ 1 1 58 1 ys Tryz.underlying49 uM (by simp only [Nat.min_def];split <;> omega) Ha
   (fun j v hj=>by rw [Addr.add_lit,Nat.zero_add,af hs1 j];rw [<- hC] at hj;simpa using hj)
   (fun j hj=>by rw [af hh1,Array.getElem?_eq_getElem (by have:=Nat.mul_le_mul_right 58 hroom;simp only [List.size_toArray,hsl];omega)];rfl) (fun j hj=>az hh1 _) h1y
 have hh2:=cD ys (i*58) _ W1 hh1 (by have:=Nat.mul_le_mul_right 58 hroom;simp only [List.size_toArray,hsl];omega);have hG2:=cE g ys (i*58) W1;have HR:Hid ((W1.setCells g (i*58) ys).ownsRow 0 52 58 (.slice (some ⟨g,0,none⟩) (n+1) cap) (n+1) (xs.take (i*58)++ys++xs.drop (i*58))):=by
  have hlen:(i*58)<=n*58:=Nat.mul_le_mul_right 58 Ha;have hr2:=Nat.mul_le_mul_right 58 hroom;refine ⟨by simp only [List.length_append,List.length_take,hdl,hy,hxl];omega,.inr ⟨g,cap,_,rfl,Nat.zero_le _,hh2,hroom,hcm,?_,?_⟩⟩
  ·simp only [List.size_toArray];rw [dQ _ _ _ (by simp only [hsl];omega),hsl,hcs]
  ·rw [List.toList_toArray,List.toList_toArray];have:=BX (s:=58) htk hlen rfl hy (by simp;omega);rw [show (n+1)*58=n*58+58 by omega,show (i+1)*58=i*58+58 by omega];exact this
 have HG:Hid (W.grownBy (W1.setCells g (i*58) ys) (some g)):=aW (show W.grownBy W1 (some g) from ⟨hG1.os,hG1.tape,hG1.output,hG1.size,hG1.block⟩) hG2;clear hrow hh1 hh2 hs1 hG1 hG2 hsl hW1 hdl hxl hown h1 h1y hg hcs htk hs hC;have hle:i<=n:=Ha;have hz2:¬ ((i:Int)=(n:Int)):=Ha;have hw1:IntKind.i64.wrap ((i:Int)+1)=(i:Int)+1:=by rw [IntKind.wrap_i64];omega
 have hw2:IntKind.i64.wrap ((n:Int)+1)=(n:Int)+1:=by rw [IntKind.wrap_i64];omega
 have hb1:(0:Int)<=(i:Int)+1:=Ha;have htn:((i:Int)+1).toNat=i+1:=Ha;have hb5:(0:Int)<=(n:Int)+1:=Ha;have htn5:((n:Int)+1).toNat=n+1:=Ha;have hb2:¬ (cap=i+1):=Ha;have hb3:(i:Int)<=(n:Int)+1:=Ha;have hb3':i<=n+1:=Ha;have hb4:¬ (cap=i):=Ha;go_enter Tryz.func52,Tryz.ntmps52;go_wp2_with (simp only [hov])
 clear hov
 go_still_tail 8,Hc
 change wpList _ _ _ _ _ W.drew;go_wp2_with (first
  | (at_builtin;refine fA rfl _ _ 49 49 rfl _ _ rfl rfl (hcp1 _ _ _) ?_)
  | (at_builtin;refine fA rfl _ _ 49 49 rfl _ _ rfl rfl (hcp2 _ _) ?_))
 go_ret;exact ⟨rfl,HR.out,HG.out⟩
theorem Ea {pv:Value} (hown:W.ownsRow 0 52 58 pv n xs) (hn:n<=200) (hs:W.heap[sb]?=some (.cells C tS (0,0))) (hC:C.toList=ys) (hy:ys.length=58) (h1y:∀ y∈ys,y.oneCell'=true) :
 Calls Tryz.prog 52 #[pv,.int .i64 n,.slice (some ⟨sb,0,none⟩) 1 1] W fun e w'=>∃ v,e=.returned v/\w'.ownsRow 0 52 58 v (n+1) (xs++ys)/\W.grownBy w' pv.ownBlock/\(v.ownBlock=pv.ownBlock\/v.ownBlock=some W.heap.size):=by
 have HO:=He hown;have HSR:Hid (Kn W (.slice (some ⟨sb,0,none⟩) 1 1) 1 ys):=.inr ⟨⟨sb,0,none⟩,1,rfl,fun j x hj=>by rw [Addr.add_lit,Nat.zero_add,af hs j];rw [<- hC] at hj;simpa using hj⟩;have HY:=He hy;have H1:=He h1y;have hlit:(pv=.slice none 0 0/\n=0)\/∃ g cap,pv=.slice (some ⟨g,0,none⟩) n cap/\n<=cap/\cap<=9223372036854775807:=by
  rcases hown.2 with h | ⟨g,cap,cur,rfl,hb,hg,hn',hm,_⟩
  ·exact .inl h
  ·exact .inr ⟨g,cap,rfl,hn',by simp only [maxLen] at hm;omega⟩
 clear hown hs hC hy h1y;rcases hlit with ⟨rfl,rfl⟩ | ⟨g,cap,rfl,h1,h2⟩
 ·go_enter Tryz.func52,Tryz.ntmps52;go_wp2_with (first
   | (at_builtin
      go_loud (refine lY rfl (.tmp 23) (.tmp 24) rfl (.slice none 0 0) 0 xs rfl HO.out _ 1 ys rfl HSR.out HY.out H1.out Ha ?_)
      intro v' w' g1 g2 g3 g4
      go_loud (
       have G1:=He g1;have G2:=He g2;have G3:=He g3
      )
      clear g1 g2 g3 g4))
  go_ret;exact ⟨_,rfl,G1.out,G2.out,G3.out⟩
 ·go_enter Tryz.func52,Tryz.ntmps52;go_wp2_with (first
   | (at_builtin
      go_loud (refine lY rfl (.tmp 23) (.tmp 24) rfl (.slice (some ⟨g,0,none⟩) n cap) n xs rfl HO.out _ 1 ys rfl HSR.out HY.out H1.out Ha ?_)
      intro v' w' g1 g2 g3 g4
      go_loud (
       have G1:=He g1;have G2:=He g2;have G3:=He g3
      )
      clear g1 g2 g3 g4))
  all_goals (go_ret;exact ⟨_,rfl,G1.out,G2.out,G3.out⟩)
theorem BY (hown:W.ownsRow 0 52 58 (.slice (some ⟨g,0,none⟩) n cap) n xs) (hi:i<n) (hroom:¬ n+1<=cap) (hn:n<=200) (h1:∀ x∈xs,x.oneCell'=true) (hs:W.heap[sb]?=some (.cells C tS (0,0))) (hC:C.toList=ys) (hy:ys.length=58) (h1y:∀ y∈ys,y.oneCell'=true) (hne:sb≠g) :
 Calls Tryz.prog 52 #[.slice (some ⟨g,0,none⟩) n cap,.int .i64 i,.slice (some ⟨sb,0,none⟩) 1 1] W fun e w'=>∃ G,e=.returned (.slice (some ⟨W.heap.size,0,none⟩) (n+1) G)/\w'.ownsRow 0 52 58 (.slice (some ⟨W.heap.size,0,none⟩) (n+1) G) (n+1) (xs.take (i*58)++ys++xs.drop (i*58))/\Below W.heap.size W w':=by
 obtain ⟨cur,hg,hnc,hcm,hcs,htk,_⟩:=gE hown;have hcap:n=cap:=Ha;subst hcap;have hxl:=hown.1;obtain ⟨i0,hi0,hz0,hz1,hz2⟩:=info_parts lR;have hzc:(Value.agg (cI zW)).cells.size=58:=by show (cI zW).size=58;exact cQ iA
 have hdl:(xs.drop (i*58)).length=(n-i)*58:=by rw [List.length_drop,hxl,Nat.sub_mul]
 have hkk:(n:Int)+1-(i:Int)=((n+1-i:Nat):Int):=Ha;have hik:i+(n+1-i)=n+1:=Ha;have hi58:i*58<=n*58:=Nat.mul_le_mul_right 58 Ha;have hold:(Builtin.firstCells i0.size i (.slice (some ⟨g,0,none⟩) i n)).run Tryz.prog W.drew=.ok (xs.take (i*58)).toArray W.drew:=by
  rw [hz1];exact run_firstCells_some W.drew 58 i ⟨g,0,none⟩ i n (xs.take (i*58)) (by rw [List.length_take,hxl];omega) (fun j v hj=>by
   rw [Addr.add_lit,Nat.zero_add];rw [List.getElem?_take] at hj;split at hj
   ·exact jU hown hj
   ·cases hj)
 have hbig:Builtin.nextslicecap (n+1) n*i0.bytes<=281474976710656:=by rw [hz2];exact growslice_fits Ha Ha
 have hrz:∀ ty,∃ G,n+1<=G/\G<=9223372036854775807/\(Builtin.append_ #[49,3] ty #[.slice (some ⟨g,0,none⟩) i n,.int .i64 ((n:Int)+1-(i:Int))]).run Tryz.prog W =
  .ok (.slice (some ⟨W.heap.size,0,none⟩) (n+1) G) (W.drew.alloc (.cells ((xs.take (i*58)).toArray++Builtin.zeroCells (Value.agg (cI zW)).cells (n+1-i)++Builtin.zeroCells (Value.agg (cI zW)).cells (G-(n+1))) 52)):=fun ty=>by
  have h:=Lib.run_append_grow_zeros W 49 3 ty 52 i0 _ .i64 .i64 Tryz.underlying49 Tryz.underlying3 hi0 hz0 (some ⟨g,0,none⟩) i n (xs.take (i*58)) hold (n+1-i) Ha Ha Ha Ha (by rw [hz2];omega) (by rw [hik];exact hbig);rw [hik] at h;rw [hkk];refine ⟨_,grownCap_ge W _ _ _,?_,h⟩;have:=grownCap_le_maxLen W (n+1) n 52 (by unfold maxLen;omega);unfold maxLen at this;omega
 obtain ⟨G,hG1,hG2,hrz⟩:=hrz 49;obtain ⟨ROW,hROW⟩:∃ ROW:Array Value,ROW=(xs.take (i*58)).toArray++Builtin.zeroCells (Value.agg (cI zW)).cells (n+1-i)++Builtin.zeroCells (Value.agg (cI zW)).cells (G-(n+1)):=⟨_,rfl⟩
 rw [<- hROW] at hrz;have hRs:ROW.size=G*58:=by
  rw [hROW];simp only [Array.size_append,size_zeroCells,hzc,List.size_toArray,List.length_take,hxl];omega
 have hRt:ROW.toList.take (i*58)=xs.take (i*58):=by
  rw [hROW];simp only [Array.toList_append,List.append_assoc];exact List.take_left' (by rw [List.length_take,hxl];omega)
 clear hROW;obtain ⟨N,hN⟩:∃ N,N=W.heap.size:=⟨_,rfl⟩
 have hgN:g<W.heap.size:=ai hg;have hsN:sb<W.heap.size:=ai hs;have hG58:(n+1)*58<=G*58:=Nat.mul_le_mul_right 58 hG1;obtain ⟨W1,hW1⟩:∃ W1,W1=W.drew.alloc (.cells ROW 52):=⟨_,rfl⟩
 have hB1:Below W.heap.size W W1:=by rw [hW1];exact ((Below.refl W.heap.size W).drew).alloc (Nat.le_refl _) _
 have hh1:W1.heap[N]?=some (.cells ROW 52 (0,0)):=by rw [hW1,hN];exact heap_alloc_new W.drew _
 rw [<- hW1,<- hN] at hrz;clear hW1;have hs1:=kb hB1 hs;have ho1:=hU hown hB1;have hcp1:∀ ty dc,(Builtin.copy_ #[49,49] ty #[.slice (some ⟨N,i*58,none⟩) (n+1-i) dc,.slice (some ⟨sb,0,none⟩) 1 1]).run Tryz.prog W1=.ok (goInt 1) (W1.setCells N (i*58) ys):=fun ty dc =>
  js W1 _ _ ty 52 N (i*58) (n+1-i) dc ⟨sb,0,none⟩ 1 1 58 1 ys Tryz.underlying49 uM (by simp only [Nat.min_def];split <;> omega) Ha
   (fun j v hj=>by rw [Addr.add_lit,Nat.zero_add,af hs1 j];rw [<- hC] at hj;simpa using hj)
   (fun j hj=>by rw [af hh1,Array.getElem?_eq_getElem Ha];rfl) (fun j hj=>az hh1 _) h1y
 have hh2:=cD ys (i*58) ROW W1 hh1 Ha;have hB2:=i2 (g:=N) ys (i*58) hB1 Ha;have ho2:=hU hown hB2;have hsl:(splice ROW.toList (i*58) ys).length=ROW.size:=by rw [dQ _ _ _ (by simp;omega)];simp
 obtain ⟨W2,hW2⟩:∃ W2,W2=W1.setCells N (i*58) ys:=⟨_,rfl⟩
 rw [<- hW2] at hcp1 hh2 hB2 ho2;have hcp2:∀ ty dc sc,(Builtin.copy_ #[49,49] ty #[.slice (some ⟨N,(i+1)*58,none⟩) (n-i) dc,.slice (some ⟨g,i*58,none⟩) (n-i) sc]).run Tryz.prog W2.drew=.ok (goInt ((n-i:Nat):Int)) (W2.drew.setCells N ((i+1)*58) (xs.drop (i*58))):=fun ty dc sc =>
  js W2.drew _ _ ty 52 N ((i+1)*58) (n-i) dc ⟨g,i*58,none⟩ (n-i) sc 58 (n-i) (xs.drop (i*58)) Tryz.underlying49 uM (by simp only [Nat.min_def];split <;> omega) hdl
   (fun j v hj=>by rw [Addr.add_lit];exact jU ho2 (by rw [List.getElem?_drop] at hj;exact hj))
   (fun j hj=>by rw [show W2.drew.cell? ⟨N,(i+1)*58+j,none⟩=W2.cell? ⟨N,(i+1)*58+j,none⟩ from rfl,af hh2,Array.getElem?_eq_getElem (by simp only [List.size_toArray,hsl];omega)];rfl) (fun j hj=>az hh2 _) (fun v hv=>h1 v (List.mem_of_mem_drop hv))
 have hh3:=cD (xs.drop (i*58)) ((i+1)*58) _ W2.drew hh2 (by simp only [List.size_toArray,hsl];omega);have hB3:=i2 (g:=N) (xs.drop (i*58)) ((i+1)*58) hB2.drew Ha;rw [<- hN] at hB3;have HB3:=He hB3;clear hB3;have HR:Hid ((W2.drew.setCells N ((i+1)*58) (xs.drop (i*58))).ownsRow 0 52 58 (.slice (some ⟨N,0,none⟩) (n+1) G) (n+1) (xs.take (i*58)++ys++xs.drop (i*58))):=by
  refine ⟨by simp only [List.length_append,List.length_take,hdl,hy,hxl];omega,.inr ⟨N,G,_,rfl,Nat.zero_le _,hh3,hG1,by unfold maxLen;omega,?_,?_⟩⟩
  ·simp only [List.size_toArray];rw [dQ _ _ _ (by simp only [hsl];omega),hsl,hRs]
  ·rw [List.toList_toArray,List.toList_toArray];have:=yX (s:=58) hRt hi58 hxl rfl hy (by simp;omega);rw [show (n+1)*58=n*58+58 by omega,show (i+1)*58=i*58+58 by omega];exact this
 rw [<- hN];clear hN hgN hsN;clear hh1 hh2 hh3 hs1 hsl hW2 hdl hxl hown h1 h1y hg hcs htk hs hC ho1 ho2 hB1 hB2 hRs hRt hold hbig hi0 hz0 hz1 hz2 hzc hG58 hi58 hik hkk;have hle:i<=n:=Ha;have hz2:¬ ((i:Int)=(n:Int)):=Ha;have hz3:(n:Int)<(n:Int)+1:=Ha;have hw1:IntKind.i64.wrap ((i:Int)+1)=(i:Int)+1:=by rw [IntKind.wrap_i64];omega
 have hw2:IntKind.i64.wrap ((n:Int)+1)=(n:Int)+1:=by rw [IntKind.wrap_i64];omega
 have hw3:IntKind.i64.wrap ((n:Int)+1-(i:Int))=(n:Int)+1-(i:Int):=by rw [IntKind.wrap_i64];omega
 have hb1:(0:Int)<=(i:Int)+1:=Ha;have htn:((i:Int)+1).toNat=i+1:=Ha;have hb2:¬ (G=i+1):=Ha;have hb3:(i:Int)<=(n:Int):=Ha;have hb3':i<=n+1:=Ha;have hb4:¬ (G=i):=Ha;have hb5:¬ (n=i):=Ha;go_enter Tryz.func52,Tryz.ntmps52;go_wp2_with (first
  | (at_builtin;refine Lib.wpList_append_run _ rfl _ _ _ _ rfl _ _ rfl rfl _ _ hrz ?_)
  | (at_builtin;refine fA rfl _ _ 49 49 rfl _ _ rfl rfl (hcp1 _ _) ?_))
 go_still_tail 8,Hc
 change wpList _ _ _ _ _ W2.drew;go_wp2_with (first
  | (at_builtin;refine fA rfl _ _ 49 49 rfl _ _ rfl rfl (hcp2 _ _ _) ?_))
 go_ret;exact ⟨G,rfl,HR.out,HB3.out⟩
end
theorem yZ {w:World} {g:Nat} {x:Wr} {t:TypeId} (h:w.heap[g]?=some (.cells (cI x) t (0,0))):w.rangeAt g 0 (wrL x):=fun j v hj=>by
 rw [Nat.zero_add,af h,<- Array.getElem?_toList,jO];exact hj
theorem za {α:Type} (enc:α->List Value) (x:α) (l:List α):rowL enc (x :: l)=enc x++rowL enc l:=rfl
theorem FQ {W:World} {B e sz n:Nat} {v:Value} {xs:List Value} (h:W.ownsRow B e sz v n xs):∃ A n c,v=.slice A n c:=by
 rcases h.2 with ⟨h0,_⟩ | ⟨g,cap,cur,h0,_⟩
 ·exact ⟨_,_,_,h0⟩
 ·exact ⟨_,_,_,h0⟩
theorem uN {w w':World} {r:Option Nat} (h:w.grownBy w' none):w.grownBy w' r:=⟨h.os,h.tape,h.output,h.size,fun k hk _=>h.block k hk Hb⟩
theorem Eb {w w':World} {g:Nat} (h:w.grownBy w' none):w.grownBy w' (some g):=uN h
theorem Al (t k:Int) (bs:List Int) (hb:bs.length=56):Tryz.prog.built 52 [(0,.int .i64 t),(1,.agg (ab k bs))]=some (cI ⟨t,k,bs⟩):=by
 have hS:Tryz.prog.underlying 52=some (.struct (Tryz.prog.fieldsOf 52)):=Hc;obtain ⟨i0,hi,hz0,hz1,hz2⟩:=info_parts lR;have hpl:(Tryz.prog.fieldsOf 52).toList.mapM (fun f=>(Tryz.prog.info? f.type).map fun i=>(f.offset,i.size))=some [(0,1),(1,57)]:=Hc;have hzl:(wrL zW).length=58:=bw iA;have hl:(blkL k bs).length=57:=aZ hb;have hs1:splice (wrL zW) 0 [.int .i64 t]=.int .i64 t :: blkL 0 ay:=rfl;have hs2:splice (Value.int .i64 t :: blkL 0 ay) 1 (blkL k bs)=wrL ⟨t,k,bs⟩:=by
  unfold splice wrL;rw [hl,List.drop_of_length_le (by simp [aZ al])];simp
 unfold Program.built;rw [hi,hS];dsimp only;rw [hz0,hpl];dsimp only;rw [ge (off:=0) (size:=1) rfl rfl (by show 0+1<=(cI zW).size;rw [cQ iA];decide)];rw [ge (off:=1) (size:=57) rfl (by show (ab k bs).size=57;exact aN hb) (by
  simp only [List.size_toArray];show 1+57<=(splice (cI zW).toList 0 [Value.int .i64 t]).length;rw [jO,hs1];simp [aZ al])]
 unfold Instr.fill
 congr 1
 show (splice (splice (cI zW).toList 0 [Value.int .i64 t]).toArray.toList 1 (ab k bs).toList).toArray=_;rw [jO,hs1,bp,List.toList_toArray,hs2];rfl
theorem rg {ops:Array Oper} {rest:List Oper} {o:Oper} {a:Act} {w:World} {Q:Exit->Act->World->Prop} (hgd:o.guard=none) (x y:Operand) (t k:Int) (bs:List Int) (hb:bs.length=56) (ho:o.op=.build 52 #[(0,x),(1,y)]) (hx:a.eval x=.int .i64 t) (hy:a.eval y=.agg (ab k bs))
 (h:wpList Tryz.prog ops Q rest (a.put o.dst (.agg (cI ⟨t,k,bs⟩))) w):wpList Tryz.prog ops Q (o :: rest) a w :=
 wpList_plain hgd fun _ hK=>by
  unfold Oper.wp execOp;have hb:=run_build (P:=Tryz.prog) w 52 #[(0,.int .i64 t),(1,.agg (ab k bs))] _ (Al t k bs hb);simp only [ho,List.map_toArray,List.map_cons,List.map_nil,hx,hy,Sem.run_bind,hb,Result.andThen_ok];exact hK _ _ h
theorem xh {W:World} {pv:Value} {n i sb:Nat} {xs ys:List Value} {C:Array Value} {tS:TypeId} (hown:W.ownsRow 0 52 58 pv n xs) (hi:i<=n) (hn:n<=200) (h1:∀ x∈xs,x.oneCell'=true) (hs:W.heap[sb]?=some (.cells C tS (0,0))) (hC:C.toList=ys) (hy:ys.length=58) (h1y:∀ y∈ys,y.oneCell'=true) (hne:∀ k,pv.ownBlock=some k->sb≠k) :
 Calls Tryz.prog 52 #[pv,.int .i64 i,.slice (some ⟨sb,0,none⟩) 1 1] W fun e w'=>∃ v,e=.returned v/\w'.ownsRow 0 52 58 v (n+1) (xs.take (i*58)++ys++xs.drop (i*58))/\W.grownBy w' pv.ownBlock/\(v.ownBlock=pv.ownBlock\/∃ k,v.ownBlock=some k/\W.heap.size<=k):=by
 by_cases he:i=n
 ·subst he;refine (Ea hown hn hs hC hy h1y).mono ?_;rintro e w' ⟨v,rfl,g1,g2,g3⟩;refine ⟨v,rfl,?_,g2,g3.imp id fun g=>⟨_,g,Nat.le_refl _⟩⟩;rw [<- hown.1,List.take_length,List.drop_length,List.append_nil];exact g1
 ·have hlit:∃ g cap,pv=.slice (some ⟨g,0,none⟩) n cap:=by
   rcases hown.2 with ⟨_,h0⟩ | ⟨g,cap,cur,e,_⟩
   ·omega
   ·exact ⟨g,cap,e⟩
  obtain ⟨g,cap,rfl⟩:=hlit;by_cases hroom:n+1<=cap
  ·refine (yY hown Ha hroom hn h1 hs hC hy h1y (hne g rfl)).mono ?_;rintro e w' ⟨rfl,g1,g2⟩;exact ⟨_,rfl,g1,g2,.inl rfl⟩
  ·refine (BY hown Ha hroom hn h1 hs hC hy h1y (hne g rfl)).mono ?_;rintro e w' ⟨G,rfl,g1,g2⟩;exact ⟨_,rfl,g1,uN (dM g2),.inr ⟨_,rfl,Nat.le_refl _⟩⟩
structure Am (W w':World) (tb:Nat) (ob:Option Nat):Prop where
 os:w'.os=W.os
 tape:w'.tape=W.tape
 output:w'.output=W.output
 size:W.heap.size<=w'.heap.size
 block:∀ k,k<W.heap.size->k≠tb->some k≠ob->w'.heap[k]?=W.heap[k]?
section
variable {W W':World} {tb hp kb q rb:Nat} {pv pv':Value} {P:List Wr} {T:List Bool} {v:VM}
theorem KS.puts (h:KS W tb hp kb q rb pv P T v) {y:Wr} (hy:y.Ok) (h0:0<=y.t) (h1:y.t<v.n) (hfew:P.length<200) (hd:W'.heap[tb]?=some (.cells #[.pointer (some ⟨hp,0,none⟩),pv',.pointer (some ⟨kb,0,none⟩)] 107 (0,0)))
 (ho:W'.ownsRow 0 52 58 pv' (gm P y).length (rowL wrL (gm P y))) (e1:W'.heap[hp]?=W.heap[hp]?) (e2:W'.heap[rb]?=W.heap[rb]?) (e3:W'.heap[kb]?=W.heap[kb]?):KS W' tb hp kb q rb pv' (gm P y) T v:=by
 have hl:=xc P y;refine ⟨⟨hd,ho,fun x hx=>?_,xa h.tx.srt y,Ha,⟨h.tx.bits.len,e3.trans h.tx.bits.hp⟩⟩,h.vol.keep e1 e2,fun x hx=>?_⟩
 ·rcases wZ hx with rfl | hx
  ·exact hy
  ·exact h.tx.ok x hx
 ·rcases wZ hx with rfl | hx
  ·exact ⟨h0,h1⟩
  ·exact h.inn x hx
end
theorem rh {p:Bk->Prop}:∀ (P:List Wr) (S:List Bk),(∀ y∈S,p y)->(∀ x∈P,p ⟨x.k,x.bs⟩)->∀ y∈applyW S P,p y
 | [],S,h,_=>h
 | x :: P,S,h,hx=>by
   rw [jr];refine rh P _ ?_ (fun z hz=>hx z (List.mem_cons_of_mem _ hz));split
   ·intro y hy;rcases List.mem_or_eq_of_mem_set hy with hy | rfl
    ·exact h y hy
    ·exact hx x (List.mem_cons_self ..)
   ·exact h
theorem KS.wk {W:World} {tb hp kb q rb:Nat} {pv:Value} {P:List Wr} {T:List Bool} {v:VM} (h:KS W tb hp kb q rb pv P T v):∀ y∈applyW (kf v) P,i64 y.k/\y.bs.length=56/\ax y.bs :=
 rh (p:=fun y=>i64 y.k/\y.bs.length=56/\ax y.bs) P _ (fun y hy=>by
  have hx:=Fn h.vol.toOk y hy;exact ⟨by have:=hx.k;constructor <;> omega,hx.len,hx.b⟩) (fun x hx=>⟨(h.tx.ok x hx).k,(h.tx.ok x hx).len,(h.tx.ok x hx).b⟩)
structure go (w0:World) (L4 L6 L7 L8:Bool) (W:World):Prop where
 a:L7=true->L6=true
 b:L8=true->L4=true/\L6=true/\L7=true
 c:L8=false->Below w0.heap.size w0 W
section
variable {w0 W:World} {L4 L6 L7 L8:Bool}
theorem go.b8 (h:go w0 L4 L6 L7 L8 W) (h8:L8=false):Below w0.heap.size w0 W:=h.c h8
theorem go.b4 (h:go w0 L4 L6 L7 L8 W) (h4:L4=false):Below w0.heap.size w0 W:=h.c (by cases h8:L8 with | false=>rfl | true=>have:=(h.b h8).1;rw [h4] at this;cases this)
theorem go.b6 (h:go w0 L4 L6 L7 L8 W) (h6:L6=false):Below w0.heap.size w0 W:=h.c (by cases h8:L8 with | false=>rfl | true=>have:=(h.b h8).2.1;rw [h6] at this;cases this)
theorem go.b7 (h:go w0 L4 L6 L7 L8 W) (h7:L7=false):Below w0.heap.size w0 W:=h.c (by cases h8:L8 with | false=>rfl | true=>have:=(h.b h8).2.2;rw [h7] at this;cases this)
theorem go.l4 (h:go w0 L4 L6 L7 L8 W):go w0 true L6 L7 L8 W:=⟨h.a,fun e=>⟨rfl,(h.b e).2⟩,h.c⟩
theorem go.l6 (h:go w0 L4 L6 L7 L8 W):go w0 L4 true L7 L8 W:=⟨fun _=>rfl,fun e=>⟨(h.b e).1,rfl,(h.b e).2.2⟩,h.c⟩
theorem go.l7 {W':World} (h:go w0 L4 L6 L7 L8 W) (h7:L7=false) (h6:L6=true) (hb:Below w0.heap.size w0 W'):go w0 L4 L6 true L8 W':=⟨fun _=>h6,fun e=>⟨(h.b e).1,(h.b e).2.1,rfl⟩,fun _=>hb⟩
theorem go.l8 {W':World} (h:go w0 L4 L6 L7 L8 W) (h4:L4=true) (h7:L7=true):go w0 L4 L6 L7 true W':=⟨h.a,fun _=>⟨h4,h.a h7,h7⟩,fun e=>by cases e⟩
end
def zb (ob:Option Nat) (i:Nat) (w w':World):Prop:=if i=7 then w.grownBy w' none else if i=8 then w.grownBy w' ob else w'=w
theorem zb.refl (ob:Option Nat) (i:Nat) (w:World):zb ob i w w:=by
 unfold zb;split
 ·exact World.grownBy.refl _ _
 ·split
  ·exact World.grownBy.refl _ _
  ·rfl
def GJ (tb gl m cap k:Nat) (y:Wr) (i:Nat) (v:Value) (W:World):Prop :=
 match i with
 | 0 | 1=>v=.pointer (some ⟨tb,0,none⟩)
 | 2=>v=.pointer (some ⟨tb,1,none⟩)
 | 3=>v=.slice (some ⟨gl,0,none⟩) m cap
 | 4=>v=.int .i64 (k:Int)
 | 5=>v=.agg (cI y)
 | 6=>v=.pointer (some ⟨gl,k*58,none⟩)
 | _=>True
def Ec (w0:World) (tb k:Nat) (pv:Value) (P:List Wr) (y:Wr) (i:Nat) (v:Value) (W:World):Prop :=
 match i with
 | 0 | 1 | 2 | 9=>v=.pointer (some ⟨tb,0,none⟩)
 | 3 | 10=>v=.pointer (some ⟨tb,1,none⟩)
 | 4=>v=pv
 | 5=>v=.int .i64 (k:Int)
 | 6=>v=.agg (cI y)
 | 7=>(∃ b,v=.slice (some ⟨b,0,none⟩) 1 1/\w0.heap.size<=b/\W.heap[b]?=some (.cells (cI y) 52 (0,0)))
 | 8=>(W.ownsRow 0 52 58 v (gm P y).length (rowL wrL (gm P y))/\w0.grownBy W pv.ownBlock/\(v.ownBlock=pv.ownBlock\/∃ k,v.ownBlock=some k/\w0.heap.size<=k))
 | _=>True
theorem BZ {W:World} {tb hp kb q rb:Nat} {pv:Value} {P:List Wr} {T:List Bool} {v:VM} (h:KS W tb hp kb q rb pv P T v) (t:Int) (ht:i64 t) (x:Bk) (hxk:i64 x.k) (h56:x.bs.length=56) (hB:ax x.bs) (hfew:P.length<200) :
 Calls Tryz.prog 21 #[.pointer (some ⟨tb,0,none⟩),.int .i64 t,.agg (ab x.k x.bs)] W fun e w'=>e=.returned (.bool (decide (0<=t/\t<v.n)))/\∃ pv',KS w' tb hp kb q rb pv' (if 0<=t/\t<v.n then gm P ⟨t,x.k,x.bs⟩ else P) T v/\Am W w' tb pv.ownBlock/\(pv'.ownBlock=pv.ownBlock\/∃ k,pv'.ownBlock=some k/\W.heap.size<=k):=by
 have e5:=heap_alloc_new W (.cells (ab x.k x.bs) 37);have hb1:=aK (w:=W) (.cells (ab x.k x.bs) 37);have HGE:=He (lE (h.below hb1).tx (h.below hb1).vol h.inn t ht);have HB1:=He hb1;have HK:=He h;have H56:=He h56;obtain ⟨p5,hp5⟩:∃ p5,p5=W.heap.size:=⟨_,rfl⟩
 rw [<- hp5] at e5;have HP5:=He hp5;have HWK:Hid ((gB (applyW (kf v) P) t).bs.length=56):=(Ak (fun y hy=>(h.wk y hy).2) t).1;clear h hb1 h56;obtain ⟨r,hr⟩:∃ r,r=gB (applyW (kf v) P) t:=⟨_,rfl⟩
 rw [<- hr] at HGE HWK;obtain ⟨ib,hib⟩:∃ ib,ib=decide (0<=t/\t<(v.n:Int)):=⟨_,rfl⟩
 rw [<- hib] at HGE ⊢;have HIB:=He hib;obtain ⟨R,hR⟩:∃ R,R=(if 0<=t/\t<(v.n:Int) then gm P ⟨t,x.k,x.bs⟩ else P):=⟨_,rfl⟩
 rw [<- hR];have HR:=He hR;clear hr hp5 hib hR;go_enter Tryz.func21,Tryz.ntmps21;go_upto_region 1 with fail
 rw [<- HP5.out];generalize W.alloc (.cells (ab x.k x.bs) 37)=W1 at *;go_wp2_with fail
 refine HGE.out.mono ?_;rintro e w2 ⟨rfl,hb2⟩;have h7:=heap_alloc_new w2 (.cells (ab 0 ay) 37);have hb3:Below W1.heap.size W1 ((w2.alloc (.cells (ab 0 ay) 37)).setRow w2.heap.size (ab r.k r.bs)):=hb2.trans ((below_setRow (aK _) (Nat.le_refl _) _).mono hb2.size);have HB3:=He (HB1.out.trans (hb3.mono HB1.out.size));have E5:=He (Go.Proofs.YtegjelaejbacnaaGreat.kb hb3 e5);clear hb3 hb2 e5 HGE HB1;go_upto_region 2 with (first | (refine aq rfl rfl ?_) | (refine ap rfl (.tmp 7) (.tmp 16) rfl w2.heap.size rfl r.k 0 r.bs ay rfl HWK.out al h7 ?_))
 clear h7;generalize (w2.alloc (.cells (ab 0 ay) 37)).setRow w2.heap.size (ab r.k r.bs)=W3 at *;generalize w2.heap.size=p7 at *;cases ib with
 | false =>
   have hn:¬ (0<=t/\t<(v.n:Int)):=fun hh=>by have:=HIB.out;rw [decide_eq_true hh] at this;cases this
   have HRP:Hid (R=P):=by unfold Hid;rw [HR.out,if_neg hn]
   clear hn HR;go_wp2_with fail
   go_ret;rw [HRP.out];exact ⟨rfl,pv,HK.out.below HB3.out,⟨HB3.out.os,HB3.out.tape,HB3.out.output,HB3.out.size,fun k hk _ _=>HB3.out.block k hk⟩,.inl rfl⟩
 | true =>
   have hn:0<=t/\t<(v.n:Int):=of_decide_eq_true HIB.out.symm;have hRP:R=gm P ⟨t,x.k,x.bs⟩:=by rw [HR.out,if_pos hn]
   have HN:=He hn;obtain ⟨y,hy⟩:∃ y:Wr,y=⟨t,x.k,x.bs⟩:=⟨_,rfl⟩
   rw [<- hy] at hRP;have HRP:=He hRP;have HYO:Hid y.Ok:=by rw [hy];exact ⟨ht,hxk,H56.out,hB⟩
   have HYE:=He hy;have HY:Hid (y.bs.length=56):=HYO.out.len;have hyt:y.t=t:=by rw [hy]
   have HYT:=He hyt;clear hn hy HIB hyt hRP HR;have h9:=heap_alloc_new W3 (.cells (cI zW) 52);go_upto_region 5 with (first
    | (refine aQ rfl (.tmp 5) rfl p5 rfl x.k x.bs H56.out E5.out ?_)
    | (refine rg rfl (.tmp 20) (.tmp 21) t x.k x.bs H56.out rfl rfl rfl ?_
       rw [<- HYE.out])
    | (refine cW rfl rfl ?_)
    | (refine cX rfl (.tmp 9) (.tmp 22) rfl W3.heap.size rfl y zW rfl HY.out iA h9 ?_))
   have HP9:=He (n4 W3 y);have HP9g:Hid (W.heap.size<=W3.heap.size):=HB3.out.size;have HB4:=He (HB3.out.trans ((fG W3 y).mono HB3.out.size));clear h9 E5 HB3;generalize (W3.alloc (.cells (cI zW) 52)).setRow W3.heap.size (cI y)=w0 at *;generalize W3.heap.size=p9 at *;have HKT:=He (HK.out.below HB4.out);have HT:Hid (∀ W,Below w0.heap.size w0 W->uI W tb hp kb pv P T):=fun W hb=>HKT.out.tx.below hb;have HFN:=He (q8 HKT.out.tx t ht);have HOB:Hid (∀ k,pv.ownBlock=some k->k<w0.heap.size):=fun k hk=>by obtain ⟨C,hC⟩:=db HKT.out.tx.own hk;exact ai hC
   have hd0:=HKT.out.tx.hd;have hne:∀ {p:Nat} {C:Array Value} {t:TypeId} {fr:Nat × Nat},w0.heap[p]?=some (.cells C t fr)->t≠52->some p≠pv.ownBlock:=fun hp' ht' e=>by
    obtain ⟨C',hC'⟩:=db HKT.out.tx.own e.symm;exact bu hp' hC' ht' rfl
   have hnt:∀ {p:Nat} {C:Array Value} {t:TypeId} {fr:Nat × Nat},w0.heap[p]?=some (.cells C t fr)->t≠107->p≠tb:=fun hp' ht'=>bu hp' hd0 ht';have HTB:Hid (∀ W5,w0.grownBy W5 pv.ownBlock->W5.heap[tb]?=some (.cells #[.pointer (some ⟨hp,0,none⟩),pv,.pointer (some ⟨kb,0,none⟩)] 107 (0,0))):=fun W5 hg=>(hg.block tb (ai hd0) (hne hd0 Hd)).trans hd0;have HTB2:Hid (∀ W5,w0.grownBy W5 pv.ownBlock->W5.cell? ⟨tb,1,none⟩=some pv):=fun W5 hg=>(af (HTB.out W5 hg) 1).trans rfl;have HE7:Hid (∀ W5,w0.grownBy W5 pv.ownBlock->W5.ownsRow 0 52 58 pv (gm P y).length (rowL wrL (gm P y))->∃ pu,KS (W5) tb hp kb q rb pu R T v/\Am W (W5) tb pv.ownBlock/\(pu.ownBlock=pv.ownBlock\/∃ k,pu.ownBlock=some k/\W.heap.size<=k)):=fun W5 hg ho=>by
    refine ⟨pv,?_,⟨hg.os.trans HB4.out.os,hg.tape.trans HB4.out.tape,hg.output.trans HB4.out.output,Nat.le_trans HB4.out.size hg.size,fun k hk _ hko=>(hg.block k (Nat.lt_of_lt_of_le hk HB4.out.size) hko).trans (HB4.out.block k hk)⟩,.inl rfl⟩;rw [HRP.out];have hk:=HKT.out;exact hk.puts HYO.out (by rw [HYT.out];exact HN.out.1) (by rw [HYT.out];exact HN.out.2) hfew (HTB.out W5 hg) ho (hg.block _ (ai hk.vol.hd) (hne hk.vol.hd Hd)) (hg.block _ (ai hk.vol.row) (hne hk.vol.row Hd)) (hg.block _ (ai hk.tx.bits.hp) (hne hk.tx.bits.hp Hd))
   have HE8:Hid (∀ (pv':Value) (W5:World),w0.grownBy W5 pv.ownBlock->W5.ownsRow 0 52 58 pv' (gm P y).length (rowL wrL (gm P y))->(pv'.ownBlock=pv.ownBlock\/∃ k,pv'.ownBlock=some k/\w0.heap.size<=k)->∃ pu,KS (W5.setCell ⟨tb,1,none⟩ pv') tb hp kb q rb pu R T v/\Am W (W5.setCell ⟨tb,1,none⟩ pv') tb pv.ownBlock/\(pu.ownBlock=pv.ownBlock\/∃ k,pu.ownBlock=some k/\W.heap.size<=k)):=fun pv' W5 hg ho hob=>by
    have h5:=HTB.out W5 hg;refine ⟨pv',?_,⟨hg.os.trans HB4.out.os,hg.tape.trans HB4.out.tape,hg.output.trans HB4.out.output,Nat.le_trans HB4.out.size (Nat.le_trans hg.size (br W5 tb 1 pv').size),fun k hk hkt hko=>(heap_setCell_other _ _ _ _ hkt).trans ((hg.block k (Nat.lt_of_lt_of_le hk HB4.out.size) hko).trans (HB4.out.block k hk))⟩,?_⟩
    ·rw [HRP.out];have hk:=HKT.out;have hoth:∀ {p:Nat} {C:Array Value} {t:TypeId} {fr:Nat × Nat},w0.heap[p]?=some (.cells C t fr)->t≠52->t≠107->(W5.setCell ⟨tb,1,none⟩ pv').heap[p]?=w0.heap[p]?:=fun hp' ht1 ht2=>(heap_setCell_other _ _ _ _ (hnt hp' ht2)).trans (hg.block _ (ai hp') (hne hp' ht1));refine hk.puts HYO.out (by rw [HYT.out];exact HN.out.1) (by rw [HYT.out];exact HN.out.2) hfew (ah h5 _) (fy ho (fun k hk2=>heap_setCell_other _ _ _ _ ?_)) (hoth hk.vol.hd Hd Hd) (hoth hk.vol.row Hd Hd) (hoth hk.tx.bits.hp Hd Hd);obtain ⟨C',hC'⟩:=db ho hk2;exact bu hC' h5 Hd
    ·exact hob.imp id fun ⟨k,g1,g2⟩=>⟨k,g1,Nat.le_trans HB4.out.size g2⟩
   go_wp2_with fail
   refine HFN.out.mono ?_;rintro e w5 ⟨rfl,rfl⟩;obtain ⟨k,hk⟩:∃ k,k=fndI P t:=⟨_,rfl⟩
   rw [<- hk];have hkle:=uD P t;rw [<- hk] at hkle;cases hf:lK P t with
   | true =>
     obtain ⟨x0,hx0,hx0t⟩:=qY hf;rw [<- hk] at hx0;have HPP:Hid (gm P y=P.set k y):=by unfold Hid gm;rw [HYT.out,hf,if_pos rfl,hk]
     have HX:=He hx0;have hkl:=(List.getElem?_eq_some_iff.1 hx0).1;obtain ⟨A,cap,hpv,hmc,hc63,hAA⟩:=HKT.out.tx.lit;obtain ⟨gl,rfl⟩:∃ gl,A=some ⟨gl,0,none⟩:=by
      rcases hAA with ⟨_,h0,_⟩ | h
      ·omega
      ·exact h
     obtain ⟨m,hm⟩:∃ m,m=P.length:=⟨_,rfl⟩
     rw [<- hm] at hpv hmc hkl;have HM:=He hm;subst hpv;have hkm:(k:Int)<m:=Ha;clear hf hx0 hx0t hk hkle hAA hm hne hnt hd0 HFN HTB HTB2 HE8 HKT HOB;go_upto_region 7 with fail
     have hJ0:Below w0.heap.size w0 w0.drew:=(Below.refl _ _).drew;have srefl:∀ (W:World),W.grownBy W none:=fun W=>World.grownBy.refl _ _;refine aw (GJ tb gl m cap k y) (fun _ W=>Below w0.heap.size w0 W) (fun _ w w'=>w.grownBy w' none) Hc Hc (fun i j v w w' _ _ h hs=>by unfold GJ at *;exact h) hJ0 ?_;clear hJ0;simp only [bW];refine ⟨?_,?_,?_,?_,?_,?_,?_,?_⟩
     ·refine aa.of rfl fun T W L hag hL hJ hLs hd=>?_;have e0:=Hf hag 0;exact Hi
     ·refine aa.of rfl fun T W L hag hL hJ hLs hd=>?_;have d30:T.getD 30 undef=_:=Hg hd 0 rfl;exact Hi
     ·refine aa.of rfl fun T W L hag hL hJ hLs hd=>?_;have d31:T.getD 31 undef=_:=Hg hd 1 rfl;exact Hi
     ·refine aa.of rfl fun T W L hag hL hJ hLs hd=>?_;have d32:T.getD 32 undef=_:=Hg hd 2 rfl;have fct0:=(HT.out W hJ).c1;exact Hi
     ·refine aa.of rfl fun T W L hag hL hJ hLs hd=>?_;have e10:=Hf hag 10;exact Hi
     ·refine aa.of rfl fun T W L hag hL hJ hLs hd=>?_;have e9:=Hf hag 9;refine wp_load_mid 52 (.tmp 9) rfl p9 0 e9 (wrL y) _ (yZ (Go.Proofs.YtegjelaejbacnaaGreat.kb hJ HP9.out)) Tryz.underlying52 rfl (by rw [bw HY.out];exact pW) ?_;exact ⟨_,rfl,rfl,hJ,srefl _⟩
     ·refine aa.of rfl fun T W L hag hL hJ hLs hd=>?_;have d33:T.getD 33 undef=_:=Hg hd 3 rfl;have d34:T.getD 34 undef=_:=Hg hd 4 rfl;exact Hi
     ·refine bg.of rfl fun T W L hag hLs hL hJ hd=>?_;have d36:T.getD 36 undef=_:=hd 6 _ Hb rfl;have d35:T.getD 35 undef=_:=hd 5 _ Hb rfl;obtain ⟨f,hf,hT⟩:=aH hag;have h36:=(hf 36).trans d36;have h35:=(hf 35).trans d35;have HJ:=He hJ;clear hag hd d36 d35 hJ hf;rw [hT];clear hT;simp only [List.pop_toArray,List.dropLast_cons_cons,List.dropLast_singleton,List.filterMap_cons,List.filterMap_nil,List.foldl_cons,List.foldl_nil,List.setIfInBounds_toArray,List.set_cons_succ,List.set_cons_zero,h36,h35];have HTW:=He (HT.out W HJ.out);have ho:=HTW.out.own;rw [<- HM.out] at ho;have HO:=He ho;clear HT ho;refine wp_store_mid 52 (.tmp 36) (.tmp 35) rfl gl (k*58) (cI y) rfl rfl (by rw [cQ HY.out];exact sF HO.out (by have:(k+1)*58<=m*58:=Nat.mul_le_mul_right 58 Ha;omega)) (by rw [cQ HY.out];exact pW) (zx _) ?_;rw [jO];have HO5:Hid ((W.setCells gl (k*58) (wrL y)).ownsRow 0 52 58 (.slice (some ⟨gl,0,none⟩) m cap) (gm P y).length (rowL wrL (gm P y))):=by
       have hs:=lT HO.out (o:=k*58) (wrL y) (by rw [bw HY.out];have:(k+1)*58<=m*58:=Nat.mul_le_mul_right 58 Ha;omega);rw [HPP.out,List.length_set,<- HM.out,<- ik (uJ HTW.out.ok) (j:=0) (cs:=wrL y) HX.out (by rw [bw HY.out];omega) (by rw [ka _ _ (by rw [bw HY.out,bw (HTW.out.ok _ (List.mem_of_getElem? HX.out)).len])])];exact hs
      have HG5:=He (cE gl (wrL y) (k*58) W);go_wp2_with fail
      go_ret;exact ⟨rfl,HE7.out _ (aW (Eb (dM HJ.out)) HG5.out) HO5.out⟩
   | false =>
     have HPP:Hid (gm P y=P.take k++y :: P.drop k):=by unfold Hid gm;rw [HYT.out,hf,hk];exact if_neg Hb
     have HINS:Hid (∀ W b,Below w0.heap.size w0 W->w0.heap.size<=b->W.heap[b]?=some (.cells (cI y) 52 (0,0))->Calls Tryz.prog 52 #[pv,.int .i64 k,.slice (some ⟨b,0,none⟩) 1 1] W fun e w'=>∃ v,e=.returned v/\w'.ownsRow 0 52 58 v (gm P y).length (rowL wrL (gm P y))/\W.grownBy w' pv.ownBlock/\(v.ownBlock=pv.ownBlock\/∃ k,v.ownBlock=some k/\W.heap.size<=k)):=fun W b hb hb1 hb2=>by
      have htx:=HT.out W hb;refine (xh htx.own hkle Ha (vL mV P) hb2 (jO y) (bw HY.out) (mV y) (fun k2 hk2 e=>by have:=HOB.out k2 hk2;omega)).mono ?_;rintro e w' ⟨v',rfl,g1,g2,g3⟩;refine ⟨v',rfl,?_,g2,g3⟩;have hfit:=uJ htx.ok;rw [HPP.out,List.length_append,List.length_cons,List.length_take,List.length_drop,show min k P.length+(P.length-k+1)=P.length+1 by omega,kG,za,<- sD hfit,<- sE hfit,<- List.append_assoc];exact g1
     clear hf hk hne hnt hd0 HFN HKT HE7;go_upto_region 8 with fail
     have hJ0:go w0 false false false false w0.drew:=⟨(fun e=>by cases e),(fun e=>by cases e),fun _=>(Below.refl _ _).drew⟩
     have srefl:=zb.refl pv.ownBlock;refine aw (Ec w0 tb k pv P y) (fun L W=>go w0 (L 4) (L 6) (L 7) (L 8) W) (zb pv.ownBlock) Hc Hc (fun i j v w w' hij hd h hs=>?_) hJ0 ?_
     ·by_cases h7:j=7
      ·subst h7;unfold Ec at *;unfold zb at hs;rw [if_neg hij] at hs;split at hs
       ·obtain ⟨b,e1,e2,e3⟩:=h;exact ⟨b,e1,e2,(hs.block b (ai e3) (fun e=>by have:=HOB.out b e.symm;omega)).trans e3⟩
       ·rw [hs];exact h
      ·by_cases h8:j=8
       ·subst h8;unfold zb at hs;split at hs
        ·rename_i h7;subst h7;exact absurd hd (Bool.eq_false_iff.1 Hc)
        ·first | rw [if_neg hij] at hs | skip
         rw [hs];exact h
       ·unfold Ec at *;split at h <;> first | exact h | exact absurd rfl h7 | exact absurd rfl h8
     clear hJ0;simp only [bW];refine ⟨?_,?_,?_,?_,?_,?_,?_,?_,?_,?_,?_,?_⟩
     ·refine aa.of rfl fun T W L hag hL hJ hLs hd=>?_;have e0:=Hf hag 0;exact Hi
     ·refine aa.of rfl fun T W L hag hL hJ hLs hd=>?_;have e0:=Hf hag 0;exact Hi
     ·refine aa.of rfl fun T W L hag hL hJ hLs hd=>?_;have d38:T.getD 38 undef=_:=Hg hd 1 rfl;exact Hi
     ·refine aa.of rfl fun T W L hag hL hJ hLs hd=>?_;have d39:T.getD 39 undef=_:=Hg hd 2 rfl;exact Hi
     ·refine aa.of rfl fun T W L hag hL hJ hLs hd=>?_;have d40:T.getD 40 undef=_:=Hg hd 3 rfl;have fct0:=(HT.out W (go.b4 hJ hL)).c1;have fct1:=go.l4 hJ;exact Hi
     ·refine aa.of rfl fun T W L hag hL hJ hLs hd=>?_;have e10:=Hf hag 10;exact Hi
     ·refine aa.of rfl fun T W L hag hL hJ hLs hd=>?_;have e9:=Hf hag 9;refine wp_load_mid 52 (.tmp 9) rfl p9 0 e9 (wrL y) _ (yZ (Go.Proofs.YtegjelaejbacnaaGreat.kb (go.b6 hJ hL) HP9.out)) Tryz.underlying52 rfl (by rw [bw HY.out];exact pW) ?_;exact ⟨_,rfl,rfl,go.l6 hJ,rfl⟩
     ·refine aa.of rfl fun T W L hag hL hJ hLs hd=>?_;have d43:T.getD 43 undef=_:=Hg hd 6 rfl;have hb:=go.b7 hJ hL;have hL6:L 6=true:=hLs ⟨6,.data⟩ Hb rfl;clear hag hd;obtain ⟨i0,hi,hz0,hz1,hz2⟩:=info_parts lR;refine gf 49 (.tmp 43) rfl 52 i0 _ 58 Tryz.underlying49 hi hz0 hz1 Hd Hd _ d43 (by show (cI y).size=58;exact cQ HY.out) ?_;exact ⟨_,rfl,⟨_,rfl,hb.size,heap_alloc_new _ _⟩,go.l7 hJ hL hL6 (hb.alloc hb.size _),World.grownBy_alloc _ _ none⟩
     ·refine aa.of rfl fun T W L hag hL hJ hLs hd=>?_;have d41:T.getD 41 undef=_:=Hg hd 4 rfl;have d42:T.getD 42 undef=_:=Hg hd 5 rfl;have x44:(∃ b,(T.getD 44 undef)=.slice (some ⟨b,0,none⟩) 1 1/\w0.heap.size<=b/\W.heap[b]?=some (.cells (cI y) 52 (0,0))):=Hg hd 7 rfl;have hb:=go.b8 hJ hL;have hL4:L 4=true:=hLs ⟨4,.data⟩ Hb rfl;have hL7:L 7=true:=hLs ⟨7,.data⟩ Hb rfl;obtain ⟨b,e44,hb1,hb2⟩:=x44;clear hag hd;have HB:=He hb;have HB2:=He hb2;clear hb hb2;go_simp;refine (HINS.out W b HB.out hb1 HB2.out).mono ?_;rintro en w' ⟨v',rfl,g1,g2,g3⟩;refine ⟨_,rfl,⟨g1,aW (uN (dM HB.out)) g2,?_⟩,(by have:=go.l8 (W':=w') hJ hL4 hL7;rw [hL4,hL7] at this;exact this),g2⟩;rcases g3 with g3 | ⟨k,g3,g4⟩
      ·exact .inl g3
      ·exact .inr ⟨k,g3,Nat.le_trans HB.out.size g4⟩
     ·refine aa.of rfl fun T W L hag hL hJ hLs hd=>?_;have d37:T.getD 37 undef=_:=Hg hd 0 rfl;exact Hi
     ·refine aa.of rfl fun T W L hag hL hJ hLs hd=>?_;have d46:T.getD 46 undef=_:=Hg hd 9 rfl;exact Hi
     ·refine bg.of rfl fun T W L hag hLs hL hJ hd=>?_;have d47:T.getD 47 undef=_:=hd 10 _ Hb rfl;have x45:(W.ownsRow 0 52 58 (T.getD 45 undef) (gm P y).length (rowL wrL (gm P y))/\w0.grownBy W pv.ownBlock/\((T.getD 45 undef).ownBlock=pv.ownBlock\/∃ k,(T.getD 45 undef).ownBlock=some k/\w0.heap.size<=k)):=hd 8 _ Hb rfl;obtain ⟨f,hf,hT⟩:=aH hag;have h47:=(hf 47).trans d47;have h45:=hf 45;rw [<- h45] at x45;have HX45:=He x45;clear h45 x45;have HJ:=He hJ;clear hag hd d47 hJ hf;rw [hT];clear hT;simp only [List.pop_toArray,List.dropLast_cons_cons,List.dropLast_singleton,List.filterMap_cons,List.filterMap_nil,List.foldl_cons,List.foldl_nil,List.setIfInBounds_toArray,List.set_cons_succ,List.set_cons_zero,h47];obtain ⟨g1,g2,g3⟩:=HX45.out;clear HX45;obtain ⟨A5,n5,c5,h45⟩:=FQ g1;rw [h45] at g1 g3 ⊢;clear h45;have HD:=He (HTB.out W g2);have c1:=HTB2.out W g2;have f1:=az HD.out 1;have G1:=He g1;have G2:=He g2;have G3:=He g3;clear g1 g2 g3 HTB HTB2 HINS HT;go_wp2_with fail
      go_ret;exact ⟨rfl,HE8.out _ _ G2.out G1.out G3.out⟩
end Go.Proofs.YtegjelaejbacnaaGreat
