/- For VolAll: contracts and facts, part 7. -/
import Derived.WalkSpells
import Derived.ChangeShapes
import Derived.Test.YtamnpblijdgdaaaGreatV05
import Derived.Test.YtamnpblijdgdaaaGreatV06
namespace Go.Proofs.YtamnpblijdgdaaaGreat
open Go.ChangeShapes Go.WideShapes Go.ChangeAt Go.RowKit
set_option linter.unusedVariables false
set_option maxRecDepth 100000
theorem infoInt:(Tryz.prog.info? 3).map (fun i=>(i.zero,i.size,i.bytes))=some (some (.int .i64 0),1,8):=by kernel_rfl
theorem rowsAt_snoc {α:Type} {w':World} {OT:Nat→Prop} {OR:Nat→Nat→Prop} {ET ER:TypeId} {sz:Nat} {enc:List α→List Value} {v' u:Value} {rows:List (List α)} {row:List α} {vs:List Value}
 (h1:RowAt w' OT ET 1 v' (rows.length+1) (vs++[u])) (h2:∀ r row,rows[r]?=some row→∃ u,vs[r]?=some u∧RowAt w' (OR r) ER sz u row.length (enc row)) (hu:RowAt w' (OR rows.length) ER sz u row.length (enc row)) (hl:vs.length=rows.length) :
 RowsAt w' OT OR ET ER sz enc v' (rows++[row]):=by
 refine ⟨vs++[u],by rw [List.length_append];exact h1,fun r row' hr=>?_⟩
 by_cases e:r<rows.length
 ·rw [List.getElem?_append_left e] at hr
  obtain ⟨u',h3,h4⟩:=h2 r row' hr
  exact ⟨u',by rw [List.getElem?_append_left (by omega)];exact h3,h4⟩
 ·have hlt:=(List.getElem?_eq_some_iff.1 hr).1
  simp only [List.length_append,List.length_cons,List.length_nil] at hlt
  have er:r=rows.length:=by omega
  subst er
  rw [List.getElem?_append_right (Nat.le_refl _)] at hr
  simp at hr
  subst hr
  exact ⟨u,by rw [List.getElem?_append_right (by omega),hl];simp,hu⟩
theorem infoRow:(Tryz.prog.info? 81).map (fun i=>(i.zero,i.size,i.bytes))=some (some (.slice none 0 0),1,24):=by kernel_rfl
theorem RowAt.ownerT {w:World} {Own Own':Nat→Prop} {E:TypeId} {sz:Nat} {v:Value} {n:Nat} {xs:List Value} (h:RowAt w Own E sz v n xs) (ho:∀ g cur,w.heap[g]?=some (.cells cur E (0,0))→v.ownBlock=some g→Own g→Own' g):RowAt w Own' E sz v n xs:=by
 refine ⟨h.1,fun g hg=>?_⟩
 rcases h.1.2 with ⟨rfl,_⟩ | ⟨g',cap,cur,rfl,_,hc,_⟩
 ·cases hg
 ·injection hg with e
  subst e
  exact ho _ cur hc rfl (h.2 _ rfl)
def traceB (x:DWr):List Int:=[((x.i/256:Nat):Int),((x.i%256:Nat):Int)]++(if x.i=65535 then [] else x.b)
theorem own_two (w:World) (o:Obj) (C0:Array Value) (hC:C0=Array.replicate 66 (.int .u8 0)) (a b:Value) :
 RowAt ((w.alloc o).alloc (.cells ((C0.setIfInBounds 0 a).setIfInBounds 1 b) 5)) (fun k=>w.heap.size≤k) 5 1 (.slice (some ⟨w.heap.size+1,0,none⟩) 2 66) 2 [a,b]:=by
 subst hC
 refine ⟨⟨rfl,Or.inr ⟨w.heap.size+1,66,_,rfl,Nat.zero_le _,heap_alloc2_new w o _,by omega,by simp [maxLen],by simp,?_⟩⟩,fun g hg=>?_⟩
 ·simp [List.replicate]
 ·injection hg with hg;dsimp only at hg;omega
set_option maxRecDepth 100000 in
set_option maxHeartbeats 1600000 in
theorem traced_any (x:DWr) (w:World) (hi:x.i≤65535) (hb:BlkOk x.b) :
 Calls Tryz.prog 67 #[.agg x.cs.toArray] w fun e w'=>(∃ v,e=.returned v∧RowAt w' (fun k=>w.heap.size≤k) 5 1 v (traceB x).length (Bs (traceB x)))∧Below w.heap.size w w':=by
 obtain ⟨i0,hi0,hz0,hz1,hz2⟩:=info_parts info5
 have hmk:=fun w:World=>run_make (P:=Tryz.prog) w 48 5 i0 _ Tryz.underlying48 hi0 hz0 .i64 .i64 2 66 (by omega) (by omega) (by rw [hz2];omega) (by omega)
 generalize hC:madeCells (Value.int .u8 0).cells ((66:Int).toNat*i0.size)=C0 at hmk
 have hC2:C0=Array.replicate 66 (.int .u8 0):=by
  rw [hz1] at hC
  rw [← hC]
  apply Array.ext
  ·simp [madeCells]
  ·intro i h1 h2;simp [madeCells,Value.cells,Nat.mod_one]
 have hc0:C0[0]?=some (.int .u8 0):=by rw [hC2];rfl
 have hc1:C0[1]?=some (.int .u8 0):=by rw [hC2];rfl
 have HC:=Lib.hid hC2
 have HI:=Lib.hid (And.intro hi0 (And.intro hz0 (And.intro hz1 hz2)))
 have v2:=fun w:World=>run_convert_float_int w 82 3 .f64 .i64 _ _ (P:=Tryz.prog) (by kernel_rfl) Tryz.underlying3 (int_fb64 x.i (by omega))
 have hx0:x.cs.toArray[0]?=some (.complex .f64 (Fx.fb x.r) (Fx.fb x.i)):=rfl
 clear hC hC2 hi0 hz0 hz1 hz2
 have HB:=Lib.hid hb
 clear hb
 generalize hD:x.cs.toArray=D at *
 have HD:=Lib.hid hD
 clear hD
 have hbel:∀ o1 o2:Obj,Below w.heap.size w ((w.alloc o1).alloc o2):=fun o1 o2=>((Below.refl _ _).alloc (Nat.le_refl _) _).alloc (by simp) _
 have HBL:=Lib.hid hbel
 clear hbel
 by_cases h5:x.i=65535
 ·have hq:((x.i:Int) != 65535)=false:=by simp;omega
  have htr:traceB x=[((x.i/256:Nat):Int),((x.i%256:Nat):Int)]:=by unfold traceB;rw [if_pos h5];rfl
  have HT:=Lib.hid htr
  clear htr h5
  go_enter Tryz.func67,Tryz.ntmps67
  go_wp2
  go_ret
  refine ⟨⟨_,rfl,?_⟩,HBL.out _ _⟩
  rw [HT.out]
  exact own_two w _ C0 HC.out _ _
 ·have hq:((x.i:Int) != 65535)=true:=by rw [bne_iff_ne];omega
  have htr:Bs (traceB x)=[.int .u8 ((x.i/256:Nat):Int),.int .u8 ((x.i%256:Nat):Int)]++Bs x.b:=by unfold traceB;rw [if_neg h5,Bs_append];rfl
  have htl:(traceB x).length=2+64:=by unfold traceB;rw [if_neg h5,List.length_append,HB.out.1];rfl
  have HT:=Lib.hid (And.intro htr htl)
  clear htr h5 htl
  go_enter Tryz.func67,Tryz.ntmps67
  go_wp2_with (at_builtin;refine wpList_push_of rfl (.tmp 21) (.tmp 23) 48 rfl 5 i0 _ 1 1 Tryz.underlying48 HI.out.1 HI.out.2.1 HI.out.2.2.1 HI.out.2.2.2 rfl (by decide) (.slice (some ⟨w.heap.size+1,0,none⟩) 2 66) 2 _ rfl _ (own_two w _ C0 HC.out _ _) ⟨w.heap.size,1,none⟩ 64 64 (Bs x.b) rfl (by rw [Bs_length];exact HB.out.1) (fun j u hj=>by rw [Addr.add_mid,blk_cell (heap_alloc2_old w _ _),← HD.out,List.getElem?_toArray,Nat.add_comm];exact hj) (Bs_one _) (by simp [maxLen]) (by omega) ?_;intro v' w3 hrow3 hgr3 _;have HR3:=Lib.hid hrow3;have HG3:=Lib.hid hgr3;clear hrow3 hgr3)
  go_ret
  refine ⟨⟨_,rfl,?_⟩,(HBL.out _ _).grown HG3.out (by simp;omega) (fun k hk=>by injection hk with hk;dsimp only at hk;omega)⟩
  rw [HT.out.1,HT.out.2]
  exact HR3.out.owner fun k _ hk=>by rcases hk with hk | hk;exact hk;simp at hk;omega
def traceL (m:DM) (r:Nat):List (List Int):=(m.done.filter (fun x=>x.r==r)).map traceB
theorem filt_next (l:List DWr) (r:Nat):∀ n k,l.length-k=n→k≤l.length→(l.take (nextI l r k)).filter (fun x=>x.r==r)=(l.take k).filter (fun x=>x.r==r):=by
 intro n
 induction n with
 | zero =>
   intro k h1 h2
   obtain rfl:k=l.length:=by omega
   rw [nextI_end]
 | succ n ih =>
   intro k h1 h2
   have hlt:k<l.length:=by omega
   have hx:l[k]?=some l[k]:=List.getElem?_eq_getElem hlt
   by_cases e:l[k].r=r
   ·rw [nextI_here hx e]
   ·rw [nextI_on hx e,ih (k+1) (by omega) (by omega),take_snoc' hx,List.filter_append]
    have:(l[k].r==r)=false:=by simpa using e
    simp [this]
theorem RowAt.apart {w:World} {O1 O2:Nat→Prop} {E1 E2:TypeId} {s1 s2 n1 n2:Nat} {v1 v2:Value} {x1 x2:List Value} (h1:RowAt w O1 E1 s1 v1 n1 x1) (h2:RowAt w O2 E2 s2 v2 n2 x2) (hE:E1≠E2) {g:Nat} (hg:v1.ownBlock=some g):v2.ownBlock≠some g:=by
 intro hg2
 rcases h1.1.2 with ⟨rfl,_⟩ | ⟨a,_,c1,rfl,_,hc1,_⟩
 ·cases hg
 ·rcases h2.1.2 with ⟨rfl,_⟩ | ⟨b,_,c2,rfl,_,hc2,_⟩
  ·cases hg2
  ·injection hg with hg;injection hg2 with hg2
   dsimp only at hg hg2
   subst hg;subst hg2
   rw [hc1] at hc2
   injection hc2 with hc2;injection hc2 with _ e
   exact hE e
theorem infoBytes:(Tryz.prog.info? 48).map (fun i=>(i.zero,i.size,i.bytes))=some (some (.slice none 0 0),1,24):=by kernel_rfl
def TxtOwn (w:World) (B:Nat) (v:Value) (ts:List (List Int)):Prop:=RowsAt w (fun k=>B≤k) (fun _ k=>B≤k) 48 5 1 Bs v ts
theorem TxtOwn.push {w w2 w3:World} {B:Nat} {v v' u:Value} {ts:List (List Int)} {t:List Int} {vs:List Value} (hb2:B≤w2.heap.size)
 (h1:RowAt w2 (fun k=>B≤k) 48 1 v ts.length vs) (h2:∀ (r:Nat) (row:List Int),ts[r]?=some row→∃ u,vs[r]?=some u∧RowAt w2 (fun k=>B≤k) 5 1 u row.length (Bs row)) (hu:RowAt w2 (fun k=>B≤k) 5 1 u t.length (Bs t))
 (h3:RowAt w3 (fun k=>(fun k=>B≤k) k∨(w2.alloc (.cells #[u] 48)).heap.size≤k) 48 1 v' (ts.length+1) (vs++[u])) (hg:(w2.alloc (.cells #[u] 48)).grownBy w3 v.ownBlock):TxtOwn w3 B v' (ts++[t]):=by
 have hl:=h1.len
 have blk:∀ x,x<w2.heap.size→v.ownBlock≠some x→w3.heap[x]?=w2.heap[x]?:=fun x hx hne=>by
  rw [hg.block x (by simp;omega) (fun e=>hne e.symm),Below.heap_alloc w2 _ x hx]
 have kp:∀ {u:Value} {row:List Int},RowAt w2 (fun k=>B≤k) 5 1 u row.length (Bs row)→RowAt w3 (fun k=>B≤k) 5 1 u row.length (Bs row):=fun {u row} h=>by
  refine ⟨⟨h.1.1,?_⟩,h.2⟩
  rcases h.1.2 with h0 | ⟨g,cap,cur,rfl,q0,q1,q2⟩
  ·exact Or.inl h0
  ·exact Or.inr ⟨g,cap,cur,rfl,q0,by rw [blk g (room_lt q1) (fun e=>h1.apart h (by decide) e rfl)];exact q1,q2⟩
 refine rowsAt_snoc (vs:=vs) (h3.owner fun x _ hx=>?_) (fun r row hr=>?_) (kp hu) (by omega)
 ·rcases hx with hx | hx
  ·exact hx
  ·simp at hx;omega
 ·obtain ⟨u',h4,h5⟩:=h2 r row hr
  exact ⟨u',h4,kp h5⟩
set_option maxRecDepth 100000 in
set_option maxHeartbeats 1600000 in
theorem trace_any {w:World} {O:Nat→DRole} {hp:Nat} {L:DLay} {m:DM} (h:DevAt w O hp L m) (r:Nat) (hr:r<m.now.length) (hmax:m.done.length<1000000) :
 Calls Tryz.prog 27 #[.pointer (some ⟨hp,0,none⟩),.int .i64 r] w fun e w'=>(∃ v,e=.returned v∧TxtOwn w' w.heap.size v (traceL m r))∧Below w.heap.size w w':=by
 have few:=h.ok.few
 have hRm:=Lib.hid (hasRegion_any h r (by constructor <;> omega))
 have hbt:hasR m r=true:=by unfold hasR;simp;omega
 rw [hbt] at hRm
 clear hbt
 obtain ⟨Ad,capd,hvd,hd1,hd2⟩:=h.done.val
 have HH:=Lib.hid h
 have HR:=Lib.hid hr
 have HVD:=Lib.hid hvd
 have hn0:=Lib.hid (next_any h r 0 hr (Nat.zero_le _) (by omega))
 clear h hvd
 generalize hN:m.done.length=N at *
 have HN:=Lib.hid hN
 clear hN
 have hle0:=nextI_le (l:=m.done) (r:=r) (i:=0) (Nat.zero_le _)
 rw [HN.out] at hle0
 have hf0:=filt_next m.done r _ 0 rfl (Nat.zero_le _)
 have HF0:=Lib.hid hf0
 clear hf0
 have hat0:=nextI_at (l:=m.done) (r:=r) (i:=0)
 rw [HN.out] at hat0
 have HAT:=Lib.hid hat0
 clear hat0
 generalize hk0:nextI m.done r 0=k0 at *
 clear hk0
 go_enter Tryz.func27,Tryz.ntmps27
 go_wp2_with fail
 refine hRm.out.mono ?_
 rintro e w' ⟨rfl,rfl⟩
 go_wp2_with fail
 refine hn0.out.mono ?_
 rintro e w' ⟨rfl,rfl⟩
 go_wp2_with fail
 go_loopw [5,6] (fun v i wr=>∃ k:Nat,i=.int .i64 k∧k≤N∧Hid (k<N→∃ x,m.done[k]?=some x∧x.r=r)∧TxtOwn wr w.heap.size v (((m.done.take k).filter (fun x=>x.r==r)).map traceB)∧Below w.heap.size w wr) (fun _ i _=>N-(intOf i).toNat)
 case atStart =>
  refine ⟨k0,rfl,by omega,HAT.out,?_,Below.refl _ _⟩
  rw [HF0.out]
  exact RowsAt.nil _ _ _ _ _ _ _
 case round =>
  obtain ⟨k,rfl,hk,HX,ht,hb⟩:=hrel
  have HB:=Lib.hid hb
  have hd:=HH.out.below hb
  have c2:=hd.c2
  rw [HVD.out] at c2
  have HD:=Lib.hid hd
  clear hb hd
  by_cases hlt:k<N
  ·obtain ⟨x,hx,hxr⟩:=HX.out hlt
   obtain ⟨g,cap',hv,_,_,_,_,_,er⟩:=HD.out.doneAt (i:=k) (x:=x) hx
   have hv2:=HVD.out
   rw [hv,HN.out] at hv2
   injection hv2 with e1 e2 e3
   subst e1;subst e3
   have hxi:=HD.out.ok.done_r (x:=x) (List.mem_of_getElem? hx)
   have hxb:=(HD.out.ok.dones x (List.mem_of_getElem? hx)).2
   have HER:=Lib.hid er
   have HXX:=Lib.hid (And.intro hx hxr)
   have HT:=Lib.hid ht
   obtain ⟨vs,t1,t2⟩:=ht
   obtain ⟨i0,hi0,hz0,hz1,hz2⟩:=info_parts infoBytes
   have HI:=Lib.hid (And.intro hi0 (And.intro hz0 (And.intro hz1 hz2)))
   have hfl:(((m.done.take k).filter (fun x=>x.r==r)).map traceB).length≤N:=by
    rw [List.length_map];have:=List.length_filter_le (fun x:DWr=>x.r==r) (m.done.take k);have h2:(m.done.take k).length≤k:=List.length_take_le _ _;omega
   generalize hfg:((m.done.take k).filter (fun x=>x.r==r)).map traceB=ts at *
   have HFG:=Lib.hid hfg
   obtain ⟨A5,c5,rfl,_,_⟩:=t1.val
   have HT1:=Lib.hid t1
   have HT2:=Lib.hid t2
   have hkk:(k:Int)<N:=by omega
   have htr:=Lib.hid (fun W=>traced_any x W hxi.2 hxb)
   clear hv e2 hx hxr er t1 t2 hi0 hz0 hz1 hz2 hfg hxb hxi
   generalize hlen:ts.length=tl at *
   have HLEN:=Lib.hid hlen
   clear hlen
   go_wp2_with (with_reducible refine wpList_load_mid rfl 127 (.tmp 32) rfl g (k*65) rfl x.cs _ HER.out Tryz.underlying127 rfl (by rw [DWr.cs_length (HD.out.ok.blk x (List.mem_of_getElem? HXX.out.1))];exact size75) ?_)
   refine (htr.out _).mono ?_
   rintro e w2 ⟨⟨u,rfl,hu⟩,hb2⟩
   obtain ⟨A6,c6,rfl,_,_⟩:=hu.val
   have HU:=Lib.hid hu
   have HB2:=Lib.hid hb2
   have hs2:=hb2.size
   generalize hul:(traceB x).length=ul at *
   have HUL:=Lib.hid hul
   clear hu hb2 hul
   go_wp2_with (at_builtin;refine wpList_push_of rfl (.tmp 26) (.tmp 35) 52 rfl 48 i0 _ 1 24 Tryz.underlying52 HI.out.1 HI.out.2.1 HI.out.2.2.1 HI.out.2.2.2 rfl (by decide) (.slice A5 tl c5) tl vs rfl _ ((HT1.out.below HB2.out).below ((Below.refl _ _).alloc (Nat.le_refl _) _)) ⟨w2.heap.size,0,none⟩ 1 1 [.slice A6 ul c6] rfl rfl (World.news_of_block (heap_alloc_new w2 _)) (fun u hu=>by rw [List.mem_singleton.1 hu];rfl) (by simp only [maxLen];omega) (by omega) ?_;intro v' w3 hrow3 hgr3 _;have HR3:=Lib.hid hrow3;have HG3:=Lib.hid hgr3;clear hrow3 hgr3)
   have hbw:w.heap.size≤w2.heap.size:=by have:=HB.out.size;omega
   have hb3:Below w.heap.size w w3:=(keepB HB.out HB2.out).trans (((Below.refl _ _).alloc hbw _).grown HG3.out (by simp;omega) (fun y hy=>HT1.out.2 y hy))
   have hpush:TxtOwn w3 w.heap.size v' (ts++[traceB x]):=by
    refine TxtOwn.push (w:=w) (w2:=w2) (v:=.slice A5 tl c5) (u:=.slice A6 ul c6) hbw (by rw [HLEN.out];exact HT1.out.below HB2.out) (fun q row hq=>?_) (by rw [HUL.out];exact HU.out.owner fun y _ hy=>Nat.le_trans HB.out.size hy) (by rw [HLEN.out];exact HR3.out) HG3.out
    obtain ⟨u',h4,h5⟩:=HT2.out q row hq
    exact ⟨u',h4,h5.below HB2.out⟩
   have HP:=Lib.hid hpush
   have HB3:=Lib.hid hb3
   have hnx:=Lib.hid (next_any (HH.out.below hb3) r (k+1) HR.out (by rw [HN.out];omega) (by rw [HN.out];omega))
   have hat:=nextI_at (l:=m.done) (r:=r) (i:=k+1)
   have hle:=nextI_le (l:=m.done) (r:=r) (i:=k+1) (by rw [HN.out];omega)
   have hfn:=filt_next m.done r _ (k+1) rfl (by rw [HN.out];omega)
   rw [HN.out] at hat hle
   have HAT2:=Lib.hid hat
   have HFN:=Lib.hid hfn
   clear hpush hb3 hat hfn
   generalize hk1:nextI m.done r (k+1)=k1 at *
   clear hk1
   go_wp2_with fail
   refine hnx.out.mono ?_
   rintro e w' ⟨rfl,rfl⟩
   go_wp2
   go_roundw
   case rel =>
    refine ⟨k1,rfl,by omega,HAT2.out,?_,HB3.out⟩
    rw [HFN.out,take_snoc' HXX.out.1,List.filter_append,List.map_append,HFG.out]
    have:(x.r==r)=true:=by simpa using HXX.out.2
    simp only [List.filter_cons,this,if_true,List.filter_nil,List.map_cons,List.map_nil]
    exact HP.out
   case measure=>simp [intOf];omega
  ·obtain rfl:k=N:=by omega
   rw [List.take_of_length_le (by rw [HN.out];exact Nat.le_refl _)] at ht
   have HT:=Lib.hid ht
   obtain ⟨vs,t1,t2⟩:=ht
   obtain ⟨A5,c5,e5,_,_⟩:=t1.val
   generalize (List.map traceB (m.done.filter fun x=>x.r==r)).length=tl at e5
   subst e5
   clear t1 t2
   have hge:¬ ((k:Int)<k):=by omega
   go_wp2
   go_ret
   exact ⟨⟨_,rfl,HT.out⟩,HB.out⟩
def zeroRow (z:Int):List (List Int):=List.replicate z.toNat (List.replicate 64 0)
theorem zeroRow_ok (z:Int):∀ b∈zeroRow z,BlkOk b:=fun b hb=>by rw [(List.mem_replicate.1 hb).2];exact zeroBlk
theorem encB_zero (n:Nat):encB (List.replicate n (List.replicate 64 0))=List.replicate (n*64) (.int .u8 0):=by
 induction n with
 | zero=>simp [encB]
 | succ n ih =>
   have:encB (List.replicate (n+1) (List.replicate 64 0))=Bs (List.replicate 64 0)++encB (List.replicate n (List.replicate 64 0)):=by unfold encB;rw [List.replicate_succ,List.flatMap_cons]
   rw [this,ih]
   unfold Bs
   rw [List.map_replicate,List.replicate_append_replicate];congr 1;omega
theorem made_zero (n:Nat):(madeCells (Value.agg (Array.replicate 64 (.int .u8 0))).cells (n*64)).toList=List.replicate (n*64) (.int .u8 0):=by
 apply List.ext_getElem?
 intro j
 by_cases hj:j<n*64
 ·simp only [madeCells,Value.cells,Array.toList_map,List.getElem?_map,Array.toList_range,List.getElem?_range hj,Option.map_some,List.getElem?_replicate,hj,if_true]
  have h64:j%64<64:=by omega
  simp [h64]
 ·simp [madeCells,hj]
def TabL (w:World) (B:Nat) (T:Nat→Nat) (p:Nat) (v:Value) (rows:List (List (List Int))):Prop :=
 RowsAt w (fun k=>B≤k∧k<w.heap.size∧T k=p) (fun r k=>B≤k∧k<w.heap.size∧T k=2*r+2+p) 81 125 64 encB v rows
structure NewAt (w:World) (B q:Nat) (vu:Value) (R:Nat) (T:Nat→Nat) (v9 v14:Value) (rows9 rows14:List (List (List Int))):Prop where
 hd:w.heap[q]?=some (.cells #[v9,v14,.slice none 0 0,vu,.bool false,.int .i64 0] 80 (0,0))
 hq:B≤q
 t9:TabL w B T 0 v9 rows9
 t14:TabL w B T 1 v14 rows14
 un:RowAt w (fun k=>B≤k) 3 1 vu R (encN (List.replicate R 0))
theorem blk_type {w:World} {q g:Nat} {C C':Array Value} {E E':TypeId} {f f':Nat × Nat} (h:w.heap[q]?=some (.cells C E f)) (h':w.heap[g]?=some (.cells C' E' f')) (hE:E≠E'):g≠q:=fun e=>by
 subst e;rw [h] at h';injection h' with h';injection h' with _ h';exact hE h'
theorem TabL.push {w1 W:World} {B q f:Nat} {T:Nat→Nat} {p:Nat} {v v':Value} {rows:List (List (List Int))} {vs:List Value} {g n:Nat} {row:List (List Int)} {C:Array Value} (hB:B≤w1.heap.size)
 (hqt:w1.heap[q]?=some (.cells C 80 (0,0)))
 (h1:RowAt w1 (fun k=>B≤k∧k<w1.heap.size∧T k=p) 81 1 v rows.length vs) (h2:∀ (r:Nat) (row:List (List Int)),rows[r]?=some row→∃ u,vs[r]?=some u∧RowAt w1 (fun k=>B≤k∧k<w1.heap.size∧T k=2*r+2+p) 125 64 u row.length (encB row))
 (ht:Touch (fun x=>v.ownBlock=some x) w1 W) (h3:RowAt W (fun k=>(B≤k∧k<w1.heap.size∧T k=p)∨w1.heap.size≤k) 81 1 v' (rows.length+1) (vs++[.slice (some ⟨g,0,none⟩) n n]))
 (hg:w1.heap.size≤g) (h4:RowAt W (fun k=>k=g) 125 64 (.slice (some ⟨g,0,none⟩) n n) row.length (encB row)) (a:Addr) (ha:a.block=q) (u0:Value) :
 TabL (W.setCell a u0) B (fun x=>if x<w1.heap.size then T x else if x=g then 2*rows.length+2+p else p) p v' (rows++[row]):=by
 subst ha
 have hsz:(W.setCell a u0).heap.size=W.heap.size:=by simp [World.setCell]
 have hqW:W.heap[a.block]?=some (.cells C 80 (0,0)):=by
  rw [ht.block _ (room_lt hqt) (fun e=>?_)];exact hqt
  rcases h1.1.2 with ⟨rfl,_⟩ | ⟨b,_,c1,rfl,_,hc1,_⟩
  ·cases e
  ·injection e with e;dsimp only at e;subst e;rw [hqt] at hc1;injection hc1 with hc1;injection hc1 with _ hc1;exact absurd hc1 (by decide)
 have kp:∀ {Own:Nat→Prop} {E:TypeId} {sz m:Nat} {u:Value} {xs:List Value},E≠80→RowAt W Own E sz u m xs→RowAt (W.setCell a u0) Own E sz u m xs:=fun hE h=>by
  refine ⟨⟨h.1.1,?_⟩,h.2⟩
  rcases h.1.2 with h0 | ⟨b,cap,cur,rfl,q0,q1,q2⟩
  ·exact Or.inl h0
  ·exact Or.inr ⟨b,cap,cur,rfl,q0,by rw [Below.heap_setCell _ _ _ _ (blk_type hqW q1 (fun e=>hE e.symm))];exact q1,q2⟩
 have hgl:=(h4.1.lt g rfl).2
 refine rowsAt_snoc (vs:=vs) (u:=.slice (some ⟨g,0,none⟩) n n) ?_ (fun r row' hr=>?_) ?_ (by have:=h1.len;omega)
 ·refine kp (by decide) (h3.ownerT fun b cur hc he ho=>?_)
  have hbl:=room_lt hc
  rw [hsz]
  rcases ho with ⟨q1,q2,q3⟩ | ho
  ·exact ⟨q1,hbl,by dsimp only;rw [if_pos q2];exact q3⟩
  ·refine ⟨by omega,hbl,?_⟩
   dsimp only
   rw [if_neg (by omega),if_neg]
   intro e
   subst e
   rcases h4.1.2 with ⟨h0,_⟩ | ⟨b',_,c',h0,_,hc',_⟩
   ·cases h0
   ·injection h0 with h0 _ _;injection h0 with h0;injection h0 with h0 _ _;subst h0
    rw [hc] at hc';injection hc' with hc';injection hc' with _ hc';exact absurd hc' (by decide)
 ·obtain ⟨u,hu,h5⟩:=h2 r row' hr
  refine ⟨u,hu,kp (by decide) ((h5.keep (w':=W) fun x hx ho=>ht.block x hx (fun e=>h1.apart h5 (by decide) e ?_)).ownerT fun b cur hc he ho=>?_)⟩
  ·have:=h1.2 x e
   rcases h5.1.2 with ⟨rfl,_⟩ | ⟨b,_,c1,rfl,_,hc1,_⟩
   ·exact absurd ho.2.2 (by omega)
   ·exact absurd ho.2.2 (by omega)
  ·rw [hsz]
   exact ⟨ho.1,room_lt hc,by dsimp only;rw [if_pos ho.2.1];exact ho.2.2⟩
 ·refine kp (by decide) (h4.owner fun x hx e=>?_)
  subst e
  rw [hsz]
  refine ⟨by omega,hgl,?_⟩
  dsimp only
  rw [if_neg (by omega),if_pos rfl]
theorem TabL.other {w1 W:World} {B q:Nat} {T:Nat→Nat} {p p':Nat} {v v2:Value} {rows2:List (List (List Int))} {g k:Nat} {C:Array Value} (hqt:w1.heap[q]?=some (.cells C 80 (0,0))) (h:TabL w1 B T p' v2 rows2) (hp:p≤1) (hp':p'≤1) (hne:p≠p') {vs:List Value} {n:Nat}
 (h1:RowAt w1 (fun k=>B≤k∧k<w1.heap.size∧T k=p) 81 1 v n vs) (ht:Touch (fun x=>v.ownBlock=some x) w1 W) (a:Addr) (ha:a.block=q) (u0:Value) :
 TabL (W.setCell a u0) B (fun x=>if x<w1.heap.size then T x else if x=g then 2*k+2+p else p) p' v2 rows2:=by
 subst ha
 have hsz:(W.setCell a u0).heap.size=W.heap.size:=by simp [World.setCell]
 have:=ht.size
 have kp:∀ {Own Own':Nat→Prop} {E:TypeId} {sz m:Nat} {u:Value} {xs:List Value},E≠80→RowAt w1 Own E sz u m xs→(∀ x,x<w1.heap.size→Own x→T x≠p∧Own' x)→RowAt (W.setCell a u0) Own' E sz u m xs:=fun hE h ho=>by
  refine ⟨⟨h.1.1,?_⟩,fun b hb=>(ho b (h.1.lt b hb).2 (h.2 b hb)).2⟩
  rcases h.1.2 with h0 | ⟨b,cap,cur,rfl,q0,q1,q2⟩
  ·exact Or.inl h0
  ·refine Or.inr ⟨b,cap,cur,rfl,q0,?_,q2⟩
   rw [Below.heap_setCell _ _ _ _ (blk_type hqt q1 (fun e=>hE e.symm)),ht.block b (room_lt q1) (fun e=>(ho b (room_lt q1) (h.2 b rfl)).1 (h1.2 b e).2.2)];exact q1
 obtain ⟨vs2,t1,t2⟩:=h
 refine ⟨vs2,kp (by decide) t1 fun x hx ho=>⟨by omega,ho.1,by omega,by dsimp only;rw [if_pos hx];exact ho.2.2⟩,fun r row hr=>?_⟩
 obtain ⟨u,hu,t3⟩:=t2 r row hr
 exact ⟨u,hu,kp (by decide) t3 fun x hx ho=>⟨by omega,ho.1,by omega,by dsimp only;rw [if_pos hx];exact ho.2.2⟩⟩
def VN7 (q f:Nat) (w1:World) (Own:Nat→Prop) (v0:Value) (n k:Nat) (vs:List Value) (i:Nat) (v:Value) (w:World):Prop :=
 match i with
 | 0 | 1 | 2 | 9=>v=.pointer (some ⟨q,0,none⟩)
 | 3 | 10=>v=.pointer (some ⟨q,f,none⟩)
 | 4=>v=v0
 | 5=>v=.int .i64 n
 | 6=>∃ g,v=.slice (some ⟨g,0,none⟩) n n∧w1.heap.size≤g∧RowAt w (fun x=>x=g) 125 64 (.slice (some ⟨g,0,none⟩) n n) n (List.replicate (n*64) (.int .u8 0))
 | 7=>∃ x g,v=.slice (some ⟨x,0,none⟩) 1 1∧w1.heap.size≤x∧w.heap[x]?=some (.cells #[.slice (some ⟨g,0,none⟩) n n] 81 (0,0))∧w1.heap.size≤g∧RowAt w (fun x=>x=g) 125 64 (.slice (some ⟨g,0,none⟩) n n) n (List.replicate (n*64) (.int .u8 0))
 | 8=>∃ g,w1.heap.size≤g∧RowAt w (fun x=>Own x∨w1.heap.size≤x) 81 1 v (k+1) (vs++[.slice (some ⟨g,0,none⟩) n n])∧RowAt w (fun x=>x=g) 125 64 (.slice (some ⟨g,0,none⟩) n n) n (List.replicate (n*64) (.int .u8 0))
 | _=>True
def SN7 (v0:Value) (i:Nat) (w w':World):Prop:=if i=8 then w.grownBy w' v0.ownBlock else w.grownBy w' none
theorem VN7.on {q f:Nat} {w1:World} {Own:Nat→Prop} {v0:Value} {n k:Nat} {vs:List Value} (hB:∀ x,v0.ownBlock=some x→x<w1.heap.size) {i j:Nat} {v:Value} {w w':World} (hij:i≠j) (h:VN7 q f w1 Own v0 n k vs j v w) (hg:SN7 v0 i w w'):VN7 q f w1 Own v0 n k vs j v w':=by
 have kp:∀ x,x<w.heap.size→w1.heap.size≤x→w'.heap[x]?=w.heap[x]?:=fun x hx hl=>by
  unfold SN7 at hg
  split at hg
  ·exact hg.block x hx (fun e=>by have:=hB x e.symm;omega)
  ·exact hg.block x hx (by simp)
 unfold VN7 at *
 split <;> try exact h
 ·obtain ⟨g,e,h1,h2⟩:=h
  exact ⟨g,e,h1,h2.keep fun x hx e=>kp x hx (by omega)⟩
 ·obtain ⟨x,g,e,h1,h2,h3,h4⟩:=h
  exact ⟨x,g,e,h1,(kp x (room_lt h2) h1).trans h2,h3,h4.keep fun x hx e=>kp x hx (by omega)⟩
 ·obtain ⟨g,h1,h2,h3⟩:=h
  unfold SN7 at hg
  rw [if_neg hij] at hg
  exact ⟨g,h1,h2.keep fun x hx _=>hg.block x hx (by simp),h3.keep fun x hx _=>hg.block x hx (by simp)⟩
 ·trivial
def DM.make (zs:List Int):DM:={ now:=zs.map zeroRow,sure:=zs.map zeroRow,done:=[],uns:=List.replicate zs.length 0,stops:=false,left:=0 }
theorem DM.make_ok {zs:List Int} (h:mayV zs=true):(DM.make zs).Ok:=by
 unfold mayV at h
 simp only [Bool.and_eq_true,decide_eq_true_eq,Bool.not_eq_true',List.any_eq_false,badSize,Bool.or_eq_true,not_or] at h
 obtain ⟨h1,h2,h3⟩:=h
 have row:∀ (r:Nat) (row:List (List Int)),(zs.map zeroRow)[r]?=some row→row.length≤1000∧∀ b∈row,BlkOk b:=fun r row hr=>by
  rw [List.getElem?_map] at hr
  obtain ⟨z,hz,rfl⟩:=Option.map_eq_some_iff.1 hr
  have:=h3 z (List.mem_of_getElem? hz)
  exact ⟨by unfold zeroRow;rw [List.length_replicate];omega,zeroRow_ok z⟩
 exact { pos:=by show 0<(zs.map zeroRow).length;simpa using h1,few:=by show (zs.map zeroRow).length≤8;simpa using h2,sureLen:=rfl,unsLen:=by show (List.replicate zs.length 0).length=(zs.map zeroRow).length;simp
         rows:=row,sures:=fun r row' hr=>⟨⟨row',hr,rfl⟩,(row r row' hr).2⟩,dones:=fun x hx=>by cases hx
         unss:=fun r u hu=>by
          have hu':(List.replicate zs.length 0)[r]?=some u:=hu
          rw [List.getElem?_replicate] at hu'
          split at hu'
          ·injection hu' with hu';omega
          ·cases hu'
         left:=by show 0≤_;omega }
theorem dev_of_new {w:World} {B q R:Nat} {vu v9 v14:Value} {T:Nat→Nat} {zs:List Int} (h:NewAt w B q vu R T v9 v14 (zs.map zeroRow) (zs.map zeroRow)) (hR:zs.length=R) (hok:(DM.make zs).Ok):∃ F,Dev w F q (DM.make zs)∧∀ k,F k→B≤k:=by
 classical
 obtain ⟨hd,hq,hn,hs,h7⟩:=h
 let O:Nat→DRole:=fun x=>if x=q then .hd else if vu.ownBlock=some x then .uns else
  if B≤x∧x<w.heap.size then (if T x=0 then .nowT else if T x=1 then .sureT else if T x%2=0 then .now (T x/2-1) else .sure (T x/2-1)) else .none
 have hO:∀ x,O x=if x=q then .hd else if vu.ownBlock=some x then .uns else
  if B≤x∧x<w.heap.size then (if T x=0 then .nowT else if T x=1 then .sureT else if T x%2=0 then .now (T x/2-1) else .sure (T x/2-1)) else .none:=fun _=>rfl
 clear_value O
 have ty:∀ {x cur E},w.heap[x]?=some (.cells cur E (0,0))→(E≠80→x≠q)∧(E≠3→vu.ownBlock≠some x):=by
  intro x cur E hx
  refine ⟨fun hE e=>?_,fun hE e=>?_⟩
  ·subst e;rw [hd] at hx;injection hx with hx;injection hx with _ hx;exact hE hx.symm
  ·rcases h7.1.2 with ⟨e',_⟩ | ⟨g,cap,cur',e',_,hc,_⟩
   ·rw [e'] at e;cases e
   ·rw [e'] at e;injection e with e;dsimp only at e;subst e;rw [hc] at hx;injection hx with hx;injection hx with _ hx;exact hE hx.symm
 have tabO:∀ {OT:Nat→Prop} {OR:Nat→Nat→Prop} {OT':Nat→Prop} {OR':Nat→Nat→Prop} {v:Value} {rows:List (List (List Int))},RowsAt w OT OR 81 125 64 encB v rows →
  (∀ k,(k≠q∧vu.ownBlock≠some k)→OT k→OT' k)→(∀ r k,(k≠q∧vu.ownBlock≠some k)→OR r k→OR' r k)→RowsAt w OT' OR' 81 125 64 encB v rows:=by
  intro OT OR OT' OR' v rows h a b
  obtain ⟨vs,t1,t2⟩:=h
  refine ⟨vs,t1.ownerT fun g cur hg _ ho=>a g ⟨(ty hg).1 (by decide),(ty hg).2 (by decide)⟩ ho,fun r row hr=>?_⟩
  obtain ⟨u,hu,t3⟩:=t2 r row hr
  exact ⟨u,hu,t3.ownerT fun g cur hg _ ho=>b r g ⟨(ty hg).1 (by decide),(ty hg).2 (by decide)⟩ ho⟩
 refine ⟨fun k=>O k≠.none,⟨O,⟨v9,v14,.slice none 0 0,vu⟩,⟨⟨hd,by rw [hO,if_pos rfl],?_,?_,RowAt.nil _ _ _ _,?_⟩,hok⟩,fun _=>Iff.rfl,fun k hk=>?_⟩,fun k hk=>?_⟩
 ·refine tabO hn (fun k hk ho=>?_) (fun r k hk ho=>?_)
  ·rw [hO,if_neg hk.1,if_neg hk.2,if_pos ⟨ho.1,ho.2.1⟩,if_pos ho.2.2]
  ·rw [hO,if_neg hk.1,if_neg hk.2,if_pos ⟨ho.1,ho.2.1⟩,if_neg (by omega),if_neg (by omega),if_pos (by omega),ho.2.2]
   congr 1;omega
 ·refine tabO hs (fun k hk ho=>?_) (fun r k hk ho=>?_)
  ·rw [hO,if_neg hk.1,if_neg hk.2,if_pos ⟨ho.1,ho.2.1⟩,if_neg (by omega),if_pos ho.2.2]
  ·rw [hO,if_neg hk.1,if_neg hk.2,if_pos ⟨ho.1,ho.2.1⟩,if_neg (by omega),if_neg (by omega),if_neg (by omega),ho.2.2]
   congr 1;omega
 ·show RowAt w _ _ 1 vu (List.replicate zs.length 0).length (encN (List.replicate zs.length 0))
  rw [List.length_replicate,hR]
  exact h7.ownerT fun g cur hg he ho=>by rw [hO,if_neg ((ty hg).1 (by decide)),if_pos he]
 ·replace hk:O k≠.none:=hk
  rw [hO] at hk
  split at hk
  ·rename_i e;rw [e];exact room_lt hd
  ·split at hk
   ·rename_i e;exact (h7.1.lt k e).2
   ·split at hk
    ·omega
    ·exact absurd rfl hk
 ·replace hk:O k≠.none:=hk
  rw [hO] at hk
  split at hk
  ·omega
  ·split at hk
   ·rename_i e;exact h7.2 k e
   ·split at hk
    ·omega
    ·exact absurd rfl hk
set_option maxRecDepth 100000 in
set_option maxHeartbeats 3200000 in
theorem new_yes (A:Option Addr) (zs:List Int) (c:Nat) (w0:World) (hB0:AllI zs) (hy:Nts w0 A zs) (hm:mayV zs=true) :
 Calls Tryz.prog 7 #[.slice A zs.length c] w0 fun e w'=>(∃ q F,e=.returned (.tuple #[.pointer (some ⟨q,0,none⟩),.bool true])∧Dev w' F q (DM.make zs)∧∀ k,F k→w0.heap.size≤k)∧Below w0.heap.size w0 w':=by
 have hmk:=DM.make_ok hm
 have hzs:∀ z∈zs,1≤z∧z≤1000:=by
  unfold mayV at hm
  simp only [Bool.and_eq_true,decide_eq_true_eq,Bool.not_eq_true',List.any_eq_false,badSize,Bool.or_eq_true,not_or] at hm
  intro z hz
  have:=hm.2.2 z hz
  omega
 have hl8:zs.length≤8:=by
  unfold mayV at hm
  simp only [Bool.and_eq_true,decide_eq_true_eq] at hm
  exact hm.2.1
 have hF:=Lib.hid (dmay_any A zs c w0 hB0 hy (by omega))
 rw [hm] at hF
 have HZ:=Lib.hid hzs
 have HY:=Lib.hid hy
 have HOK:=Lib.hid hmk
 clear hm hB0 hy hzs hmk
 generalize hR:zs.length=R at *
 have HR:=Lib.hid hR
 clear hR
 obtain ⟨iu,hiu,hzu,hsu,hbu⟩:=info_parts infoInt
 have hmu:=fun w:World=>run_make (P:=Tryz.prog) w 34 3 iu _ Tryz.underlying34 hiu hzu .i64 .i64 R R (by omega) (by omega) (by rw [hbu];omega) (by omega)
 simp only [Int.toNat_natCast] at hmu
 generalize hC:madeCells (Value.int .i64 0).cells (R*iu.size)=CU at hmu
 have hCU:CU.toList=encN (List.replicate R 0)∧CU.size=R:=by
  rw [hsu,Nat.mul_one] at hC
  rw [← hC]
  constructor
  ·rw [show (Value.int .i64 0).cells=#[.int .i64 0] from rfl,toList_madeCells_one]
   unfold encN;rw [List.map_replicate];rfl
  ·simp [madeCells]
 have HCU:=Lib.hid hCU
 clear hC hCU hiu hzu hsu hbu
 go_enter Tryz.func7,Tryz.ntmps7
 go_wp2_with fail
 refine hF.out.mono ?_
 rintro e w' ⟨rfl,rfl⟩
 go_wp2_with fail
 obtain ⟨B,hB⟩:∃ B,B=w0.heap.size:=⟨_,rfl⟩
 obtain ⟨q,hq⟩:∃ q,q=w0.heap.size+1:=⟨_,rfl⟩
 obtain ⟨vu,hvu⟩:∃ vu:Value,vu=.slice (some ⟨w0.heap.size,0,none⟩) R R:=⟨_,rfl⟩
 have HBB:=Lib.hid hB
 clear hB
 have h0:NewAt ((w0.alloc (.cells CU 3)).alloc (.cells #[.slice none 0 0,.slice none 0 0,.slice none 0 0,vu,.bool false,.int .i64 0] 80)) B q vu R (fun _=>0) (.slice none 0 0) (.slice none 0 0) [] []:=by
  subst hq;subst hvu
  refine ⟨heap_alloc2_new _ _ _,by rw [HBB.out];omega,RowsAt.nil _ _ _ _ _ _ _,RowsAt.nil _ _ _ _ _ _ _,?_⟩
  have:=rowAt_new w0 3 1 R CU (by simp only [maxLen];omega) (by rw [HCU.out.2];omega) (fun k=>B≤k) (by rw [HBB.out];exact Nat.le_refl _)
  rw [HCU.out.1] at this
  exact this.keep fun k hk _=>Below.heap_alloc _ _ k hk
 have hb0:Below B w0 ((w0.alloc (.cells CU 3)).alloc (.cells #[.slice none 0 0,.slice none 0 0,.slice none 0 0,vu,.bool false,.int .i64 0] 80)):=by
  rw [HBB.out];exact ((Below.refl _ _).alloc (Nat.le_refl _) _).alloc (by simp) _
 have H0:=Lib.hid h0
 have HB0:=Lib.hid hb0
 clear h0 hb0
 rw [← hq,← hvu]
 generalize ((w0.alloc (.cells CU 3)).alloc (.cells #[.slice none 0 0,.slice none 0 0,.slice none 0 0,vu,.bool false,.int .i64 0] 80))=wA at *
 have HQ:=Lib.hid hq
 have HVU:=Lib.hid hvu
 clear hq hvu hmu
 go_loopw [17] (fun i wr=>∃ (k:Nat) (T:Nat→Nat) (v9 v14:Value),i=.int .i64 k∧k≤R∧NewAt wr B q vu R T v9 v14 ((zs.take k).map zeroRow) ((zs.take k).map zeroRow)∧Below B w0 wr) (fun i _=>R-(intOf i).toNat)
 case atStart=>exact ⟨0,_,_,_,rfl,Nat.zero_le _,H0.out,HB0.out⟩
 case round =>
  obtain ⟨k,T,v9,v14,rfl,hk,hn,hb⟩:=hrel
  clear H0 HB0
  by_cases hlt:k<R
  ·obtain ⟨z,hz⟩:∃ z,zs[k]?=some z:=⟨_,List.getElem?_eq_getElem (by rw [HR.out];exact hlt)⟩
   obtain ⟨a,rfl,hc⟩:=HY.out _ _ hz
   have hzb:=HZ.out z (List.mem_of_getElem? hz)
   obtain ⟨n,rfl⟩:∃ n:Nat,z=(n:Int):=⟨z.toNat,by omega⟩
   have hn1000:n≤1000:=by omega
   have hcell:wr.cell? (a.add k)=some (.int .i64 n):=by rw [hb.cell (by rw [HBB.out];exact World.block_lt_of_cell? w0 _ hc)];exact hc
   have hsn:(zs.take (k+1)).map zeroRow=(zs.take k).map zeroRow++[zeroRow (n:Int)]:=by rw [take_snoc' hz,List.map_append];rfl
   have hkl:((zs.take k).map zeroRow).length=k:=by rw [List.length_map];exact List.length_take_of_le (by rw [HR.out];omega)
   have HSN:=Lib.hid hsn
   have HK:=Lib.hid hkl
   have hkk:(k:Int)<R:=by omega
   clear hz hc hsn hkl hzb
   generalize (zs.take k).map zeroRow=rows at *
   obtain ⟨w1,rfl⟩:∃ w1,w1=wr:=⟨wr,rfl⟩
   have HW1:=Lib.hid hb
   have hb1:B≤w1.heap.size:=by rw [HBB.out];exact hb.size
   have HB1:=Lib.hid hb1
   obtain ⟨vs,t1,t2⟩:=hn.t9
   have HRL:Hid (rows.length=k):=HK
   rw [HRL.out] at t1
   have HT1:=Lib.hid t1
   have HT2:=Lib.hid t2
   have HN:=Lib.hid hn
   have hqn:¬ ((v9:Value).ownBlock=some q):=fun e=>by
    rcases t1.1.2 with ⟨e',_⟩ | ⟨b',_,c',e',_,hc',_⟩
    ·rw [e'] at e;cases e
    ·rw [e'] at e;injection e with e;dsimp only at e;subst e;rw [hn.hd] at hc';injection hc' with hc';injection hc' with _ hc';exact absurd hc' (by decide)
   have HQN:=Lib.hid hqn
   clear t1 t2 hqn hb1 hb hn
   go_wp2_with fail
   go_upto_region 7 with fail
   go_cut [4,6,17] (fun s4 s6 s17 wx=>∃ (T':Nat→Nat) (v9':Value),s4=.pointer (some ⟨q,0,none⟩)∧s6=.int .i64 n∧s17=.int .i64 k∧NewAt wx B q vu R T' v9' v14 (rows++[zeroRow (n:Int)]) rows∧Below B w0 wx)
   case first =>
    have hBd:∀ x,(v9:Value).ownBlock=some x→x<w1.heap.size:=fun x hx=>(HT1.out.1.lt x hx).2
    have srefl:∀ (i:Nat) (W:World),SN7 v9 i W W:=fun i W=>by unfold SN7;split <;> exact World.grownBy.refl W _
    have hJ0:Touch (fun x=>(v9:Value).ownBlock=some x) w1 w1.drew∧RowAt w1.drew (fun x=>B≤x∧x<w1.heap.size∧T x=0) 81 1 v9 k vs:=⟨(Touch.refl _ _).drew,HT1.out⟩
    refine wp_region_rgi (VN7 q 0 w1 (fun x=>B≤x∧x<w1.heap.size∧T x=0) v9 n k vs) (fun W=>Touch (fun x=>(v9:Value).ownBlock=some x) w1 W∧RowAt W (fun x=>B≤x∧x<w1.heap.size∧T x=0) 81 1 v9 k vs) (SN7 v9) (by kernel_rfl) (by kernel_rfl) (fun i j v w w' hij h hg=>h.on hBd hij hg) hJ0 ?_
    clear hJ0
    simp only [RAll]
    refine ⟨?_,?_,?_,?_,?_,?_,?_,?_,?_,?_,?_,?_⟩
    ·refine RStep.of rfl fun T W hag hJ hd=>?_
     have e4:T.getD 4 undef=.pointer (some ⟨q,0,none⟩):=(agree_at hag 4 (by kernel_rfl)).trans rfl
     clear hag hd
     go_simp
     first | exact ⟨_,rfl,rfl⟩ | exact ⟨_,rfl,rfl,hJ,srefl _ _⟩
    ·refine RStep.of rfl fun T W hag hJ hd=>?_
     have e4:T.getD 4 undef=.pointer (some ⟨q,0,none⟩):=(agree_at hag 4 (by kernel_rfl)).trans rfl
     clear hag hd
     go_simp
     first | exact ⟨_,rfl,rfl⟩ | exact ⟨_,rfl,rfl,hJ,srefl _ _⟩
    ·refine RStep.of rfl fun T W hag hJ hd=>?_
     have d1:T.getD 22 undef=_:=hd ⟨1,.data⟩ (by simp) rfl _ rfl
     clear hag hd
     go_simp
     first | exact ⟨_,rfl,rfl⟩ | exact ⟨_,rfl,rfl,hJ,srefl _ _⟩
    ·refine RStep.of rfl fun T W hag hJ hd=>?_
     have d2:T.getD 23 undef=_:=hd ⟨2,.data⟩ (by simp) rfl _ rfl
     clear hag hd
     go_simp
     first | exact ⟨_,rfl,rfl⟩ | exact ⟨_,rfl,rfl,hJ,srefl _ _⟩
    ·refine RStep.of rfl fun T W hag hJ hd=>?_
     have d3:T.getD 24 undef=_:=hd ⟨3,.data⟩ (by simp) rfl _ rfl
     have c0:W.cell? ⟨q,0,none⟩=some v9:=keepT hJ.1 (blk_cell HN.out.hd 0) HQN.out
     clear hag hd
     go_simp
     first | exact ⟨_,rfl,rfl⟩ | exact ⟨_,rfl,rfl,hJ,srefl _ _⟩
    ·refine RStep.of rfl fun T W hag hJ hd=>?_
     have e6:T.getD 6 undef=.int .i64 n:=(agree_at hag 6 (by kernel_rfl)).trans rfl
     clear hag hd
     go_simp
     first | exact ⟨_,rfl,rfl⟩ | exact ⟨_,rfl,rfl,hJ,srefl _ _⟩
    ·refine RStep.of rfl fun T W hag hJ hd=>?_
     have d5:T.getD 26 undef=.int .i64 n:=hd ⟨5,.data⟩ (by simp) rfl _ rfl
     obtain ⟨i0,hi0,hz0,hz1,hz2⟩:=info_parts info73
     refine wp_make_of 81 (.tmp 26) (.tmp 26) rfl 125 i0 _ 64 Tryz.underlying81 hi0 hz0 hz1 n .i64 .i64 d5 d5 (by rw [hz2];omega) (by simp only [maxLen];omega) ?_
     intro w' hrow hgr hsz
     rw [made_zero] at hrow
     refine ⟨_,rfl,⟨W.heap.size,rfl,hJ.1.size,hrow,fun g hg=>by injection hg with hg;exact hg.symm⟩,⟨hJ.1.trans' (Touch.of_grown hgr) (fun x hx=>by cases hx),hJ.2.keep fun x hx _=>hgr.block x hx (by simp)⟩,?_⟩
     exact hgr
    ·refine RStep.of rfl fun T W hag hJ hd=>?_
     obtain ⟨g,(d6:T.getD 27 undef=_),hg,hrow⟩:=hd ⟨6,.data⟩ (by simp) rfl _ rfl
     obtain ⟨i0,hi0,hz0,hz1,hz2⟩:=info_parts infoRow
     refine wp_one_of 77 (.tmp 27) rfl 81 i0 _ 1 Tryz.underlying77 hi0 hz0 hz1 (by decide) (by decide) _ d6 rfl ?_
     refine ⟨_,rfl,⟨W.heap.size,g,rfl,hJ.1.size,heap_alloc_new W _,hg,hrow.keep fun x hx _=>Below.heap_alloc W _ x hx⟩,⟨hJ.1.alloc _,hJ.2.keep fun x hx _=>Below.heap_alloc W _ x hx⟩,?_⟩
     exact World.grownBy_alloc W _ _
    ·refine RStep.of rfl fun T W hag hJ hd=>?_
     have d4:T.getD 25 undef=v9:=hd ⟨4,.data⟩ (by simp) rfl _ rfl
     obtain ⟨x,g,(d7:T.getD 28 undef=_),hx1,hx2,hg,hrow⟩:=hd ⟨7,.data⟩ (by simp) rfl _ rfl
     obtain ⟨i0,hi0,hz0,hz1,hz2⟩:=info_parts infoRow
     refine wp_push_of (.tmp 25) (.tmp 28) 77 rfl 81 i0 _ 1 24 Tryz.underlying77 hi0 hz0 hz1 hz2 rfl (by decide) v9 k vs d4 _ hJ.2 ⟨x,0,none⟩ 1 1 [.slice (some ⟨g,0,none⟩) n n] d7 rfl (World.news_of_block hx2) (fun u hu=>by rw [List.mem_singleton.1 hu];rfl) (by simp only [maxLen];omega) (by omega) ?_
     intro v' w' hnew hgr hold
     refine ⟨_,rfl,⟨g,hg,hnew.owner ?_,hrow.keep fun y hy e=>hgr.block y hy (fun e2=>?_)⟩,⟨hJ.1.trans' (Touch.of_grown hgr) (fun y hy=>Or.inl hy.symm),hold⟩,hgr⟩
     ·intro y _ hy
      rcases hy with hy | hy
      ·exact Or.inl hy
      ·exact Or.inr (by have:=hJ.1.size;omega)
     ·have:=(hJ.2.2 y e2.symm).2.1;omega
    ·refine RStep.of rfl fun T W hag hJ hd=>?_
     have d0:T.getD 21 undef=_:=hd ⟨0,.data⟩ (by simp) rfl _ rfl
     clear hag hd
     go_simp
     first | exact ⟨_,rfl,rfl⟩ | exact ⟨_,rfl,rfl,hJ,srefl _ _⟩
    ·refine RStep.of rfl fun T W hag hJ hd=>?_
     have d9:T.getD 30 undef=_:=hd ⟨9,.data⟩ (by simp) rfl _ rfl
     clear hag hd
     go_simp
     first | exact ⟨_,rfl,rfl⟩ | exact ⟨_,rfl,rfl,hJ,srefl _ _⟩
    ·refine RLast.of rfl fun T' W hag hJ hd=>?_
     have d10:T'.getD 31 undef=_:=hd 10 _ (by simp) rfl
     obtain ⟨g,hg,hnew,hrow⟩:=hd 8 _ (by simp) rfl
     obtain ⟨v,d8⟩:∃ v,T'.getD 29 undef=v:=⟨_,rfl⟩
     replace hnew:RowAt W _ _ 1 (T'.getD 29 undef) _ _:=hnew
     rw [d8] at hnew
     obtain ⟨A2,cq,rfl,hz1,hz2⟩:=hnew.val
     have hqW:W.heap[q]?=_:=(hJ.1.block q (room_lt HN.out.hd) HQN.out).trans HN.out.hd
     have hst:(W.setCell ⟨q,0,none⟩ (.slice A2 (k+1) cq)).heap[q]?=some (.cells #[.slice A2 (k+1) cq,v14,.slice none 0 0,vu,.bool false,.int .i64 0] 80 (0,0)):=heap_setCell_same' hqW _
     have hrl:=HRL.out
     have hpush:=TabL.push (q:=q) (f:=0) (row:=zeroRow (n:Int)) HB1.out HN.out.hd (by rw [hrl];exact HT1.out) HT2.out hJ.1 (by rw [hrl];exact hnew) hg (by unfold zeroRow;rw [encB_zero,List.length_replicate,Int.toNat_natCast];exact hrow) ⟨q,0,none⟩ rfl (.slice A2 (k+1) cq)
     have hoth:=TabL.other (q:=q) (g:=g) (k:=k) HN.out.hd HN.out.t14 (by omega) (by omega) (by omega) HT1.out hJ.1 ⟨q,0,none⟩ rfl (.slice A2 (k+1) cq)
     have hun:RowAt (W.setCell ⟨q,0,none⟩ (.slice A2 (k+1) cq)) (fun x=>B≤x) 3 1 vu R (encN (List.replicate R 0)):=by
      refine ⟨⟨HN.out.un.1.1,?_⟩,HN.out.un.2⟩
      rcases HN.out.un.1.2 with h0 | ⟨b,cap,cur,rfl,q0,q1,q2⟩
      ·exact Or.inl h0
      ·exact Or.inr ⟨b,cap,cur,rfl,q0,by rw [Below.heap_setCell _ _ _ _ (blk_type HN.out.hd q1 (by decide)),hJ.1.block b (room_lt q1) (fun e=>by
        rcases HT1.out.1.2 with ⟨e',_⟩ | ⟨b',_,c',e',_,hc',_⟩
        ·rw [e'] at e;cases e
        ·rw [e'] at e;injection e with e;dsimp only at e;subst e;rw [q1] at hc';injection hc' with hc';injection hc' with _ hc';exact absurd hc' (by decide))];exact q1,q2⟩
     have hbel:Below B w0 (W.setCell ⟨q,0,none⟩ (.slice A2 (k+1) cq)):=HW1.out.trans ((hJ.1.below HB1.out (fun x hx=>(HT1.out.2 x hx).1)).setCell (by exact HN.out.hq) _)
     rw [hrl] at hpush
     have hnewat:NewAt (W.setCell ⟨q,0,none⟩ (.slice A2 (k+1) cq)) B q vu R (fun x=>if x<w1.heap.size then T x else if x=g then 2*k+2+0 else 0) (.slice A2 (k+1) cq) v14 (rows++[zeroRow (n:Int)]) rows:=⟨hst,HN.out.hq,hpush,hoth,hun⟩
     have HM:=Lib.hid (And.intro hnewat hbel)
     have c0:W.cell? ⟨q,0,none⟩=some v9:=blk_cell hqW 0
     have f0:W.frozen? ⟨q,0,none⟩=false:=blk_free hqW 0
     have d8':=d8
     have d10':=d10
     rw [Array.getD_eq_getD_getElem?] at d8' d10'
     have HAG:=Lib.hid hag
     clear hag hd hqW hst hrl hpush hoth hun hbel hnewat hnew hrow
     go_simp
     obtain ⟨fT,hf,hT⟩:=agree_fn HAG.out
     generalize (W.setCell ⟨q,0,none⟩ (.slice A2 (k+1) cq))=W2 at *
     clear HAG hf d8 d10 d8' d10' c0 f0
     rw [hT]
     clear hT
     simp only [List.filterMap_cons,List.filterMap_nil,List.foldl_cons,List.foldl_nil,List.setIfInBounds_toArray,List.set_cons_succ,List.set_cons_zero]
     rename_i hJc hKc
     refine hKc _ _ (hJc _ _ ?_)
     repeat apply Exists.intro
     exact ⟨⟨_,_,rfl,rfl,rfl,HM.out⟩,rfl⟩
   case rest =>
    obtain ⟨T2,v92,rfl,rfl,rfl,hn2,hb2⟩:=hcut
    clear HW1 HB1 HT1 HT2 HN HQN HRL hcell
    obtain ⟨w2,rfl⟩:∃ w2,w2=wc:=⟨wc,rfl⟩
    have HW1:=Lib.hid hb2
    have hb1:B≤w2.heap.size:=by rw [HBB.out];exact hb2.size
    have HB1:=Lib.hid hb1
    obtain ⟨vs,t1,t2⟩:=hn2.t14
    have HRL:Hid (rows.length=k):=HK
    rw [HRL.out] at t1
    have HT1:=Lib.hid t1
    have HT2:=Lib.hid t2
    have HN:=Lib.hid hn2
    have hqn:¬ ((v14:Value).ownBlock=some q):=fun e=>by
     rcases t1.1.2 with ⟨e',_⟩ | ⟨b',_,c',e',_,hc',_⟩
     ·rw [e'] at e;cases e
     ·rw [e'] at e;injection e with e;dsimp only at e;subst e;rw [hn2.hd] at hc';injection hc' with hc';injection hc' with _ hc';exact absurd hc' (by decide)
    have HQN:=Lib.hid hqn
    clear t1 t2 hqn hb1 hb2 hn2
    go_wp2_with fail
    go_upto_region 8 with fail
    have hBd:∀ x,(v14:Value).ownBlock=some x→x<w2.heap.size:=fun x hx=>(HT1.out.1.lt x hx).2
    have srefl:∀ (i:Nat) (W:World),SN7 v14 i W W:=fun i W=>by unfold SN7;split <;> exact World.grownBy.refl W _
    have hJ0:Touch (fun x=>(v14:Value).ownBlock=some x) w2 w2.drew∧RowAt w2.drew (fun x=>B≤x∧x<w2.heap.size∧T2 x=1) 81 1 v14 k vs:=⟨(Touch.refl _ _).drew,HT1.out⟩
    refine wp_region_rgi (VN7 q 1 w2 (fun x=>B≤x∧x<w2.heap.size∧T2 x=1) v14 n k vs) (fun W=>Touch (fun x=>(v14:Value).ownBlock=some x) w2 W∧RowAt W (fun x=>B≤x∧x<w2.heap.size∧T2 x=1) 81 1 v14 k vs) (SN7 v14) (by kernel_rfl) (by kernel_rfl) (fun i j v w w' hij h hg=>h.on hBd hij hg) hJ0 ?_
    clear hJ0
    simp only [RAll]
    refine ⟨?_,?_,?_,?_,?_,?_,?_,?_,?_,?_,?_,?_⟩
    ·refine RStep.of rfl fun T W hag hJ hd=>?_
     have e4:T.getD 4 undef=.pointer (some ⟨q,0,none⟩):=(agree_at hag 4 (by kernel_rfl)).trans rfl
     clear hag hd
     go_simp
     first | exact ⟨_,rfl,rfl⟩ | exact ⟨_,rfl,rfl,hJ,srefl _ _⟩
    ·refine RStep.of rfl fun T W hag hJ hd=>?_
     have e4:T.getD 4 undef=.pointer (some ⟨q,0,none⟩):=(agree_at hag 4 (by kernel_rfl)).trans rfl
     clear hag hd
     go_simp
     first | exact ⟨_,rfl,rfl⟩ | exact ⟨_,rfl,rfl,hJ,srefl _ _⟩
    ·refine RStep.of rfl fun T W hag hJ hd=>?_
     have d1:T.getD 33 undef=_:=hd ⟨1,.data⟩ (by simp) rfl _ rfl
     clear hag hd
     go_simp
     first | exact ⟨_,rfl,rfl⟩ | exact ⟨_,rfl,rfl,hJ,srefl _ _⟩
    ·refine RStep.of rfl fun T W hag hJ hd=>?_
     have d2:T.getD 34 undef=_:=hd ⟨2,.data⟩ (by simp) rfl _ rfl
     clear hag hd
     go_simp
     first | exact ⟨_,rfl,rfl⟩ | exact ⟨_,rfl,rfl,hJ,srefl _ _⟩
    ·refine RStep.of rfl fun T W hag hJ hd=>?_
     have d3:T.getD 35 undef=_:=hd ⟨3,.data⟩ (by simp) rfl _ rfl
     have c0:W.cell? ⟨q,1,none⟩=some v14:=keepT hJ.1 (blk_cell HN.out.hd 1) HQN.out
     clear hag hd
     go_simp
     first | exact ⟨_,rfl,rfl⟩ | exact ⟨_,rfl,rfl,hJ,srefl _ _⟩
    ·refine RStep.of rfl fun T W hag hJ hd=>?_
     have e6:T.getD 6 undef=.int .i64 n:=(agree_at hag 6 (by kernel_rfl)).trans rfl
     clear hag hd
     go_simp
     first | exact ⟨_,rfl,rfl⟩ | exact ⟨_,rfl,rfl,hJ,srefl _ _⟩
    ·refine RStep.of rfl fun T W hag hJ hd=>?_
     have d5:T.getD 37 undef=.int .i64 n:=hd ⟨5,.data⟩ (by simp) rfl _ rfl
     obtain ⟨i0,hi0,hz0,hz1,hz2⟩:=info_parts info73
     refine wp_make_of 81 (.tmp 37) (.tmp 37) rfl 125 i0 _ 64 Tryz.underlying81 hi0 hz0 hz1 n .i64 .i64 d5 d5 (by rw [hz2];omega) (by simp only [maxLen];omega) ?_
     intro w' hrow hgr hsz
     rw [made_zero] at hrow
     refine ⟨_,rfl,⟨W.heap.size,rfl,hJ.1.size,hrow,fun g hg=>by injection hg with hg;exact hg.symm⟩,⟨hJ.1.trans' (Touch.of_grown hgr) (fun x hx=>by cases hx),hJ.2.keep fun x hx _=>hgr.block x hx (by simp)⟩,?_⟩
     exact hgr
    ·refine RStep.of rfl fun T W hag hJ hd=>?_
     obtain ⟨g,(d6:T.getD 38 undef=_),hg,hrow⟩:=hd ⟨6,.data⟩ (by simp) rfl _ rfl
     obtain ⟨i0,hi0,hz0,hz1,hz2⟩:=info_parts infoRow
     refine wp_one_of 77 (.tmp 38) rfl 81 i0 _ 1 Tryz.underlying77 hi0 hz0 hz1 (by decide) (by decide) _ d6 rfl ?_
     refine ⟨_,rfl,⟨W.heap.size,g,rfl,hJ.1.size,heap_alloc_new W _,hg,hrow.keep fun x hx _=>Below.heap_alloc W _ x hx⟩,⟨hJ.1.alloc _,hJ.2.keep fun x hx _=>Below.heap_alloc W _ x hx⟩,?_⟩
     exact World.grownBy_alloc W _ _
    ·refine RStep.of rfl fun T W hag hJ hd=>?_
     have d4:T.getD 36 undef=v14:=hd ⟨4,.data⟩ (by simp) rfl _ rfl
     obtain ⟨x,g,(d7:T.getD 39 undef=_),hx1,hx2,hg,hrow⟩:=hd ⟨7,.data⟩ (by simp) rfl _ rfl
     obtain ⟨i0,hi0,hz0,hz1,hz2⟩:=info_parts infoRow
     refine wp_push_of (.tmp 36) (.tmp 39) 77 rfl 81 i0 _ 1 24 Tryz.underlying77 hi0 hz0 hz1 hz2 rfl (by decide) v14 k vs d4 _ hJ.2 ⟨x,0,none⟩ 1 1 [.slice (some ⟨g,0,none⟩) n n] d7 rfl (World.news_of_block hx2) (fun u hu=>by rw [List.mem_singleton.1 hu];rfl) (by simp only [maxLen];omega) (by omega) ?_
     intro v' w' hnew hgr hold
     refine ⟨_,rfl,⟨g,hg,hnew.owner ?_,hrow.keep fun y hy e=>hgr.block y hy (fun e2=>?_)⟩,⟨hJ.1.trans' (Touch.of_grown hgr) (fun y hy=>Or.inl hy.symm),hold⟩,hgr⟩
     ·intro y _ hy
      rcases hy with hy | hy
      ·exact Or.inl hy
      ·exact Or.inr (by have:=hJ.1.size;omega)
     ·have:=(hJ.2.2 y e2.symm).2.1;omega
    ·refine RStep.of rfl fun T W hag hJ hd=>?_
     have d0:T.getD 32 undef=_:=hd ⟨0,.data⟩ (by simp) rfl _ rfl
     clear hag hd
     go_simp
     first | exact ⟨_,rfl,rfl⟩ | exact ⟨_,rfl,rfl,hJ,srefl _ _⟩
    ·refine RStep.of rfl fun T W hag hJ hd=>?_
     have d9:T.getD 41 undef=_:=hd ⟨9,.data⟩ (by simp) rfl _ rfl
     clear hag hd
     go_simp
     first | exact ⟨_,rfl,rfl⟩ | exact ⟨_,rfl,rfl,hJ,srefl _ _⟩
    ·refine RLast.of rfl fun T' W hag hJ hd=>?_
     have d10:T'.getD 42 undef=_:=hd 10 _ (by simp) rfl
     obtain ⟨g,hg,hnew,hrow⟩:=hd 8 _ (by simp) rfl
     obtain ⟨v,d8⟩:∃ v,T'.getD 40 undef=v:=⟨_,rfl⟩
     replace hnew:RowAt W _ _ 1 (T'.getD 40 undef) _ _:=hnew
     rw [d8] at hnew
     obtain ⟨A2,cq,rfl,hz1,hz2⟩:=hnew.val
     have hqW:W.heap[q]?=_:=(hJ.1.block q (room_lt HN.out.hd) HQN.out).trans HN.out.hd
     have hst:(W.setCell ⟨q,1,none⟩ (.slice A2 (k+1) cq)).heap[q]?=some (.cells #[v92,.slice A2 (k+1) cq,.slice none 0 0,vu,.bool false,.int .i64 0] 80 (0,0)):=heap_setCell_same' hqW _
     have hrl:=HRL.out
     have hpush:=TabL.push (q:=q) (f:=1) (row:=zeroRow (n:Int)) HB1.out HN.out.hd (by rw [hrl];exact HT1.out) HT2.out hJ.1 (by rw [hrl];exact hnew) hg (by unfold zeroRow;rw [encB_zero,List.length_replicate,Int.toNat_natCast];exact hrow) ⟨q,1,none⟩ rfl (.slice A2 (k+1) cq)
     have hoth:=TabL.other (q:=q) (g:=g) (k:=k) HN.out.hd HN.out.t9 (by omega) (by omega) (by omega) HT1.out hJ.1 ⟨q,1,none⟩ rfl (.slice A2 (k+1) cq)
     have hun:RowAt (W.setCell ⟨q,1,none⟩ (.slice A2 (k+1) cq)) (fun x=>B≤x) 3 1 vu R (encN (List.replicate R 0)):=by
      refine ⟨⟨HN.out.un.1.1,?_⟩,HN.out.un.2⟩
      rcases HN.out.un.1.2 with h0 | ⟨b,cap,cur,rfl,q0,q1,q2⟩
      ·exact Or.inl h0
      ·exact Or.inr ⟨b,cap,cur,rfl,q0,by rw [Below.heap_setCell _ _ _ _ (blk_type HN.out.hd q1 (by decide)),hJ.1.block b (room_lt q1) (fun e=>by
        rcases HT1.out.1.2 with ⟨e',_⟩ | ⟨b',_,c',e',_,hc',_⟩
        ·rw [e'] at e;cases e
        ·rw [e'] at e;injection e with e;dsimp only at e;subst e;rw [q1] at hc';injection hc' with hc';injection hc' with _ hc';exact absurd hc' (by decide))];exact q1,q2⟩
     have hbel:Below B w0 (W.setCell ⟨q,1,none⟩ (.slice A2 (k+1) cq)):=HW1.out.trans ((hJ.1.below HB1.out (fun x hx=>(HT1.out.2 x hx).1)).setCell (by exact HN.out.hq) _)
     rw [hrl] at hpush
     have hnewat:NewAt (W.setCell ⟨q,1,none⟩ (.slice A2 (k+1) cq)) B q vu R (fun x=>if x<w2.heap.size then T2 x else if x=g then 2*k+2+1 else 1) v92 (.slice A2 (k+1) cq) (rows++[zeroRow (n:Int)]) (rows++[zeroRow (n:Int)]):=⟨hst,HN.out.hq,hoth,hpush,hun⟩
     have HM:=Lib.hid (And.intro hnewat hbel)
     have c0:W.cell? ⟨q,1,none⟩=some v14:=blk_cell hqW 1
     have f0:W.frozen? ⟨q,1,none⟩=false:=blk_free hqW 1
     have d8':=d8
     have d10':=d10
     rw [Array.getD_eq_getD_getElem?] at d8' d10'
     have HAG:=Lib.hid hag
     clear hag hd hqW hst hrl hpush hoth hun hbel hnewat hnew hrow
     go_simp
     obtain ⟨fT,hf,hT⟩:=agree_fn HAG.out
     generalize (W.setCell ⟨q,1,none⟩ (.slice A2 (k+1) cq))=W2 at *
     clear HAG hf d8 d10 d8' d10' c0 f0
     rw [hT]
     clear hT
     simp only [List.filterMap_cons,List.filterMap_nil,List.foldl_cons,List.foldl_nil,List.setIfInBounds_toArray,List.set_cons_succ,List.set_cons_zero]
     go_wp2
     go_roundw
     case rel=>exact ⟨k+1,_,_,_,by go_num,by omega,by rw [HSN.out];exact HM.out.1,HM.out.2⟩
     case measure=>simp [intOf];omega
  ·obtain rfl:k=R:=by omega
   rw [List.take_of_length_le (by rw [HR.out];exact Nat.le_refl _)] at hn
   have HN:=Lib.hid hn
   have HB1:=Lib.hid hb
   clear hn hb
   go_wp2
   go_ret2
   obtain ⟨F,hF,hFB⟩:=dev_of_new HN.out (by rw [HR.out]) HOK.out
   rw [HBB.out] at hFB
   exact ⟨⟨q,F,rfl,hF,hFB⟩,by have:=HB1.out;rw [HBB.out] at this;exact this⟩
theorem write_no {w:World} {O:Nat→DRole} {hp:Nat} {L:DLay} {m:DM} (h:DevAt w O hp L m) (r i:Int) (hr:i64 r) (hi:i64 i) (A:Option Addr) (n c:Nat) (hb:hasB m r i=false∨n≠64) (hn:n≤1000000) :
 Calls Tryz.prog 102 #[.pointer (some ⟨hp,0,none⟩),.int .i64 r,.int .i64 i,.slice A n c] w fun e w'=>e=.returned (.bool false)∧w=w':=by
 have hB:=Lib.hid (hasBlock_any h r i hr hi)
 clear h
 cases hq:hasB m r i
 ·rw [hq] at hB
  clear hb hq
  go_enter Tryz.func102,Tryz.ntmps102
  go_wp2_with fail
  refine hB.out.mono ?_
  rintro e w' ⟨rfl,rfl⟩
  go_wp2
  go_ret
  exact ⟨rfl,rfl⟩
 ·rw [hq] at hB
  have hn64:n≠64:=by rcases hb with hb | hb;rw [hq] at hb;cases hb;exact hb
  have h1:((n:Int) != 64)=true:=by rw [bne_iff_ne];omega
  clear hb hq hn64
  go_enter Tryz.func102,Tryz.ntmps102
  go_wp2_with fail
  refine hB.out.mono ?_
  rintro e w' ⟨rfl,rfl⟩
  go_wp2
  go_ret
  exact ⟨rfl,rfl⟩
theorem write_stopped {w:World} {O:Nat→DRole} {hp:Nat} {L:DLay} {m:DM} (h:DevAt w O hp L m) (r i:Int) (hr:i64 r) (hi:i64 i) (A:Option Addr) (c:Nat) (hb:hasB m r i=true) (hst:stopped m=true) :
 Calls Tryz.prog 102 #[.pointer (some ⟨hp,0,none⟩),.int .i64 r,.int .i64 i,.slice A 64 c] w fun e w'=>e=.returned (.bool true)∧w=w':=by
 have hB:=Lib.hid (hasBlock_any h r i hr hi)
 have hS:=Lib.hid (stopped_any h)
 rw [hb] at hB
 rw [hst] at hS
 clear h hb hst
 go_enter Tryz.func102,Tryz.ntmps102
 go_wp2_with fail
 refine hB.out.mono ?_
 rintro e w' ⟨rfl,rfl⟩
 go_wp2_with fail
 refine hS.out.mono ?_
 rintro e w' ⟨rfl,rfl⟩
 go_wp2
 go_ret
 exact ⟨rfl,rfl⟩
theorem barrier_no {w:World} {O:Nat→DRole} {hp:Nat} {L:DLay} {m:DM} (h:DevAt w O hp L m) (r:Int) (hr:i64 r) (hb:hasR m r=false) :
 Calls Tryz.prog 89 #[.pointer (some ⟨hp,0,none⟩),.int .i64 r] w fun e w'=>e=.returned (.bool false)∧w=w':=by
 have hB:=Lib.hid (hasRegion_any h r hr)
 rw [hb] at hB
 clear h hb
 go_enter Tryz.func89,Tryz.ntmps89
 go_wp2_with fail
 refine hB.out.mono ?_
 rintro e w' ⟨rfl,rfl⟩
 go_wp2
 go_ret
 exact ⟨rfl,rfl⟩
theorem barrier_stopped {w:World} {O:Nat→DRole} {hp:Nat} {L:DLay} {m:DM} (h:DevAt w O hp L m) (r:Int) (hr:i64 r) (hb:hasR m r=true) (hst:stopped m=true) :
 Calls Tryz.prog 89 #[.pointer (some ⟨hp,0,none⟩),.int .i64 r] w fun e w'=>e=.returned (.bool true)∧w=w':=by
 have hB:=Lib.hid (hasRegion_any h r hr)
 have hS:=Lib.hid (stopped_any h)
 rw [hb] at hB
 rw [hst] at hS
 clear h hb hst
 go_enter Tryz.func89,Tryz.ntmps89
 go_wp2_with fail
 refine hB.out.mono ?_
 rintro e w' ⟨rfl,rfl⟩
 go_wp2_with fail
 refine hS.out.mono ?_
 rintro e w' ⟨rfl,rfl⟩
 go_wp2
 go_ret
 exact ⟨rfl,rfl⟩
def DM.doWrite (m:DM) (r i:Int) (bs:List Int):DM:=if hasB m r i=true∧bs.length=64∧stopped m=false then m.write r.toNat i.toNat bs else m
def okWrite (m:DM) (r i:Int) (bs:List Int):Bool:=hasB m r i&&decide (bs.length=64)
theorem hasB_row {m:DM} {r i:Int} (h:hasB m r i=true):∃ (rn j:Nat) (row:List (List Int)),r=(rn:Int)∧i=(j:Int)∧m.now[rn]?=some row∧j<row.length:=by
 unfold hasB hasR at h
 simp only [Bool.and_eq_true,decide_eq_true_eq] at h
 obtain ⟨⟨h1,h2⟩,h3,h4⟩:=h
 refine ⟨r.toNat,i.toNat,m.now[r.toNat]'(by omega),by omega,by omega,List.getElem?_eq_getElem _,?_⟩
 have:rowLen m.now r.toNat=(m.now[r.toNat]'(by omega)).length:=rowLen_of (List.getElem?_eq_getElem _)
 omega
theorem DevStep.refl {w:World} {F:Nat→Prop} {hp:Nat} {m:DM} (h:Dev w F hp m):DevStep w w F hp m:=⟨F,h,Touch.refl _ _,fun k hk=>Or.inl hk⟩
theorem write_any {w:World} {F:Nat→Prop} {hp:Nat} {m:DM} (h:Dev w F hp m) (r i:Int) (hr:i64 r) (hi:i64 i) (A:Option Addr) (bs:List Int) (c:Nat) (hB:AllB bs) (hy:Byt w A bs) (hl:bs.length≤1000000) (hmax:m.done.length≤1000000) :
 Calls Tryz.prog 102 #[.pointer (some ⟨hp,0,none⟩),.int .i64 r,.int .i64 i,.slice A bs.length c] w fun e w'=>e=.returned (.bool (okWrite m r i bs))∧DevStep w w' F hp (m.doWrite r i bs):=by
 obtain ⟨O,L,h1,h2,h3⟩:=h
 by_cases hb:hasB m r i=true∧bs.length=64
 ·have ho:okWrite m r i bs=true:=by unfold okWrite;rw [hb.1,hb.2];rfl
  rw [ho]
  cases hst:stopped m
  ·obtain ⟨rn,j,row,rfl,rfl,hrow,hj⟩:=hasB_row hb.1
   have:m.doWrite rn j bs=m.write rn j bs:=by unfold DM.doWrite;rw [if_pos ⟨hb.1,hb.2,hst⟩];rfl
   rw [this,hb.2]
   exact write_yes ⟨O,L,h1,h2,h3⟩ rn j hrow hj A bs c ⟨hb.2,hB⟩ hy hst hmax
  ·have:m.doWrite r i bs=m:=by unfold DM.doWrite;rw [if_neg (by rw [hst];simp)]
   rw [this,hb.2]
   refine (write_stopped h1 r i hr hi A c hb.1 hst).mono ?_
   rintro e w' ⟨rfl,rfl⟩
   exact ⟨rfl,DevStep.refl ⟨O,L,h1,h2,h3⟩⟩
 ·have ho:okWrite m r i bs=false:=by
   unfold okWrite
   cases hq:hasB m r i
   ·rfl
   ·have:¬ bs.length=64:=fun e=>hb ⟨hq,e⟩
    simp [this]
  have hd:m.doWrite r i bs=m:=by unfold DM.doWrite;rw [if_neg (fun h=>hb ⟨h.1,h.2.1⟩)]
  rw [ho,hd]
  refine (write_no h1 r i hr hi A bs.length c ?_ hl).mono ?_
  ·cases hq:hasB m r i
   ·exact Or.inl rfl
   ·exact Or.inr (fun e=>hb ⟨hq,e⟩)
  ·rintro e w' ⟨rfl,rfl⟩
   exact ⟨rfl,DevStep.refl ⟨O,L,h1,h2,h3⟩⟩
def DM.doBarrier (m:DM) (r:Int):DM:=if hasR m r=true∧stopped m=false then m.barrier r.toNat else m
theorem barrier_any {w:World} {F:Nat→Prop} {hp:Nat} {m:DM} (h:Dev w F hp m) (r:Int) (hr:i64 r) (hmax:m.done.length<1000000) :
 Calls Tryz.prog 89 #[.pointer (some ⟨hp,0,none⟩),.int .i64 r] w fun e w'=>e=.returned (.bool (hasR m r))∧DevStep w w' F hp (m.doBarrier r):=by
 obtain ⟨O,L,h1,h2,h3⟩:=h
 cases hb:hasR m r
 ·have hd:m.doBarrier r=m:=by unfold DM.doBarrier;rw [hb,if_neg (by simp)]
  rw [hd]
  refine (barrier_no h1 r hr hb).mono ?_
  rintro e w' ⟨rfl,rfl⟩
  exact ⟨rfl,DevStep.refl ⟨O,L,h1,h2,h3⟩⟩
 ·cases hst:stopped m
  ·have hd:m.doBarrier r=m.barrier r.toNat:=by unfold DM.doBarrier;rw [hb,hst,if_pos (by simp)]
   rw [hd]
   have hb':=hb
   unfold hasR at hb'
   simp only [Bool.and_eq_true,decide_eq_true_eq] at hb'
   obtain ⟨rn,rfl⟩:∃ rn:Nat,r=(rn:Int):=⟨r.toNat,by omega⟩
   exact barrier_yes ⟨O,L,h1,h2,h3⟩ rn (by omega) hst hmax
  ·have hd:m.doBarrier r=m:=by unfold DM.doBarrier;rw [hst,if_neg (by simp)]
   rw [hd]
   refine (barrier_stopped h1 r hr hb hst).mono ?_
   rintro e w' ⟨rfl,rfl⟩
   exact ⟨rfl,DevStep.refl ⟨O,L,h1,h2,h3⟩⟩
def ReadAns (m:DM) (r i:Int) (w0:World) (v:Value) (w:World):Prop :=
 (hasB m r i=false∧v=.tuple #[.slice none 0 0,.bool false]) ∨
 (hasB m r i=true∧∃ (q:Nat) (b:List Int),(m.now.getD r.toNat [])[i.toNat]?=some b∧BlkOk b∧v=.tuple #[.slice (some ⟨q,0,none⟩) 64 64,.bool true]∧w0.heap.size≤q∧w.heap[q]?=some (.cells (Bs b).toArray 125 (0,0)))
theorem dread_any {w:World} {F:Nat→Prop} {hp:Nat} {m:DM} (h:Dev w F hp m) (r i:Int) (hr:i64 r) (hi:i64 i) :
 Calls Tryz.prog 74 #[.pointer (some ⟨hp,0,none⟩),.int .i64 r,.int .i64 i] w fun e w'=>(∃ v,e=.returned v∧ReadAns m r i w v w')∧Below w.heap.size w w':=by
 obtain ⟨O,L,h1,h2,h3⟩:=h
 cases hb:hasB m r i
 ·refine (read_no h1 r i hr hi hb).mono ?_
  rintro e w' ⟨rfl,rfl⟩
  exact ⟨⟨_,rfl,Or.inl ⟨hb,rfl⟩⟩,Below.refl _ _⟩
 ·obtain ⟨rn,j,row,rfl,rfl,hrow,hj⟩:=hasB_row hb
  obtain ⟨b,hbk⟩:∃ b,row[j]?=some b:=⟨_,List.getElem?_eq_getElem hj⟩
  refine (read_yes h1 rn j hrow hbk).mono ?_
  rintro e w' ⟨⟨q,rfl,hq,hc⟩,hbel⟩
  refine ⟨⟨_,rfl,Or.inr ⟨hb,q,b,?_,(h1.ok.rows _ _ hrow).2 b (List.mem_of_getElem? hbk),rfl,hq,hc⟩⟩,hbel⟩
  rw [Int.toNat_natCast,Int.toNat_natCast,List.getD,hrow]
  exact hbk
end Go.Proofs.YtamnpblijdgdaaaGreat
