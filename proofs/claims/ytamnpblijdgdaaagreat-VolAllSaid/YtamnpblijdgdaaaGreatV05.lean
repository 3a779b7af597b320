/- For VolAll: contracts and facts, part 5. -/
import Derived.Test.YtamnpblijdgdaaaGreatV04
namespace Go.Proofs.YtamnpblijdgdaaaGreat
open Go.ChangeShapes Go.WideShapes Go.ChangeAt Go.RowKit
set_option linter.unusedVariables false
set_option maxRecDepth 100000
def setAt (l:List (List (List Int))) (r i:Nat) (b:List Int):List (List (List Int)):=l.set r ((l.getD r []).set i b)
theorem setAt_of {l:List (List (List Int))} {r:Nat} {row:List (List Int)} (h:l[r]?=some row) (i:Nat) (b:List Int):setAt l r i b=l.set r (row.set i b):=by
 unfold setAt;rw [List.getD,h];rfl
def DM.write (m:DM) (r i:Nat) (b:List Int):DM :=
 { m with now:=setAt m.now r i b,done:=m.done++[⟨r,i,b⟩],left:=if m.stops then m.left-1 else m.left }
theorem set_lens {l:List (List (List Int))} {r i:Nat} {b:List Int} (k:Nat):((setAt l r i b)[k]?).map List.length=(l[k]?).map List.length:=by
 unfold setAt
 rw [List.getElem?_set]
 split
 ·rename_i e;subst e
  split
  ·rename_i h;simp [List.getElem?_eq_getElem h]
  ·rename_i h;rw [List.getElem?_eq_none (by omega)]
 ·rfl
theorem set_row {l:List (List (List Int))} {r i:Nat} {b:List Int} {k:Nat} {row:List (List Int)} (h:(setAt l r i b)[k]?=some row):∃ row',l[k]?=some row'∧row.length=row'.length:=by
 have:=set_lens (l:=l) (r:=r) (i:=i) (b:=b) k
 rw [h] at this
 cases hl:l[k]? with
 | none=>rw [hl] at this;cases this
 | some row'=>rw [hl] at this;exact ⟨row',rfl,by simpa using this⟩
theorem set_row' {l:List (List (List Int))} {r i:Nat} {b:List Int} {k:Nat} {row:List (List Int)} (h:l[k]?=some row):∃ row',(setAt l r i b)[k]?=some row'∧row'.length=row.length:=by
 have:=set_lens (l:=l) (r:=r) (i:=i) (b:=b) k
 rw [h] at this
 cases hl:(setAt l r i b)[k]? with
 | none=>rw [hl] at this;cases this
 | some row'=>rw [hl] at this;exact ⟨row',rfl,by simpa using this⟩
theorem set_blks {l:List (List (List Int))} {r i:Nat} {b:List Int} (hb:BlkOk b) (h:∀ (k:Nat) (row:List (List Int)),l[k]?=some row→∀ x∈row,BlkOk x) {k:Nat} {row:List (List Int)} (hr:(setAt l r i b)[k]?=some row):∀ x∈row,BlkOk x:=by
 intro x hx
 unfold setAt at hr
 rw [List.getElem?_set] at hr
 split at hr
 ·rename_i e;subst e
  split at hr
  ·rename_i hlt
   injection hr with hr
   subst hr
   rw [List.getD,List.getElem?_eq_getElem hlt] at hx
   rcases List.mem_or_eq_of_mem_set hx with h1 | h1
   ·exact h r _ (List.getElem?_eq_getElem hlt) x h1
   ·subst h1;exact hb
  ·cases hr
 ·exact h k row hr x hx
theorem DM.Ok.write {m:DM} (h:m.Ok) {r i:Nat} {b:List Int} {row:List (List Int)} (hr:m.now[r]?=some row) (hi:i<row.length) (hb:BlkOk b):(m.write r i b).Ok where
 pos:=by show 0<(setAt _ _ _ _).length;unfold setAt;rw [List.length_set];exact h.pos
 few:=by show (setAt _ _ _ _).length≤8;unfold setAt;rw [List.length_set];exact h.few
 sureLen:=by show _=(setAt _ _ _ _).length;unfold setAt;rw [List.length_set];exact h.sureLen
 unsLen:=by show _=(setAt _ _ _ _).length;unfold setAt;rw [List.length_set];exact h.unsLen
 rows:=fun k row' hk=>by
  obtain ⟨row2,h2,h3⟩:=set_row hk
  exact ⟨by rw [h3];exact (h.rows k row2 h2).1,set_blks hb (fun k row hk=>(h.rows k row hk).2) hk⟩
 sures:=fun k row' hk=>by
  obtain ⟨⟨row2,h2,h3⟩,h4⟩:=h.sures k row' hk
  obtain ⟨row3,h5,h6⟩:=set_row' (r:=r) (i:=i) (b:=b) h2
  exact ⟨⟨row3,h5,by omega⟩,h4⟩
 dones:=fun x hx=>by
  have hx':x∈m.done++[⟨r,i,b⟩]:=hx
  rcases List.mem_append.1 hx' with h1 | h1
  ·obtain ⟨⟨row2,h2,h3⟩,h4⟩:=h.dones x h1
   obtain ⟨row3,h5,h6⟩:=set_row' (r:=r) (i:=i) (b:=b) h2
   exact ⟨⟨row3,h5,by omega⟩,h4⟩
  ·rw [List.mem_singleton.1 h1]
   obtain ⟨row3,h5,h6⟩:=set_row' (r:=r) (i:=i) (b:=b) hr
   exact ⟨⟨row3,h5,Or.inl (by show i<_;omega)⟩,hb⟩
 unss:=fun k u hu=>by
  have:=h.unss k u hu
  show u≤(m.done++_).length
  rw [List.length_append];omega
 left:=by show (if m.stops then m.left-1 else m.left)≤_;have:=h.left;split <;> omega
def VW5 (r i:Nat) (A:Option Addr) (g o B:Nat) (b:List Int) (k:Nat) (v:Value) (w:World):Prop :=
 match k with
 | 0=>v=.int .i64 r
 | 1=>v=.int .i64 i
 | 2=>v=.complex .f64 (Fx.fb r) (Fx.fb i)
 | 3=>∃ c,v=.slice (some ⟨g,o,none⟩) 64 c
 | 4=>v=.pointer (some ⟨g,o,none⟩)
 | 5=>v=.agg (Bs b).toArray
 | 6=>v=.agg (DWr.cs ⟨r,i,b⟩).toArray
 | 7=>∃ q C,v=.pointer (some ⟨q,0,none⟩)∧B≤q∧C.size=65∧w.heap[q]?=some (.cells C 127 (0,0))
 | _=>True
theorem VW5.on {r i:Nat} {A:Option Addr} {g o B:Nat} {b:List Int} {k:Nat} {v:Value} {w w':World} (h:VW5 r i A g o B b k v w) (hg:w.grownBy w' none):VW5 r i A g o B b k v w':=by
 unfold VW5 at *
 split <;> try exact h
 ·obtain ⟨q,C,e,h1,h2,h3⟩:=h
  exact ⟨q,C,e,h1,h2,by rw [hg.block q (room_lt h3) (by simp)];exact h3⟩
 ·trivial
def VW6 (hp r i q g:Nat) (sNow:Value) (b:List Int) (k:Nat) (v:Value) (w:World):Prop :=
 match k with
 | 0 | 1 | 2=>v=.pointer (some ⟨hp,0,none⟩)
 | 3=>v=sNow
 | 4=>v=.pointer (some ⟨q,0,none⟩)
 | 5=>v=.complex .f64 (Fx.fb r) (Fx.fb i)
 | 6 | 9=>v=.pointer (some ⟨g,i*64,none⟩)
 | 7=>v=.pointer (some ⟨q,1,none⟩)
 | 8=>v=.agg (Bs b).toArray
 | _=>True
def VW7 (hp q B:Nat) (Own:Nat→Prop) (sDone:Value) (n:Nat) (l:List Value) (x:DWr) (k:Nat) (v:Value) (w:World):Prop :=
 match k with
 | 0 | 1 | 2 | 8=>v=.pointer (some ⟨hp,0,none⟩)
 | 3 | 9=>v=.pointer (some ⟨hp,2,none⟩)
 | 4=>v=sDone
 | 5=>v=.agg x.cs.toArray
 | 6=>∃ p,v=.slice (some ⟨p,0,none⟩) 1 1∧B≤p∧w.heap[p]?=some (.cells x.cs.toArray 127 (0,0))
 | 7=>RowAt w (fun k=>Own k∨B≤k) 127 65 v (n+1) (l++x.cs)
 | _=>True
def SW7 (sDone:Value) (i:Nat) (w w':World):Prop:=if i=7 then w.grownBy w' sDone.ownBlock else w.grownBy w' none
theorem VW7.on {hp q B:Nat} {Own:Nat→Prop} {sDone:Value} {n:Nat} {l:List Value} {x:DWr} (hB:∀ k,sDone.ownBlock=some k→k<B) {i k:Nat} {v:Value} {w w':World} (hik:i≠k) (h:VW7 hp q B Own sDone n l x k v w) (hg:SW7 sDone i w w'):VW7 hp q B Own sDone n l x k v w':=by
 unfold SW7 at hg
 unfold VW7 at *
 split <;> try exact h
 ·obtain ⟨p,e,h1,h2⟩:=h
  refine ⟨p,e,h1,?_⟩
  split at hg
  ·rw [hg.block p (room_lt h2) (fun e=>by have:=hB p e.symm;omega)];exact h2
  ·rw [hg.block p (room_lt h2) (by simp)];exact h2
 ·rw [if_neg hik] at hg
  exact h.keep fun k hk _=>hg.block k hk (by simp)
 ·trivial
theorem keepT {F:Nat→Prop} {w w':World} (h:Touch F w w') {q:Addr} {v:Value} (hq:w.cell? q=some v) (hF:¬ F q.block):w'.cell? q=some v:=by
 rw [World.cell?_of_block (h.block q.block (World.block_lt_of_cell? w q hq) hF)];exact hq
theorem DevRaw.setNow {w:World} {O:Nat→DRole} {hp:Nat} {L:DLay} {m:DM} (h:DevRaw w O hp L m) {r i:Nat} {row:List (List Int)} (hr:m.now[r]?=some row) (hi:i<row.length) (h64:∀ x∈row,x.length=64) (b:List Int) (hb:b.length=64) {g cap g' n' cap':Nat}
 (hv:L.sNow=.slice (some ⟨g,0,none⟩) m.now.length cap) (hc:w.cell? ⟨g,r,none⟩=some (.slice (some ⟨g',0,none⟩) n' cap')) (ho:O g'=.now r):DevRaw (w.setCells g' (i*64) (Bs b)) O hp L { m with now:=m.now.set r (row.set i b) } where
 hd:=by rw [setCells_other _ _ _ _ _ (fun e=>by rw [← e,h.ohd] at ho;cases ho)];exact h.hd
 ohd:=h.ohd
 now:=h.now.setBlk hr hi h64 b hb hv hc (by rw [ho];simp) (fun r' hne=>by rw [ho];simp;exact fun e=>hne e.symm)
 sure:=h.sure.keep fun k _ hk=>setCells_other _ _ _ _ _ (fun e=>by rw [e,ho] at hk;rcases hk with hk | ⟨_,hk⟩ <;> cases hk)
 done:=h.done.keep fun k _ hk=>setCells_other _ _ _ _ _ (fun e=>by rw [e,ho] at hk;cases hk)
 uns:=h.uns.keep fun k _ hk=>setCells_other _ _ _ _ _ (fun e=>by rw [e,ho] at hk;cases hk)
set_option maxRecDepth 100000 in
set_option maxHeartbeats 1600000 in
theorem write_yes {w:World} {F:Nat→Prop} {hp:Nat} {m:DM} (h:Dev w F hp m) (r i:Nat) {row:List (List Int)} (hr:m.now[r]?=some row) (hi:i<row.length) (A:Option Addr) (bs:List Int) (c:Nat) (hb:BlkOk bs) (hy:Byt w A bs) (hst:stopped m=false) (hmax:m.done.length≤1000000) :
 Calls Tryz.prog 102 #[.pointer (some ⟨hp,0,none⟩),.int .i64 r,.int .i64 i,.slice A 64 c] w fun e w'=>e=.returned (.bool true)∧DevStep w w' F hp (m.write r i bs):=by
 obtain ⟨O,L,h,hF,hlt⟩:=h
 have hO:∀ k,O k≠.none→k<w.heap.size:=fun k hk=>hlt k ((hF k).2 hk)
 have HH:=Lib.hid h
 have hok:=h.ok.rows _ _ hr
 have h64:∀ x∈row,x.length=64:=fun x hx=>(hok.2 x hx).1
 have hn1:=hok.1
 have hrl:=(List.getElem?_eq_some_iff.1 hr).1
 have few:=h.ok.few
 obtain ⟨b0,hb0⟩:∃ b,row[i]?=some b:=⟨_,List.getElem?_eq_getElem hi⟩
 have hBm:=Lib.hid (hasBlock_any h r i (by constructor <;> omega) (by constructor <;> omega))
 have hbt:hasB m r i=true:=by
  unfold hasB hasR
  rw [Int.toNat_natCast,rowLen_of hr]
  simp;omega
 rw [hbt] at hBm
 clear hbt
 have hS:=Lib.hid (stopped_any h)
 rw [hst] at hS
 have HST:=Lib.hid hst
 obtain ⟨g,cap,g',cap',hv,og,og',hgl,hgl',hc,_,hrow0⟩:=h.now.blk hr hb0 h64
 have HROW:=Lib.hid hrow0
 obtain ⟨ga,oa,rfl,hra⟩:=hy.addr (by rw [hb.1];omega)
 have hblen:(Bs bs).length=64:=by rw [Bs_length];exact hb.1
 have HV:=Lib.hid hv
 have HC:=Lib.hid hc
 have HRA:=Lib.hid hra
 have HBL:=Lib.hid hblen
 have HR:=Lib.hid hr
 have HB:=Lib.hid hb
 have HO:=Lib.hid hO
 have HF:=Lib.hid hF
 have HOG:=Lib.hid (And.intro og og')
 have H64:=Lib.hid h64
 have HB0:=Lib.hid hb0
 clear h hr hb0 h64 hrow0 hok hv hc hra hblen hst hy hb hlt hO hF og og'
 generalize hR:m.now.length=R at *
 generalize hn:row.length=n at *
 generalize hN:m.done.length=N at *
 have HR2:=Lib.hid hR
 have HNN:=Lib.hid hn
 have HN:=Lib.hid hN
 clear hR hn hN
 go_enter Tryz.func102,Tryz.ntmps102
 go_wp2_with fail
 refine hBm.out.mono ?_
 rintro e w' ⟨rfl,rfl⟩
 go_wp2_with fail
 refine hS.out.mono ?_
 rintro e w' ⟨rfl,rfl⟩
 go_wp2_with fail
 go_upto_region 5 with fail
 go_cut [9] (fun s wx=>∃ q:Nat,s=.pointer (some ⟨q,0,none⟩)∧w.heap.size≤q∧Below w.heap.size w wx∧wx.heap[q]?=some (.cells (DWr.cs ⟨r,i,bs⟩).toArray 127 (0,0)))
 case first =>
  have grefl:∀ W:World,W.grownBy W none:=fun W=>World.grownBy.refl W _
  refine wp_region_rg (VW5 r i (some ⟨ga,oa,none⟩) ga oa w.heap.size bs) (Below w.heap.size w) (fun w w'=>w.grownBy w' none) (by kernel_rfl) (by kernel_rfl) (fun j v w w' h hg=>h.on hg) ((Below.refl _ _).drew) ?_
  simp only [RAll]
  refine ⟨?_,?_,?_,?_,?_,?_,?_,?_,?_⟩
  ·refine RStep.of rfl fun T W hag hJ hd=>?_
   have e1:T.getD 1 undef=_:=(agree_at hag 1 (by kernel_rfl)).trans rfl
   clear hag hd
   go_simp
   exact ⟨_,rfl,rfl⟩
  ·refine RStep.of rfl fun T W hag hJ hd=>?_
   have e2:T.getD 2 undef=_:=(agree_at hag 2 (by kernel_rfl)).trans rfl
   clear hag hd
   go_simp
   exact ⟨_,rfl,rfl⟩
  ·refine RStep.of rfl fun T W hag hJ hd=>?_
   have d22:T.getD 22 undef=_:=hd ⟨0,.data⟩ (by simp) rfl _ rfl
   have d23:T.getD 23 undef=_:=hd ⟨1,.data⟩ (by simp) rfl _ rfl
   clear hag hd
   go_simp
   refine (place_any W r i).mono ?_;rintro e w' ⟨rfl,rfl⟩
   exact ⟨_,rfl,rfl,hJ,grefl _⟩
  ·refine RStep.of rfl fun T W hag hJ hd=>?_
   have e3:T.getD 3 undef=.slice (some ⟨ga,oa,none⟩) 64 c:=(agree_at hag 3 (by kernel_rfl)).trans rfl
   clear hag hd
   go_simp
   exact ⟨_,rfl,c,rfl⟩
  ·refine RStep.of rfl fun T W hag hJ hd=>?_
   obtain ⟨c',(d25:T.getD 25 undef=_)⟩:=hd ⟨3,.data⟩ (by simp) rfl _ rfl
   clear hag hd
   go_simp
   exact ⟨_,rfl,rfl,hJ,grefl _⟩
  ·refine RStep.of rfl fun T W hag hJ hd=>?_
   have d26:T.getD 26 undef=_:=hd ⟨4,.data⟩ (by simp) rfl _ rfl
   refine wp_load_mid 125 (.tmp 26) rfl ga oa d26 (Bs bs) _ (fun j v hj=>keepC hJ (HRA.out j v hj)) Tryz.underlying125 rfl (by rw [HBL.out];exact size73) ?_
   exact ⟨_,rfl,rfl,hJ,grefl _⟩
  ·refine RStep.of rfl fun T W hag hJ hd=>?_
   have d24:T.getD 24 undef=_:=hd ⟨2,.data⟩ (by simp) rfl _ rfl
   have d27:T.getD 27 undef=_:=hd ⟨5,.data⟩ (by simp) rfl _ rfl
   refine wp_build_eq 127 _ rfl (DWr.cs ⟨r,i,bs⟩).toArray ?_ ?_
   ·simp only [List.map_toArray,List.map_cons,List.map_nil]
    rw [show (⟨T,[]⟩:Act).eval (.tmp 24)=_ from d24,show (⟨T,[]⟩:Act).eval (.tmp 27)=_ from d27]
    exact built75_two r i bs HB.out.1
   ·exact ⟨_,rfl,rfl,hJ,grefl _⟩
  ·refine RStep.of rfl fun T W hag hJ hd=>?_
   obtain ⟨i0,hi0,hz0,hz1,hz2⟩:=info_parts info75
   refine wp_alloc_of 127 rfl i0 _ hi0 hz0 ?_
   refine ⟨_,rfl,⟨W.heap.size,_,rfl,hJ.size,?_,heap_alloc_new W _⟩,hJ.alloc hJ.size _,World.grownBy_alloc W _ _⟩
   simp [Value.cells]
  ·refine RLast.of rfl fun T W hag hJ hd=>?_
   obtain ⟨q,C,(d9:T.getD 9 undef=_),hq,hCs,hqc⟩:=hd 7 _ (by simp) rfl
   have d28:T.getD 28 undef=_:=hd 6 _ (by simp) rfl
   have hxl:(DWr.cs ⟨r,i,bs⟩).length=65:=DWr.cs_length HB.out.1
   refine wp_store_mid 127 (.tmp 9) (.tmp 28) rfl q 0 _ d9 d28 (fun j hj=>?_) (by simp only [List.size_toArray,hxl];exact size75) (all_oneCell_toArray (DWr.cs_one _)) ?_
   ·simp only [List.size_toArray,hxl] at hj
    rw [Nat.zero_add,blk_cell hqc j,blk_free hqc j]
    exact ⟨by rw [Array.getElem?_eq_getElem (by omega)];rfl,rfl⟩
   ·have hblk:=setCells_same q 127 (DWr.cs ⟨r,i,bs⟩) 0 W C.toList (by simpa using hqc) (by rw [hxl];simp [hCs])
    rw [splice_all _ _ (by rw [hxl];simp [hCs])] at hblk
    have hbel:Below w.heap.size w (W.setCells q 0 (DWr.cs ⟨r,i,bs⟩)) :=
     ((Touch.of_below hJ (fun _=>False)).trans' ((Touch.refl (fun k=>k=q) W).setCells rfl 0 _) (fun x hx=>Or.inr (by omega))).below (Nat.le_refl _) (fun k hk=>hk.elim)
    have HM:=Lib.hid (And.intro hq (And.intro hbel hblk))
    obtain ⟨f,hf,hT⟩:=agree_fn hag
    have h9:f 9=_:=(hf 9).trans d9
    generalize (W.setCells q 0 (DWr.cs ⟨r,i,bs⟩))=W2 at *
    clear hag hd d28 d9 hf hqc hblk hbel
    rw [hT]
    clear hT
    simp only [List.filterMap_cons,List.filterMap_nil,List.foldl_cons,List.foldl_nil,List.setIfInBounds_toArray,List.set_cons_succ,List.set_cons_zero,h9]
    rename_i hJc hKc
    go_wp2_with fail
    refine hJc _ _ ?_
    repeat apply Exists.intro
    exact ⟨⟨q,rfl,HM.out⟩,rfl⟩
 case rest =>
  obtain ⟨q,rfl,hq,hb,hc⟩:=hcut
  obtain ⟨w1,rfl⟩:∃ w1,w1=wc:=⟨wc,rfl⟩
  have HQ:=Lib.hid hq
  have HB1:=Lib.hid hb
  have HC1:=Lib.hid hc
  have hqr:=World.rangeAt_of_block hc 0 65
  clear hq hb hc
  go_wp2_with fail
  go_upto_region 6 with fail
  go_cut [9] (fun s wx=>s=.pointer (some ⟨q,0,none⟩)∧Touch (fun k=>k=g') w1 wx∧wx.heap[q]?=some (.cells (DWr.cs ⟨r,i,bs⟩).toArray 127 (0,0))∧DevRaw wx O hp L { m with now:=m.now.set r (row.set i bs) })
  case first =>
   have grefl:∀ W:World,W.grownBy W none:=fun W=>World.grownBy.refl W _
   refine wp_region_rg (VW6 hp r i q g' L.sNow bs) (Below w1.heap.size w1) (fun w w'=>w.grownBy w' none) (by kernel_rfl) (by kernel_rfl) (fun j v w w' h _=>h) ((Below.refl _ _).drew) ?_
   simp only [RAll]
   refine ⟨?_,?_,?_,?_,?_,?_,?_,?_,?_,?_,?_⟩
   ·refine RStep.of rfl fun T W hag hJ hd=>?_
    have e0:T.getD 0 undef=_:=(agree_at hag 0 (by kernel_rfl)).trans rfl
    clear hag hd
    go_simp
    exact ⟨_,rfl,rfl⟩
   ·refine RStep.of rfl fun T W hag hJ hd=>?_
    have d29:T.getD 29 undef=_:=hd ⟨0,.data⟩ (by simp) rfl _ rfl
    clear hag hd
    go_simp
    exact ⟨_,rfl,rfl⟩
   ·refine RStep.of rfl fun T W hag hJ hd=>?_
    have d30:T.getD 30 undef=_:=hd ⟨1,.data⟩ (by simp) rfl _ rfl
    clear hag hd
    go_simp
    exact ⟨_,rfl,rfl⟩
   ·refine RStep.of rfl fun T W hag hJ hd=>?_
    have d31:T.getD 31 undef=_:=hd ⟨2,.data⟩ (by simp) rfl _ rfl
    have c0:=((HH.out.below HB1.out).below hJ).c0
    clear hag hd
    go_simp
    exact ⟨_,rfl,rfl⟩
   ·refine RStep.of rfl fun T W hag hJ hd=>?_
    have e9:T.getD 9 undef=.pointer (some ⟨q,0,none⟩):=(agree_at hag 9 (by kernel_rfl)).trans rfl
    clear hag hd
    go_simp
    exact ⟨_,rfl,rfl⟩
   ·refine RStep.of rfl fun T W hag hJ hd=>?_
    have d33:T.getD 33 undef=_:=hd ⟨4,.data⟩ (by simp) rfl _ rfl
    have c0:W.cell? ⟨q,0,none⟩=some (.complex .f64 (Fx.fb r) (Fx.fb i)):=keepC hJ (by rw [blk_cell HC1.out 0];rfl)
    clear hag hd
    go_simp
    exact ⟨_,rfl,rfl⟩
   ·refine RStep.of rfl fun T W hag hJ hd=>?_
    have d32:T.getD 32 undef=_:=hd ⟨3,.data⟩ (by simp) rfl _ rfl
    have d34:T.getD 34 undef=_:=hd ⟨5,.data⟩ (by simp) rfl _ rfl
    rw [HV.out] at d32
    clear hag hd
    go_simp
    refine (blockAt_any W g cap R r i g' n cap' hrl hi (by omega) hn1 (keepC hJ (keepC HB1.out HC.out))).mono ?_;rintro e w' ⟨rfl,rfl⟩
    exact ⟨_,rfl,rfl,hJ,grefl _⟩
   ·refine RStep.of rfl fun T W hag hJ hd=>?_
    have e9:T.getD 9 undef=.pointer (some ⟨q,0,none⟩):=(agree_at hag 9 (by kernel_rfl)).trans rfl
    clear hag hd
    go_simp
    exact ⟨_,rfl,rfl⟩
   ·refine RStep.of rfl fun T W hag hJ hd=>?_
    have d36:T.getD 36 undef=_:=hd ⟨7,.data⟩ (by simp) rfl _ rfl
    refine wp_load_mid 125 (.tmp 36) rfl q 1 d36 (Bs bs) _ (fun j v hj=>keepC hJ (by rw [blk_cell HC1.out];show (DWr.cs ⟨r,i,bs⟩).toArray[1+j]?=_;rw [List.getElem?_toArray,Nat.add_comm];exact hj)) Tryz.underlying125 rfl (by rw [HBL.out];exact size73) ?_
    exact ⟨_,rfl,rfl,hJ,grefl _⟩
   ·refine RStep.of rfl fun T W hag hJ hd=>?_
    have d35:T.getD 35 undef=_:=hd ⟨6,.data⟩ (by simp) rfl _ rfl
    clear hag hd
    go_simp
    exact ⟨_,rfl,rfl⟩
   ·refine RLast.of rfl fun T W hag hJ hd=>?_
    have d38:T.getD 38 undef=_:=hd 9 _ (by simp) rfl
    have d37:T.getD 37 undef=_:=hd 8 _ (by simp) rfl
    have hdW:=(HH.out.below HB1.out).below hJ
    have hcW:W.cell? ⟨g,r,none⟩=_:=keepC hJ (keepC HB1.out HC.out)
    have hrW:=(HROW.out.below HB1.out).below hJ
    refine wp_store_mid 125 (.tmp 38) (.tmp 37) rfl g' (i*64) _ d38 d37 (by simp only [List.size_toArray,HBL.out];exact hrW.there (i*64) 64 (by omega)) (by simp only [List.size_toArray,HBL.out];exact size73) (all_oneCell_toArray (Bs_one bs)) ?_
    have hnew:=hdW.toDevRaw.setNow HR.out (by rw [HNN.out];exact hi) H64.out bs HB.out.1 (by rw [HR2.out];exact HV.out) hcW HOG.out.2
    have htc:Touch (fun k=>k=g') w1 (W.setCells g' (i*64) (Bs bs)):=((Touch.of_below hJ (fun k=>k=g')).setCells rfl _ _)
    have hqc:(W.setCells g' (i*64) (Bs bs)).heap[q]?=_:=(htc.block q (room_lt HC1.out) (fun e=>by have:=HQ.out;rw [e] at this;omega)).trans HC1.out
    have HM:=Lib.hid (And.intro htc (And.intro hqc hnew))
    have e9:T.getD 9 undef=.pointer (some ⟨q,0,none⟩):=(agree_at hag 9 (by kernel_rfl)).trans rfl
    obtain ⟨f,hf,hT⟩:=agree_fn hag
    generalize (W.setCells g' (i*64) (Bs bs))=W2 at *
    clear hag hd d38 d37 hf hdW hcW hrW hnew htc hqc e9
    rw [hT]
    clear hT
    simp only [List.filterMap_cons,List.filterMap_nil,List.foldl_cons,List.foldl_nil,List.setIfInBounds_toArray,List.set_cons_succ,List.set_cons_zero]
    rename_i hJc hKc
    go_wp2_with fail
    refine hJc _ _ ?_
    repeat apply Exists.intro
    exact ⟨⟨rfl,HM.out⟩,rfl⟩
  case rest =>
   obtain ⟨rfl,hT1,hc2,hd2⟩:=hcut
   obtain ⟨w2,rfl⟩:∃ w2,w2=wc:=⟨wc,rfl⟩
   have HT1:=Lib.hid hT1
   have HC2:=Lib.hid hc2
   have HD2:=Lib.hid hd2
   have hq2:=room_lt hc2
   have hoq:O q=.none:=by
    cases ho:O q with
    | none=>rfl
    | _=>have:=HO.out q (by rw [ho];simp);have:=HQ.out;omega
   have HOQ:=Lib.hid hoq
   clear hT1 hc2 hd2 hoq
   have hqhp:hp≠q:=fun e=>by have h1:=HOQ.out;rw [← e,HD2.out.ohd] at h1;cases h1
   go_wp2_with fail
   go_upto_region 7 with fail
   go_cut [9] (fun s wx=>∃ v:Value,s=.pointer (some ⟨q,0,none⟩)∧Touch (fun k=>k=hp∨O k=.done) w2 wx∧(∀ k,v.ownBlock=some k→O k=.done∨w2.heap.size≤k)∧DevRaw wx (growO O w2.heap.size v) hp { L with sDone:=v } { m with now:=m.now.set r (row.set i bs),done:=m.done++[⟨r,i,bs⟩] })
   case first =>
    have grefl:∀ (W:World) (o:Option Nat),W.grownBy W o:=fun W o=>World.grownBy.refl W _
    have srefl:∀ (i:Nat) (W:World),SW7 L.sDone i W W:=fun i W=>by unfold SW7;split <;> exact World.grownBy.refl W _
    have hBd:∀ k,L.sDone.ownBlock=some k→k<w2.heap.size:=fun k hk=>(HD2.out.done.1.lt k hk).2
    have hJ0:Touch (fun k=>O k=.done) w2 w2.drew∧RowAt w2.drew (fun k=>O k=.done) 127 65 L.sDone N (encW m.done):=⟨(Touch.refl _ _).drew,by have:=HD2.out.done;rw [← HN.out];exact this⟩
    refine wp_region_rgi (VW7 hp q w2.heap.size (fun k=>O k=.done) L.sDone N (encW m.done) ⟨r,i,bs⟩) (fun W=>Touch (fun k=>O k=.done) w2 W∧RowAt W (fun k=>O k=.done) 127 65 L.sDone N (encW m.done)) (SW7 L.sDone) (by kernel_rfl) (by kernel_rfl) (fun i j v w w' hij h hg=>h.on hBd hij hg) hJ0 ?_
    clear hJ0
    have hpn:¬ O hp=.done:=by rw [HD2.out.ohd];simp
    have hqn:¬ O q=.done:=by rw [HOQ.out];simp
    simp only [RAll]
    refine ⟨?_,?_,?_,?_,?_,?_,?_,?_,?_,?_,?_⟩
    ·refine RStep.of rfl fun T W hag hJ hd=>?_
     have e0:T.getD 0 undef=_:=(agree_at hag 0 (by kernel_rfl)).trans rfl
     clear hag hd
     go_simp
     exact ⟨_,rfl,rfl⟩
    ·refine RStep.of rfl fun T W hag hJ hd=>?_
     have e0:T.getD 0 undef=_:=(agree_at hag 0 (by kernel_rfl)).trans rfl
     clear hag hd
     go_simp
     exact ⟨_,rfl,rfl⟩
    ·refine RStep.of rfl fun T W hag hJ hd=>?_
     have d40:T.getD 40 undef=_:=hd ⟨1,.data⟩ (by simp) rfl _ rfl
     clear hag hd
     go_simp
     exact ⟨_,rfl,rfl⟩
    ·refine RStep.of rfl fun T W hag hJ hd=>?_
     have d41:T.getD 41 undef=_:=hd ⟨2,.data⟩ (by simp) rfl _ rfl
     clear hag hd
     go_simp
     exact ⟨_,rfl,rfl⟩
    ·refine RStep.of rfl fun T W hag hJ hd=>?_
     have d42:T.getD 42 undef=_:=hd ⟨3,.data⟩ (by simp) rfl _ rfl
     have c2:W.cell? ⟨hp,2,none⟩=some L.sDone:=keepT hJ.1 HD2.out.c2 hpn
     clear hag hd
     go_simp
     exact ⟨_,rfl,rfl⟩
    ·refine RStep.of rfl fun T W hag hJ hd=>?_
     have e9:T.getD 9 undef=.pointer (some ⟨q,0,none⟩):=(agree_at hag 9 (by kernel_rfl)).trans rfl
     have hqW:W.heap[q]?=_:=(hJ.1.block q hq2 hqn).trans HC2.out
     refine wp_load_mid 127 (.tmp 9) rfl q 0 e9 (DWr.cs ⟨r,i,bs⟩) _ (fun j v hj=>by rw [blk_cell hqW,Nat.zero_add,List.getElem?_toArray];exact hj) Tryz.underlying127 rfl (by rw [DWr.cs_length HB.out.1];exact size75) ?_
     exact ⟨_,rfl,rfl,hJ,srefl _ _⟩
    ·refine RStep.of rfl fun T W hag hJ hd=>?_
     have d44:T.getD 44 undef=_:=hd ⟨5,.data⟩ (by simp) rfl _ rfl
     obtain ⟨i0,hi0,hz0,hz1,hz2⟩:=info_parts info75
     refine wp_one_of 78 (.tmp 44) rfl 127 i0 _ 65 Tryz.underlying78 hi0 hz0 hz1 (by decide) (by decide) _ d44 (by simp only [Value.cells,List.size_toArray];exact DWr.cs_length HB.out.1) ?_
     refine ⟨_,rfl,⟨W.heap.size,rfl,hJ.1.size,heap_alloc_new W _⟩,⟨hJ.1.alloc _,hJ.2.keep fun k hk _=>Below.heap_alloc W _ k hk⟩,?_⟩
     exact World.grownBy_alloc W _ _
    ·refine RStep.of rfl fun T W hag hJ hd=>?_
     have d43:T.getD 43 undef=L.sDone:=hd ⟨4,.data⟩ (by simp) rfl _ rfl
     obtain ⟨p,(d45:T.getD 45 undef=_),hp1,hp2⟩:=hd ⟨6,.data⟩ (by simp) rfl _ rfl
     obtain ⟨i0,hi0,hz0,hz1,hz2⟩:=info_parts info75
     refine wp_push_of (.tmp 43) (.tmp 45) 78 rfl 127 i0 _ 65 80 Tryz.underlying78 hi0 hz0 hz1 hz2 (by simp [Value.cells]) (by decide) L.sDone N (encW m.done) d43 _ hJ.2 ⟨p,0,none⟩ 1 1 (DWr.cs ⟨r,i,bs⟩) d45 (by rw [DWr.cs_length HB.out.1]) (fun j u hj=>by rw [Addr.add_mid,blk_cell hp2,Nat.zero_add,List.getElem?_toArray];exact hj) (DWr.cs_one _) (by simp only [maxLen];omega) (by omega) ?_
     intro v' w' hrow hgr hold
     refine ⟨_,rfl,hrow.owner ?_,⟨?_,hold⟩,hgr⟩
     ·intro k _ hk;rcases hk with hk | hk
      ·exact Or.inl hk
      ·exact Or.inr (by have:=hJ.1.size;omega)
     ·exact hJ.1.trans' (Touch.of_grown hgr) fun k hk=>by
       have:=hold.2 k hk.symm
       exact Or.inl this
    ·refine RStep.of rfl fun T W hag hJ hd=>?_
     have d39:T.getD 39 undef=_:=hd ⟨0,.data⟩ (by simp) rfl _ rfl
     clear hag hd
     go_simp
     exact ⟨_,rfl,rfl⟩
    ·refine RStep.of rfl fun T W hag hJ hd=>?_
     have d47:T.getD 47 undef=_:=hd ⟨8,.data⟩ (by simp) rfl _ rfl
     clear hag hd
     go_simp
     exact ⟨_,rfl,rfl⟩
    ·refine RLast.of rfl fun T W hag hJ hd=>?_
     have d48:T.getD 48 undef=_:=hd 9 _ (by simp) rfl
     have x46:RowAt W (fun k=>O k=.done∨w2.heap.size≤k) 127 65 (T.getD 46 undef) (N+1) (encW m.done++DWr.cs ⟨r,i,bs⟩):=hd 7 _ (by simp) rfl
     obtain ⟨v,d46⟩:∃ v,T.getD 46 undef=v:=⟨_,rfl⟩
     rw [d46] at x46
     obtain ⟨A2,cq,rfl,hc1,hc2⟩:=x46.val
     have hdW:W.heap[hp]?=_:=(hJ.1.block hp HD2.out.lt hpn).trans HD2.out.hd
     have hnew:DevRaw (W.setCell ⟨hp,2,none⟩ (.slice A2 (N+1) cq)) (growO O w2.heap.size (.slice A2 (N+1) cq)) hp { L with sDone:=.slice A2 (N+1) cq } { m with now:=m.now.set r (row.set i bs),done:=m.done++[⟨r,i,bs⟩] }:=by
      refine HD2.out.push ⟨r,i,bs⟩ (.slice A2 (N+1) cq) ?_ ?_ ?_
      ·exact heap_setCell_same' hdW _
      ·intro k hk hne hod
       rw [Below.heap_setCell _ _ _ _ hne];exact hJ.1.block k hk hod
      ·show RowAt _ _ _ 65 _ (m.done.length+1) _
       rw [HN.out]
       exact x46.keep fun k hk ho=>Below.heap_setCell _ _ _ _ (fun e=>by
        subst e
        rcases ho with ho | ho
        ·exact hpn ho
        ·have:=HD2.out.lt;omega)
     have htc:Touch (fun k=>k=hp∨O k=.done) w2 (W.setCell ⟨hp,2,none⟩ (.slice A2 (N+1) cq)):=Touch.setCell (F:=fun k=>k=hp∨O k=.done) (hJ.1.mono fun k _ h=>Or.inr h) (p:=⟨hp,2,none⟩) (Or.inl rfl) _
     have HM:=Lib.hid (And.intro htc (And.intro (fun k hk=>x46.2 k hk:∀ k,(Value.slice A2 (N+1) cq).ownBlock=some k→O k=.done∨w2.heap.size≤k) hnew))
     have c2:W.cell? ⟨hp,2,none⟩=some L.sDone:=blk_cell hdW 2
     have f2:W.frozen? ⟨hp,2,none⟩=false:=blk_free hdW 2
     have e9:T.getD 9 undef=.pointer (some ⟨q,0,none⟩):=(agree_at hag 9 (by kernel_rfl)).trans rfl
     have d46':=d46
     have d48':=d48
     rw [Array.getD_eq_getD_getElem?] at d46' d48'
     have HAG:=Lib.hid hag
     clear hag hd hdW hnew htc x46 e9
     go_simp
     obtain ⟨f,hf,hT⟩:=agree_fn HAG.out
     generalize (W.setCell ⟨hp,2,none⟩ (.slice A2 (N+1) cq))=W2 at *
     clear HAG hf d46 d48 d46' d48' c2 f2
     rw [hT]
     clear hT
     simp only [List.filterMap_cons,List.filterMap_nil,List.foldl_cons,List.foldl_nil,List.setIfInBounds_toArray,List.set_cons_succ,List.set_cons_zero]
     rename_i hJc hKc
     refine hKc _ _ (hJc _ _ ?_)
     repeat apply Exists.intro
     exact ⟨⟨_,rfl,HM.out⟩,rfl⟩
   case rest =>
    obtain ⟨v,rfl,hT3,hv3,hd3⟩:=hcut
    obtain ⟨w3,rfl⟩:∃ w3,w3=wc:=⟨wc,rfl⟩
    have HT3:=Lib.hid hT3
    have HV3:=Lib.hid hv3
    have HD3:=Lib.hid hd3
    have c4:w3.cell? ⟨hp,4,none⟩=some (.bool m.stops):=hd3.c4
    have c5:w3.cell? ⟨hp,5,none⟩=some (.int .i64 m.left):=hd3.c5
    have f5:=hd3.f 5
    have hleft:=HH.out.ok.left
    clear hT3 hv3 hd3
    have fin:∀ w4:World,Touch (fun k=>k=hp) w3 w4→DevRaw w4 (growO O w2.heap.size v) hp { L with sDone:=v } (m.write r i bs)→DevStep w w4 F hp (m.write r i bs):=by
     intro w4 ht hdr
     have hold:∀ k,growO O w2.heap.size v k≠.none→F k∨w.heap.size≤k:=fun k hk=>by
      rcases growO_some hk with h1 | ⟨h1,h2⟩
      ·exact Or.inl ((HF.out k).2 h1)
      ·have h3:=HB1.out.size
       have h4:=HT1.out.size
       exact Or.inr (by omega)
     have hFp:F hp:=(HF.out hp).2 (by rw [HD2.out.ohd];simp)
     refine ⟨fun k=>growO O w2.heap.size v k≠.none,⟨_,_,⟨hdr,HH.out.ok.write HR.out (by rw [HNN.out];exact hi) HB.out⟩,fun k=>Iff.rfl,fun k hk=>?_⟩,?_,hold⟩
     ·have h5:=ht.size
      have h6:=HT3.out.size
      have h7:=HT1.out.size
      have h8:=HB1.out.size
      rcases growO_some hk with h1 | ⟨h1,h2⟩
      ·have:=HO.out k h1;omega
      ·have:=(HD3.out.done.1.lt k h2).2;omega
     ·refine (((Touch.of_below HB1.out F).trans' HT1.out fun k hk=>?_).trans' HT3.out fun k hk=>?_).trans' ht fun k hk=>?_
      ·subst hk;exact Or.inl ((HF.out _).2 (by rw [HOG.out.2];simp))
      ·rcases hk with rfl | hk
       ·exact Or.inl hFp
       ·exact Or.inl ((HF.out k).2 (by rw [hk];simp))
      ·subst hk;exact Or.inl hFp
    have FIN:=Lib.hid fin
    clear fin
    have hnow:setAt m.now r i bs=m.now.set r (row.set i bs):=setAt_of HR.out i bs
    have HNOW:=Lib.hid hnow
    clear hnow
    cases hs:m.stops with
    | false =>
      have HSF:=Lib.hid hs
      rw [hs] at c4
      clear hs
      go_wp2
      go_ret
      refine ⟨rfl,FIN.out _ (Touch.refl _ _) ?_⟩
      have:=HD3.out
      unfold DM.write
      rw [HNOW.out,HSF.out]
      exact ⟨by have:=this.hd;rw [HSF.out] at this;exact this,this.ohd,this.now,this.sure,this.done,this.uns⟩
    | true =>
      have HSF:=Lib.hid hs
      rw [hs] at c4
      have hl0:m.left≠0:=fun e=>by
       have:=HST.out;unfold stopped at this;rw [hs,e] at this;simp at this
      clear hs
      generalize hlf:m.left=lf at *
      have HLF:=Lib.hid hlf
      have hwr:IntKind.i64.wrap ((lf:Int)-1)=(lf:Int)-1:=IntWalk.i64_in _ (by omega)
      clear hlf
      go_wp2
      go_ret
      have e1:((lf:Int)-1)=((lf-1:Nat):Int):=by omega
      rw [e1]
      refine ⟨rfl,FIN.out _ ((Touch.refl (fun k=>k=hp) _).setCell (p:=⟨hp,5,none⟩) rfl _) ?_⟩
      have:=HD3.out.tail (w':=w3.setCell ⟨hp,5,none⟩ (.int .i64 ((lf-1:Nat):Int))) true (lf-1) (by rw [heap_setCell_same' HD3.out.hd];rw [HSF.out];rfl) (fun k hk hne=>Below.heap_setCell _ _ _ _ hne)
      unfold DM.write
      rw [HNOW.out,HSF.out,HLF.out]
      exact this
def settleW:List DWr→Nat→(Nat→Bool)→Nat→List (List (List Int))→List (List (List Int))
 | [],_,_,_,s=>s
 | x :: l,r,kept,nth,s=>if x.r=r then (if x.i=65535 then s else settleW l r kept (nth+1) (if kept nth then setAt s x.r x.i x.b else s)) else settleW l r kept nth s
theorem settleW_next (l:List DWr) (r:Nat) (kept:Nat→Bool) (nth:Nat) (s:List (List (List Int))):∀ n k,l.length-k=n→k≤l.length→settleW (l.drop k) r kept nth s=settleW (l.drop (nextI l r k)) r kept nth s:=by
 intro n
 induction n with
 | zero =>
   intro k h1 h2
   obtain rfl:k=l.length:=by omega
   rw [nextI_end]
 | succ n ih =>
   intro k h1 h2
   have hlt:k<l.length:=by omega
   have hx:l[k]?=some l[k]:=List.getElem?_eq_getElem hlt
   by_cases e:l[k].r=r
   ·rw [nextI_here hx e]
   ·rw [nextI_on hx e,← ih (k+1) (by omega) (by omega),List.drop_eq_getElem_cons hlt,settleW,if_neg e]
theorem settleW_at {l:List DWr} {r:Nat} {k:Nat} {x:DWr} (hx:l[k]?=some x) (hr:x.r=r) (kept:Nat→Bool) (nth:Nat) (s:List (List (List Int))) :
 settleW (l.drop k) r kept nth s=if x.i=65535 then s else settleW (l.drop (k+1)) r kept (nth+1) (if kept nth then setAt s x.r x.i x.b else s):=by
 have hlt:=(List.getElem?_eq_some_iff.1 hx).1
 rw [List.drop_eq_getElem_cons hlt,(List.getElem?_eq_some_iff.1 hx).2,settleW,if_pos hr]
theorem settleW_end (l:List DWr) (r:Nat) (kept:Nat→Bool) (nth:Nat) (s:List (List (List Int))):settleW (l.drop l.length) r kept nth s=s:=by rw [List.drop_length];rfl
def DM.settle (m:DM) (r:Nat) (kept:Nat→Bool):DM :=
 { m with sure:=settleW (m.done.drop (m.uns.getD r 0)) r kept 0 m.sure,uns:=m.uns.set r m.done.length }
structure SureOk (m:DM) (s:List (List (List Int))):Prop where
 len:s.length=m.now.length
 rows:∀ (r:Nat) (row:List (List Int)),s[r]?=some row→(∃ row':List (List Int),m.now[r]?=some row'∧row.length=row'.length)∧(∀ b∈row,BlkOk b)
theorem SureOk.set {m:DM} {s:List (List (List Int))} (h:SureOk m s) {r i:Nat} {b:List Int} (hb:BlkOk b):SureOk m (setAt s r i b) where
 len:=by unfold setAt;rw [List.length_set];exact h.len
 rows:=fun k row hk=>by
  obtain ⟨row',h2,h3⟩:=set_row hk
  obtain ⟨⟨row2,h4,h5⟩,_⟩:=h.rows k row' h2
  exact ⟨⟨row2,h4,by omega⟩,set_blks hb (fun k row hk=>(h.rows k row hk).2) hk⟩
theorem DM.Ok.sureOk {m:DM} (h:m.Ok):SureOk m m.sure:=⟨h.sureLen,h.sures⟩
theorem settleW_ok {m:DM} {r:Nat} {kept:Nat→Bool}:∀ (l:List DWr) (nth:Nat) (s:List (List (List Int))),(∀ x∈l,BlkOk x.b)→SureOk m s→SureOk m (settleW l r kept nth s)
 | [],_,_,_,h=>h
 | x :: l,nth,s,hl,h=>by
   unfold settleW
   have ih:=fun nth s=>settleW_ok (m:=m) (r:=r) (kept:=kept) l nth s (fun y hy=>hl y (by simp [hy]))
   split
   ·split
    ·exact h
    ·exact ih _ _ (by split;exact h.set (hl x (by simp));exact h)
   ·exact ih _ _ h
theorem DM.Ok.withSure {m:DM} (h:m.Ok) {s:List (List (List Int))} (hs:SureOk m s):({ m with sure:=s }:DM).Ok :=
 { pos:=h.pos,few:=h.few,sureLen:=hs.len,unsLen:=h.unsLen,rows:=h.rows,sures:=hs.rows,dones:=h.dones,unss:=h.unss,left:=h.left }
theorem DM.Ok.settle {m:DM} (h:m.Ok) (r:Nat) (kept:Nat→Bool):(m.settle r kept).Ok :=
 have hs:SureOk m (settleW (m.done.drop (m.uns.getD r 0)) r kept 0 m.sure):=settleW_ok _ _ _ (fun x hx=>(h.dones x (List.mem_of_mem_drop hx)).2) h.sureOk
 { pos:=h.pos,few:=h.few,sureLen:=hs.len,unsLen:=by show (m.uns.set _ _).length=_;rw [List.length_set];exact h.unsLen,rows:=h.rows,sures:=hs.rows,dones:=h.dones
   unss:=fun k u hu=>by
    have hu':(m.uns.set r m.done.length)[k]?=some u:=hu
    rw [List.getElem?_set] at hu'
    split at hu'
    ·split at hu'
     ·injection hu' with hu';show u≤m.done.length;omega
     ·cases hu'
    ·exact h.unss k u hu'
   left:=h.left }
theorem DevRaw.setSure {w:World} {O:Nat→DRole} {hp:Nat} {L:DLay} {m:DM} (h:DevRaw w O hp L m) {r i:Nat} {row:List (List Int)} (hr:m.sure[r]?=some row) (hi:i<row.length) (h64:∀ x∈row,x.length=64) (b:List Int) (hb:b.length=64) {g cap g' n' cap':Nat}
 (hv:L.sSure=.slice (some ⟨g,0,none⟩) m.sure.length cap) (hc:w.cell? ⟨g,r,none⟩=some (.slice (some ⟨g',0,none⟩) n' cap')) (ho:O g'=.sure r):DevRaw (w.setCells g' (i*64) (Bs b)) O hp L { m with sure:=m.sure.set r (row.set i b) } where
 hd:=by rw [setCells_other _ _ _ _ _ (fun e=>by rw [← e,h.ohd] at ho;cases ho)];exact h.hd
 ohd:=h.ohd
 now:=h.now.keep fun k _ hk=>setCells_other _ _ _ _ _ (fun e=>by rw [e,ho] at hk;rcases hk with hk | ⟨_,hk⟩ <;> cases hk)
 sure:=h.sure.setBlk hr hi h64 b hb hv hc (by rw [ho];simp) (fun r' hne=>by rw [ho];simp;exact fun e=>hne e.symm)
 done:=h.done.keep fun k _ hk=>setCells_other _ _ _ _ _ (fun e=>by rw [e,ho] at hk;cases hk)
 uns:=h.uns.keep fun k _ hk=>setCells_other _ _ _ _ _ (fun e=>by rw [e,ho] at hk;cases hk)
theorem DevRaw.unsAt {w:World} {O:Nat→DRole} {hp:Nat} {L:DLay} {m:DM} (h:DevRaw w O hp L m) {r u:Nat} (hu:m.uns[r]?=some u) :
 ∃ g cap,L.sUns=.slice (some ⟨g,0,none⟩) m.uns.length cap∧O g=.uns∧g<w.heap.size∧w.cell? ⟨g,r,none⟩=some (.int .i64 u)∧w.frozen? ⟨g,r,none⟩=false:=by
 have hlt:=(List.getElem?_eq_some_iff.1 hu).1
 obtain ⟨g,cap,hv,ho,hg,hn,hm,hc,hf⟩:=h.uns.pos (by omega)
 refine ⟨g,cap,hv,ho,hg,?_,hf r⟩
 rw [hc r (by omega)]
 unfold encN
 rw [List.getElem?_map,hu];rfl
theorem DevRaw.setUns {w:World} {O:Nat→DRole} {hp:Nat} {L:DLay} {m:DM} (h:DevRaw w O hp L m) (r u:Nat) {g cap:Nat} (hv:L.sUns=.slice (some ⟨g,0,none⟩) m.uns.length cap) (ho:O g=.uns) :
 DevRaw (w.setCell ⟨g,r,none⟩ (.int .i64 u)) O hp L { m with uns:=m.uns.set r u } where
 hd:=by rw [Below.heap_setCell _ _ _ _ (fun e=>by have:=h.ohd;rw [e,ho] at this;cases this)];exact h.hd
 ohd:=h.ohd
 now:=h.now.keep fun k _ hk=>Below.heap_setCell _ _ _ _ (fun e=>by subst e;rcases hk with hk | ⟨_,hk⟩ <;> rw [ho] at hk <;> cases hk)
 sure:=h.sure.keep fun k _ hk=>Below.heap_setCell _ _ _ _ (fun e=>by subst e;rcases hk with hk | ⟨_,hk⟩ <;> rw [ho] at hk <;> cases hk)
 done:=h.done.keep fun k _ hk=>Below.heap_setCell _ _ _ _ (fun e=>by subst e;rw [ho] at hk;cases hk)
 uns:=by
  have:=h.uns
  rw [hv] at this ⊢
  show RowAt _ _ _ 1 _ (m.uns.set r u).length (encN (m.uns.set r u))
  rw [List.length_set]
  unfold encN at this ⊢
  rw [List.map_set]
  exact this.stored r _
def AtLook (w:World) (O:Nat→DRole) (hp:Nat) (L:DLay) (m:DM) (r:Nat) (fv:Value) (kept:Nat→Bool) (a:Act) (wr:World):Prop :=
 ∃ (nth k:Nat) (s:List (List (List Int))),k≤m.done.length∧nth≤k∧SureOk m s∧DevAt wr O hp L { m with sure:=s }∧Touch (fun k=>O k=.sure r) w wr ∧
  settleW (m.done.drop k) r kept nth s=settleW (m.done.drop (m.uns.getD r 0)) r kept 0 m.sure ∧
  ∃ u8 u9 u10 u11 u12 u13 u14 u15 u16 u17 u18 u19 u20 u21 u22 u23 u24 u25 u26 u27 u28 u29 u30 u31 u32 u33 u34 u35 u36 u37 u38 u39 u40 u41 u42 u43 u44 u45 u46 u47 u48 u49 u50 u51 u52 u53 u54 u55 u56 u57 u58 u59 u60 u61 u62 u63 u64 u65 u66 u67 u68 u69 u70 u71 u72 u73 u74 u75 u76 u77:Value,a={ tmps:=#[.pointer (some ⟨hp,0,none⟩),.int .i64 r,fv,undef,undef,undef,.int .i64 nth,.int .i64 k,u8,u9,u10,u11,u12,u13,u14,u15,u16,u17,u18,u19,u20,u21,u22,u23,u24,u25,u26,u27,u28,u29,u30,u31,u32,u33,u34,u35,u36,u37,u38,u39,u40,u41,u42,u43,u44,u45,u46,u47,u48,u49,u50,u51,u52,u53,u54,u55,u56,u57,u58,u59,u60,u61,u62,u63,u64,u65,u66,u67,u68,u69,u70,u71,u72,u73,u74,u75,u76,u77],defers:=[] }
def AtEnd (w:World) (O:Nat→DRole) (hp:Nat) (L:DLay) (m:DM) (r:Nat) (fv:Value) (kept:Nat→Bool) (a:Act) (wr:World):Prop :=
 DevAt wr O hp L { m with sure:=settleW (m.done.drop (m.uns.getD r 0)) r kept 0 m.sure }∧Touch (fun k=>O k=.sure r) w wr ∧
  ∃ (nth k:Nat) (u8 u9 u10 u11 u12 u13 u14 u15 u16 u17 u18 u19 u20 u21 u22 u23 u24 u25 u26 u27 u28 u29 u30 u31 u32 u33 u34 u35 u36 u37 u38 u39 u40 u41 u42 u43 u44 u45 u46 u47 u48 u49 u50 u51 u52 u53 u54 u55 u56 u57 u58 u59 u60 u61 u62 u63 u64 u65 u66 u67 u68 u69 u70 u71 u72 u73 u74 u75 u76 u77:Value),a={ tmps:=#[.pointer (some ⟨hp,0,none⟩),.int .i64 r,fv,undef,undef,undef,.int .i64 nth,.int .i64 k,u8,u9,u10,u11,u12,u13,u14,u15,u16,u17,u18,u19,u20,u21,u22,u23,u24,u25,u26,u27,u28,u29,u30,u31,u32,u33,u34,u35,u36,u37,u38,u39,u40,u41,u42,u43,u44,u45,u46,u47,u48,u49,u50,u51,u52,u53,u54,u55,u56,u57,u58,u59,u60,u61,u62,u63,u64,u65,u66,u67,u68,u69,u70,u71,u72,u73,u74,u75,u76,u77],defers:=[] }
def VS4 (hp i bi gd gs:Nat) (sSure sDone:Value) (x:DWr) (k:Nat) (v:Value) (w:World):Prop :=
 match k with
 | 0 | 1 | 4 | 5 | 13 | 14=>v=.pointer (some ⟨hp,0,none⟩)
 | 2=>v=.pointer (some ⟨hp,1,none⟩)
 | 3=>v=sSure
 | 6 | 15=>v=.pointer (some ⟨hp,2,none⟩)
 | 7 | 16=>v=sDone
 | 8 | 17=>v=.int .i64 i
 | 9 | 10 | 18=>v=.pointer (some ⟨gd,i*65,none⟩)
 | 11=>v=.complex .f64 (Fx.fb x.r) (Fx.fb x.i)
 | 12 | 21=>v=.pointer (some ⟨gs,bi*64,none⟩)
 | 19=>v=.pointer (some ⟨gd,i*65+1,none⟩)
 | 20=>v=.agg (Bs x.b).toArray
 | _=>True
set_option maxRecDepth 100000 in
set_option maxHeartbeats 1600000 in
theorem settle_any {w:World} {O:Nat→DRole} {hp:Nat} {L:DLay} {m:DM} (h:DevAt w O hp L m) (r:Nat) (hr:r<m.now.length) (hm:m.done.length≤1000000) (fn:Nat) (caps:Array Value) (kept:Nat→Bool)
 (hcf:∀ (args:Array Value) (W:World),(callFunc fn args).run Tryz.prog W=.ok (.enter fn args) W)
 (hk:∀ W (n:Nat),Touch (fun k=>O k=.sure r) w W→n≤1000000→Calls Tryz.prog fn (#[.int .i64 n]++caps) W fun e w'=>e=.returned (.bool (kept n))∧W=w') :
 Calls Tryz.prog 55 #[.pointer (some ⟨hp,0,none⟩),.int .i64 r,.func (.func fn) #[] caps] w fun e w'=>e=.returned (.tuple #[])∧DevAt w' O hp L (m.settle r kept)∧Touch (fun k=>O k=.uns∨O k=.sure r) w w':=by
 have few:=h.ok.few
 obtain ⟨u,hu⟩:∃ u,m.uns[r]?=some u:=⟨_,List.getElem?_eq_getElem (by rw [h.ok.unsLen];exact hr)⟩
 have hul:=h.ok.unss r u hu
 obtain ⟨gu,capu,hvu,ogu,hgu,hcu,hfu⟩:=h.unsAt hu
 have HH:=Lib.hid h
 have HK:=Lib.hid hk
 have HU:=Lib.hid hu
 have HVU:=Lib.hid (And.intro hvu ogu)
 have hUR:m.uns.length=m.now.length:=h.ok.unsLen
 have hud:m.uns.getD r 0=u:=by rw [List.getD,hu];rfl
 have HUD:=Lib.hid hud
 have c3:=fun q=>(show (w.drewN q).cell? ⟨hp,3,none⟩=some L.sUns from h.c3)
 rw [hvu,hUR] at c3
 have cu:=fun q=>(show (w.drewN q).cell? ⟨gu,r,none⟩=some (.int .i64 u) from hcu)
 clear h hk hu hvu ogu hcu hfu hud
 have HUR:=Lib.hid hUR
 clear hUR
 generalize hR:m.now.length=R at *
 generalize hN:m.done.length=N at *
 have HR:=Lib.hid hR
 have HN:=Lib.hid hN
 clear hR hN
 have hr1:(r:Int)<R:=by omega
 go_enter Tryz.func55,Tryz.ntmps55
 refine wp_scope2e (AtLook w O hp L m r (.func (.func fn) #[] caps) kept) (AtEnd w O hp L m r (.func (.func fn) #[] caps) kept) (fun a' _=>N-(intOf (a'.tmps.getD 7 undef)).toNat) rfl rfl ?_ ?_ ?_
 ·intro HF0
  have HF:=Lib.hid HF0
  clear HF0
  go_wp2
  go_quiet (fail)
  go_wp2
  go_step3
  rename_i hK
  refine hK _ _ (HF.out _ _ ⟨0,u,m.sure,by rw [HN.out];exact hul,Nat.zero_le _,HH.out.ok.sureOk,HH.out.drewN nq,(Touch.refl _ _).drewN nq,by rw [HUD.out],_,_,_,_,_,_,_,_,_,_,_,_,_,_,_,_,_,_,_,_,_,_,_,_,_,_,_,_,_,_,_,_,_,_,_,_,_,_,_,_,_,_,_,_,_,_,_,_,_,_,_,_,_,_,_,_,_,_,_,_,_,_,_,_,_,_,_,_,_,_,rfl⟩)
 ·rintro a wr ⟨nth,k,s,hk,hnk,hs,hd,ht,he,u8,u9,u10,u11,u12,u13,u14,u15,u16,u17,u18,u19,u20,u21,u22,u23,u24,u25,u26,u27,u28,u29,u30,u31,u32,u33,u34,u35,u36,u37,u38,u39,u40,u41,u42,u43,u44,u45,u46,u47,u48,u49,u50,u51,u52,u53,u54,u55,u56,u57,u58,u59,u60,u61,u62,u63,u64,u65,u66,u67,u68,u69,u70,u71,u72,u73,u74,u75,u76,u77,rfl⟩
  have HS:=Lib.hid hs
  have HD:=Lib.hid hd
  have HT:=Lib.hid ht
  have HE:=Lib.hid he
  rw [HN.out] at hk
  have hnx:=Lib.hid (next_any hd r k (by show r<m.now.length;rw [HR.out];exact hr) (by show k≤m.done.length;rw [HN.out];exact hk) (by show m.done.length≤_;rw [HN.out];exact hm))
  have hle:k≤nextI m.done r k∧nextI m.done r k≤N:=by have:=nextI_le (l:=m.done) (r:=r) (i:=k) (by rw [HN.out];exact hk);rw [HN.out] at this;exact this
  have hsn:=settleW_next m.done r kept nth s _ k rfl (by rw [HN.out];exact hk)
  have hat:=fun h=>nextI_at (l:=m.done) (r:=r) (i:=k) h
  rw [he] at hsn
  have HSN:=Lib.hid hsn
  have HAT:=Lib.hid hat
  clear hs hd ht he hsn hat
  change Hid (Calls _ _ _ _ (fun e w'=>e=.returned (.int .i64 (nextI m.done r k))∧wr=w')) at hnx
  generalize nextI m.done r k=k' at *
  go_wp2_with fail
  refine hnx.out.mono ?_
  rintro e w' ⟨rfl,rfl⟩
  have c2:=HD.out.c2
  obtain ⟨Ad,capd,hvd,hd1,hd2⟩:=HD.out.done.val
  have hvd':L.sDone=.slice Ad N capd:=by rw [hvd];show Value.slice Ad m.done.length capd=_;rw [HN.out]
  rw [hvd'] at c2
  have HVD:=Lib.hid hvd'
  clear hvd hvd'
  by_cases hkn:k'=N
  ·subst hkn
   have hfin:s=settleW (m.done.drop (m.uns.getD r 0)) r kept 0 m.sure:=by rw [HSN.out,← HN.out,settleW_end]
   have HFIN:=Lib.hid hfin
   clear hfin
   go_wp2
   go_step3
   exact (show AtEnd _ _ _ _ _ _ _ _ _ _ from ⟨by rw [← HFIN.out];exact HD.out,HT.out,nth,k',_,_,_,_,_,_,_,_,_,_,_,_,_,_,_,_,_,_,_,_,_,_,_,_,_,_,_,_,_,_,_,_,_,_,_,_,_,_,_,_,_,_,_,_,_,_,_,_,_,_,_,_,_,_,_,_,_,_,_,_,_,_,_,_,_,_,_,_,_,_,rfl⟩)
  ·have hkl:k'<N:=by omega
   have hq:((k':Int)==N)=false:=by simp;omega
   obtain ⟨x,hx,hxr⟩:=HAT.out (by rw [HN.out];exact hkl)
   obtain ⟨g,cap',hv,_,_,_,e0,er,_⟩:=HD.out.doneAt (i:=k') (x:=x) hx
   have hv2:=HVD.out
   rw [hv] at hv2
   injection hv2 with e1 e2 e3
   subst e1;subst e3
   have hxi:=HD.out.ok.done_r (x:=x) (List.mem_of_getElem? hx)
   have hx65:x.i<2 ^ 53:=by have:=hxi.2;omega
   have ef:=eq_fb x.i 65535 (by omega) (by omega)
   rw [fb_bar] at ef
   have HX:=Lib.hid hx
   have HXR:=Lib.hid hxr
   have HER:=Lib.hid er
   clear e2 hv hx hxr er
   by_cases hxq:x.i=65535
   ·rw [decide_eq_true hxq] at ef
    have hfin:s=settleW (m.done.drop (m.uns.getD r 0)) r kept 0 m.sure:=by rw [HSN.out,settleW_at HX.out HXR.out,if_pos hxq]
    have HFIN:=Lib.hid hfin
    clear hfin hxq
    go_wp2
    go_step3
    exact (show AtEnd _ _ _ _ _ _ _ _ _ _ from ⟨by rw [← HFIN.out];exact HD.out,HT.out,nth,k',_,_,_,_,_,_,_,_,_,_,_,_,_,_,_,_,_,_,_,_,_,_,_,_,_,_,_,_,_,_,_,_,_,_,_,_,_,_,_,_,_,_,_,_,_,_,_,_,_,_,_,_,_,_,_,_,_,_,_,_,_,_,_,_,_,_,_,_,_,_,rfl⟩)
   ·rw [decide_eq_false hxq] at ef
    have hstep:settleW (m.done.drop (k'+1)) r kept (nth+1) (if kept nth then setAt s x.r x.i x.b else s)=settleW (m.done.drop (m.uns.getD r 0)) r kept 0 m.sure:=by rw [HSN.out,settleW_at HX.out HXR.out,if_neg hxq]
    have HSTEP:=Lib.hid hstep
    have HXQ:=Lib.hid hxq
    clear hstep hxq
    have hcall:=Lib.hid (HK.out wr nth HT.out (by omega))
    go_wp2_with fail
    refine hcall.out.mono ?_
    rintro e w' ⟨rfl,rfl⟩
    cases hq2:kept nth with
    | false =>
      rw [hq2] at HSTEP
      have HQ:=Lib.hid hq2
      clear hq2
      go_wp2
      go_step3
      refine ⟨⟨nth+1,k'+1,s,by rw [HN.out];omega,by omega,HS.out,HD.out,HT.out,HSTEP.out,_,_,_,_,_,_,_,_,_,_,_,_,_,_,_,_,_,_,_,_,_,_,_,_,_,_,_,_,_,_,_,_,_,_,_,_,_,_,_,_,_,_,_,_,_,_,_,_,_,_,_,_,_,_,_,_,_,_,_,_,_,_,_,_,_,_,_,_,_,_,rfl⟩,?_⟩
      simp [intOf];omega
    | true =>
      rw [hq2] at HSTEP
      have HQ:=Lib.hid hq2
      clear hq2
      go_wp2_with fail
      obtain ⟨srow,hsr⟩:∃ srow,s[r]?=some srow:=⟨_,List.getElem?_eq_getElem (by rw [HS.out.len,HR.out];exact hr)⟩
      obtain ⟨⟨nrow,hnr,hlen⟩,hblk⟩:=HS.out.rows r srow hsr
      have hnr':=HD.out.ok.rows r nrow hnr
      have hxd:=HD.out.ok.dones x (List.mem_of_getElem? HX.out)
      have hxi3:x.i<srow.length:=by
       obtain ⟨⟨row,h1,h2⟩,_⟩:=hxd
       have h1':m.now[x.r]?=some row:=h1
       rw [HXR.out,hnr] at h1'
       injection h1' with h1'
       subst h1'
       rcases h2 with h2 | h2
       ·omega
       ·exact absurd h2 HXQ.out
      have h64:∀ b∈srow,b.length=64:=fun b hb=>(hblk b hb).1
      have hxb:=hxd.2
      obtain ⟨b0,hb0⟩:∃ b,srow[x.i]?=some b:=⟨_,List.getElem?_eq_getElem hxi3⟩
      obtain ⟨gt,capt,gs,caps',hvs,_,ogs,hgt,hgs,hcs,_,hrow⟩:=HD.out.sure.blk (r:=r) (i:=x.i) hsr hb0 h64
      have hvs':L.sSure=.slice (some ⟨gt,0,none⟩) R capt:=by rw [hvs];show Value.slice _ s.length capt=_;rw [HS.out.len,HR.out]
      have hsl1:srow.length≤1000:=by have:=hnr'.1;omega
      have hbl:(Bs x.b).length=64:=by rw [Bs_length];exact hxb.1
      have E0:=Lib.hid e0
      have HVS:=Lib.hid hvs'
      have HCS:=Lib.hid hcs
      have HROW:=Lib.hid hrow
      have HSR:=Lib.hid hsr
      have H64:=Lib.hid h64
      have HXB:=Lib.hid hxb
      have HBL:=Lib.hid hbl
      have HOGS:=Lib.hid ogs
      have hkk:(k':Int)<N:=by omega
      clear hsr hnr hlen hblk hnr' hxd h64 hxb hb0 hvs hvs' ogs hcs hrow hbl e0 ef c2
      have grefl:∀ W:World,W.grownBy W none:=fun W=>World.grownBy.refl W _
      refine wp_region_rg (VS4 hp k' x.i g gs L.sSure (.slice (some ⟨g,0,none⟩) N cap') x) (Below wr.heap.size wr) (fun w w'=>w.grownBy w' none) (by kernel_rfl) (by kernel_rfl) (fun j v w w' h _=>h) ((Below.refl _ _).drew) ?_
      simp only [RAll]
      refine ⟨?_,?_,?_,?_,?_,?_,?_,?_,?_,?_,?_,?_,?_,?_,?_,?_,?_,?_,?_,?_,?_,?_,?_⟩
      ·refine RStep.of rfl fun T W hag hJ hd=>?_
       have e0:T.getD 0 undef=_:=(agree_at hag 0 (by kernel_rfl)).trans rfl
       clear hag hd
       go_simp
       exact ⟨_,rfl,rfl⟩
      ·refine RStep.of rfl fun T W hag hJ hd=>?_
       have d41:T.getD 41 undef=_:=hd ⟨0,.data⟩ (by simp) rfl _ rfl
       clear hag hd
       go_simp
       exact ⟨_,rfl,rfl⟩
      ·refine RStep.of rfl fun T W hag hJ hd=>?_
       have d42:T.getD 42 undef=_:=hd ⟨1,.data⟩ (by simp) rfl _ rfl
       clear hag hd
       go_simp
       exact ⟨_,rfl,rfl⟩
      ·refine RStep.of rfl fun T W hag hJ hd=>?_
       have d43:T.getD 43 undef=_:=hd ⟨2,.data⟩ (by simp) rfl _ rfl
       have fct0:=(HD.out.below hJ).c1
       clear hag hd
       go_simp
       exact ⟨_,rfl,rfl⟩
      ·refine RStep.of rfl fun T W hag hJ hd=>?_
       have e0:T.getD 0 undef=_:=(agree_at hag 0 (by kernel_rfl)).trans rfl
       clear hag hd
       go_simp
       exact ⟨_,rfl,rfl⟩
      ·refine RStep.of rfl fun T W hag hJ hd=>?_
       have d45:T.getD 45 undef=_:=hd ⟨4,.data⟩ (by simp) rfl _ rfl
       clear hag hd
       go_simp
       exact ⟨_,rfl,rfl⟩
      ·refine RStep.of rfl fun T W hag hJ hd=>?_
       have d46:T.getD 46 undef=_:=hd ⟨5,.data⟩ (by simp) rfl _ rfl
       clear hag hd
       go_simp
       exact ⟨_,rfl,rfl⟩
      ·refine RStep.of rfl fun T W hag hJ hd=>?_
       have d47:T.getD 47 undef=_:=hd ⟨6,.data⟩ (by simp) rfl _ rfl
       have fct0:=(show W.cell? ⟨hp,2,none⟩=some (.slice (some ⟨g,0,none⟩) N cap') from by rw [← HVD.out];exact (HD.out.below hJ).c2)
       clear hag hd
       go_simp
       exact ⟨_,rfl,rfl⟩
      ·refine RStep.of rfl fun T W hag hJ hd=>?_
       have e7:T.getD 7 undef=_:=(agree_at hag 7 (by kernel_rfl)).trans rfl
       clear hag hd
       go_simp
       exact ⟨_,rfl,rfl⟩
      ·refine RStep.of rfl fun T W hag hJ hd=>?_
       have d48:T.getD 48 undef=_:=hd ⟨7,.data⟩ (by simp) rfl _ rfl
       have d49:T.getD 49 undef=_:=hd ⟨8,.data⟩ (by simp) rfl _ rfl
       clear hag hd
       go_simp
       exact ⟨_,rfl,rfl⟩
      ·refine RStep.of rfl fun T W hag hJ hd=>?_
       have d50:T.getD 50 undef=_:=hd ⟨9,.data⟩ (by simp) rfl _ rfl
       clear hag hd
       go_simp
       exact ⟨_,rfl,rfl⟩
      ·refine RStep.of rfl fun T W hag hJ hd=>?_
       have d51:T.getD 51 undef=_:=hd ⟨10,.data⟩ (by simp) rfl _ rfl
       have fct0:=keepC hJ E0.out
       clear hag hd
       go_simp
       exact ⟨_,rfl,rfl⟩
      ·refine RStep.of rfl fun T W hag hJ hd=>?_
       have d44:T.getD 44 undef=_:=hd ⟨3,.data⟩ (by simp) rfl _ rfl
       have d52:T.getD 52 undef=_:=hd ⟨11,.data⟩ (by simp) rfl _ rfl
       rw [HVS.out] at d44
       rw [HXR.out] at d52
       clear hag hd
       go_simp
       refine (blockAt_any W gt capt R r x.i gs srow.length caps' hr hxi3 (by omega) hsl1 (keepC hJ HCS.out)).mono ?_;rintro e w' ⟨rfl,rfl⟩
       exact ⟨_,rfl,rfl,hJ,grefl _⟩
      ·refine RStep.of rfl fun T W hag hJ hd=>?_
       have e0:T.getD 0 undef=_:=(agree_at hag 0 (by kernel_rfl)).trans rfl
       clear hag hd
       go_simp
       exact ⟨_,rfl,rfl⟩
      ·refine RStep.of rfl fun T W hag hJ hd=>?_
       have d54:T.getD 54 undef=_:=hd ⟨13,.data⟩ (by simp) rfl _ rfl
       clear hag hd
       go_simp
       exact ⟨_,rfl,rfl⟩
      ·refine RStep.of rfl fun T W hag hJ hd=>?_
       have d55:T.getD 55 undef=_:=hd ⟨14,.data⟩ (by simp) rfl _ rfl
       clear hag hd
       go_simp
       exact ⟨_,rfl,rfl⟩
      ·refine RStep.of rfl fun T W hag hJ hd=>?_
       have d56:T.getD 56 undef=_:=hd ⟨15,.data⟩ (by simp) rfl _ rfl
       have fct0:=(show W.cell? ⟨hp,2,none⟩=some (.slice (some ⟨g,0,none⟩) N cap') from by rw [← HVD.out];exact (HD.out.below hJ).c2)
       clear hag hd
       go_simp
       exact ⟨_,rfl,rfl⟩
      ·refine RStep.of rfl fun T W hag hJ hd=>?_
       have e7:T.getD 7 undef=_:=(agree_at hag 7 (by kernel_rfl)).trans rfl
       clear hag hd
       go_simp
       exact ⟨_,rfl,rfl⟩
      ·refine RStep.of rfl fun T W hag hJ hd=>?_
       have d57:T.getD 57 undef=_:=hd ⟨16,.data⟩ (by simp) rfl _ rfl
       have d58:T.getD 58 undef=_:=hd ⟨17,.data⟩ (by simp) rfl _ rfl
       clear hag hd
       go_simp
       exact ⟨_,rfl,rfl⟩
      ·refine RStep.of rfl fun T W hag hJ hd=>?_
       have d59:T.getD 59 undef=_:=hd ⟨18,.data⟩ (by simp) rfl _ rfl
       clear hag hd
       go_simp
       exact ⟨_,rfl,rfl⟩
      ·refine RStep.of rfl fun T W hag hJ hd=>?_
       have d60:T.getD 60 undef=_:=hd ⟨19,.data⟩ (by simp) rfl _ rfl
       refine wp_load_mid 125 (.tmp 60) rfl g (k'*65+1) d60 (Bs x.b) _ (fun j v hj=>keepC hJ (HER.out j v hj)) Tryz.underlying125 rfl (by rw [HBL.out];exact size73) ?_
       exact ⟨_,rfl,rfl,hJ,grefl _⟩
      ·refine RStep.of rfl fun T W hag hJ hd=>?_
       have d53:T.getD 53 undef=_:=hd ⟨12,.data⟩ (by simp) rfl _ rfl
       clear hag hd
       go_simp
       exact ⟨_,rfl,rfl⟩
      ·refine RLast.of rfl fun T W hag hJ hd=>?_
       have d62:T.getD 62 undef=_:=hd 21 _ (by simp) rfl
       have d61:T.getD 61 undef=_:=hd 20 _ (by simp) rfl
       have hrW:=HROW.out.below hJ
       refine wp_store_mid 125 (.tmp 62) (.tmp 61) rfl gs (x.i*64) _ d62 d61 (by simp only [List.size_toArray,HBL.out];exact hrW.there (x.i*64) 64 (by omega)) (by simp only [List.size_toArray,HBL.out];exact size73) (all_oneCell_toArray (Bs_one x.b)) ?_
       have hnew:=(HD.out.below hJ).toDevRaw.setSure (r:=r) (i:=x.i) HSR.out hxi3 H64.out x.b HXB.out.1 (by rw [HVS.out];show _=Value.slice _ s.length _;rw [HS.out.len,HR.out]) (keepC hJ HCS.out) HOGS.out
       have htc:Touch (fun k=>O k=.sure r) w (W.setCells gs (x.i*64) (Bs x.b)):=(HT.out.trans (Touch.of_below hJ _)).setCells HOGS.out _ _
       have hset:setAt s x.r x.i x.b=s.set r (srow.set x.i x.b):=by rw [HXR.out];exact setAt_of HSR.out _ _
       have hsok:SureOk m (s.set r (srow.set x.i x.b)):=by rw [← hset];exact HS.out.set HXB.out
       have hnewD:DevAt (W.setCells gs (x.i*64) (Bs x.b)) O hp L { m with sure:=s.set r (srow.set x.i x.b) }:=⟨hnew,HH.out.ok.withSure hsok⟩
       have hfin:=HSTEP.out
       rw [if_pos trivial,hset] at hfin
       have HM:=Lib.hid (And.intro hsok (And.intro hnewD (And.intro htc hfin)))
       obtain ⟨f,hf,hT⟩:=agree_fn hag
       generalize (W.setCells gs (x.i*64) (Bs x.b))=W2 at *
       clear hag hd d62 d61 hf hrW hnew htc hset hsok hnewD hfin
       rw [hT]
       clear hT
       simp only [List.filterMap_cons,List.filterMap_nil,List.foldl_cons,List.foldl_nil,List.setIfInBounds_toArray,List.set_cons_succ,List.set_cons_zero]
       go_wp2
       go_step3
       refine ⟨⟨nth+1,k'+1,_,by rw [HN.out];omega,by omega,HM.out.1,HM.out.2.1,HM.out.2.2.1,HM.out.2.2.2,_,_,_,_,_,_,_,_,_,_,_,_,_,_,_,_,_,_,_,_,_,_,_,_,_,_,_,_,_,_,_,_,_,_,_,_,_,_,_,_,_,_,_,_,_,_,_,_,_,_,_,_,_,_,_,_,_,_,_,_,_,_,_,_,_,_,_,_,_,_,rfl⟩,?_⟩
       simp [intOf];omega
 ·rintro a wr ⟨hd,ht,nth,k,u8,u9,u10,u11,u12,u13,u14,u15,u16,u17,u18,u19,u20,u21,u22,u23,u24,u25,u26,u27,u28,u29,u30,u31,u32,u33,u34,u35,u36,u37,u38,u39,u40,u41,u42,u43,u44,u45,u46,u47,u48,u49,u50,u51,u52,u53,u54,u55,u56,u57,u58,u59,u60,u61,u62,u63,u64,u65,u66,u67,u68,u69,u70,u71,u72,u73,u74,u75,u76,u77,rfl⟩
  have HD:=Lib.hid hd
  have HT:=Lib.hid ht
  obtain ⟨gv,capv,hvv,ogv,hgv,hcv,hfv⟩:=hd.unsAt (r:=r) HU.out
  obtain ⟨Ad,capd,hvd,hd1,hd2⟩:=hd.done.val
  have hvd':L.sDone=.slice Ad N capd:=by rw [hvd];show Value.slice Ad m.done.length capd=_;rw [HN.out]
  have hvv':L.sUns=.slice (some ⟨gv,0,none⟩) R capv:=by rw [hvv];show Value.slice _ m.uns.length _=_;rw [HUR.out]
  have c2:=hd.c2
  have c3':=hd.c3
  rw [hvd'] at c2
  rw [hvv'] at c3'
  have HV3:=Lib.hid (And.intro hvv' ogv)
  clear hd ht hvd hvv hvd' hvv' ogv c3 cu
  go_wp2
  go_region
  all_goals
   show jumps (fun _ _ _=>False) _ Exit.normal _ _
   rw [jumps_normal]
   go_end0
   have hst:=HD.out.toDevRaw.setUns r N (g:=gv) (cap:=capv) (by rw [HV3.out.1];show _=Value.slice _ m.uns.length _;rw [HUR.out]) HV3.out.2
   rw [show settleW (m.done.drop (m.uns.getD r 0)) r kept 0 m.sure=(m.settle r kept).sure from rfl] at hst
   refine ⟨rfl,⟨?_,HH.out.ok.settle r kept⟩,?_⟩
   ·have:m.settle r kept={ m with sure:=(m.settle r kept).sure,uns:=m.uns.set r N }:=by unfold DM.settle;rw [HN.out]
    rw [this]
    exact DevRaw.keep (w':=_) hst fun _ _ _=>rfl
   ·exact (Touch.setCell (F:=fun k=>O k=.uns∨O k=.sure r) (HT.out.mono fun k _ h=>Or.inr h) (p:=⟨gv,r,none⟩) (Or.inl HV3.out.2) _).drew
def DM.barrier (m:DM) (r:Nat):DM:=({ m with done:=m.done++[⟨r,65535,List.replicate 64 0⟩] }:DM).settle r (fun _=>true)
theorem zeroBlk:BlkOk (List.replicate 64 0):=⟨by simp,fun x hx=>by rw [(List.mem_replicate.1 hx).2];omega⟩
theorem DM.Ok.tell {m:DM} (h:m.Ok) {r:Nat} (hr:r<m.now.length):({ m with done:=m.done++[⟨r,65535,List.replicate 64 0⟩] }:DM).Ok :=
 { pos:=h.pos,few:=h.few,sureLen:=h.sureLen,unsLen:=h.unsLen,rows:=h.rows,sures:=h.sures
   dones:=fun x hx=>by
    have hx':x∈m.done++[⟨r,65535,List.replicate 64 0⟩]:=hx
    rcases List.mem_append.1 hx' with h1 | h1
    ·exact h.dones x h1
    ·rw [List.mem_singleton.1 h1]
     exact ⟨⟨_,List.getElem?_eq_getElem hr,Or.inr rfl⟩,zeroBlk⟩
   unss:=fun k u hu=>by
    have:=h.unss k u hu
    show u≤(m.done++_).length
    rw [List.length_append];omega
   left:=h.left }
theorem run_enter {f : Nat} {fn : Func} {c : Code} (hf : Tryz.prog.funcs[f]? = some fn) (hname : (fn.name == "runtime.NumGoroutine") = false) (hb : fn.body = some c) (args : Array Value) (w : World) : (callFunc f args).run Tryz.prog w = .ok (.enter f args) w := by
 unfold callFunc
 have hn : ¬ fn.name = "runtime.NumGoroutine" := by simpa using hname
 simp [hf,hn,hb]
def VB5 (hp B:Nat) (Own:Nat→Prop) (sDone:Value) (n:Nat) (l:List Value) (x:DWr) (k:Nat) (v:Value) (w:World):Prop :=
 match k with
 | 0 | 1 | 2 | 10=>v=.pointer (some ⟨hp,0,none⟩)
 | 3 | 11=>v=.pointer (some ⟨hp,2,none⟩)
 | 4=>v=sDone
 | 5=>v=.int .i64 x.r
 | 6=>v=.complex .f64 (Fx.fb x.r) (Fx.fb 65535)
 | 7=>v=.agg x.cs.toArray
 | 8=>∃ p,v=.slice (some ⟨p,0,none⟩) 1 1∧B≤p∧w.heap[p]?=some (.cells x.cs.toArray 127 (0,0))
 | 9=>RowAt w (fun k=>Own k∨B≤k) 127 65 v (n+1) (l++x.cs)
 | _=>True
def SB5 (sDone:Value) (i:Nat) (w w':World):Prop:=if i=9 then w.grownBy w' sDone.ownBlock else w.grownBy w' none
theorem VB5.on {hp B:Nat} {Own:Nat→Prop} {sDone:Value} {n:Nat} {l:List Value} {x:DWr} (hB:∀ k,sDone.ownBlock=some k→k<B) {i k:Nat} {v:Value} {w w':World} (hik:i≠k) (h:VB5 hp B Own sDone n l x k v w) (hg:SB5 sDone i w w'):VB5 hp B Own sDone n l x k v w':=by
 unfold SB5 at hg
 unfold VB5 at *
 split <;> try exact h
 ·obtain ⟨p,e,h1,h2⟩:=h
  refine ⟨p,e,h1,?_⟩
  split at hg
  ·rw [hg.block p (room_lt h2) (fun e=>by have:=hB p e.symm;omega)];exact h2
  ·rw [hg.block p (room_lt h2) (by simp)];exact h2
 ·rw [if_neg hik] at hg
  exact h.keep fun k hk _=>hg.block k hk (by simp)
 ·trivial
set_option maxRecDepth 100000 in
set_option maxHeartbeats 1600000 in
theorem barrier_yes {w:World} {F:Nat→Prop} {hp:Nat} {m:DM} (h:Dev w F hp m) (r:Nat) (hr:r<m.now.length) (hst:stopped m=false) (hmax:m.done.length<1000000) :
 Calls Tryz.prog 89 #[.pointer (some ⟨hp,0,none⟩),.int .i64 r] w fun e w'=>e=.returned (.bool true)∧DevStep w w' F hp (m.barrier r):=by
 obtain ⟨O,L,h,hF,hlt⟩:=h
 have hO:∀ k,O k≠.none→k<w.heap.size:=fun k hk=>hlt k ((hF k).2 hk)
 have HH:=Lib.hid h
 have few:=h.ok.few
 have hRm:=Lib.hid (hasRegion_any h r (by constructor <;> omega))
 have hbt:hasR m r=true:=by unfold hasR;simp;omega
 rw [hbt] at hRm
 clear hbt
 have hS:=Lib.hid (stopped_any h)
 rw [hst] at hS
 have HO:=Lib.hid hO
 have HF:=Lib.hid hF
 have HR:=Lib.hid hr
 clear h hst hlt hO hF
 generalize hN:m.done.length=N at *
 have HN:=Lib.hid hN
 clear hN
 go_enter Tryz.func89,Tryz.ntmps89
 go_wp2_with fail
 refine hRm.out.mono ?_
 rintro e w' ⟨rfl,rfl⟩
 go_wp2_with fail
 refine hS.out.mono ?_
 rintro e w' ⟨rfl,rfl⟩
 go_wp2_with fail
 go_upto_region 5 with fail
 go_cut [4] (fun s wx=>∃ v:Value,s=.bool false∧Touch (fun k=>k=hp∨O k=.done) w wx∧(∀ k,v.ownBlock=some k→O k=.done∨w.heap.size≤k)∧DevRaw wx (growO O w.heap.size v) hp { L with sDone:=v } { m with done:=m.done++[⟨r,65535,List.replicate 64 0⟩] })
 case first =>
  have srefl:∀ (i:Nat) (W:World),SB5 L.sDone i W W:=fun i W=>by unfold SB5;split <;> exact World.grownBy.refl W _
  have hBd:∀ k,L.sDone.ownBlock=some k→k<w.heap.size:=fun k hk=>(HH.out.done.1.lt k hk).2
  have hJ0:Touch (fun k=>O k=.done) w w.drew∧RowAt w.drew (fun k=>O k=.done) 127 65 L.sDone N (encW m.done):=⟨(Touch.refl _ _).drew,by have:=HH.out.done;rw [← HN.out];exact this⟩
  have hpn:¬ O hp=.done:=by rw [HH.out.ohd];simp
  refine wp_region_rgi (VB5 hp w.heap.size (fun k=>O k=.done) L.sDone N (encW m.done) ⟨r,65535,List.replicate 64 0⟩) (fun W=>Touch (fun k=>O k=.done) w W∧RowAt W (fun k=>O k=.done) 127 65 L.sDone N (encW m.done)) (SB5 L.sDone) (by kernel_rfl) (by kernel_rfl) (fun i j v w w' hij h hg=>h.on hBd hij hg) hJ0 ?_
  clear hJ0
  simp only [RAll]
  refine ⟨?_,?_,?_,?_,?_,?_,?_,?_,?_,?_,?_,?_,?_⟩
  ·refine RStep.of rfl fun T W hag hJ hd=>?_
   have e0:T.getD 0 undef=_:=(agree_at hag 0 (by kernel_rfl)).trans rfl
   clear hag hd
   go_simp
   first | exact ⟨_,rfl,rfl⟩ | exact ⟨_,rfl,rfl,hJ,srefl _ _⟩
  ·refine RStep.of rfl fun T W hag hJ hd=>?_
   have e0:T.getD 0 undef=_:=(agree_at hag 0 (by kernel_rfl)).trans rfl
   clear hag hd
   go_simp
   first | exact ⟨_,rfl,rfl⟩ | exact ⟨_,rfl,rfl,hJ,srefl _ _⟩
  ·refine RStep.of rfl fun T W hag hJ hd=>?_
   have d12:T.getD 12 undef=_:=hd ⟨1,.data⟩ (by simp) rfl _ rfl
   clear hag hd
   go_simp
   first | exact ⟨_,rfl,rfl⟩ | exact ⟨_,rfl,rfl,hJ,srefl _ _⟩
  ·refine RStep.of rfl fun T W hag hJ hd=>?_
   have d13:T.getD 13 undef=_:=hd ⟨2,.data⟩ (by simp) rfl _ rfl
   clear hag hd
   go_simp
   first | exact ⟨_,rfl,rfl⟩ | exact ⟨_,rfl,rfl,hJ,srefl _ _⟩
  ·refine RStep.of rfl fun T W hag hJ hd=>?_
   have d14:T.getD 14 undef=_:=hd ⟨3,.data⟩ (by simp) rfl _ rfl
   have fct0:=(keepT hJ.1 HH.out.c2 hpn)
   clear hag hd
   go_simp
   first | exact ⟨_,rfl,rfl⟩ | exact ⟨_,rfl,rfl,hJ,srefl _ _⟩
  ·refine RStep.of rfl fun T W hag hJ hd=>?_
   have e1:T.getD 1 undef=_:=(agree_at hag 1 (by kernel_rfl)).trans rfl
   clear hag hd
   go_simp
   first | exact ⟨_,rfl,rfl⟩ | exact ⟨_,rfl,rfl,hJ,srefl _ _⟩
  ·refine RStep.of rfl fun T W hag hJ hd=>?_
   have d16:T.getD 16 undef=_:=hd ⟨5,.data⟩ (by simp) rfl _ rfl
   clear hag hd
   go_simp
   refine (place_any W r 65535).mono ?_;rintro e w' ⟨rfl,rfl⟩
   exact ⟨_,rfl,rfl,hJ,srefl _ _⟩
  ·refine RStep.of rfl fun T W hag hJ hd=>?_
   have d17:T.getD 17 undef=_:=hd ⟨6,.data⟩ (by simp) rfl _ rfl
   refine wp_build_eq 127 _ rfl (DWr.cs ⟨r,65535,List.replicate 64 0⟩).toArray ?_ ?_
   ·simp only [List.map_toArray,List.map_cons,List.map_nil]
    rw [show (⟨T,[]⟩:Act).eval (.tmp 17)=_ from d17]
    exact built75_one r 65535
   ·exact ⟨_,rfl,rfl,hJ,srefl _ _⟩
  ·refine RStep.of rfl fun T W hag hJ hd=>?_
   have d18:T.getD 18 undef=_:=hd ⟨7,.data⟩ (by simp) rfl _ rfl
   obtain ⟨i0,hi0,hz0,hz1,hz2⟩:=info_parts info75
   refine wp_one_of 78 (.tmp 18) rfl 127 i0 _ 65 Tryz.underlying78 hi0 hz0 hz1 (by decide) (by decide) _ d18 (by simp only [Value.cells,List.size_toArray];exact DWr.cs_length zeroBlk.1) ?_
   refine ⟨_,rfl,⟨W.heap.size,rfl,hJ.1.size,heap_alloc_new W _⟩,⟨hJ.1.alloc _,hJ.2.keep fun k hk _=>Below.heap_alloc W _ k hk⟩,?_⟩
   exact World.grownBy_alloc W _ _
  ·refine RStep.of rfl fun T W hag hJ hd=>?_
   have d15:T.getD 15 undef=L.sDone:=hd ⟨4,.data⟩ (by simp) rfl _ rfl
   obtain ⟨p,(d19:T.getD 19 undef=_),hp1,hp2⟩:=hd ⟨8,.data⟩ (by simp) rfl _ rfl
   obtain ⟨i0,hi0,hz0,hz1,hz2⟩:=info_parts info75
   refine wp_push_of (.tmp 15) (.tmp 19) 78 rfl 127 i0 _ 65 80 Tryz.underlying78 hi0 hz0 hz1 hz2 (by simp [Value.cells]) (by decide) L.sDone N (encW m.done) d15 _ hJ.2 ⟨p,0,none⟩ 1 1 (DWr.cs ⟨r,65535,List.replicate 64 0⟩) d19 (by rw [DWr.cs_length zeroBlk.1]) (fun j u hj=>by rw [Addr.add_mid,blk_cell hp2,Nat.zero_add,List.getElem?_toArray];exact hj) (DWr.cs_one _) (by simp only [maxLen];omega) (by omega) ?_
   intro v' w' hrow hgr hold
   refine ⟨_,rfl,hrow.owner ?_,⟨?_,hold⟩,hgr⟩
   ·intro k _ hk;rcases hk with hk | hk
    ·exact Or.inl hk
    ·exact Or.inr (by have:=hJ.1.size;omega)
   ·exact hJ.1.trans' (Touch.of_grown hgr) fun k hk=>Or.inl (hold.2 k hk.symm)
  ·refine RStep.of rfl fun T W hag hJ hd=>?_
   have d11:T.getD 11 undef=_:=hd ⟨0,.data⟩ (by simp) rfl _ rfl
   clear hag hd
   go_simp
   first | exact ⟨_,rfl,rfl⟩ | exact ⟨_,rfl,rfl,hJ,srefl _ _⟩
  ·refine RStep.of rfl fun T W hag hJ hd=>?_
   have d21:T.getD 21 undef=_:=hd ⟨10,.data⟩ (by simp) rfl _ rfl
   clear hag hd
   go_simp
   first | exact ⟨_,rfl,rfl⟩ | exact ⟨_,rfl,rfl,hJ,srefl _ _⟩
  ·refine RLast.of rfl fun T W hag hJ hd=>?_
   have d22:T.getD 22 undef=_:=hd 11 _ (by simp) rfl
   have x20:RowAt W (fun k=>O k=.done∨w.heap.size≤k) 127 65 (T.getD 20 undef) (N+1) (encW m.done++DWr.cs ⟨r,65535,List.replicate 64 0⟩):=hd 9 _ (by simp) rfl
   obtain ⟨v,d20⟩:∃ v,T.getD 20 undef=v:=⟨_,rfl⟩
   rw [d20] at x20
   obtain ⟨A2,cq,rfl,hc1,hc2⟩:=x20.val
   have hdW:W.heap[hp]?=_:=(hJ.1.block hp HH.out.lt hpn).trans HH.out.hd
   have hnew:DevRaw (W.setCell ⟨hp,2,none⟩ (.slice A2 (N+1) cq)) (growO O w.heap.size (.slice A2 (N+1) cq)) hp { L with sDone:=.slice A2 (N+1) cq } { m with done:=m.done++[⟨r,65535,List.replicate 64 0⟩] }:=by
    refine HH.out.toDevRaw.push ⟨r,65535,List.replicate 64 0⟩ (.slice A2 (N+1) cq) ?_ ?_ ?_
    ·exact heap_setCell_same' hdW _
    ·intro k hk hne hod
     rw [Below.heap_setCell _ _ _ _ hne];exact hJ.1.block k hk hod
    ·rw [HN.out]
     exact x20.keep fun k hk ho=>Below.heap_setCell _ _ _ _ (fun e=>by
      subst e
      rcases ho with ho | ho
      ·exact hpn ho
      ·have:=HH.out.lt;omega)
   have htc:Touch (fun k=>k=hp∨O k=.done) w (W.setCell ⟨hp,2,none⟩ (.slice A2 (N+1) cq)):=Touch.setCell (F:=fun k=>k=hp∨O k=.done) (hJ.1.mono fun k _ h=>Or.inr h) (p:=⟨hp,2,none⟩) (Or.inl rfl) _
   have HM:=Lib.hid (And.intro htc (And.intro (fun k hk=>x20.2 k hk:∀ k,(Value.slice A2 (N+1) cq).ownBlock=some k→O k=.done∨w.heap.size≤k) hnew))
   have c2:W.cell? ⟨hp,2,none⟩=some L.sDone:=blk_cell hdW 2
   have f2:W.frozen? ⟨hp,2,none⟩=false:=blk_free hdW 2
   have d20':=d20
   have d22':=d22
   rw [Array.getD_eq_getD_getElem?] at d20' d22'
   have HAG:=Lib.hid hag
   clear hag hd hdW hnew htc x20
   go_simp
   obtain ⟨f,hf,hT⟩:=agree_fn HAG.out
   generalize (W.setCell ⟨hp,2,none⟩ (.slice A2 (N+1) cq))=W2 at *
   clear HAG hf d20 d22 d20' d22' c2 f2
   rw [hT]
   clear hT
   simp only [List.filterMap_cons,List.filterMap_nil,List.foldl_cons,List.foldl_nil,List.setIfInBounds_toArray,List.set_cons_succ,List.set_cons_zero]
   rename_i hJc hKc
   refine hKc _ _ (hJc _ _ ?_)
   repeat apply Exists.intro
   exact ⟨⟨_,rfl,HM.out⟩,rfl⟩
 case rest =>
  obtain ⟨v,rfl,hT3,hv3,hd3⟩:=hcut
  obtain ⟨w3,rfl⟩:∃ w3,w3=wc:=⟨wc,rfl⟩
  have hd4:DevAt w3 (growO O w.heap.size v) hp { L with sDone:=v } { m with done:=m.done++[⟨r,65535,List.replicate 64 0⟩] }:=⟨hd3,HH.out.ok.tell HR.out⟩
  have hset:=Lib.hid (settle_any hd4 r HR.out (by show (m.done++_).length≤_;rw [List.length_append,HN.out];simp;omega) 113 #[] (fun _=>true) (fun args W=>run_enter Tryz.func113 (by kernel_rfl) rfl args W) (fun W n _ _=>barrierOne_any W n))
  have HT3:=Lib.hid hT3
  have HV3:=Lib.hid hv3
  have HD4:=Lib.hid hd4
  clear hT3 hv3 hd3 hd4
  go_wp2_with fail
  refine hset.out.mono ?_
  rintro e w4 ⟨rfl,hd5,ht5⟩
  have HM:=Lib.hid (And.intro hd5 ht5)
  clear hd5 ht5
  go_wp2
  go_ret
  refine ⟨rfl,fun k=>growO O w.heap.size v k≠.none,⟨_,_,HM.out.1,fun k=>Iff.rfl,fun k hk=>?_⟩,?_,fun k hk=>?_⟩
  ·have h1:=HM.out.2.size
   have h2:=HT3.out.size
   rcases growO_some hk with h3 | ⟨h3,h4⟩
   ·have:=HO.out k h3;omega
   ·have:=(HD4.out.done.1.lt k h4).2;omega
  ·refine (HT3.out.mono fun k _ hk=>?_).trans' HM.out.2 fun k hk=>?_
   ·rcases hk with rfl | hk
    ·exact (HF.out _).2 (by rw [HH.out.ohd];simp)
    ·exact (HF.out k).2 (by rw [hk];simp)
   ·have hk':growO O w.heap.size v k≠.none:=by rcases hk with hk | hk <;> rw [hk] <;> simp
    rcases growO_some hk' with h3 | ⟨h3,h4⟩
    ·exact Or.inl ((HF.out k).2 h3)
    ·exact Or.inr h3
  ·rcases growO_some hk with h3 | ⟨h3,h4⟩
   ·exact Or.inl ((HF.out k).2 h3)
   ·exact Or.inr h3
def TxtsF (w:World) (F:Nat→Prop) (A:Option Addr) (ks:List (List Int)):Prop:=∀ i bs,ks[i]?=some bs→∃ a A' c,A=some a∧(∀ W,Touch F w W→W.cell? (a.add i)=some (.slice A' bs.length c)∧Byt W A' bs)∧AllB bs∧bs.length≤c∧c≤9223372036854775807
theorem block_of_add' (a:Addr) (i:Nat):(a.add i).block=a.block:=by unfold Addr.add;split <;> rfl
def DM.crash1 (m:DM) (r:Nat) (bs:List Int):DM :=
 { m.settle r (bitAt bs) with now:=m.now.set r ((m.settle r (bitAt bs)).sure.getD r []) }
def crashN (m:DM) (ks:List (List Int)):Nat→DM
 | 0=>m
 | k+1=>(crashN m ks k).crash1 k (ks.getD k [])
def DM.crash (m:DM) (ks:List (List Int)):DM:=(crashN m ks m.now.length).stop (-1)
theorem crash1_len (m:DM) (r:Nat) (bs:List Int):(m.crash1 r bs).now.length=m.now.length∧(m.crash1 r bs).done=m.done:=by
 unfold DM.crash1;exact ⟨by simp,rfl⟩
theorem crashN_len (m:DM) (ks:List (List Int)):∀ k,(crashN m ks k).now.length=m.now.length∧(crashN m ks k).done=m.done
 | 0=>⟨rfl,rfl⟩
 | k+1=>by
   have:=crashN_len m ks k
   have h1:=crash1_len (crashN m ks k) k (ks.getD k [])
   exact ⟨h1.1.trans this.1,h1.2.trans this.2⟩
theorem DM.Ok.crash1 {m:DM} (h:m.Ok) {r:Nat} (hr:r<m.now.length) (bs:List Int):(m.crash1 r bs).Ok:=by
 have hs:=h.settle r (bitAt bs)
 have hsl:(m.settle r (bitAt bs)).sure.length=m.now.length:=hs.sureLen
 obtain ⟨srow,hsr⟩:∃ x,(m.settle r (bitAt bs)).sure[r]?=some x:=⟨_,List.getElem?_eq_getElem (by omega)⟩
 have hg:(m.settle r (bitAt bs)).sure.getD r []=srow:=by rw [List.getD,hsr];rfl
 obtain ⟨⟨nrow,hn,hl⟩,hb⟩:=hs.sures r srow hsr
 have hn':m.now[r]?=some nrow:=hn
 have lens:∀ (k:Nat) (row:List (List Int)),m.now[k]?=some row→∃ row',(m.now.set r srow)[k]?=some row'∧row'.length=row.length:=fun k row hk=>by
  rw [List.getElem?_set]
  by_cases e:r=k
  ·subst e
   rw [if_pos rfl,if_pos hr]
   rw [hn'] at hk;injection hk with hk;subst hk
   exact ⟨srow,rfl,hl⟩
  ·rw [if_neg e];exact ⟨row,hk,rfl⟩
 unfold DM.crash1
 rw [hg]
 exact
 { pos:=by show 0<(m.now.set r srow).length;rw [List.length_set];exact h.pos
   few:=by show (m.now.set r srow).length≤8;rw [List.length_set];exact h.few
   sureLen:=by show _=(m.now.set r srow).length;rw [List.length_set];exact hsl
   unsLen:=by show _=(m.now.set r srow).length;rw [List.length_set];exact hs.unsLen
   rows:=fun k row hk=>by
    have hk':(m.now.set r srow)[k]?=some row:=hk
    rw [List.getElem?_set] at hk'
    by_cases e:r=k
    ·subst e
     rw [if_pos rfl,if_pos hr] at hk'
     injection hk' with hk';subst hk';exact ⟨by rw [hl];exact (h.rows r nrow hn').1,hb⟩
    ·rw [if_neg e] at hk'
     exact h.rows k row hk'
   sures:=fun k row hk=>by
    obtain ⟨⟨row',h1,h2⟩,h3⟩:=hs.sures k row hk
    obtain ⟨row2,h4,h5⟩:=lens k row' h1
    exact ⟨⟨row2,h4,by omega⟩,h3⟩
   dones:=fun x hx=>by
    obtain ⟨⟨row',h1,h2⟩,h3⟩:=h.dones x hx
    obtain ⟨row2,h4,h5⟩:=lens x.r row' h1
    exact ⟨⟨row2,h4,by omega⟩,h3⟩
   unss:=hs.unss
   left:=h.left }
theorem crashN_ok {m:DM} (h:m.Ok) (ks:List (List Int)):∀ k,k≤m.now.length→(crashN m ks k).Ok
 | 0,_=>h
 | k+1,hk=>(crashN_ok h ks k (by omega)).crash1 (by rw [(crashN_len m ks k).1];omega) _
theorem crashOne_any (w:World) (p:Nat) (A:Option Addr) (bs:List Int) (c n:Nat) (hc:w.cell? ⟨p,0,none⟩=some (.slice A bs.length c)) (hB:AllB bs) (hy:Byt w A bs) (hl:bs.length≤9223372036854775807) (hn:n≤1000000) :
 Calls Tryz.prog 56 #[.int .i64 n,.pointer (some ⟨p,0,none⟩)] w fun e w'=>e=.returned (.bool (bitAt bs n))∧w=w':=by
 have hS:=Lib.hid (isSet_any A bs c n w hB hy hl hn)
 clear hB hy
 generalize bs.length=m at *
 go_enter Tryz.func56,Tryz.ntmps56
 go_wp2_with fail
 refine hS.out.mono ?_
 rintro e w' ⟨rfl,rfl⟩
 go_wp2
 go_ret
 exact ⟨rfl,rfl⟩
theorem DevRaw.setRowNow {w w':World} {O:Nat→DRole} {hp:Nat} {L:DLay} {m:DM} (h:DevRaw w O hp L m) {r:Nat} {row row':List (List Int)} (hr:m.now[r]?=some row) {g cap:Nat} {u:Value} (hv:L.sNow=.slice (some ⟨g,0,none⟩) m.now.length cap)
 (hc:w.cell? ⟨g,r,none⟩=some u) (hu:RowAt w' (fun k=>O k=.now r) 125 64 u row'.length (encB row')) (hk:∀ k,k<w.heap.size→O k≠.now r→w'.heap[k]?=w.heap[k]?):DevRaw w' O hp L { m with now:=m.now.set r row' } where
 hd:=by rw [hk hp (room_lt h.hd) (by rw [h.ohd];simp)];exact h.hd
 ohd:=h.ohd
 now:=h.now.setRow hr hv hc hu (fun k hk' ho=>hk k hk' (by rw [ho];simp)) (fun r' k hk' hne ho=>hk k hk' (by rw [ho];simp;exact hne))
 sure:=h.sure.keep fun k hk' ho=>hk k hk' (by rcases ho with ho | ⟨r,ho⟩ <;> rw [ho] <;> simp)
 done:=h.done.keep fun k hk' ho=>hk k hk' (by rw [ho];simp)
 uns:=h.uns.keep fun k hk' ho=>hk k hk' (by rw [ho];simp)
theorem encB_one (l:List (List Int)):∀ x∈encB l,x.oneCell'=true:=by
 intro x hx
 unfold encB at hx
 obtain ⟨b,_,hb⟩:=List.mem_flatMap.1 hx
 exact Bs_one b x hb
def VC8 (hp k gn gs:Nat) (sNow sSure un us:Value) (i:Nat) (v:Value) (w:World):Prop :=
 match i with
 | 0 | 1 | 2 | 7 | 8=>v=.pointer (some ⟨hp,0,none⟩)
 | 3=>v=sNow
 | 4 | 11=>v=.int .i64 k
 | 5=>v=.pointer (some ⟨gn,k,none⟩)
 | 6=>v=un
 | 9=>v=.pointer (some ⟨hp,1,none⟩)
 | 10=>v=sSure
 | 12=>v=.pointer (some ⟨gs,k,none⟩)
 | 13=>v=us
 | _=>True
set_option maxRecDepth 100000 in
set_option maxHeartbeats 1600000 in
theorem crash_any {w:World} {F:Nat→Prop} {hp:Nat} {m:DM} (h:Dev w F hp m) (A:Option Addr) (ks:List (List Int)) (c:Nat) (hks:TxtsF w F A ks) (hkl:ks.length≤1000000) (hmax:m.done.length≤1000000) :
 Calls Tryz.prog 19 #[.pointer (some ⟨hp,0,none⟩),.slice A ks.length c] w fun e w'=>e=.returned (.tuple #[])∧DevStep w w' F hp (m.crash ks):=by
 obtain ⟨O,L,h,hF,hlt⟩:=h
 have hO:∀ k,O k≠.none→k<w.heap.size:=fun k hk=>hlt k ((hF k).2 hk)
 have HH:=Lib.hid h
 have few:=h.ok.few
 obtain ⟨An,capn,hvn,hn1,hn2⟩:=h.now.val
 have c0:=h.c0
 rw [hvn] at c0
 have HO:=Lib.hid hO
 have HF:=Lib.hid hF
 have HKS:=Lib.hid hks
 clear h hlt hO hF hks hvn
 generalize hR:m.now.length=R at *
 generalize hN:m.done.length=N at *
 generalize hKL:ks.length=kl at *
 have HR:=Lib.hid hR
 have HN:=Lib.hid hN
 have HKL:=Lib.hid hKL
 clear hR hN hKL
 go_enter Tryz.func19,Tryz.ntmps19
 go_wp2_with fail
 clear c0
 go_loopw [13] (fun i wr=>∃ k:Nat,i=.int .i64 k∧k≤R∧DevAt wr O hp L (crashN m ks k)∧Touch (fun k=>O k≠.none) w wr) (fun i _=>R-(intOf i).toNat)
 case atStart=>exact ⟨0,rfl,Nat.zero_le _,HH.out,Touch.refl _ _⟩
 case round =>
  obtain ⟨k,rfl,hk,hd,ht⟩:=hrel
  have HD:=Lib.hid hd
  have HT:=Lib.hid ht
  have hsz:=ht.size
  clear hd ht
  by_cases hlt:k<R
  ·have hns:O wr.heap.size=.none:=by
    cases ho:O wr.heap.size with
    | none=>rfl
    | _=>have:=HO.out _ (by rw [ho];simp);omega
   have HNS:=Lib.hid hns
   clear hns
   go_upto_if 19 with fail
   go_cut [4,5,13] (fun s4 s5 s13 wx=>∃ (A':Option Addr) (c':Nat) (text:List Int),s4=.int .i64 k∧s5=.pointer (some ⟨wr.heap.size,0,none⟩)∧s13=.int .i64 k∧Hid (text=ks.getD k [])∧wx=wr.alloc (.cells #[.slice A' text.length c'] 48)∧Hid (AllB text∧text.length≤9223372036854775807∧∀ W,Touch F w W→Byt W A' text))
   case first =>
    by_cases hkl2:k<kl
    ·obtain ⟨bs,hbs⟩:∃ bs,ks[k]?=some bs:=⟨_,List.getElem?_eq_getElem (by rw [HKL.out];exact hkl2)⟩
     obtain ⟨a,A',c',rfl,h1,h3,h4,h5⟩:=HKS.out k bs hbs
     have hTF:Touch F w wr:=HT.out.mono fun k _ hk=>(HF.out k).2 hk
     have hcell:(wr.alloc (.cells #[.slice none 0 0] 48)).cell? (a.add k)=some (.slice A' bs.length c'):=keepA (h1 wr hTF).1 _
     have HBS:=Lib.hid hbs
     have HM:=Lib.hid (And.intro h3 (And.intro (show bs.length≤9223372036854775807 by omega) (fun W hW=>(h1 W hW).2)))
     have hkk:(k:Int)<kl:=by omega
     have HGB:Hid (bs=ks.getD k []):=by show _=_;rw [List.getD,hbs];rfl
     clear h1 h3 hbs hTF
     go_wp2
     rename_i hJc hKc
     first | refine hJc _ _ ?_ | refine hKc _ _ ?_
     repeat apply Exists.intro
     exact ⟨⟨A',c',bs,rfl,rfl,rfl,HGB,rfl,HM⟩,rfl⟩
    ·have hgd:ks.getD k []=[]:=by rw [List.getD,List.getElem?_eq_none (by rw [HKL.out];omega)];rfl
     have HGD:=Lib.hid hgd
     clear hgd
     have hkk:¬ (k:Int)<kl:=by omega
     go_wp2
     rename_i hJc hKc
     first | refine hJc _ _ ?_ | refine hKc _ _ ?_
     repeat apply Exists.intro
     exact ⟨⟨none,0,[],rfl,rfl,rfl,HGD.out.symm,rfl,Lib.hid ⟨(fun x hx=>by cases hx),by simp,fun W hW i x hx=>by cases hx⟩⟩,rfl⟩
   case rest =>
    obtain ⟨A',c',text,rfl,rfl,rfl,HTX,rfl,HM⟩:=hcut
    have hD1:DevAt (wr.alloc (.cells #[.slice A' text.length c'] 48)) O hp L (crashN m ks k):=HD.out.alloc _
    have hset:=Lib.hid (settle_any hD1 k (by rw [(crashN_len m ks k).1,HR.out];exact hlt) (by rw [(crashN_len m ks k).2,HN.out];omega) 56 #[.pointer (some ⟨wr.heap.size,0,none⟩)] (bitAt text) (fun args W=>run_enter Tryz.func56 (by kernel_rfl) rfl args W)
     (fun W n hW hn=>by
       have hTF:Touch F w W:=(((HT.out.mono fun k _ hk=>(HF.out k).2 hk).alloc _).trans' hW fun x hx=>Or.inl ((HF.out x).2 (by rw [hx];simp)))
       refine crashOne_any W wr.heap.size A' text c' n ?_ HM.out.1 (HM.out.2.2 W hTF) HM.out.2.1 hn
       have hc0:(wr.alloc (.cells #[.slice A' text.length c'] 48)).cell? ⟨wr.heap.size,0,none⟩=some (.slice A' text.length c'):=by rw [blk_cell (heap_alloc_new wr _)];rfl
       exact keepT hW hc0 (by show ¬ O wr.heap.size=_;rw [HNS.out];simp)))
    have HD1:=Lib.hid hD1
    clear hD1
    go_wp2_with fail
    refine hset.out.mono ?_
    rintro e w2 ⟨rfl,hd2,ht2⟩
    have HD2:=Lib.hid hd2
    have ht2':Touch (fun k=>O k≠.none) w w2:=(HT.out.alloc _).trans' ht2 fun x hx=>Or.inl (by rcases hx with hx | hx <;> rw [hx] <;> simp)
    have HT2:=Lib.hid ht2'
    clear hd2 ht2 ht2'
    obtain ⟨nrow,hnr⟩:∃ x,(crashN m ks k).now[k]?=some x:=⟨_,List.getElem?_eq_getElem (by rw [(crashN_len m ks k).1,HR.out];exact hlt)⟩
    have hsok:=HD2.out.ok
    obtain ⟨srow,hsr⟩:∃ x,((crashN m ks k).settle k (bitAt text)).sure[k]?=some x:=⟨_,List.getElem?_eq_getElem (by rw [hsok.sureLen];show k<(crashN m ks k).now.length;rw [(crashN_len m ks k).1,HR.out];exact hlt)⟩
    obtain ⟨⟨nrow',hnr',hlen⟩,_⟩:=hsok.sures k srow hsr
    rw [show ((crashN m ks k).settle k (bitAt text)).now[k]?=some nrow from hnr] at hnr'
    injection hnr' with hnr'
    subst hnr'
    obtain ⟨gn,capn',un,hvn,_,_,hcn,_,hrn⟩:=HD2.out.now.row hnr
    obtain ⟨gs,caps',us,hvs,_,_,hcs,_,hrs⟩:=HD2.out.sure.row hsr
    have hvn':L.sNow=.slice (some ⟨gn,0,none⟩) R capn':=by rw [hvn];show Value.slice _ (crashN m ks k).now.length _=_;rw [(crashN_len m ks k).1,HR.out]
    have hvs':L.sSure=.slice (some ⟨gs,0,none⟩) R caps':=by rw [hvs,hsok.sureLen];show Value.slice _ (crashN m ks k).now.length _=_;rw [(crashN_len m ks k).1,HR.out]
    have hgs:((crashN m ks k).settle k (bitAt text)).sure.getD k []=srow:=by rw [List.getD,hsr];rfl
    have HVN:=Lib.hid hvn'
    have HVS:=Lib.hid hvs'
    have HCN:=Lib.hid hcn
    have HCS:=Lib.hid hcs
    have HRN:=Lib.hid hrn
    have HRS:=Lib.hid hrs
    have HNR:=Lib.hid hnr
    have HLEN:=Lib.hid hlen
    have HGS:=Lib.hid hgs
    have hkk:(k:Int)<R:=by omega
    clear hnr hsok hsr hlen hvn hvs hvn' hvs' hcn hcs hrn hrs hgs
    go_wp2_with fail
    go_upto_region 8 with fail
    have grefl:∀ W:World,W.grownBy W none:=fun W=>World.grownBy.refl W _
    refine wp_region_rg (VC8 hp k gn gs L.sNow L.sSure un us) (Below w2.heap.size w2) (fun w w'=>w.grownBy w' none) (by kernel_rfl) (by kernel_rfl) (fun j v w w' h _=>h) ((Below.refl _ _).drew) ?_
    simp only [RAll]
    refine ⟨?_,?_,?_,?_,?_,?_,?_,?_,?_,?_,?_,?_,?_,?_,?_⟩
    ·refine RStep.of rfl fun T W hag hJ hd=>?_
     have e0:T.getD 0 undef=_:=(agree_at hag 0 (by kernel_rfl)).trans rfl
     clear hag hd
     go_simp
     first | exact ⟨_,rfl,rfl⟩ | exact ⟨_,rfl,rfl,hJ,grefl _⟩
    ·refine RStep.of rfl fun T W hag hJ hd=>?_
     have d28:T.getD 28 undef=_:=hd ⟨0,.data⟩ (by simp) rfl _ rfl
     clear hag hd
     go_simp
     first | exact ⟨_,rfl,rfl⟩ | exact ⟨_,rfl,rfl,hJ,grefl _⟩
    ·refine RStep.of rfl fun T W hag hJ hd=>?_
     have d29:T.getD 29 undef=_:=hd ⟨1,.data⟩ (by simp) rfl _ rfl
     clear hag hd
     go_simp
     first | exact ⟨_,rfl,rfl⟩ | exact ⟨_,rfl,rfl,hJ,grefl _⟩
    ·refine RStep.of rfl fun T W hag hJ hd=>?_
     have d30:T.getD 30 undef=_:=hd ⟨2,.data⟩ (by simp) rfl _ rfl
     have fct0:=(HD2.out.below hJ).c0
     clear hag hd
     go_simp
     first | exact ⟨_,rfl,rfl⟩ | exact ⟨_,rfl,rfl,hJ,grefl _⟩
    ·refine RStep.of rfl fun T W hag hJ hd=>?_
     have e4:T.getD 4 undef=_:=(agree_at hag 4 (by kernel_rfl)).trans rfl
     clear hag hd
     go_simp
     first | exact ⟨_,rfl,rfl⟩ | exact ⟨_,rfl,rfl,hJ,grefl _⟩
    ·refine RStep.of rfl fun T W hag hJ hd=>?_
     have d31:T.getD 31 undef=_:=hd ⟨3,.data⟩ (by simp) rfl _ rfl
     rw [HVN.out] at d31
     have d32:T.getD 32 undef=_:=hd ⟨4,.data⟩ (by simp) rfl _ rfl
     clear hag hd
     go_simp
     first | exact ⟨_,rfl,rfl⟩ | exact ⟨_,rfl,rfl,hJ,grefl _⟩
    ·refine RStep.of rfl fun T W hag hJ hd=>?_
     have d33:T.getD 33 undef=_:=hd ⟨5,.data⟩ (by simp) rfl _ rfl
     have fct0:=keepC hJ HCN.out
     clear hag hd
     go_simp
     first | exact ⟨_,rfl,rfl⟩ | exact ⟨_,rfl,rfl,hJ,grefl _⟩
    ·refine RStep.of rfl fun T W hag hJ hd=>?_
     have e0:T.getD 0 undef=_:=(agree_at hag 0 (by kernel_rfl)).trans rfl
     clear hag hd
     go_simp
     first | exact ⟨_,rfl,rfl⟩ | exact ⟨_,rfl,rfl,hJ,grefl _⟩
    ·refine RStep.of rfl fun T W hag hJ hd=>?_
     have d35:T.getD 35 undef=_:=hd ⟨7,.data⟩ (by simp) rfl _ rfl
     clear hag hd
     go_simp
     first | exact ⟨_,rfl,rfl⟩ | exact ⟨_,rfl,rfl,hJ,grefl _⟩
    ·refine RStep.of rfl fun T W hag hJ hd=>?_
     have d36:T.getD 36 undef=_:=hd ⟨8,.data⟩ (by simp) rfl _ rfl
     clear hag hd
     go_simp
     first | exact ⟨_,rfl,rfl⟩ | exact ⟨_,rfl,rfl,hJ,grefl _⟩
    ·refine RStep.of rfl fun T W hag hJ hd=>?_
     have d37:T.getD 37 undef=_:=hd ⟨9,.data⟩ (by simp) rfl _ rfl
     have fct0:=(HD2.out.below hJ).c1
     clear hag hd
     go_simp
     first | exact ⟨_,rfl,rfl⟩ | exact ⟨_,rfl,rfl,hJ,grefl _⟩
    ·refine RStep.of rfl fun T W hag hJ hd=>?_
     have e4:T.getD 4 undef=_:=(agree_at hag 4 (by kernel_rfl)).trans rfl
     clear hag hd
     go_simp
     first | exact ⟨_,rfl,rfl⟩ | exact ⟨_,rfl,rfl,hJ,grefl _⟩
    ·refine RStep.of rfl fun T W hag hJ hd=>?_
     have d38:T.getD 38 undef=_:=hd ⟨10,.data⟩ (by simp) rfl _ rfl
     rw [HVS.out] at d38
     have d39:T.getD 39 undef=_:=hd ⟨11,.data⟩ (by simp) rfl _ rfl
     clear hag hd
     go_simp
     first | exact ⟨_,rfl,rfl⟩ | exact ⟨_,rfl,rfl,hJ,grefl _⟩
    ·refine RStep.of rfl fun T W hag hJ hd=>?_
     have d40:T.getD 40 undef=_:=hd ⟨12,.data⟩ (by simp) rfl _ rfl
     have fct0:=keepC hJ HCS.out
     clear hag hd
     go_simp
     first | exact ⟨_,rfl,rfl⟩ | exact ⟨_,rfl,rfl,hJ,grefl _⟩
    ·refine RLast.of rfl fun T W hag hJ hd=>?_
     have d34:T.getD 34 undef=_:=hd 6 _ (by simp) rfl
     have d41:T.getD 41 undef=_:=hd 13 _ (by simp) rfl
     refine wp_copy_rows (.tmp 34) (.tmp 41) 81 81 rfl 125 64 Tryz.underlying81 size73 un us nrow.length (encB nrow) (encB srow) _ _ d34 d41 (HRN.out.below hJ) (by rw [← HLEN.out];exact HRS.out.below hJ) (encB_one srow) ?_
     intro w' hrow hgr
     have hdW:=(HD2.out.below hJ).toDevRaw
     have hnew:DevRaw w' O hp L { (crashN m ks k).settle k (bitAt text) with now:=(crashN m ks k).now.set k srow } :=
      DevRaw.setRowNow (m:=(crashN m ks k).settle k (bitAt text)) hdW HNR.out (by rw [HVN.out];show _=Value.slice _ (crashN m ks k).now.length _;rw [(crashN_len m ks k).1,HR.out]) (keepC hJ HCN.out) (by rw [HLEN.out];exact hrow) (fun k' hk' ho=>hgr.block k' hk' (fun e=>ho (HRN.out.2 k' e.symm)))
     have htc:Touch (fun k=>O k≠.none) w w':=(HT2.out.trans (Touch.of_below hJ _)).trans' (Touch.of_grown hgr) fun k' hk'=>Or.inl (by rw [HRN.out.2 k' hk'.symm];simp)
     have hraw:DevRaw w' O hp L (crashN m ks (k+1)):=by
      show DevRaw w' O hp L ((crashN m ks k).crash1 k (ks.getD k []))
      unfold DM.crash1
      rw [← HTX.out,HGS.out];exact hnew
     have HM3:=Lib.hid (And.intro hraw htc)
     obtain ⟨f,hf,hT⟩:=agree_fn hag
     clear hag hd d34 d41 hf hdW hnew htc hrow hgr hraw
     rw [hT]
     clear hT
     simp only [List.filterMap_cons,List.filterMap_nil,List.foldl_cons,List.foldl_nil,List.setIfInBounds_toArray,List.set_cons_succ,List.set_cons_zero]
     go_wp2
     go_roundw
     case rel=>exact ⟨k+1,by go_num,by omega,⟨HM3.out.1,crashN_ok HH.out.ok ks (k+1) (by rw [HR.out];omega)⟩,HM3.out.2⟩
     case measure=>simp [intOf];omega
  ·obtain rfl:k=R:=by omega
   have hst:=Lib.hid (stop_any HD.out (-1) (by constructor <;> omega) (by omega))
   go_wp2_with fail
   refine hst.out.mono ?_
   rintro e w2 ⟨rfl,hd2,ht2⟩
   have HM:=Lib.hid (And.intro hd2 ht2)
   clear hd2 ht2
   go_wp2
   go_end0
   refine ⟨rfl,F,⟨O,L,?_,HF.out,fun k hk=>?_⟩,?_,fun k hk=>Or.inl hk⟩
   ·unfold DM.crash;rw [HR.out];exact HM.out.1
   ·have h1:=HO.out k ((HF.out k).1 hk)
    have h2:=HM.out.2.size
    omega
   ·refine (HT.out.mono fun k _ hk=>(HF.out k).2 hk).trans' HM.out.2 fun k hk=>Or.inl ?_
    subst hk
    exact (HF.out _).2 (by rw [HD.out.ohd];simp)
end Go.Proofs.YtamnpblijdgdaaaGreat
