/- For VolAll: contracts and facts, part 36. -/
import Derived.Test.YtamnpblijdgdaaaGreatV35
namespace Go.Proofs.YtamnpblijdgdaaaGreat
open Go.ChangeShapes Go.WideShapes Go.ChangeAt Go.RowKit
set_option linter.unusedVariables false
set_option maxRecDepth 100000
section
variable {ops:Array Oper} {rest:List Oper} {o:Oper} {a:Act} {w:World} {Q:Exit→Act→World→Prop}
theorem wpList_build59 (hgd:o.guard=none) (x0 x1 x2 x3 x8:Operand) (ho:o.op=.build 59 #[(0,x0),(1,x1),(2,x2),(3,x3),(8,x8)]) (q mb r n g:Nat) (fr:Int) (h0:a.eval x0=.pointer (some ⟨q,0,none⟩)) (h1:a.eval x1=.int .i64 (r:Int)) (h2:a.eval x2=shQ 0 0 n g fr) (h3:a.eval x3=.int .u8 0) (h8:a.eval x8=.map (some mb))
 (h:wpList Tryz.prog ops Q rest (a.put o.dst (.agg (rvol0 q mb r n g fr 0 (.slice none 0 0)))) w):wpList Tryz.prog ops Q (o :: rest) a w :=
 wpList_plain hgd fun _ hK=>by
  unfold Oper.wp execOp
  have hb:=run_build (P:=Tryz.prog) w 59 #[(0,.pointer (some ⟨q,0,none⟩)),(1,.int .i64 (r:Int)),(2,shQ 0 0 n g fr),(3,.int .u8 0),(8,.map (some mb))] _ (built59 q mb r n g fr)
  simp only [ho,List.map_toArray,List.map_cons,List.map_nil,h0,h1,h2,h3,h8,Sem.run_bind,hb,Result.andThen_ok,Sem.run_pure]
  exact hK _ _ h
end
structure MoA (W wr:World) (q hp mb g5 r n g:Nat) (fr:Int) (ep:Nat) (B:Value) (cm:Nat) (f:Int→Option Value):Prop where
 bel:Below W.heap.size W wr
 hd:wr.heap[hp]?=some (.cells (rvol0 q mb r n g fr ep B) 59 (0,0))
 sh:wr.heap[g5]?=some (.cells #[.int .i64 0,.int .i64 0,.int .i64 n,.int .i64 g,.int .i64 fr] 28 (0,0))
 map:MapI wr mb cm f
 lo:W.heap.size≤hp∧W.heap.size≤mb∧W.heap.size≤g5
 ne:hp≠mb∧hp≠g5∧mb≠g5
section
variable {W wr w':World} {q hp mb g5 r n g:Nat} {fr:Int} {ep:Nat} {B:Value} {cm:Nat} {f:Int→Option Value}
theorem MoA.below (h:MoA W wr q hp mb g5 r n g fr ep B cm f) (hb:Below wr.heap.size wr w'):MoA W w' q hp mb g5 r n g fr ep B cm f :=
 ⟨keepB h.bel hb,kb hb h.hd,kb hb h.sh,h.map.keep (hb.block _ h.map.lt),h.lo,h.ne⟩
theorem MoA.set (h:MoA W wr q hp mb g5 r n g fr ep B cm f) {i:Nat} {u:Value} {ep':Nat} {B':Value} (hC:(rvol0 q mb r n g fr ep B).setIfInBounds i u=rvol0 q mb r n g fr ep' B'):MoA W (wr.setCell ⟨hp,i,none⟩ u) q hp mb g5 r n g fr ep' B' cm f:=by
 have ht:Touch (fun k=>k=hp) wr (wr.setCell ⟨hp,i,none⟩ u):=(Touch.refl (fun k=>k=hp) wr).setCell (p:=⟨hp,i,none⟩) rfl u
 exact ⟨h.bel.setCell (p:=⟨hp,i,none⟩) h.lo.1 u,by rw [heap_setCell_same' h.hd,hC],(ht.block g5 (room_lt h.sh) (fun e=>h.ne.2.1 e.symm)).trans h.sh,h.map.keep (ht.block mb h.map.lt (fun e=>h.ne.1 e.symm)),h.lo,h.ne⟩
theorem MoA.cep (h:MoA W wr q hp mb g5 r n g fr ep B cm f):wr.cell? ⟨hp,8,none⟩=some (.int .u32 ep):=(blk_cell h.hd 8).trans rfl
theorem MoA.cfr (h:MoA W wr q hp mb g5 r n g fr ep B cm f) (i:Nat):wr.frozen? ⟨hp,i,none⟩=false:=blk_free h.hd i
theorem MoA.shs (h:MoA W wr q hp mb g5 r n g fr ep B cm f):wr.cell? ⟨g5,0,none⟩=some (.int .i64 0)∧wr.cell? ⟨g5,1,none⟩=some (.int .i64 0)∧wr.cell? ⟨g5,2,none⟩=some (.int .i64 n)∧wr.cell? ⟨g5,3,none⟩=some (.int .i64 g)∧wr.cell? ⟨g5,4,none⟩=some (.int .i64 fr) :=
 ⟨(blk_cell h.sh 0).trans rfl,(blk_cell h.sh 1).trans rfl,(blk_cell h.sh 2).trans rfl,(blk_cell h.sh 3).trans rfl,(blk_cell h.sh 4).trans rfl⟩
end
section
variable {W wr w3:World} {q hp mb g5 r n g:Nat} {fr:Int} {ep:Nat} {B:Value} {cm:Nat} {f:Int→Option Value}
theorem MoA.grow (h:MoA W wr q hp mb g5 r n g fr ep B cm f) {E:TypeId} (hE:E≠59∧E≠28) (hk:∀ (x:Nat) (o:Obj),wr.heap[x]?=some o→(∀ C:Array Value,o≠Obj.cells C E (0,0))→w3.heap[x]?=some o) (hb:Below W.heap.size W w3):MoA W w3 q hp mb g5 r n g fr ep B cm f:=by
 obtain ⟨D,⟨es,clock,hbm,h2⟩,h3⟩:=h.map
 exact ⟨hb,hk _ _ h.hd (fun C e=>hE.1 (by injection e with _ e;exact e.symm)),hk _ _ h.sh (fun C e=>hE.2 (by injection e with _ e;exact e.symm)),⟨D,⟨es,clock,hk _ _ hbm (fun C e=>by cases e),h2⟩,h3⟩,h.lo,h.ne⟩
theorem MapI.grow {lm:Nat} {E:TypeId} (h:MapI wr lm cm f) (hk:∀ (x:Nat) (o:Obj),wr.heap[x]?=some o→(∀ C:Array Value,o≠Obj.cells C E (0,0))→w3.heap[x]?=some o):MapI w3 lm cm f:=by
 obtain ⟨D,⟨es,clock,hbm,h2⟩,h3⟩:=h
 exact ⟨D,⟨es,clock,hk _ _ hbm (fun C e=>by cases e),h2⟩,h3⟩
theorem grow_keeps {Own:Nat→Prop} {E:TypeId} {sz m:Nat} {v:Value} {xs:List Value} (h:RowAt wr Own E sz v m xs) {o1:Obj} (hg:(wr.alloc o1).grownBy w3 v.ownBlock):∀ (x:Nat) (o:Obj),wr.heap[x]?=some o→(∀ C:Array Value,o≠Obj.cells C E (0,0))→w3.heap[x]?=some o:=fun x o hx hn=>by
 have hl:=room_lt hx
 rw [hg.block x (by simp;omega) (fun e=>?_),Below.heap_alloc wr _ x hl]
 ·exact hx
 ·rcases h.1.2 with ⟨h0,_⟩ | ⟨g,cap,cur,h0,_,q1,_⟩
  ·rw [h0] at e;cases e
  ·rw [h0] at e
   simp [Value.ownBlock] at e
   subst e
   rw [q1] at hx
   injection hx with hx
   exact hn cur hx.symm
end
theorem Tx.cut {W:World} {A:Option Addr} {ls:List (List Int)} {c k:Nat} (h:Tx W A ls) (hc:ls.length≤c):Tx W (cutA A c k) (ls.drop k):=fun i b hi=>by
 rw [List.getElem?_drop] at hi
 have hl:k+i<ls.length:=(List.getElem?_eq_some_iff.1 hi).1
 obtain ⟨a,B,d,rfl,h2,h3⟩:=h _ _ hi
 refine ⟨a.add k,B,d,?_,by rw [add_add'];exact h2,h3⟩
 unfold cutA
 rw [if_neg (by omega),Nat.mul_one];rfl
def lastF (ws:List Wr):Int→Option Value:=ws.foldl (fun f x j=>if j=x.t then some (.agg (blkA x.k x.bs)) else f j) (fun _=>none)
theorem lastF_snoc (ws:List Wr) (x:Wr):lastF (ws++[x])=fun j=>if j=x.t then some (.agg (blkA x.k x.bs)) else lastF ws j:=by unfold lastF;rw [List.foldl_append];rfl
theorem MoA.put {W wr w3:World} {q hp mb g5 r n g:Nat} {fr:Int} {ep:Nat} {B:Value} {cm:Nat} {f f':Int→Option Value} (h:MoA W wr q hp mb g5 r n g fr ep B cm f) (hmi:MapI w3 mb (cm+1) f') (hg:wr.grownBy w3 (some mb)):MoA W w3 q hp mb g5 r n g fr ep B (cm+1) f':=by
 have hk:∀ x,x<wr.heap.size→x≠mb→w3.heap[x]?=wr.heap[x]?:=fun x hx hn=>hg.block x hx (fun e=>hn (by injection e))
 exact ⟨h.bel.grown hg h.bel.size (fun y hy=>by simp at hy;have:=h.lo.2.1;omega),(hk hp (room_lt h.hd) h.ne.1).trans h.hd,(hk g5 (room_lt h.sh) (fun e=>h.ne.2.2 e.symm)).trans h.sh,hmi,h.lo,h.ne⟩
theorem ownsRow_away {wr w3:World} {base:Nat} {E:TypeId} {sz m:Nat} {v:Value} {xs:List Value} {lm cx:Nat} {fl:Int→Option Value} (h:wr.ownsRow base E sz v m xs) (hm:MapI wr lm cx fl) (hg:wr.grownBy w3 (some lm)):w3.ownsRow base E sz v m xs:=by
 obtain ⟨D,⟨es,clock,hbm,h2⟩,h3⟩:=hm
 refine ⟨h.1,?_⟩
 rcases h.2 with h0 | ⟨g,cap,cur,h0,hb,hx,h4⟩
 ·exact Or.inl h0
 ·refine Or.inr ⟨g,cap,cur,h0,hb,?_,h4⟩
  rw [hg.block g (room_lt hx) (fun e=>by injection e with e;rw [e,hbm] at hx;cases hx)]
  exact hx
theorem zeroBk (W:World):(zeroValue 71).run Tryz.prog W=.ok (.agg (blkA 0 zBs)) W:=by
 obtain ⟨i0,hi,hz0,hz1,hz2⟩:=info_parts info24
 simp [zeroValue,typeInfo,hi,hz0]
theorem dirty_snoc (L:List HB) (z:HB):dirtyF (L++[z])=if z.lg=true then (fun i:Int=>if i=(L.length:Int) then some (.bool true) else dirtyF L i) else dirtyF L:=by
 funext i
 have key:(0≤i∧((L++[z])[i.toNat]?).map (·.lg)=some true)↔((i=(L.length:Int)∧z.lg=true)∨(0≤i∧(L[i.toNat]?).map (·.lg)=some true)):=by
  by_cases h0:0≤i
  ·by_cases h1:i.toNat<L.length
   ·rw [List.getElem?_append_left h1]
    have e3:¬ i=(L.length:Int):=by omega
    simp [e3]
   ·have e2:L[i.toNat]?=none:=List.getElem?_eq_none (by omega)
    by_cases h2:i=(L.length:Int)
    ·subst h2
     simp
    ·have e1:(L++[z])[i.toNat]?=none:=List.getElem?_eq_none (by simp;omega)
     rw [e1,e2]
     simp [h2]
  ·have e3:¬ i=(L.length:Int):=by omega
   simp [h0,e3]
 cases hz:z.lg
 ·rw [if_neg (by simp)]
  unfold dirtyF
  rw [hz] at key
  simp only [Bool.false_eq_true,and_false,false_or] at key
  simp only [key]
 ·rw [if_pos rfl]
  unfold dirtyF
  rw [hz] at key
  simp only [and_true] at key
  simp only [key]
  by_cases h2:i=(L.length:Int)
  ·rw [if_pos (Or.inl h2),if_pos h2]
  ·rw [if_neg h2]
   simp only [h2,false_or]
theorem lastF_lay (n:Nat) (ws:List Wr):∀ k,k≤ws.length→∀ (i:Nat) (x:HB),(layB (List.replicate n zH) (ws.take k))[i]?=some x→lastF (ws.take k) (i:Int)=if x.lg=true then some (.agg (blkA x.k x.bs)) else none
 | 0,_,i,x,hx=>by
   rw [List.take_zero] at hx ⊢
   have hm:=List.mem_of_getElem? (show (List.replicate n zH)[i]?=some x from hx)
   rw [List.eq_of_mem_replicate hm]
   rfl
 | k+1,hk,i,x,hx=>by
   obtain ⟨y,hy⟩:∃ y,ws[k]?=some y:=⟨_,List.getElem?_eq_getElem (by omega)⟩
   rw [take_snoc' hy] at hx ⊢
   rw [lastF_snoc]
   rw [layB_append] at hx
   have ih:=lastF_lay n ws k (by omega)
   generalize hL:layB (List.replicate n zH) (ws.take k)=L at hx ih
   have hx2:(if 0≤y.t∧y.t<L.length then L.set y.t.toNat ⟨y.k,y.bs,true⟩ else L)[i]?=some x:=hx
   show (if (i:Int)=y.t then some (Value.agg (blkA y.k y.bs)) else lastF (ws.take k) i)=_
   by_cases hc:0≤y.t∧y.t<L.length
   ·rw [if_pos hc] at hx2
    by_cases he:(i:Int)=y.t
    ·have hi:y.t.toNat=i:=by omega
     rw [hi,List.getElem?_set_self (by omega)] at hx2
     injection hx2 with hx2
     rw [if_pos he,← hx2];rfl
    ·rw [List.getElem?_set_ne (by omega)] at hx2
     rw [if_neg he]
     exact ih i x hx2
   ·rw [if_neg hc] at hx2
    have hi:=(List.getElem?_eq_some_iff.1 hx2).1
    rw [if_neg (by omega)]
    exact ih i x hx2
section
variable {W wr w3:World} {q hp mb g5 r n g:Nat} {fr:Int} {ep:Nat} {B:Value} {cm cx lm:Nat} {f fl:Int→Option Value}
theorem map_cells (h:MapI wr lm cx fl) (hg:wr.grownBy w3 (some lm)):∀ (a:Addr) (v:Value),wr.cell? a=some v→w3.cell? a=some v:=fun a v hc=>by
 obtain ⟨D,⟨es,clock,hbm,h2⟩,h3⟩:=h
 refine hg.cell hc (fun e=>?_)
 injection e with e
 unfold World.cell? at hc
 rw [e,hbm] at hc
 cases hc
theorem Tx.cells {A:Option Addr} {ls:List (List Int)} (h:Tx wr A ls) (hc:∀ (a:Addr) (v:Value),wr.cell? a=some v→w3.cell? a=some v):Tx w3 A ls:=fun i b hi =>
 let ⟨a,B,d,e,h1,h2,h3,hy⟩:=h i b hi
 ⟨a,B,d,e,hc _ _ h1,h2,h3,fun j x hj=>let ⟨a',e',h5⟩:=hy j x hj;⟨a',e',hc _ _ h5⟩⟩
theorem Wrs.cells {A:Option Addr} {l:List Wr} (h:Wrs wr A l) (hc:∀ (a:Addr) (v:Value),wr.cell? a=some v→w3.cell? a=some v):Wrs w3 A l:=fun i x hi =>
 let ⟨a,e,h1⟩:=h i x hi
 ⟨a,e,fun j v hj=>hc _ _ (h1 j v hj)⟩
theorem MoA.mark (h:MoA W wr q hp mb g5 r n g fr ep B cm f) (hm:MapI wr lm cx fl) (hg:wr.grownBy w3 (some lm)) (hne:mb≠lm) (hl:W.heap.size≤lm):MoA W w3 q hp mb g5 r n g fr ep B cm f:=by
 obtain ⟨D,⟨es,clock,hbm,h2⟩,h3⟩:=hm
 have hk:∀ x,x<wr.heap.size→x≠lm→w3.heap[x]?=wr.heap[x]?:=fun x hx hn=>hg.block x hx (fun e=>hn (by injection e))
 exact ⟨h.bel.grown hg h.bel.size (fun y hy=>by simp at hy;omega),(hk hp (room_lt h.hd) (fun e=>by have:=h.hd;rw [e,hbm] at this;cases this)).trans h.hd,(hk g5 (room_lt h.sh) (fun e=>by have:=h.sh;rw [e,hbm] at this;cases this)).trans h.sh,h.map.keep (hk mb h.map.lt hne),h.lo,h.ne⟩
end
theorem wp_app_bk2 {w:World} {o:Oper} {a:Act} {K:Act→World→Prop} {Q:Exit→Act→World→Prop} (s x:Operand)
 (ho:o.op=.call { callee:=.builtin .append,args:=#[s,x],argTypes:=#[56,56] })
 (base:Nat) (v:Value) (l:List Bk) (hs:a.eval s=v) (hown:OwnK w base v l) (g:Nat) (y:Bk) (h56:y.bs.length=56) (hx:a.eval x=.slice (some ⟨g,0,none⟩) 1 1) (hg:w.heap[g]?=some (.cells (blkA y.k y.bs) 71 (0,0))) (h63:l.length≤1000) (hbase:base≤w.heap.size)
 (h:∀ v' w',OwnK w' base v' (l++[y])→w.grownBy w' v.ownBlock→K (a.put o.dst v') w'):o.wp Tryz.prog a w K Q:=by
 obtain ⟨i0,hi,hz0,hz1,hz2⟩:=info_parts info24
 obtain ⟨v',w',hr,h2,h3,_,_⟩:=run_append_own_at (P:=Tryz.prog) w base 56 o.type 71 i0 _ 57 64 Tryz.underlying56 hi hz0 hz1 hz2 (by show (blkA 0 zBs).size=57;exact blkA_size zBs_len) (by decide) v l.length _ hown ⟨g,0,none⟩ 1 1 (blkL y.k y.bs) (by rw [blkL_len h56]) (fun j u hj=>by
  have:=blk_cell hg j
  rw [add_at,this]
  unfold blkA;simpa using hj) (blkL_one _ _) (by simp only [maxLen];omega) (by omega) hbase
 unfold Oper.wp execOp
 simp only [ho,resolve,invoke,builtin,Sem.run_bind,Sem.run_pure,Result.andThen_ok,List.map_toArray,List.map_cons,List.map_nil,hs,hx,hr]
 refine h v' w' ?_ h3
 unfold OwnK
 rw [bksL_append,List.length_append]
 simpa [bksL] using h2
def VMo42 (hp base:Nat) (Bv:Value) (y:Bk) (l:List Bk) (i:Nat) (v:Value) (w:World):Prop :=
 match i with
 | 0 | 1 | 2 | 8=>v=.pointer (some ⟨hp,0,none⟩)
 | 3 | 9=>v=.pointer (some ⟨hp,11,none⟩)
 | 4=>v=Bv
 | 5=>v=.agg (blkA y.k y.bs)
 | 6=>∃ g',v=.slice (some ⟨g',0,none⟩) 1 1∧w.heap[g']?=some (.cells (blkA y.k y.bs) 71 (0,0))∧Bv.ownBlock≠some g'
 | 7=>OwnK w base v (l++[y])
 | _=>True
def SMo42 (Bv:Value) (i:Nat) (w w':World):Prop:=if i=7 then w.grownBy w' Bv.ownBlock else Below w.heap.size w w'
theorem stab42 {hp base:Nat} {Bv:Value} {y:Bk} {l:List Bk} {i j:Nat} {v:Value} {w w':World} (hij:i≠j) (h:VMo42 hp base Bv y l j v w) (hs:SMo42 Bv i w w'):VMo42 hp base Bv y l j v w':=by
 unfold SMo42 at hs
 unfold VMo42 at h ⊢
 split at hs
 ·rename_i h7
  split at h <;> first | exact h | trivial | exact absurd h7 hij | skip
  ·obtain ⟨g',e,h1,h2⟩:=h
   exact ⟨g',e,by rw [hs.block g' (room_lt h1) (fun e=>h2 e.symm)];exact h1,h2⟩
 ·split at h <;> first | exact h | trivial | skip
  ·obtain ⟨g',e,h1,h2⟩:=h
   exact ⟨g',e,kb hs h1,h2⟩
  ·exact h.keep hs
structure JR (W:World) (q hp mb g5 r n g:Nat) (fr:Int) (e:Nat) (Bv:Value) (cm:Nat) (f:Int→Option Value) (lm cx:Nat) (fl:Int→Option Value) (b30:Nat) (y:Bk) (l:List Bk) (p:Bool) (w:World):Prop where
 mo:MoA W w q hp mb g5 r n g fr e Bv cm f
 mi:MapI w lm cx fl
 bk:w.heap[b30]?=some (.cells (blkA y.k y.bs) 71 (0,0))
 ow:p=false→OwnK w W.heap.size Bv l
section
variable {W:World} {q hp mb g5 r n g:Nat} {fr:Int} {e:Nat} {Bv:Value} {cm:Nat} {f:Int→Option Value} {lm cx:Nat} {fl:Int→Option Value} {b30:Nat} {y:Bk} {l:List Bk} {p:Bool} {w w':World}
theorem JR.below (h:JR W q hp mb g5 r n g fr e Bv cm f lm cx fl b30 y l p w) (hb:Below w.heap.size w w'):JR W q hp mb g5 r n g fr e Bv cm f lm cx fl b30 y l p w' :=
 ⟨h.mo.below hb,h.mi.keep (hb.block _ h.mi.lt),kb hb h.bk,fun e=>(h.ow e).keep hb⟩
theorem MoA.done {w0:World} {P:Nat→Prop} {m:DM} (hD:RS w0 W P q m) {BB:List HB} (h:MoA W w q hp mb g5 r n g fr e Bv cm (dirtyF BB)) (ho:OwnK w W.heap.size Bv (BB.map val)) (hl:BB.length=n) (hn0:0<n) (hn:n≤199) (hg:g≤1000) (hbo:HBsOk BB) (hr:r≤1000) (he:e<4294967296) :
 ∃ rb cap,RSV w0 w P q m hp rb mb cap cm ⟨r,fr,n,g,BB,e,0,0⟩∧Same P W w:=by
 have hlen:(BB.map val).length=n:=by rw [List.length_map,hl]
 rcases ho.2 with ⟨h0,h1⟩ | ⟨rb,cap,cur,h0,hb,hx,hn',hm,hs,ht⟩
 ·rw [hlen] at h1;omega
 rw [hlen] at h0
 subst h0
 obtain ⟨D,⟨es,clock,hbm,_⟩,_⟩:=h.map
 have n1:hp≠rb:=fun e=>by
  have:=h.hd
  rw [e,hx] at this
  injection this with this
  injection this with _ this
  exact absurd this (by decide)
 have n2:rb≠mb:=fun e=>by rw [e,hbm] at hx;cases hx
 have hw0:=hD.bel.size
 have l1:=room_lt h.hd
 have l2:=room_lt hx
 have l3:=h.map.lt
 have hrow:RowAt w (fun k=>k=rb) 71 57 (.slice (some ⟨rb,0,none⟩) n cap) n (bksL (BB.map val)):=by
  have h2:OwnK w 0 (.slice (some ⟨rb,0,none⟩) n cap) (BB.map val):=World.ownsRow.mono ho (Nat.zero_le _)
  unfold OwnK at h2
  rw [hlen] at h2
  exact ⟨h2,fun k hk=>by simp [Value.ownBlock] at hk;exact hk.symm⟩
 refine ⟨rb,cap,⟨hD.below h.bel fun k hk=>?_,⟨⟨hl,hbo,by show n≤200;omega,hg,by show i64 (r:Int);constructor <;> omega,he,by show (0:Nat)<4294967296;omega,by show (0:Nat)≤2000;omega⟩,hn0,h.hd,hrow,h.map⟩,fun k hk=>?_,⟨n1,h.ne.1,n2⟩,⟨by have:=h.lo.1;omega,by omega,by have:=h.lo.2.1;omega⟩⟩,hD.same h.bel⟩
 ·rcases hk with hk | rfl | rfl | rfl
  ·exact Or.inl hk
  ·exact Or.inr ⟨h.lo.1,l1⟩
  ·exact Or.inr ⟨hb,l2⟩
  ·exact Or.inr ⟨h.lo.2.1,l3⟩
 ·have:=hD.low k hk
  have:=h.lo
  exact ⟨by omega,by omega,by omega⟩
theorem own_obj {base:Nat} {E:TypeId} {sz m:Nat} {v:Value} {xs:List Value} (h:w.ownsRow base E sz v m xs) {x:Nat} (hx:v.ownBlock=some x):∃ C,w.heap[x]?=some (.cells C E (0,0)):=by
 rcases h.2 with ⟨h0,_⟩ | ⟨g,cap,cur,h0,_,q1,_⟩
 ·rw [h0] at hx;cases hx
 ·rw [h0] at hx
  simp [Value.ownBlock] at hx
  subst hx
  exact ⟨_,q1⟩
theorem JR.push (h:JR W q hp mb g5 r n g fr e Bv cm f lm cx fl b30 y l false w) (hg:w.grownBy w' Bv.ownBlock) (hne:Bv.ownBlock≠some b30):JR W q hp mb g5 r n g fr e Bv cm f lm cx fl b30 y l true w':=by
 have ho:=h.ow rfl
 have hk:∀ (x:Nat) (o:Obj),w.heap[x]?=some o→(∀ C:Array Value,o≠Obj.cells C 71 (0,0))→w'.heap[x]?=some o:=fun x o hx hn=>by
  rw [hg.block x (room_lt hx) (fun e=>?_)]
  ·exact hx
  ·obtain ⟨C,hC⟩:=own_obj ho e.symm
   rw [hx] at hC
   injection hC with hC
   exact hn C hC
 have hb:Below W.heap.size W w':=h.mo.bel.grown hg h.mo.bel.size (fun k hk=>(ho.lt k hk).1)
 exact ⟨h.mo.grow ⟨by decide,by decide⟩ hk hb,h.mi.grow hk,by rw [hg.block b30 (room_lt h.bk) (fun e=>hne e.symm)];exact h.bk,fun e=>by cases e⟩
theorem OwnK.val' {w:World} {base:Nat} {v:Value} {l:List Bk} (h:OwnK w base v l):∃ A N cap,v=.slice A N cap:=by
 rcases h.2 with ⟨rfl,h0⟩ | ⟨g,cap,cur,rfl,hb,hg,hn',hm,hs,ht⟩
 ·exact ⟨none,0,0,rfl⟩
 ·exact ⟨_,_,cap,rfl⟩
theorem JR.fin (h:JR W q hp mb g5 r n g fr e Bv cm f lm cx fl b30 y l p w) {v':Value} {l':List Bk} (ho:OwnK w W.heap.size v' l') :
 MoA W (w.setCell ⟨hp,11,none⟩ v') q hp mb g5 r n g fr e v' cm f∧OwnK (w.setCell ⟨hp,11,none⟩ v') W.heap.size v' l'∧MapI (w.setCell ⟨hp,11,none⟩ v') lm cx fl:=by
 refine ⟨h.mo.set (i:=11) rfl,?_,?_⟩
 ·refine ownSet ho _ (fun e=>?_)
  obtain ⟨C,hC⟩:=own_obj ho e
  have:=h.mo.hd
  rw [hC] at this
  injection this with this
  injection this with _ this
  exact absurd this (by decide)
 ·refine h.mi.keep (Below.heap_setCell _ _ _ _ (fun e=>?_))
  obtain ⟨D,⟨es,clock,hbm,_⟩,_⟩:=h.mi
  have:=h.mo.hd
  rw [← (show lm=hp from e),hbm] at this
  cases this
end
def VMo29 (lm tl dl jj:Nat) (ad:Addr) (xt xk:Int) (xb:List Int) (i:Nat) (v:Value) (w:World):Prop :=
 match i with
 | 0=>v=.map (some lm)
 | 1 | 6=>v=.slice (some ad) tl dl
 | 2 | 7=>v=.int .i64 (jj:Int)
 | 3 | 4 | 8=>v=.pointer (some (ad.add (jj*58)))
 | 5=>v=.int .i64 xt
 | 9=>v=.pointer (some ⟨(ad.add (jj*58)).block,(ad.add (jj*58)).off+1,none⟩)
 | 10=>v=.agg (blkA xk xb)
 | _=>True
set_option maxHeartbeats 12800000 in
theorem rmount_any {w0 W:World} {P:Nat→Prop} {q:Nat} {m:DM} (h:RS w0 W P q m) (r:Nat) (hr:r≤1000) {row:List (List Int)} (hrow:m.now[r]?=some row) (n g:Nat) (fr:Int) (hn0:0<n) (hn:n≤199) (hg:g≤1000) (e:Nat) (hep:epN (rowV m r) 2=(e,true)) (he:e+1<4294967296)
 (LG:List (List Int)) (hL:LG.length=g) (hrowL:∀ i b,LG[i]?=some b→rowV m r ((2+i:Nat):Int)=some b) (hLB:∀ b∈LG,BlkOk b)
 (Rs:List (List Wr)) (rest:List (List Int)) (hRs:∀ l∈Rs,MayL l∧WrsOk l) (hLs:LG=putsL e 0 Rs++rest) (hnt:¬ Taken 0 e Rs.length rest) (hrl:Rs.length≤1000000)
 (X:Nat→List Int) (hX:∀ i,i<n→rowV m r ((2+g+i:Nat):Int)=some (X i)∧BlkOk (X i)) (hop:∀ (i:Nat) (x:HB),(layB (List.replicate n zH) Rs.flatten)[i]?=some x→x.lg=false→Opens 0 i (X i)) (hmax:m.done.length≤98000) :
 Calls Tryz.prog 14 #[.pointer (some ⟨q,0,none⟩),.int .i64 r,shQ 0 0 n g fr] W fun en w'=>∃ hp rb mb cap,en=.returned (.tuple #[.pointer (some ⟨hp,0,none⟩),.int .i64 0]) ∧
  RSV w0 w' P q (homeM m ⟨r,fr,n,g,fetchB X 0 (layB (List.replicate n zH) Rs.flatten),e,0,0⟩) hp rb mb cap 0 (homeV ⟨r,fr,n,g,fetchB X 0 (layB (List.replicate n zH) Rs.flatten),e,0,0⟩)∧Same P W w':=by
 have HD:=Lib.hid h
 have HR:Hid (i64 (r:Int)):=by constructor <;> omega
 have HNG:=Lib.hid (And.intro hn0 (And.intro hn hg))
 have HMX:=Lib.hid hmax
 have HEP:=Lib.hid hep
 have HE:=Lib.hid he
 have HRP:=Lib.hid (And.intro hL (And.intro hrowL (And.intro hLB (And.intro hRs (And.intro hLs (And.intro hnt hrl))))))
 have HXX:=Lib.hid (And.intro hX hop)
 have hb1:=(Below.refl W.heap.size W).alloc (Nat.le_refl _) (Obj.cells #[.int .i64 0,.int .i64 0,.int .i64 n,.int .i64 g,.int .i64 fr] 28)
 have e5:=heap_alloc_new W (Obj.cells #[.int .i64 0,.int .i64 0,.int .i64 n,.int .i64 g,.int .i64 fr] 28)
 obtain ⟨A,c,B,d,hs1,hs2⟩:=h.seen hrow
 have hrn:r<m.now.length:=(List.getElem?_eq_some_iff.1 hrow).1
 obtain ⟨R,hR⟩:∃ R,R=m.now.length:=⟨_,rfl⟩
 rw [← hR] at hs1 hrn
 have HPL:Hid (∀ w,Calls Tryz.prog 38 #[.agg #[.int .i64 0,.int .i64 0]] w fun e w'=>e=.returned (.tuple #[.int .u8 0,.bool true])∧Below w.heap.size w w'):=fun w=>refPut_yes 0 0 w (by omega) (by omega)
 have j1:decide ((r:Int)<0)=false:=by simp
 have j2:decide ((R:Int)≤r)=false:=by simp;omega
 have j4:decide (R≤r)=false:=by simp;omega
 have hs1':(W.alloc (Obj.cells #[.int .i64 0,.int .i64 0,.int .i64 n,.int .i64 g,.int .i64 fr] 28)).cell? ⟨q,1,none⟩=_:=keepC hb1 hs1
 have HB1:=Lib.hid hb1
 clear h hmax hs1 hs2 hrow hR hep he hL hrowL hLB hRs hLs hnt hrl hX hop hn0 hb1
 unfold shQ
 go_enter Tryz.func14,Tryz.ntmps14
 go_upto_region 3 with fail
 clear hs1'
 generalize hw1:W.alloc (Obj.cells #[.int .i64 0,.int .i64 0,.int .i64 n,.int .i64 g,.int .i64 fr] 28)=w1 at *
 have HW:Hid (W.heap.size<w1.heap.size):=room_lt e5
 have HE5:=Lib.hid e5
 generalize hg5:W.heap.size=g5 at *
 have HG5:=Lib.hid hg5
 have y0:w1.cell? ⟨g5,0,none⟩=some (.int .i64 0):=(blk_cell e5 0).trans rfl
 have y1:w1.cell? ⟨g5,1,none⟩=some (.int .i64 0):=(blk_cell e5 1).trans rfl
 have HB1':Hid (Below W.heap.size W w1):=by have:=HB1.out;rw [HG5.out];exact this
 clear hw1 e5 hg5
 go_wp2_with fail
 refine (HPL.out _).mono ?_
 rintro e w2 ⟨rfl,hb2⟩
 have HE2:=Lib.hid (kb hb2 HE5.out)
 have HB2:=Lib.hid (keepB HB1'.out hb2)
 have HW2:Hid (g5<w2.heap.size):=Nat.lt_of_lt_of_le HW.out hb2.size
 clear hb2 y0 y1 HPL HB1 HB1' HE5 HW
 have y0:w2.cell? ⟨g5,0,none⟩=some (.int .i64 0):=(blk_cell HE2.out 0).trans rfl
 have y1:w2.cell? ⟨g5,1,none⟩=some (.int .i64 0):=(blk_cell HE2.out 1).trans rfl
 have y2:w2.cell? ⟨g5,2,none⟩=some (.int .i64 n):=(blk_cell HE2.out 2).trans rfl
 have y3:w2.cell? ⟨g5,3,none⟩=some (.int .i64 g):=(blk_cell HE2.out 3).trans rfl
 have y4:w2.cell? ⟨g5,4,none⟩=some (.int .i64 fr):=(blk_cell HE2.out 4).trans rfl
 have m5:(Instr.makeMap 57 none).run Tryz.prog w2=.ok (.map (some w2.heap.size)) (w2.alloc (.map #[] 0)):=run_makeMap _ _
 go_upto_region 5 with (refine wpList_build59 rfl _ _ _ _ _ rfl q w2.heap.size r n g fr rfl rfl rfl rfl rfl ?_)
 have hn1:=heap_alloc_new w2 (.map #[] 0)
 have hn2:=heap_alloc_new (w2.alloc (.map #[] 0)) (Obj.cells (rvol0 q w2.heap.size r n g fr 0 (.slice none 0 0)) 59)
 have hz2:(w2.alloc (.map #[] 0)).heap.size=w2.heap.size+1:=by simp
 rw [hz2] at hn2
 have hba:Below w2.heap.size w2 (w2.alloc (.map #[] 0)):=(Below.refl _ _).alloc (Nat.le_refl _) _
 have hbb:Below (w2.alloc (.map #[] 0)).heap.size (w2.alloc (.map #[] 0)) ((w2.alloc (.map #[] 0)).alloc (Obj.cells (rvol0 q w2.heap.size r n g fr 0 (.slice none 0 0)) 59)):=(Below.refl _ _).alloc (Nat.le_refl _) _
 have hgw:=HG5.out
 have hb2s:=HB2.out.size
 have hw2:=HW2.out
 have hmo:MoA W ((w2.alloc (.map #[] 0)).alloc (Obj.cells (rvol0 q w2.heap.size r n g fr 0 (.slice none 0 0)) 59)) q (w2.heap.size+1) w2.heap.size g5 r n g fr 0 (.slice none 0 0) 0 (fun _=>none) :=
  ⟨keepB (keepB HB2.out hba) hbb,hn2,kb hbb (kb hba HE2.out),(MapI.new w2).keep (hbb.block _ (by rw [hz2];omega)),⟨by omega,by omega,by omega⟩,⟨by omega,by omega,by omega⟩⟩
 have HMO:=Lib.hid hmo
 clear hmo hn1 hn2 hz2 hba hbb y0 y1 y2 y3 y4 m5 HE2 HB2 HW2 hgw hb2s hw2
 generalize ((w2.alloc (.map #[] 0)).alloc (Obj.cells (rvol0 q w2.heap.size r n g fr 0 (.slice none 0 0)) 59))=w3 at *
 generalize w2.heap.size+1=hp at *
 generalize w2.heap.size=mb at *
 obtain ⟨rr,hrr⟩:∃ rr,rr=rowV m r:=⟨_,rfl⟩
 have HRR:=Lib.hid hrr
 clear hrr
 go_wp2_with fail
 go_loopw [11,12] (fun fd i wr=>∃ k:Nat,i=.int .i64 k∧k≤2∧fd=.bool (epN rr k).2∧Hid ((epN rr k).1<4294967296)∧Hid (MoA W wr q hp mb g5 r n g fr (epN rr k).1 (.slice none 0 0) 0 (fun _=>none))) (fun _ i _=>2-(intOf i).toNat)
 case atStart=>exact ⟨0,rfl,by omega,rfl,by show (0:Nat)<4294967296;omega,HMO.out⟩
 case round =>
  clear HMO
  obtain ⟨kk,rfl,hk,rfl,HLT,HMO⟩:=hrel
  by_cases hlt:kk<2
  ·have hki:(kk:Int)<2:=by omega
   have HRD:=Lib.hid ((HD.out.below HMO.out.bel (P':=P) fun k hk=>Or.inl hk).readX r kk HR.out (by constructor <;> omega))
   have HAL:=Lib.hid (rowV_allB HD.out.ok r kk)
   rw [← HRR.out] at HRD HAL
   have HNE:Hid (epN rr (kk+1)=if anOk ((rr (kk:Int)).getD []) kk then (max (epN rr kk).1 (takeA 0 ((rr (kk:Int)).getD [])),true) else epN rr kk):=rfl
   have HZE:=Lib.hid (epN_zero (row:=rr) kk)
   obtain ⟨xs,hxs⟩:∃ xs,xs=(rr (kk:Int)).getD []:=⟨_,rfl⟩
   rw [← hxs] at HRD HAL HNE
   clear hxs
   go_wp2_with fail
   refine HRD.out.mono ?_
   rintro en w6 ⟨⟨A1,d1,b1,rfl,h1,h2,h3⟩,hb6⟩
   have HMA:=Lib.hid (HMO.out.below hb6)
   have HTK:=Lib.hid (rtakea_any 0 A1 xs xs.length d1 w6 (by omega) rfl h1 h2 HAL.out h3)
   have hta:=takeA_lt 0 xs HAL.out
   clear h1 h2 h3 hb6 HRD HMO
   obtain ⟨ln,hln⟩:∃ ln,ln=xs.length:=⟨_,rfl⟩
   rw [← hln] at HTK
   rw [← hln]
   clear hln
   go_wp2_with fail
   refine HTK.out.mono ?_
   rintro en w7 ⟨rfl,hb7⟩
   have HMB:=Lib.hid (HMA.out.below hb7)
   clear hb7 HMA HTK
   have z8:=HMB.out.cep
   have f8:=HMB.out.cfr 8
   have HAN:Hid (anOk xs kk=(decide (TakenA 0 xs)&&decide (takeA 0 xs%2=kk))):=rfl
   obtain ⟨ta,hta2⟩:∃ ta,ta=takeA 0 xs:=⟨_,rfl⟩
   rw [← hta2] at hta HNE HAN
   rw [← hta2]
   clear hta2
   have HTA:=Lib.hid hta
   obtain ⟨ep,hep⟩:∃ ep,ep=(epN rr kk).1:=⟨_,rfl⟩
   obtain ⟨fd,hfd⟩:∃ fd,fd=(epN rr kk).2:=⟨_,rfl⟩
   have HPR:Hid (epN rr kk=(ep,fd)):=by rw [hep,hfd];rfl
   rw [← hep] at HLT HNE HZE HMB z8
   rw [← hfd] at HZE
   rw [← hfd]
   clear hep hfd
   obtain ⟨y,hy⟩:∃ y,ta%2=y:=⟨_,rfl⟩
   have hy2:y<2:=by omega
   have f1:(ta:Int).tmod 2=(y:Int):=by rw [Int.tmod_eq_emod_of_nonneg (by omega)];omega
   have f2:IntKind.u32.wrap (y:Int)=(y:Int):=IntWalk.u32_in _ (by omega)
   have f3:IntKind.i64.wrap (y:Int)=(y:Int):=IntWalk.i64_in _ (by omega)
   rw [hy] at HAN
   clear hy
   by_cases hT:TakenA 0 xs
   ·rw [decide_eq_true hT] at HAN ⊢
    by_cases hyk:y=kk
    ·have e1:((y:Int)==(kk:Int))=true:=by simp;omega
     have e1':(y==kk)=true:=by simp;omega
     rw [decide_eq_true hyk] at HAN
     cases hfd:fd
     ·have HNX:Hid (epN rr (kk+1)=(ta,true)):=by
       unfold Hid
       rw [HNE.out,HAN.out,HZE.out hfd]
       simp
      clear hT hyk
      go_wp2
      go_roundw
      case rel=>exact ⟨kk+1,by go_num,by omega,by rw [HNX.out],by rw [HNX.out];exact HTA.out,by rw [HNX.out];exact HMB.out.set (i:=8) rfl⟩
      case measure=>simp [intOf];omega
     ·by_cases hl2:ep<ta
      ·have e2:decide ((ep:Int)<ta)=true:=by simp;omega
       have e2':decide (ep<ta)=true:=by simp;omega
       have HNX:Hid (epN rr (kk+1)=(ta,true)):=by
        unfold Hid
        rw [HNE.out,HAN.out]
        simp;omega
       clear hT hyk
       go_wp2
       go_roundw
       case rel=>exact ⟨kk+1,by go_num,by omega,by rw [HNX.out],by rw [HNX.out];exact HTA.out,by rw [HNX.out];exact HMB.out.set (i:=8) rfl⟩
       case measure=>simp [intOf];omega
      ·have e2:decide ((ep:Int)<ta)=false:=by simp;omega
       have e2':decide (ep<ta)=false:=by simp;omega
       have HNX:Hid (epN rr (kk+1)=(ep,true)):=by
        unfold Hid
        rw [HNE.out,HAN.out]
        simp;omega
       clear hT hyk
       go_wp2
       go_roundw
       case rel=>exact ⟨kk+1,by go_num,by omega,by rw [HNX.out],by rw [HNX.out];exact HLT.out,by rw [HNX.out];exact HMB.out⟩
       case measure=>simp [intOf];omega
    ·have e1:((y:Int)==(kk:Int))=false:=by simp;omega
     have e1':(y==kk)=false:=by simp;omega
     rw [decide_eq_false hyk] at HAN
     have HNX:Hid (epN rr (kk+1)=(ep,fd)):=by
      unfold Hid
      rw [HNE.out,HAN.out,HPR.out];rfl
     clear hT hyk
     go_wp2
     go_roundw
     case rel=>exact ⟨kk+1,by go_num,by omega,by rw [HNX.out],by rw [HNX.out];exact HLT.out,by rw [HNX.out];exact HMB.out⟩
     case measure=>simp [intOf];omega
   ·rw [decide_eq_false hT] at HAN ⊢
    have HNX:Hid (epN rr (kk+1)=(ep,fd)):=by
     unfold Hid
     rw [HNE.out,HAN.out,HPR.out];rfl
    clear hT
    go_wp2
    go_roundw
    case rel=>exact ⟨kk+1,by go_num,by omega,by rw [HNX.out],by rw [HNX.out];exact HLT.out,by rw [HNX.out];exact HMB.out⟩
    case measure=>simp [intOf];omega
  ·obtain rfl:2=kk:=by omega
   have hki:¬ ((2:Int)<2):=by omega
   obtain ⟨w4,rfl⟩:∃ w4,w4=wr:=⟨wr,rfl⟩
   have h2:=HEP.out
   rw [← HRR.out] at h2
   rw [h2] at HMO ⊢
   clear h2 HLT
   have m5:(Instr.makeMap 108 none).run Tryz.prog w4=.ok (.map (some w4.heap.size)) (w4.alloc (.map #[] 0)):=run_makeMap _ _
   have hba:Below w4.heap.size w4 (w4.alloc (.map #[] 0)):=(Below.refl _ _).alloc (Nat.le_refl _) _
   have HM4:=Lib.hid (HMO.out.below hba)
   have HLM:=Lib.hid (MapI.new w4)
   have HLL:Hid (W.heap.size≤w4.heap.size):=HMO.out.bel.size
   have HNL:Hid (mb≠w4.heap.size):=Nat.ne_of_lt HMO.out.map.lt
   have hsh:=(HM4.out.shs).2.2.2.1
   have hng:=HNG.out.2.2
   clear hba
   go_wp2_with fail
   clear m5 hsh HMO
   generalize w4.alloc (.map #[] 0)=wq at *
   generalize w4.heap.size=lm at *
   go_loopw [18,19] (fun v i wr=>∃ (k:Nat) (vs:List Value),i=.int .i64 k∧k≤g∧Hid (LogR wr W.heap.size v vs (LG.take k))∧Hid (MoA W wr q hp mb g5 r n g fr e (.slice none 0 0) 0 (fun _=>none))∧Hid (MapI wr lm 0 (fun _=>none))) (fun _ i _=>g-(intOf i).toNat)
   case atStart=>exact ⟨0,[],rfl,by omega,⟨RowAt.nil _ _ _ _,fun i b hi=>by simp at hi⟩,HM4.out,HLM.out⟩
   case round =>
    clear HM4 HLM
    obtain ⟨k,vs,rfl,hk,HLO,HMO,HLM⟩:=hrel
    obtain ⟨w5,rfl⟩:∃ w5,w5=wr:=⟨wr,rfl⟩
    obtain ⟨s0,s1,s2,s3,s4⟩:=HMO.out.shs
    by_cases hlt:k<g
    ·obtain ⟨b,hb⟩:∃ b,LG[k]?=some b:=⟨_,List.getElem?_eq_getElem (by rw [HRP.out.1];exact hlt)⟩
     have hq:=HRP.out.2.1 k b hb
     have hbk:=HRP.out.2.2.1 b (List.mem_of_getElem? hb)
     have hlen:(LG.take k).length=k:=by rw [List.length_take,HRP.out.1];omega
     have hrw:=HLO.out.row
     rw [hlen] at hrw
     obtain ⟨A5,c5,hv5,_,_⟩:=hrw.val
     rename_i v5
     subst hv5
     have HTX:=Lib.hid hrw
     obtain ⟨i0,hi0,hz0,hz1,hz2⟩:=info_parts infoBytes
     have HI:=Lib.hid (And.intro hi0 (And.intro hz0 (And.intro hz1 hz2)))
     have HLG:=Lib.hid (rlog_any n g fr k (by omega) w5)
     unfold shQ at HLG
     have HYI:Hid (i64 ((2+k:Nat):Int)):=by constructor <;> omega
     have hki:(k:Int)<g:=by omega
     have HTK:Hid (LG.take (k+1)=LG.take k++[b]):=take_snoc' hb
     have HQ:=Lib.hid hq
     have HB64:=Lib.hid hbk.1
     have HLN:=Lib.hid hlen
     clear hb hq hbk hlen hrw hi0 hz0 hz1 hz2
     obtain ⟨y,hy⟩:∃ y,2+k=y:=⟨_,rfl⟩
     rw [hy] at HLG HYI HQ
     clear hy
     go_wp2_with fail
     refine HLG.out.mono ?_
     rintro en w6 ⟨rfl,hb6⟩
     have HM6:=Lib.hid (HMO.out.below hb6)
     have HL6:=Lib.hid (HLO.out.below hb6)
     have HP6:=Lib.hid (HLM.out.keep (hb6.block _ HLM.out.lt))
     have HT6:=Lib.hid (HTX.out.below hb6)
     have HRD:=Lib.hid ((HD.out.below HM6.out.bel (P':=P) fun k hk=>Or.inl hk).readY r y HR.out HYI.out HQ.out)
     clear hb6 HLG HMO HLO HLM HTX s0 s1 s2 s3 s4
     go_wp2_with fail
     refine HRD.out.mono ?_
     rintro en w7 ⟨⟨p,c,rfl,h1,h2,h3,h4⟩,hb7⟩
     have HM7:=Lib.hid (HM6.out.below hb7)
     have HL7:=Lib.hid (HL6.out.below hb7)
     have HP7:=Lib.hid (HP6.out.keep (hb7.block _ HP6.out.lt))
     have HT7:=Lib.hid (HT6.out.below hb7)
     have HBB:=Lib.hid (And.intro h1 (And.intro h2 (And.intro h3 h4)))
     have HSZ:=Lib.hid HM7.out.bel.size
     clear h1 h2 h3 h4 hb7 HRD HM6 HL6 HP6 HT6
     rw [HB64.out]
     go_wp2_with (at_builtin;refine wpList_push_of rfl (.tmp 121) (.tmp 123) 52 rfl 48 i0 _ 1 24 Tryz.underlying52 HI.out.1 HI.out.2.1 HI.out.2.2.1 HI.out.2.2.2 rfl (by decide) (.slice A5 k c5) k vs rfl _ (HT7.out.below ((Below.refl _ _).alloc (Nat.le_refl _) _)) ⟨w7.heap.size,0,none⟩ 1 1 [.slice (some ⟨p,0,none⟩) 64 c] rfl rfl (World.news_of_block (heap_alloc_new w7 _)) (fun u hu=>by rw [List.mem_singleton.1 hu];rfl) (by simp only [maxLen];omega) (by omega) ?_;intro v' w8 hrow3 hgr3 _;have HR3:=Lib.hid hrow3;have HG3:=Lib.hid hgr3;clear hrow3 hgr3)
     go_roundw
     case rel =>
      have hbw:Below W.heap.size W w8:=(HM7.out.bel.alloc HSZ.out _).grown HG3.out (by have:=HSZ.out;simp;omega) (fun y hy=>HT7.out.2 y hy)
      have hkp:=grow_keeps HT7.out HG3.out
      refine ⟨k+1,vs++[.slice (some ⟨p,0,none⟩) 64 c],by go_num,by omega,?_,HM7.out.grow ⟨by decide,by decide⟩ hkp hbw,HP7.out.grow hkp⟩
      rw [HTK.out,← HB64.out]
      exact LogR.push (o:=.cells #[.slice (some ⟨p,0,none⟩) 64 c] 48) HL7.out HSZ.out HBB.out.1 HBB.out.2.1 HBB.out.2.2.1 HBB.out.2.2.2 (by rw [HLN.out,HB64.out];exact HR3.out) HG3.out
     case measure=>simp [intOf];omega
    ·obtain rfl:g=k:=by omega
     have hki:¬ ((g:Int)<g):=by omega
     obtain ⟨w4,rfl⟩:∃ w4,w4=w5:=⟨w5,rfl⟩
     have hlo:=HLO.out
     rw [List.take_of_length_le (by rw [HRP.out.1];exact Nat.le_refl _)] at hlo
     obtain ⟨A5,c5,hv5,hc1,hc2,htx⟩:=hlo.tx
     rename_i v5
     subst hv5
     have HTX:=Lib.hid htx
     rw [HRP.out.1] at hc1 ⊢
     clear htx hlo HLO
     have HNE:Hid (mb≠lm):=HNL.out
     go_wp2_with fail
     clear s0 s1 s2 s3 s4
     go_loopw [18,22] (fun v s wr=>∃ (k cx N c:Nat) (A:Option Addr) (ls:List (List Int)),s=.int .u32 k∧v=.slice A N c∧k≤Rs.length∧N≤c∧c≤9223372036854775807∧Hid (ls.length=N)∧Hid (TxOk ls)∧Hid (ls=putsL e k (Rs.drop k)++rest)∧cx≤12*k∧Hid (MoA W wr q hp mb g5 r n g fr e (.slice none 0 0) 0 (fun _=>none))∧Hid (Tx wr A ls)∧Hid (MapI wr lm cx (lastF (Rs.take k).flatten))) (fun _ s _=>Rs.length-(intOf s).toNat)
     case atStart=>exact ⟨0,0,g,c5,A5,LG,rfl,rfl,by omega,hc1,hc2,HRP.out.1,fun b hb=>(HRP.out.2.2.1 b hb).2,HRP.out.2.2.2.2.1,by omega,HMO.out,HTX.out,HLM.out⟩
     case round =>
      clear HMO HTX HLM
      obtain ⟨k,cx,N,c,A,ls,rfl,rfl,hkR,hNc,hc,HLN,HTO,HLS,hcx,HMO,HTX,HLM⟩:=hrel
      obtain ⟨w4,rfl⟩:∃ w4,w4=wr:=⟨wr,rfl⟩
      have hrl:=HRP.out.2.2.2.2.2.2
      have he:=HE.out
      have z8:=HMO.out.cep
      have HTK:=Lib.hid (rtake_any 0 e k A ls N c w4 (by omega) (by omega) (by omega) HLN.out hNc hc HTO.out HTX.out)
      go_wp2_with fail
      refine HTK.out.mono ?_
      rintro en w5 ⟨u,rfl,hu,hb5⟩
      have HM5:=Lib.hid (HMO.out.below hb5)
      have HT5:=Lib.hid (HTX.out.keep hb5)
      have HL5:=Lib.hid (HLM.out.keep (hb5.block _ HLM.out.lt))
      have HU:=Lib.hid hu
      clear hu hb5 HTK HMO HTX HLM z8
      by_cases hk2:k=Rs.length
      ·have hnt:decide (Taken 0 e k ls)=false:=by
        refine decide_eq_false ?_
        rw [HLS.out,hk2,List.drop_length]
        exact HRP.out.2.2.2.2.2.1
       have HFL:Hid (MapI w5 lm cx (lastF Rs.flatten)):=by have:=HL5.out;rw [hk2,List.take_length] at this;exact this
       rw [hnt]
       clear hnt
       obtain ⟨L0,hL0⟩:∃ L0,L0=layB (List.replicate n zH) Rs.flatten:=⟨_,rfl⟩
       have HL0:Hid (L0.length=n):=by unfold Hid;rw [hL0,layB_length,List.length_replicate]
       have HLF:Hid (∀ (i:Nat) (x:HB),L0[i]?=some x→lastF Rs.flatten (i:Int)=if x.lg=true then some (.agg (blkA x.k x.bs)) else none):=fun i x hx=>by
        have:=lastF_lay n Rs.flatten Rs.flatten.length (Nat.le_refl _) i x (by rw [List.take_length,← hL0];exact hx)
        rwa [List.take_length] at this
       have HOP:Hid (∀ (i:Nat) (x:HB),L0[i]?=some x→x.lg=false→Opens 0 i (X i)):=by rw [hL0];exact HXX.out.2
       have HLOK:Hid (HBsOk L0):=by
        rw [hL0]
        exact layB_ok (fun y hy=>let ⟨l,hl,hyl⟩:=List.mem_flatten.1 hy;(HRP.out.2.2.2.1 l hl).2 y hyl) (fun y hy=>let ⟨l,hl,hyl⟩:=List.mem_flatten.1 hy;(HRP.out.2.2.2.1 l hl).1.kinds y hyl) (fun y hy=>by rw [List.eq_of_mem_replicate hy];exact zH_ok)
       have HGO:Hid (∀ (i:Nat) (x:HB),L0[i]?=some x→(gotH X i x).Ok):=fun i x hx=>by
        unfold gotH
        split
        ·exact HLOK.out x (List.mem_of_getElem? hx)
        ·rename_i hlg
         have hop:=HOP.out i x hx (by simpa using hlg)
         have hxb:=(HXX.out.1 i (by have:=(List.getElem?_eq_some_iff.1 hx).1;have:=HL0.out;omega)).2
         exact ⟨hop.2.1.1,opBs_len hop.1,opBs_allB hxb.2⟩
       have HLR:=Lib.hid hL0
       clear hL0
       obtain ⟨BB,hBB⟩:∃ BB,BB=fetchB X 0 L0:=⟨_,rfl⟩
       have HBA:Hid (∀ (i:Nat) (x:HB),L0[i]?=some x→BB[i]?=some (gotH X i x)):=fun i x hx=>by rw [hBB,fetchB_at,hx,Nat.zero_add];rfl
       have HBB:=Lib.hid hBB
       clear hBB
       have HMS:Hid (MoA W w5 q hp mb g5 r n g fr e (.slice none 0 0) 0 (dirtyF (BB.take 0))):=by
        have h0:dirtyF (BB.take 0)=fun _=>none:=by funext j;unfold dirtyF;rw [List.take_zero];simp
        rw [h0];exact HM5.out
       have HOS:Hid (OwnK w5 W.heap.size (.slice none 0 0) ((BB.take 0).map val)):=by
        rw [List.take_zero];exact OwnK.nil _ _
       obtain ⟨s0,s1,s2,s3,s4⟩:=HM5.out.shs
       clear HM5 HT5 HL5 HU
       go_wp2_with fail
       clear s0 s1 s2 s3 s4
       go_loopw [27] (fun i wr=>∃ (j ck:Nat) (Bv:Value),i=.int .i64 j∧j≤n∧ck≤j∧Hid (MoA W wr q hp mb g5 r n g fr e Bv ck (dirtyF (BB.take j)))∧Hid (OwnK wr W.heap.size Bv ((BB.take j).map val))∧Hid (MapI wr lm cx (lastF Rs.flatten))) (fun i _=>n-(intOf i).toNat)
       case atStart=>exact ⟨0,0,.slice none 0 0,rfl,by omega,by omega,HMS.out,HOS.out,HFL.out⟩
       case round =>
        clear HMS HOS HFL
        obtain ⟨j,ck,Bv,rfl,hj,hck,HMO,HOK,HLM⟩:=hrel
        obtain ⟨w6,rfl⟩:∃ w6,w6=wr:=⟨wr,rfl⟩
        obtain ⟨s0,s1,s2,s3,s4⟩:=HMO.out.shs
        by_cases hjn:j<n
        ·have hji:(j:Int)<n:=by omega
         obtain ⟨x,hx⟩:∃ x,L0[j]?=some x:=⟨_,List.getElem?_eq_getElem (by rw [HL0.out];exact hjn)⟩
         have HX:=Lib.hid hx
         have hXX:=HXX.out.1 j hjn
         have HXB:=Lib.hid hXX.2
         have HHO:=Lib.hid (rhome_any n g fr j hng (by omega) w6)
         unfold shQ at HHO
         have HQ:=Lib.hid hXX.1
         have HYI:Hid (i64 ((2+g+j:Nat):Int)):=by constructor <;> omega
         clear hx hXX
         obtain ⟨y,hy⟩:∃ y,2+g+j=y:=⟨_,rfl⟩
         rw [hy] at HHO HYI HQ
         clear hy
         obtain ⟨Xj,hXj⟩:∃ Xj,Xj=X j:=⟨_,rfl⟩
         rw [← hXj] at HQ HXB
         have HXJ:=Lib.hid hXj
         clear hXj
         go_wp2_with fail
         refine HHO.out.mono ?_
         rintro en w7 ⟨rfl,hb7⟩
         have HM7:=Lib.hid (HMO.out.below hb7)
         have HO7:=Lib.hid (HOK.out.keep hb7)
         have HL7:=Lib.hid (HLM.out.keep (hb7.block _ HLM.out.lt))
         have HRD:=Lib.hid ((HD.out.below HM7.out.bel (P':=P) fun k hk=>Or.inl hk).readY r y HR.out HYI.out HQ.out)
         clear hb7 HHO HMO HOK HLM s0 s1 s2 s3 s4
         go_wp2_with fail
         refine HRD.out.mono ?_
         rintro en w8 ⟨⟨p,c8,rfl,h1,h2,_,h4⟩,hb8⟩
         have HM8:=Lib.hid (HM7.out.below hb8)
         have HO8:=Lib.hid (HO7.out.keep hb8)
         have HL8:=Lib.hid (HL7.out.keep (hb8.block _ HL7.out.lt))
         have HPN:=Lib.hid (ropen_any 0 j (some ⟨p,0,none⟩) Xj c8 w8 (by omega) (by constructor <;> omega) h1 h2 HXB.out.2 h4)
         clear h1 h2 h4 hb8 HRD HM7 HO7 HL7
         have hx64:=HXB.out.1
         rw [hx64] at HPN ⊢
         clear hx64
         obtain ⟨ok,obs,hoa,ho56,hoB⟩:=openA_blk 0 j HXB.out.2
         rw [hoa] at HPN
         have HOA:=Lib.hid (And.intro hoa (And.intro ho56 hoB))
         clear hoa ho56 hoB
         go_wp2_with fail
         refine HPN.out.mono ?_
         rintro en w9 ⟨rfl,hb9⟩
         have HM9:=Lib.hid (HM8.out.below hb9)
         have HO9:=Lib.hid (HO8.out.keep hb9)
         have HL9:=Lib.hid (HL8.out.keep (hb9.block _ HL8.out.lt))
         clear hb9 HPN HM8 HO8 HL8
         have hn9:=heap_alloc_new w9 (Obj.cells (blkA 0 zBs) 71)
         go_upto_region 36 with (first | (refine wpList_allocB rfl rfl ?_) | (refine wpList_storeB rfl (.tmp 30) (.tmp 181) rfl w9.heap.size rfl ok 0 obs zBs rfl HOA.out.2.1 zBs_len hn9 ?_))
         have e30:=setRow_blk (D:=blkA ok obs) hn9
         have hb:=below_setRow ((Below.refl w9.heap.size w9).alloc (Nat.le_refl _) (Obj.cells (blkA 0 zBs) 71)) (Nat.le_refl _) (blkA ok obs)
         have HM10:=Lib.hid (HM9.out.below hb)
         have HO10:=Lib.hid (HO9.out.keep hb)
         have HL10:=Lib.hid (HL9.out.keep (hb.block _ HL9.out.lt))
         have HBW:Hid (W.heap.size≤w9.heap.size):=HM9.out.bel.size
         have HB10:=Lib.hid hb
         clear hb hn9
         generalize (w9.alloc (Obj.cells (blkA 0 zBs) 71)).setRow w9.heap.size (blkA ok obs)=w10 at *
         generalize hb30:w9.heap.size=b30 at *
         have HB30:=Lib.hid hb30
         clear hb30
         have hx56:=(HLOK.out x (List.mem_of_getElem? HX.out)).len
         have HXO:=Lib.hid (HLOK.out x (List.mem_of_getElem? HX.out))
         obtain ⟨lg,hlg⟩:∃ lg,lg=x.lg:=⟨_,rfl⟩
         have hlk:∃ zk zbs,zbs.length=56∧(lg=true→zk=x.k∧zbs=x.bs)∧(Instr.lookup 108 (.map (some lm)) (.int .i64 (j:Int)) true).run Tryz.prog w10=.ok (.tuple #[.agg (blkA zk zbs),.bool lg]) w10:=by
          have h0:=HL10.out.look_ok Tryz.underlying108 (zeroBk w10) (k:=(j:Int)) (by constructor <;> omega) (by omega)
          rw [HLF.out j x HX.out] at h0
          cases hl:x.lg
          ·rw [hl] at h0 hlg;exact ⟨0,zBs,zBs_len,(fun h=>by rw [hlg] at h;cases h),by rw [hlg];exact h0⟩
          ·rw [hl] at h0 hlg;exact ⟨x.k,x.bs,hx56,fun _=>⟨rfl,rfl⟩,by rw [hlg];exact h0⟩
         obtain ⟨zk,zbs,hz56,hzz,hlk⟩:=hlk
         obtain ⟨ob,hob⟩:∃ ob,ob=decide (Opens 0 j Xj):=⟨_,rfl⟩
         rw [← hob]
         have HOR:Hid (ob=true∨lg=true):=by
          cases hl:x.lg
          ·left;rw [hob,HXJ.out];exact decide_eq_true (HOP.out j x HX.out hl)
          ·right;rw [hlg,hl]
         have HZZ:=Lib.hid hzz
         have HLG:=Lib.hid hlg
         have HOB:=Lib.hid hob
         have HE30:=Lib.hid e30
         clear hzz hlg hob e30 hx56
         have hn10:=heap_alloc_new w10 (Obj.cells (blkA 0 zBs) 71)
         go_upto_region 37 with (first | (refine wpList_allocB rfl rfl ?_) | (refine wpList_storeB rfl (.tmp 32) (.tmp 187) rfl w10.heap.size rfl zk 0 zbs zBs rfl hz56 zBs_len hn10 ?_))
         have e32:=setRow_blk (D:=blkA zk zbs) hn10
         have hb:=below_setRow ((Below.refl w10.heap.size w10).alloc (Nat.le_refl _) (Obj.cells (blkA 0 zBs) 71)) (Nat.le_refl _) (blkA zk zbs)
         have HM11:=Lib.hid (HM10.out.below hb)
         have HO11:=Lib.hid (HO10.out.keep hb)
         have HL11:=Lib.hid (HL10.out.keep (hb.block _ HL10.out.lt))
         have HE11:=Lib.hid (kb hb HE30.out)
         have HB11:=Lib.hid (keepB (show Below w9.heap.size w9 w10 by rw [HB30.out];exact HB10.out) hb)
         clear hb hn10 hlk HM10 HO10 HL10 HE30
         generalize (w10.alloc (Obj.cells (blkA 0 zBs) 71)).setRow w10.heap.size (blkA zk zbs)=w11 at *
         generalize w10.heap.size=b32 at *
         have HE32:=Lib.hid e32
         clear e32
         go_cut [194] (fun s wx=>s=.bool false∧wx=w11)
         case first =>
          rcases HOR.out with rfl | rfl
          ·cases lg <;> (go_wp2_with fail;go_meet;case rel=>exact ⟨rfl,rfl⟩)
          ·cases ob <;> (go_wp2_with fail;go_meet;case rel=>exact ⟨rfl,rfl⟩)
         case rest =>
          obtain ⟨rfl,hwc⟩:=hcut
          subst hwc
          go_upto_if 195 with fail
          have hbbj:=HBA.out j x HX.out
          have HTJ:Hid (BB.take (j+1)=BB.take j++[gotH X j x]):=take_snoc' hbbj
          have HLJ:Hid ((BB.take j).length=j):=by unfold Hid;rw [List.length_take];have:=(List.getElem?_eq_some_iff.1 hbbj).1;omega
          clear hbbj
          go_cut [] (fun wx=>∃ ck',ck'≤j+1∧Hid (MoA W wx q hp mb g5 r n g fr e Bv ck' (dirtyF (BB.take (j+1))))∧Hid (OwnK wx W.heap.size Bv ((BB.take j).map val))∧Hid (MapI wx lm cx (lastF Rs.flatten))∧Hid (wx.heap[b30]?=some (.cells (blkA (gotH X j x).k (gotH X j x).bs) 71 (0,0))))
          case first =>
           cases lg
           ·have hgot:gotH X j x=⟨opK Xj,opBs Xj,false⟩:=by unfold gotH;rw [← HLG.out,HXJ.out];rfl
            have hopn:Opens 0 j Xj:=by rw [HXJ.out];exact HOP.out j x HX.out HLG.out.symm
            have hoa:=HOA.out.1
            unfold openA at hoa
            rw [if_pos hopn] at hoa
            go_wp2_with fail
            go_meet
            case rel =>
             refine ⟨ck,by omega,?_,HO11.out,HL11.out,?_⟩
             ·rw [HTJ.out,dirty_snoc,hgot];exact HM11.out
             ·rw [hgot];simp only [];rw [hoa];exact HE11.out
           ·have hgot:gotH X j x=x:=by unfold gotH;rw [← HLG.out];rfl
            obtain ⟨hz1,hz2⟩:=HZZ.out rfl
            subst hz1
            subst hz2
            have he30:=HE11.out
            have he32:=HE32.out
            go_upto_region 41 with (first | (refine wpList_loadB rfl (.tmp 32) rfl b32 rfl x.k x.bs hz56 he32 ?_) | (refine wpList_storeB rfl (.tmp 30) (.tmp 196) rfl b30 rfl x.k ok x.bs obs rfl hz56 HOA.out.2.1 he30 ?_))
            have hb12:=below_setRow HB11.out (by rw [HB30.out];exact Nat.le_refl _:w9.heap.size≤b30) (blkA x.k x.bs)
            have HM12:=Lib.hid (HM9.out.below hb12)
            have HO12:=Lib.hid (HO9.out.keep hb12)
            have HL12:=Lib.hid (HL9.out.keep (hb12.block _ HL9.out.lt))
            have HE12:=Lib.hid (setRow_blk (D:=blkA x.k x.bs) he30)
            clear hb12 he30 he32
            generalize World.setRow _ b30 (blkA x.k x.bs)=w12 at *
            obtain ⟨we,hr,hmi,hgr⟩:=HM12.out.map.put Tryz.underlying57 (k:=(j:Int)) (by simp only [maxLen];omega) (by constructor <;> omega) (by omega) (.bool true)
            have z12:w12.cell? ⟨hp,12,none⟩=some (.map (some mb)):=(blk_cell HM12.out.hd 12).trans rfl
            go_wp2_with fail
            go_meet
            case rel =>
             refine ⟨ck+1,by omega,?_,ownsRow_away HO12.out HM12.out.map hgr,HL12.out.keep (hgr.block lm HL12.out.lt (fun e=>HNE.out (by injection e with e;exact e.symm))),?_⟩
             ·have h1:=HM12.out.put hmi hgr
              rw [HTJ.out,dirty_snoc,hgot,if_pos HLG.out.symm,HLJ.out];exact h1
             ·rw [hgot,hgr.block b30 (room_lt HE12.out) (fun e=>?_)]
              ·exact HE12.out
              ·injection e with e
               obtain ⟨D,⟨es,clock,hbm,_⟩,_⟩:=HM12.out.map
               have:=HE12.out
               rw [e,hbm] at this;cases this
          case rest =>
           obtain ⟨ck',hck',HMR,HOR2,HLR2,HBR⟩:=hcut
           obtain ⟨gk,gbs,hgk⟩:∃ gk gbs,(⟨gk,gbs⟩:Bk)=val (gotH X j x):=⟨_,_,rfl⟩
           have hown9:=HO9.out
           have HNB:Hid (Bv.ownBlock≠some b30):=fun e=>by
            have:=(hown9.lt b30 e).2
            rw [HB30.out] at this;omega
           have HNB2:Hid (∀ z,Bv.ownBlock=some z→z<b30):=fun z e=>by
            have:=(hown9.lt z e).2
            rw [HB30.out] at this;exact this
           obtain ⟨y,hy⟩:∃ y:Bk,y=val (gotH X j x):=⟨_,rfl⟩
           have HY:=Lib.hid hy
           have h56:y.bs.length=56:=by rw [hy];exact (HGO.out j x HX.out).len
           have H56:=Lib.hid h56
           obtain ⟨l,hl⟩:∃ l,l=(BB.take j).map val:=⟨_,rfl⟩
           have HLL2:Hid (l.length≤1000):=by unfold Hid;rw [hl,List.length_map,HLJ.out];omega
           have HTK:Hid ((BB.take (j+1)).map val=l++[y]):=by unfold Hid;rw [HTJ.out,List.map_append,hl,hy];rfl
           have hbr:wc.heap[b30]?=some (.cells (blkA y.k y.bs) 71 (0,0)):=by rw [hy];exact HBR.out
           rw [← hl] at HOR2
           have hJ0:JR W q hp mb g5 r n g fr e Bv ck' (dirtyF (BB.take (j+1))) lm cx (lastF Rs.flatten) b30 y l false wc.drew:=JR.below ⟨HMR.out,HLR2.out,hbr,fun _=>HOR2.out⟩ (Below.refl _ _).drew
           clear hown9 hgk hy h56 hl hbr HMR HOR2 HLR2 HBR HM9 HO9 HL9 HM11 HO11 HL11 HE11 HE32 HOA HZZ HXB HXJ HOB HLG HOR HQ
           obtain ⟨fj,hfj⟩:∃ fj,fj=dirtyF (BB.take (j+1)):=⟨_,rfl⟩
           have HFJ:=Lib.hid hfj
           rw [← hfj] at hJ0
           clear hfj
           go_upto_region 42 with fail
           refine wp_region_rgk (VMo42 hp W.heap.size Bv y l) (fun L w'=>JR W q hp mb g5 r n g fr e Bv ck' fj lm cx (lastF Rs.flatten) b30 y l (L 7) w') (SMo42 Bv) (by kernel_rfl) (by kernel_rfl) (fun i j v w w' hij _ h hs=>stab42 hij h hs) hJ0 ?_
           clear hJ0
           simp only [RAll]
           refine ⟨?_,?_,?_,?_,?_,?_,?_,?_,?_,?_,?_⟩
           ·refine RStepK.of rfl fun T W' L hag hL hJ hLs hd=>?_
            have e10:T.getD 10 undef=_:=(agree_at hag 10 (by kernel_rfl)).trans rfl
            clear hag hd
            go_simp
            first | exact ⟨_,rfl,rfl⟩ | exact ⟨_,rfl,rfl,hJ,Below.refl _ _⟩ | exact ⟨_,rfl,rfl,Below.refl _ _⟩ | (unfold SMo42;simp only [if_neg,reduceCtorEq];exact ⟨_,rfl,rfl,hJ,Below.refl _ _⟩)
           ·refine RStepK.of rfl fun T W' L hag hL hJ hLs hd=>?_
            have e10:T.getD 10 undef=_:=(agree_at hag 10 (by kernel_rfl)).trans rfl
            clear hag hd
            go_simp
            first | exact ⟨_,rfl,rfl⟩ | exact ⟨_,rfl,rfl,hJ,Below.refl _ _⟩ | exact ⟨_,rfl,rfl,Below.refl _ _⟩ | (unfold SMo42;simp only [if_neg,reduceCtorEq];exact ⟨_,rfl,rfl,hJ,Below.refl _ _⟩)
           ·refine RStepK.of rfl fun T W' L hag hL hJ hLs hd=>?_
            have d203:T.getD 203 undef=_:=hd ⟨1,.data⟩ (by simp) rfl _ rfl
            clear hag hd
            go_simp
            first | exact ⟨_,rfl,rfl⟩ | exact ⟨_,rfl,rfl,hJ,Below.refl _ _⟩ | exact ⟨_,rfl,rfl,Below.refl _ _⟩ | (unfold SMo42;simp only [if_neg,reduceCtorEq];exact ⟨_,rfl,rfl,hJ,Below.refl _ _⟩)
           ·refine RStepK.of rfl fun T W' L hag hL hJ hLs hd=>?_
            have d204:T.getD 204 undef=_:=hd ⟨2,.data⟩ (by simp) rfl _ rfl
            clear hag hd
            go_simp
            first | exact ⟨_,rfl,rfl⟩ | exact ⟨_,rfl,rfl,hJ,Below.refl _ _⟩ | exact ⟨_,rfl,rfl,Below.refl _ _⟩ | (unfold SMo42;simp only [if_neg,reduceCtorEq];exact ⟨_,rfl,rfl,hJ,Below.refl _ _⟩)
           ·refine RStepK.of rfl fun T W' L hag hL hJ hLs hd=>?_
            have d205:T.getD 205 undef=_:=hd ⟨3,.data⟩ (by simp) rfl _ rfl
            have fct0:=(blk_cell hJ.mo.hd 11).trans (rfl:_=some Bv)
            clear hag hd
            go_simp
            first | exact ⟨_,rfl,rfl⟩ | exact ⟨_,rfl,rfl,hJ,Below.refl _ _⟩ | exact ⟨_,rfl,rfl,Below.refl _ _⟩ | (unfold SMo42;simp only [if_neg,reduceCtorEq];exact ⟨_,rfl,rfl,hJ,Below.refl _ _⟩)
           ·refine RStepK.of rfl fun T W' L hag hL hJ hLs hd=>?_
            have e30:T.getD 30 undef=_:=(agree_at hag 30 (by kernel_rfl)).trans rfl
            clear hag
            refine wp_load_row 71 (.tmp 30) rfl b30 e30 _ _ _ _ hJ.bk Tryz.underlying71 rfl (by rw [blkA_size H56.out];kernel_rfl) ?_
            exact ⟨_,rfl,rfl,hJ,(Below.refl _ _:Below W'.heap.size W' W')⟩
           ·refine RStepK.of rfl fun T W' L hag hL hJ hLs hd=>?_
            have d207:T.getD 207 undef=_:=hd ⟨5,.data⟩ (by simp) rfl _ rfl
            obtain ⟨i0,hi,hz0,hz1,hz2⟩:=info_parts info24
            refine wp_one_of 56 (.tmp 207) rfl 71 i0 _ 57 Tryz.underlying56 hi hz0 hz1 (by decide) (by decide) _ d207 (by show (blkA y.k y.bs).size=57;exact blkA_size H56.out) ?_
            have hba:Below W'.heap.size W' (W'.alloc (.cells (blkA y.k y.bs) 71)):=(Below.refl _ _).alloc (Nat.le_refl _) _
            exact ⟨_,rfl,⟨W'.heap.size,rfl,heap_alloc_new W' _,fun e=>by have:=HNB2.out _ e;have:=room_lt hJ.bk;omega⟩,hJ.below hba,hba⟩
           ·refine RStepK.of rfl fun T W' L hag hL hJ hLs hd=>?_
            have d206:T.getD 206 undef=_:=hd ⟨4,.data⟩ (by simp) rfl _ rfl
            have x208:=hd ⟨6,.data⟩ (by simp) rfl _ rfl
            obtain ⟨g',(hg1:T.getD 208 undef=_),hg2,hg3⟩:=x208
            have hJ':JR W q hp mb g5 r n g fr e Bv ck' fj lm cx (lastF Rs.flatten) b30 y l false W':=by rw [hL] at hJ;exact hJ
            refine wp_app_bk2 (.tmp 206) (.tmp 208) rfl W.heap.size Bv l d206 (hJ'.ow rfl) g' y H56.out hg1 hg2 HLL2.out hJ'.mo.bel.size ?_
            intro v' w' ho hg
            exact ⟨_,rfl,ho,hJ'.push hg HNB.out,hg⟩
           ·refine RStepK.of rfl fun T W' L hag hL hJ hLs hd=>?_
            have d202:T.getD 202 undef=_:=hd ⟨0,.data⟩ (by simp) rfl _ rfl
            clear hag hd
            go_simp
            first | exact ⟨_,rfl,rfl⟩ | exact ⟨_,rfl,rfl,hJ,Below.refl _ _⟩ | exact ⟨_,rfl,rfl,Below.refl _ _⟩ | (unfold SMo42;simp only [if_neg,reduceCtorEq];exact ⟨_,rfl,rfl,hJ,Below.refl _ _⟩)
           ·refine RStepK.of rfl fun T W' L hag hL hJ hLs hd=>?_
            have d210:T.getD 210 undef=_:=hd ⟨8,.data⟩ (by simp) rfl _ rfl
            clear hag hd
            go_simp
            first | exact ⟨_,rfl,rfl⟩ | exact ⟨_,rfl,rfl,hJ,Below.refl _ _⟩ | exact ⟨_,rfl,rfl,Below.refl _ _⟩ | (unfold SMo42;simp only [if_neg,reduceCtorEq];exact ⟨_,rfl,rfl,hJ,Below.refl _ _⟩)
           ·refine RLastK.of rfl fun T W' L hag hLs hL hJ hd=>?_
            have d211:T.getD 211 undef=_:=hd 9 _ (by simp) rfl
            have x209:=hd 7 _ (by simp) rfl
            obtain ⟨f,hf,hT⟩:=agree_fn hag
            have h211:=(hf 211).trans d211
            obtain ⟨v9,hv9⟩:∃ v9,T.getD 209 undef=v9:=⟨_,rfl⟩
            have ho9:OwnK W' W.heap.size (T.getD 209 undef) (l++[y]):=x209
            rw [hv9] at ho9
            obtain ⟨A9,N9,c9,hs9⟩:=ho9.val'
            subst hs9
            have h209:=(hf 209).trans hv9
            have HO9:=Lib.hid ho9
            have HF9:=Lib.hid hf
            have HJ:=Lib.hid hJ
            clear hag hd d211 hJ hf x209 ho9 hv9 HF9
            rw [hT]
            clear hT
            simp only [List.pop_toArray,List.dropLast_cons_cons,List.dropLast_singleton,List.filterMap_cons,List.filterMap_nil,List.foldl_cons,List.foldl_nil,List.setIfInBounds_toArray,List.set_cons_succ,List.set_cons_zero,h211,h209]
            have hfin:=HJ.out.fin HO9.out
            have HM13:=Lib.hid hfin.1
            have HO13:=Lib.hid hfin.2.1
            have HL13:=Lib.hid hfin.2.2
            have z11:W'.cell? ⟨hp,11,none⟩=some Bv:=(blk_cell HJ.out.mo.hd 11).trans rfl
            have f11:=HJ.out.mo.cfr 11
            clear hfin HJ HO9
            go_simp
            go_wp2_with fail
            go_roundw
            case rel=>exact ⟨j+1,ck',_,by go_num,by omega,hck',by rw [← HFJ.out];exact HM13.out,by rw [HTK.out];exact HO13.out,HL13.out⟩
            case measure=>simp [intOf];omega
        ·obtain rfl:n=j:=by omega
         have hji:¬ ((n:Int)<n):=by omega
         have hbl:BB.length=n:=by rw [HBB.out,fetchB_length,HL0.out]
         have hbo:HBsOk BB:=fun y hy=>by
          obtain ⟨i,hi⟩:=List.getElem?_of_mem hy
          have h1:i<L0.length:=by have:=(List.getElem?_eq_some_iff.1 hi).1;rw [HL0.out];omega
          obtain ⟨x,hx⟩:∃ x,L0[i]?=some x:=⟨_,List.getElem?_eq_getElem h1⟩
          have h2:=HBA.out i x hx
          rw [h2] at hi
          injection hi with hi
          rw [← hi]
          exact HGO.out i x hx
         have htk:BB.take n=BB:=List.take_of_length_le (by omega)
         have hmo:=HMO.out
         have hok:=HOK.out
         rw [htk] at hmo hok
         have he:=HE.out
         obtain ⟨rb,cap,hrs,hsm⟩:=hmo.done HD.out hok hbl HNG.out.1 HNG.out.2.1 HNG.out.2.2 hbo (by omega) (by omega)
         have HSE:=Lib.hid (rvsettle_any hrs (by show e+1<4294967296;exact he) (by have:=HMX.out;omega))
         have HSM:=Lib.hid hsm
         clear hbl hbo htk hmo hok he hrs hsm HMO HOK HLM
         go_wp2_with fail
         refine HSE.out.mono ?_
         rintro en w7 ⟨rfl,mb',hrv,hs7⟩
         have HRV:=Lib.hid hrv
         have HS7:=Lib.hid hs7
         clear hrv hs7 HSE
         go_wp2_with fail
         go_ret2
         refine ⟨hp,rb,mb',cap,rfl,?_,HSM.out.trans HS7.out⟩
         have h5:=HRV.out
         rw [HBB.out,HLR.out] at h5
         exact h5
      ·have hkl:k<Rs.length:=by omega
       obtain ⟨tv,hl⟩:∃ l,Rs[k]?=some l:=⟨_,List.getElem?_eq_getElem hkl⟩
       have hml:=HRP.out.2.2.2.1 tv (List.mem_of_getElem? hl)
       have hdr:Rs.drop k=tv :: Rs.drop (k+1):=by rw [List.drop_eq_getElem_cons hkl,(List.getElem?_eq_some_iff.1 hl).2]
       have hls:ls=putL 0 e k tv++(putsL e (k+1) (Rs.drop (k+1))++rest):=by rw [HLS.out,hdr];show (putL 0 e k tv++putsL e (k+1) (Rs.drop (k+1)))++rest=_;rw [List.append_assoc]
       have hbt:decide (Taken 0 e k ls)=true:=by
        rw [hls]
        exact decide_eq_true ((taken_put hml.1 hml.2 (by omega) (by omega) (by omega) (by omega)).2 ⟨rfl,rfl,rfl⟩)
       have htv:=takeV_put (lb:=0) (e:=e) (s:=k) (rest:=putsL e (k+1) (Rs.drop (k+1))++rest) hml.1 hml.2 (by omega) (by omega)
       rw [← hls] at htv
       have hu:=HU.out
       rw [htv.1] at hu
       obtain ⟨B5,dl,rfl,hd1,hd2,hwr⟩:=hu.wrsR (fun x hx=>(hml.2 x hx).len)
       have HWR:=Lib.hid hwr.wrs
       obtain ⟨M,hM⟩:∃ M,M=takeN 0 e k ls:=⟨_,rfl⟩
       have hM2:M=1+tv.length:=by rw [hM];exact htv.2
       have hll:(putL 0 e k tv).length=M:=by rw [putL_length,hM2]
       have hle:M≤N:=by rw [← HLN.out,hls,List.length_append,hll];omega
       have HDR:Hid (ls.drop M=putsL e (k+1) (Rs.drop (k+1))++rest):=by
        unfold Hid
        rw [hls,← hll];exact List.drop_left
       have HTAK:Hid (Rs.take (k+1)=Rs.take k++[tv]):=take_snoc' hl
       have hml12:=hml.1.1.2
       have HMLO:=Lib.hid hml.2
       have HMYT:Hid (∀ x∈tv,MayB x.k x.t):=hml.1.2.1
       rw [hbt,← hM]
       clear hbt htv hu hwr hdr hls hml hl hll HU hM HLS
       obtain ⟨tl,htl⟩:∃ tl,tl=tv.length:=⟨_,rfl⟩
       rw [← htl] at hd1 hml12 ⊢
       have HTL:=Lib.hid htl.symm
       clear htl hM2
       go_wp2_with fail
       go_loopw [26] (fun i wr=>∃ (j cx:Nat),i=.int .i64 j∧j≤tl∧cx≤12*k+j∧Hid (MoA W wr q hp mb g5 r n g fr e (.slice none 0 0) 0 (fun _=>none))∧Hid (Tx wr A ls)∧Hid (Wrs wr B5 tv)∧Hid (MapI wr lm cx (lastF ((Rs.take k).flatten++tv.take j)))) (fun i _=>tl-(intOf i).toNat)
       case atStart=>exact ⟨0,cx,rfl,by omega,by omega,HM5.out,HT5.out,HWR.out,by rw [List.take_zero,List.append_nil];exact HL5.out⟩
       case round =>
        clear HM5 HT5 HWR HL5 hcx
        obtain ⟨jj,cx,rfl,hj,hcx,HMO,HTX,HWR,HLM⟩:=hrel
        obtain ⟨w5,rfl⟩:∃ w5,w5=wr:=⟨wr,rfl⟩
        by_cases hjl:jj<tl
        ·have hji:(jj:Int)<tl:=by omega
         obtain ⟨x,hx⟩:∃ x,tv[jj]?=some x:=⟨_,List.getElem?_eq_getElem (by rw [HTL.out];exact hjl)⟩
         obtain ⟨ad,rfl,hat⟩:=HWR.out jj x hx
         have HXO:=Lib.hid (HMLO.out x (List.mem_of_getElem? hx))
         have HXT:Hid (x.t<200):=(HMYT.out x (List.mem_of_getElem? hx)).2.2
         have HTJ:Hid (tv.take (jj+1)=tv.take jj++[x]):=take_snoc' hx
         have HC0:Hid (∀ W',Below w5.heap.size w5 W'→W'.cell? (ad.add (jj*58))=some (.int .i64 x.t)):=fun W' hb'=>keepC hb' hat.c0
         have HRG:Hid (∀ W',Below w5.heap.size w5 W'→W'.rangeAt (ad.add (jj*58)).block ((ad.add (jj*58)).off+1) (blkL x.k x.bs)):=fun W' hb' j u hj=>by
          have:=(hat.keep hb') (j+1) u (by show (Value.int .i64 x.t :: blkL x.k x.bs)[j+1]?=some u;rw [List.getElem?_cons_succ];exact hj)
          rw [add_sum] at this
          rw [show (ad.add (jj*58)).off+1+j=(ad.add (jj*58)).off+(j+1) by omega]
          exact this
         clear hat hx
         go_upto_region 29 with fail
         refine wp_region_rgk (VMo29 lm tl dl jj ad x.t x.k x.bs) (fun _ W=>Below w5.heap.size w5 W) (fun _ w w'=>Below w.heap.size w w') (by kernel_rfl) (by kernel_rfl) (fun i j v w w' _ _ h hs=>by unfold VMo29 at *;exact h) ((Below.refl _ _).drew) ?_
         simp only [RAll]
         refine ⟨?_,?_,?_,?_,?_,?_,?_,?_,?_,?_,?_,?_⟩
         ·refine RStepK.of rfl fun T W L hag hL hJ hLs hd=>?_
          have e17:T.getD 17 undef=_:=(agree_at hag 17 (by kernel_rfl)).trans rfl
          clear hag hd
          go_simp
          first | exact ⟨_,rfl,rfl⟩ | exact ⟨_,rfl,rfl,brefl _⟩ | exact ⟨_,rfl,rfl,hJ,brefl _⟩
         ·refine RStepK.of rfl fun T W L hag hL hJ hLs hd=>?_
          have e23:T.getD 23 undef=_:=(agree_at hag 23 (by kernel_rfl)).trans rfl
          clear hag hd
          go_simp
          first | exact ⟨_,rfl,rfl⟩ | exact ⟨_,rfl,rfl,brefl _⟩ | exact ⟨_,rfl,rfl,hJ,brefl _⟩
         ·refine RStepK.of rfl fun T W L hag hL hJ hLs hd=>?_
          have e26:T.getD 26 undef=_:=(agree_at hag 26 (by kernel_rfl)).trans rfl
          clear hag hd
          go_simp
          first | exact ⟨_,rfl,rfl⟩ | exact ⟨_,rfl,rfl,brefl _⟩ | exact ⟨_,rfl,rfl,hJ,brefl _⟩
         ·refine RStepK.of rfl fun T W L hag hL hJ hLs hd=>?_
          have d148:T.getD 148 undef=_:=hd ⟨1,.data⟩ (by simp) rfl _ rfl
          have d149:T.getD 149 undef=_:=hd ⟨2,.data⟩ (by simp) rfl _ rfl
          clear hag hd
          go_simp
          first | exact ⟨_,rfl,rfl⟩ | exact ⟨_,rfl,rfl,brefl _⟩ | exact ⟨_,rfl,rfl,hJ,brefl _⟩
         ·refine RStepK.of rfl fun T W L hag hL hJ hLs hd=>?_
          have d150:T.getD 150 undef=_:=hd ⟨3,.data⟩ (by simp) rfl _ rfl
          clear hag hd
          go_simp
          first | exact ⟨_,rfl,rfl⟩ | exact ⟨_,rfl,rfl,brefl _⟩ | exact ⟨_,rfl,rfl,hJ,brefl _⟩
         ·refine RStepK.of rfl fun T W L hag hL hJ hLs hd=>?_
          have d151:T.getD 151 undef=_:=hd ⟨4,.data⟩ (by simp) rfl _ rfl
          have c0:=HC0.out W hJ
          clear hag hd
          go_simp
          first | exact ⟨_,rfl,rfl⟩ | exact ⟨_,rfl,rfl,brefl _⟩ | exact ⟨_,rfl,rfl,hJ,brefl _⟩
         ·refine RStepK.of rfl fun T W L hag hL hJ hLs hd=>?_
          have e23:T.getD 23 undef=_:=(agree_at hag 23 (by kernel_rfl)).trans rfl
          clear hag hd
          go_simp
          first | exact ⟨_,rfl,rfl⟩ | exact ⟨_,rfl,rfl,brefl _⟩ | exact ⟨_,rfl,rfl,hJ,brefl _⟩
         ·refine RStepK.of rfl fun T W L hag hL hJ hLs hd=>?_
          have e26:T.getD 26 undef=_:=(agree_at hag 26 (by kernel_rfl)).trans rfl
          clear hag hd
          go_simp
          first | exact ⟨_,rfl,rfl⟩ | exact ⟨_,rfl,rfl,brefl _⟩ | exact ⟨_,rfl,rfl,hJ,brefl _⟩
         ·refine RStepK.of rfl fun T W L hag hL hJ hLs hd=>?_
          have d153:T.getD 153 undef=_:=hd ⟨6,.data⟩ (by simp) rfl _ rfl
          have d154:T.getD 154 undef=_:=hd ⟨7,.data⟩ (by simp) rfl _ rfl
          clear hag hd
          go_simp
          first | exact ⟨_,rfl,rfl⟩ | exact ⟨_,rfl,rfl,brefl _⟩ | exact ⟨_,rfl,rfl,hJ,brefl _⟩
         ·refine RStepK.of rfl fun T W L hag hL hJ hLs hd=>?_
          have d155:T.getD 155 undef=_:=hd ⟨8,.data⟩ (by simp) rfl _ rfl
          clear hag hd
          go_simp
          first | exact ⟨_,rfl,rfl⟩ | exact ⟨_,rfl,rfl,brefl _⟩ | exact ⟨_,rfl,rfl,hJ,brefl _⟩
         ·refine RStepK.of rfl fun T W L hag hL hJ hLs hd=>?_
          have d156:T.getD 156 undef=_:=hd ⟨9,.data⟩ (by simp) rfl _ rfl
          clear hag
          refine wp_load_mid 71 (.tmp 156) rfl (ad.add (jj*58)).block ((ad.add (jj*58)).off+1) d156 (blkL x.k x.bs) _ (HRG.out W hJ) Tryz.underlying71 rfl (by rw [blkL_len HXO.out.len];exact size24b) ?_
          exact ⟨_,rfl,rfl,hJ,brefl _⟩
         ·refine RLastK.of rfl fun T W L hag hLs hL hJ hd=>?_
          have d147:T.getD 147 undef=_:=hd 0 _ (by simp) rfl
          have d152:T.getD 152 undef=_:=hd 5 _ (by simp) rfl
          have d157:T.getD 157 undef=_:=hd 10 _ (by simp) rfl
          obtain ⟨f,hf,hT⟩:=agree_fn hag
          have h147:=(hf 147).trans d147
          have d148:T.getD 148 undef=_:=hd 1 _ (by simp) rfl
          have h148:=(hf 148).trans d148
          have d149:T.getD 149 undef=_:=hd 2 _ (by simp) rfl
          have h149:=(hf 149).trans d149
          have d150:T.getD 150 undef=_:=hd 3 _ (by simp) rfl
          have h150:=(hf 150).trans d150
          have d151:T.getD 151 undef=_:=hd 4 _ (by simp) rfl
          have h151:=(hf 151).trans d151
          have h152:=(hf 152).trans d152
          have d153:T.getD 153 undef=_:=hd 6 _ (by simp) rfl
          have h153:=(hf 153).trans d153
          have d154:T.getD 154 undef=_:=hd 7 _ (by simp) rfl
          have h154:=(hf 154).trans d154
          have d155:T.getD 155 undef=_:=hd 8 _ (by simp) rfl
          have h155:=(hf 155).trans d155
          have d156:T.getD 156 undef=_:=hd 9 _ (by simp) rfl
          have h156:=(hf 156).trans d156
          have h157:=(hf 157).trans d157
          have HJ:=Lib.hid hJ
          clear hag hd d147 d148 d149 d150 d151 d152 d153 d154 d155 d156 d157 hJ hf
          rw [hT]
          clear hT
          simp only [List.pop_toArray,List.dropLast_cons_cons,List.dropLast_singleton,List.filterMap_cons,List.filterMap_nil,List.foldl_cons,List.foldl_nil,List.setIfInBounds_toArray,List.set_cons_succ,List.set_cons_zero,h147,h148,h149,h150,h151,h152,h153,h154,h155,h156,h157]
          have hmp:=HLM.out.keep (HJ.out.block _ HLM.out.lt)
          obtain ⟨we,hr,hmi,hgr⟩:=hmp.put Tryz.underlying108 (k:=x.t) (by have:=HRP.out.2.2.2.2.2.2;simp only [maxLen];omega) HXO.out.t (by have h:=HXT.out;omega) (.agg (blkA x.k x.bs))
          have hcl:=map_cells hmp hgr
          have HME:=Lib.hid ((HMO.out.below HJ.out).mark hmp hgr HNE.out HLL.out)
          have HTE:=Lib.hid ((HTX.out.keep HJ.out).cells hcl)
          have HWE:=Lib.hid ((HWR.out.keep HJ.out).cells hcl)
          have HPE:Hid (MapI we lm (cx+1) (lastF ((Rs.take k).flatten++tv.take (jj+1)))):=by unfold Hid;rw [HTJ.out,← List.append_assoc,lastF_snoc];exact hmi
          clear hmp hmi hgr hcl HJ HMO HTX HWR HLM HC0 HRG
          go_simp
          go_wp2
          go_roundw
          case rel=>exact ⟨jj+1,cx+1,by go_num,by omega,by omega,HME.out,HTE.out,HWE.out,HPE.out⟩
          case measure=>simp [intOf];omega
        ·obtain rfl:tl=jj:=by omega
         have hji:¬ ((tl:Int)<tl):=by omega
         have HFL:Hid (MapI w5 lm cx (lastF (Rs.take (k+1)).flatten)):=by
          have:=HLM.out
          rw [List.take_of_length_le (i:=tl) (l:=tv) (by rw [HTL.out];exact Nat.le_refl _)] at this
          unfold Hid
          rw [HTAK.out,List.flatten_append]
          simpa using this
         have HTC:Hid (TxOk (ls.drop M)):=fun b hb=>HTO.out b (List.mem_of_mem_drop hb)
         have HDL:Hid ((ls.drop M).length=N-M):=by unfold Hid;rw [List.length_drop,HLN.out]
         have hle2:(M:Int)≤N:=by omega
         have hn1:(M:Int)≤c:=by omega
         have hnc:(N:Int)≤c:=by omega
         have wk:IntKind.u32.wrap ((k:Int)+1)=((k+1:Nat):Int):=by rw [IntWalk.u32_in _ (by omega)];omega
         have htx7:=HTX.out.cut (c:=c) (k:=M) (by rw [HLN.out];exact hNc)
         have HKL:=Lib.hid hkl
         by_cases hcn:c=M
         ·subst hcn
          unfold cutA at htx7
          rw [if_pos rfl] at htx7
          have HTX8:=Lib.hid htx7
          have HNM:Hid (N=c):=by unfold Hid;omega
          clear htx7
          go_wp2
          go_roundw
          case rel=>exact ⟨k+1,cx,0,0,A,ls.drop c,by go_num,by first | rfl | (trace_state;rfl),by have:=HKL.out;omega,by omega,by omega,by have h1:=HDL.out;have h2:=HNM.out;unfold Hid;omega,HTC.out,HDR.out,by omega,HMO.out,HTX8.out,HFL.out⟩
          case measure=>have:=HKL.out;simp [intOf];omega
         ·unfold cutA at htx7
          rw [if_neg hcn,Nat.mul_one] at htx7
          obtain ⟨A',hA'⟩:∃ A',A'=A.map (·.add M):=⟨_,rfl⟩
          rw [← hA'] at htx7
          have HTX8:=Lib.hid htx7
          have HAA:=Lib.hid hA'
          clear hA'
          have hcn':¬ ((c:Int)=M):=by omega
          clear htx7
          go_wp2
          go_roundw
          case rel=>exact ⟨k+1,cx,N-M,c-M,A',ls.drop M,by go_num,by rw [HAA.out],by have:=HKL.out;omega,by omega,by omega,HDL.out,HTC.out,HDR.out,by omega,HMO.out,HTX8.out,HFL.out⟩
          case measure=>have:=HKL.out;simp [intOf];omega
end Go.Proofs.YtamnpblijdgdaaaGreat
