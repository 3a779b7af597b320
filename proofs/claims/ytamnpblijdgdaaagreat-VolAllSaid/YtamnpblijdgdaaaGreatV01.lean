/- For VolAll: contracts and facts, part 1. -/
import Derived.Test.YtamnpblijdgdaaaGreatRows
import Derived.WalkKit
import Derived.ProofKit
import Derived.OpenShut
import Derived.Outline
import Derived.WalkLawsBesides
import Derived.Laws.Bits64b
import Derived.Deep.RegionHeld3
import Derived.Lib.Hide
import Derived.LoopTactic
import Derived.Laws.StructEq
import Derived.Laws.BytesArg
import Derived.Laws.MakeOwn
import Derived.Maps.AppendAt
import Derived.OwnWalk
import Derived.IntWalk
import Derived.WalkMore
import Derived.Deep.QuietTactic
import Derived.BigQuiet
import Derived.Deep.Slices
import Derived.Deep.Fields
import Derived.ChangeSame
import Derived.Carry
import Derived.Lib.SmallJoins
import Derived.Deep.AppendLies
import Derived.Deep.RegionLaw
import Derived.Deep.MidRow
import Derived.Laws.CopyOwn
namespace Go.Proofs.YtamnpblijdgdaaaGreat
open Go.ChangeShapes Go.WideShapes Go.ChangeAt Go.RowKit
set_option linter.unusedVariables false
theorem bcell {W w1:World} (hb:Below W.heap.size W w1):(∀ b o,b<W.heap.size→w1.cell? ⟨b,o,none⟩=W.cell? ⟨b,o,none⟩)∧(∀ b o,b<W.heap.size→w1.frozen? ⟨b,o,none⟩=W.frozen? ⟨b,o,none⟩) :=
 ⟨fun b o h=>hb.cell (p:=⟨b,o,none⟩) h,fun b o h=>hb.frozen (p:=⟨b,o,none⟩) h⟩
theorem keep {W w1:World} (hb:Below W.heap.size W w1) {b o:Nat} {v:Value} (h:W.cell? ⟨b,o,none⟩=some v):w1.cell? ⟨b,o,none⟩=some v:=by
 rw [(bcell hb).1 _ _ (World.block_lt_of_cell? W _ h)];exact h
theorem keepB {w W w1:World} (h:Below w.heap.size w W) (hb:Below W.heap.size W w1):Below w.heap.size w w1:=h.trans (hb.mono h.size)
theorem keepA {W:World} {a:Addr} {v:Value} (h:W.cell? a=some v) (o:Obj):(W.alloc o).cell? a=some v:=by
 rw [World.cell?_alloc_some W a o (by rw [h];rfl)];exact h
theorem keepC {w w':World} (hb:Below w.heap.size w w') {q:Addr} {v:Value} (hq:w.cell? q=some v):w'.cell? q=some v:=by
 rw [hb.cell (World.block_lt_of_cell? w q hq)];exact hq
theorem bdn {B:Nat} {w w2:World} (h:Below B w w2) (n:Nat):Below B w (w2.drewN n):=⟨h.os,h.tape,h.output,h.size,h.block⟩
abbrev i64 (l:Int):Prop := -2 ^ 63≤l∧l≤2 ^ 63
theorem take_snoc' {α:Type} {l:List α} {k:Nat} {s:α} (h:l[k]?=some s):l.take (k+1)=l.take k++[s]:=by
 rw [List.take_add_one,h];rfl
theorem ret_bool {a b:Bool} (h:a=b):Ending.returned (.bool a)=.returned (.bool b):=by rw [h]
theorem ret_int {k:IntKind} {a b:Int} (h:a=b):Ending.returned (.int k a)=.returned (.int k b):=by rw [h]
theorem heap_setCell_same' {W:World} {r i:Nat} {C:Array Value} {t:TypeId} (h:W.heap[r]?=some (.cells C t (0,0))) (u:Value):(W.setCell ⟨r,i,none⟩ u).heap[r]?=some (.cells (C.setIfInBounds i u) t (0,0)):=by
 simp [World.setCell,Array.getElem?_modify,h]
theorem ownSet {W:World} {base e sz n:Nat} {v:Value} {xs:List Value} (h:W.ownsRow base e sz v n xs) {a:Addr} (u:Value) (hne:v.ownBlock≠some a.block):(W.setCell a u).ownsRow base e sz v n xs :=
 h.kept (row:=some a.block) ⟨rfl,rfl,rfl,by simp,fun k hk hne=>by
  rw [World.setCell];simp only [Array.getElem?_modify];rw [if_neg (fun e=>hne (by rw [e]))]⟩ (.inr hne)
theorem blk_cell {W:World} {r:Nat} {C:Array Value} {t:TypeId} {fr:Nat × Nat} (h:W.heap[r]?=some (.cells C t fr)) (i:Nat):W.cell? ⟨r,i,none⟩=C[i]?:=cell_of_row W r i C t fr h
theorem blk_free {W:World} {r:Nat} {C:Array Value} {t:TypeId} (h:W.heap[r]?=some (.cells C t (0,0))) (i:Nat):W.frozen? ⟨r,i,none⟩=false:=by simp [World.frozen?,h]
theorem room_lt {W:World} {g:Nat} {o:Obj} (h:W.heap[g]?=some o):g<W.heap.size:=by
 rcases Nat.lt_or_ge g W.heap.size with h1 | h1
 ·exact h1
 ·rw [Array.getElem?_eq_none h1] at h;cases h
theorem add_add' (a:Addr) (i j:Nat):(a.add i).add j=a.add (i+j):=by
 unfold Addr.add
 by_cases hi:i=0 <;> by_cases hj:j=0 <;> simp [hi,hj,Nat.add_assoc]
theorem add_at (g i:Nat):(⟨g,0,none⟩:Addr).add i=⟨g,i,none⟩:=by unfold Addr.add;split <;> simp_all
theorem add_sum (a:Addr) (k:Nat):a.add (k+1)=⟨a.block,a.off+(k+1),none⟩:=by unfold Addr.add;simp
def Byt (w:World) (A:Option Addr) (xs:List Int):Prop:=∀ i x,xs[i]?=some x→∃ a,A=some a∧w.cell? (a.add i)=some (.int .u8 x)
def AllB (xs:List Int):Prop:=∀ x∈xs,0≤x∧x<256
def Bs (xs:List Int):List Value:=xs.map (.int .u8)
theorem Bs_at {xs:List Int} {i:Nat} {x:Int} (h:xs[i]?=some x):(Bs xs)[i]?=some (.int .u8 x):=by unfold Bs;rw [List.getElem?_map,h];rfl
theorem Bs_length (xs:List Int):(Bs xs).length=xs.length:=by unfold Bs;simp
theorem Byt.keep {w w':World} {A:Option Addr} {xs:List Int} (h:Byt w A xs) (hb:Below w.heap.size w w'):Byt w' A xs:=fun i x hi =>
 let ⟨a,e,hs⟩:=h i x hi;⟨a,e,keepC hb hs⟩
theorem Byt.alloc {w:World} {A:Option Addr} {xs:List Int} (h:Byt w A xs) (o:Obj):Byt (w.alloc o) A xs:=fun i x hi =>
 let ⟨a,e,hs⟩:=h i x hi;⟨a,e,keepA hs o⟩
theorem Byt.drew {w:World} {A:Option Addr} {xs:List Int} (h:Byt w A xs) (n:Nat):Byt (w.drewN n) A xs:=h
theorem Byt.take {w:World} {A:Option Addr} {xs:List Int} (h:Byt w A xs) (k:Nat):Byt w A (xs.take k):=fun i x hi=>h i x (by
 rw [List.getElem?_take] at hi;split at hi;exact hi;cases hi)
theorem byt_blk {W:World} {r:Nat} {C:Array Value} {t:TypeId} {fr:Nat × Nat} {bs:List Int} (h:W.heap[r]?=some (.cells C t fr)) (hc:C.toList=Bs bs):Byt W (some ⟨r,0,none⟩) bs:=by
 intro i x hi
 refine ⟨_,rfl,?_⟩
 rw [add_at,cell_of_row _ _ _ _ _ _ h,← Array.getElem?_toList,hc]
 exact Bs_at hi
theorem byt_own {W:World} {B:Nat} {t:TypeId} {sv:Value} {n:Nat} {bs:List Int} (h:W.ownsRow B t 1 sv n (Bs bs)) (hn:bs.length=n) :
 ∃ A d,sv=.slice A bs.length d∧bs.length≤d∧d≤9223372036854775807∧Byt W A bs:=by
 subst hn
 rcases h.2 with ⟨rfl,h0⟩ | ⟨g,cap,cur,rfl,hb,hg,hn',hm,hs,ht⟩
 ·refine ⟨none,0,by rw [h0],by omega,by omega,fun i s hi=>?_⟩
  rw [List.length_eq_zero_iff.1 h0] at hi;cases hi
 ·refine ⟨some ⟨g,0,none⟩,cap,rfl,hn',by simp only [maxLen] at hm;omega,fun i s hi=>⟨_,rfl,?_⟩⟩
  exact h.cells (g:=g) rfl _ _ (Bs_at hi)
def cutA (A:Option Addr) (c k:Nat):Option Addr:=if c=k then A else A.map (·.add (k*1))
theorem byte_inj {x y:Int} (hx:0≤x∧x<256) (hy:0≤y∧y<256) (h:UInt8.ofNat x.toNat=UInt8.ofNat y.toNat):x=y:=by
 have:=congrArg UInt8.toNat h
 simp only [UInt8.toNat_ofNat'] at this
 omega
theorem strOfNums_toList (xs:List Int):(strOfNums xs).toList=xs.map fun n=>UInt8.ofNat n.toNat:=by
 rw [ByteArray.toList_eq];rfl
theorem map_byte_inj:∀ {xs ys:List Int},AllB xs→AllB ys→xs.map (fun n=>UInt8.ofNat n.toNat)=ys.map (fun n=>UInt8.ofNat n.toNat)→xs=ys
 | [],[],_,_,_=>rfl
 | [],_ :: _,_,_,h=>by simp at h
 | _ :: _,[],_,_,h=>by simp at h
 | x :: xs,y :: ys,hx,hy,h=>by
   rw [List.map_cons,List.map_cons] at h
   injection h with h1 h2
   rw [byte_inj (hx x (by simp)) (hy y (by simp)) h1,map_byte_inj (fun v hv=>hx v (by simp [hv])) (fun v hv=>hy v (by simp [hv])) h2]
theorem str_beq {xs ys:List Int} (hx:AllB xs) (hy:AllB ys):((strOfNums xs).toList==(strOfNums ys).toList)=decide (xs=ys):=by
 rw [strOfNums_toList,strOfNums_toList,Bool.eq_iff_iff]
 simp only [beq_iff_eq,decide_eq_true_eq]
 exact ⟨map_byte_inj hx hy,fun h=>by rw [h]⟩
end Go.Proofs.YtamnpblijdgdaaaGreat
namespace Go.Proofs.YtamnpblijdgdaaaGreat
open Go.ChangeShapes Go.WideShapes Go.ChangeAt Go.RowKit Go.Deep
set_option linter.unusedVariables false
theorem conv_any {A:Option Addr} {xs:List Int} {n c:Nat} {w:World} (h:Byt w A xs) (hn:xs.length=n):(convert 48 9 (.slice A n c)).run Tryz.prog w=.ok (.string (strOfNums xs)) w:=by
 rcases A with _ | a
 ·have:xs=[]:=by
   cases xs with
   | nil=>rfl
   | cons x l=>obtain ⟨a,e,_⟩:=h 0 x rfl;cases e
  subst this
  rw [run_convert_bytes_nil w 48 5 Tryz.underlying48 Tryz.underlying5 n c 9 Tryz.underlying9]
  rfl
 ·have hl:(loadCells a n).run Tryz.prog w=.ok (Bs xs).toArray w:=by
   have:=run_loadCells_list (P:=Tryz.prog) w a (Bs xs) (fun j v hj=>by
    unfold Bs at hj
    rw [List.getElem?_map] at hj
    obtain ⟨x,hx,rfl⟩:=Option.map_eq_some_iff.1 hj
    obtain ⟨a',e,hc⟩:=h j x hx
    injection e with e;subst e;exact hc)
   have e:(Bs xs).length=n:=by rw [Bs_length];exact hn
   rw [e] at this
   exact this
  rw [run_convert_bytes_string w 48 9 5 _ n c Tryz.underlying48 Tryz.underlying5 Tryz.underlying9,run_bytesToString w _ n c xs hl,foldl_push_bytes]
  simp [strOfNums,ByteArray.empty,ByteArray.emptyWithCapacity]
  rfl
section
variable {H:Type} {enc:TypeId × Value→H} {w:World} {base:Nat} {spare:Nat→Bool} {held:Bool}
theorem cells5':Tryz.prog.cellsOf 5=1:=by kernel_rfl
theorem open_byt {fuel:Nat} {cs:List Value} {x:DataW H × List MemPlace} (h:DataW.trod enc Tryz.prog w base spare held fuel 48 cs=some x) :
 ∃ (A:Option Addr) (bs:List Int) (d:Nat),cs=[.slice A bs.length d]∧bs.length≤d∧d≤9223372036854775807∧Byt w A bs∧AllB bs:=by
 rcases open_ints Tryz.underlying48 Tryz.underlying5 cells5' h with ⟨rfl,_⟩ | ⟨a,len,cap,zs,rfl,_,hl,hm,hz,_,hcell,hwf⟩
 ·exact ⟨none,[],0,rfl,Nat.le_refl _,by omega,(fun i s hi=>by cases hi),(fun s hs=>by cases hs)⟩
 ·have hzl:len≤zs.length:=by rw [hz];split <;> omega
  have e:(zs.take len).length=len:=List.length_take_of_le hzl
  refine ⟨some a,zs.take len,cap,by rw [e],by rw [e];exact hl,by simp only [maxLen] at hm;omega,fun i s hi=>⟨a,rfl,?_⟩,fun s hs=>?_⟩
  ·rw [List.getElem?_take] at hi
   split at hi
   ·have hlt:i<zs.length:=(List.getElem?_eq_some_iff.1 hi).1
    rw [hcell i hlt,List.getD,hi];rfl
   ·cases hi
  ·have:=bounds_u8 (hwf s (List.mem_of_mem_take hs));omega
end
end Go.Proofs.YtamnpblijdgdaaaGreat
namespace Go.Proofs.YtamnpblijdgdaaaGreat
open Go.ChangeShapes Go.WideShapes Go.ChangeAt Go.RowKit
set_option linter.unusedVariables false
theorem info5:(Tryz.prog.info? 5).map (fun i=>(i.zero,i.size,i.bytes))=some (some (.int .u8 0),1,1):=by kernel_rfl
theorem Bs_one (l:List Int):∀ u∈Bs l,u.oneCell'=true:=by
 intro u hu;unfold Bs at hu;obtain ⟨x,_,rfl⟩:=List.mem_map.1 hu;rfl
theorem Bs_append (l m:List Int):Bs (l++m)=Bs l++Bs m:=List.map_append
theorem growN {W W':World} (hb:Below W.heap.size W W'):W.grownBy W' none:=⟨hb.os,hb.tape,hb.output,hb.size,fun k hk _=>hb.block k hk⟩
theorem ownB {W W':World} {base e sz n:Nat} {v:Value} {xs:List Value} (h:W.ownsRow base e sz v n xs) (hb:Below W.heap.size W W'):W'.ownsRow base e sz v n xs :=
 h.kept (growN hb) (by cases v.ownBlock <;> simp)
theorem own_new (W:World) (base:Nat) (t:TypeId) (n:Nat) (C:Array Value) (xs:List Value) (hb:base≤W.heap.size) (hn:C.size=n) (hm:n≤maxLen) (hc:C.toList=xs) :
 (W.alloc (.cells C t)).ownsRow base t 1 (.slice (some ⟨W.heap.size,0,none⟩) n n) n xs:=by
 subst hc
 refine ⟨by simp [hn],Or.inr ⟨W.heap.size,n,C,rfl,hb,heap_alloc_new W _,Nat.le_refl _,hm,by omega,?_⟩⟩
 exact List.take_of_length_le (by simp [hn])
set_option maxRecDepth 100000 in
theorem run_app_byt (w:World) (ty:TypeId) (base:Nat) (v:Value) (n:Nat) (xs:List Int) (hown:w.ownsRow base 5 1 v n (Bs xs)) (A:Option Addr) (m c:Nat) (ys:List Int) (hy:Byt w A ys) (hm:ys.length=m)
 (h63:n+m≤1000000) (hbase:base≤w.heap.size) :
 ∃ v' w',(Builtin.append_ #[48,48] ty #[v,.slice A m c]).run Tryz.prog w=.ok v' w'∧w'.ownsRow base 5 1 v' (n+m) (Bs (xs++ys))∧w.grownBy w' v.ownBlock ∧
  (v'.ownBlock=v.ownBlock∨v'.ownBlock=some w.heap.size):=by
 obtain ⟨i0,hi,hz0,hz1,hz2⟩:=info_parts info5
 rcases A with _ | a
 ·have hys:ys=[]:=by
   cases ys with
   | nil=>rfl
   | cons y l=>obtain ⟨a,e,_⟩:=hy 0 y rfl;cases e
  subst hys
  subst hm
  refine ⟨v,w,?_,by simpa using hown,World.grownBy.refl w _,.inl rfl⟩
  rcases hown.2 with ⟨rfl,rfl⟩ | ⟨g,cap,cur,rfl,_,_,hnc,_⟩
  ·simp [Builtin.append_,run_underlying Tryz.underlying48,sizeOf,typeInfo,hi,Builtin.lenOf,Builtin.firstCells]
  ·simp [Builtin.append_,run_underlying Tryz.underlying48,sizeOf,typeInfo,hi,Builtin.lenOf,Builtin.firstCells,hnc,storeCells]
 ·obtain ⟨v',w',hr,h2,h3,h4,h5⟩:=run_append_own_at (P:=Tryz.prog) w base 48 ty 5 i0 (.int .u8 0) 1 1 Tryz.underlying48 hi hz0 hz1 hz2 rfl (by decide) v n _ hown a m c (Bs ys) (by rw [Bs_length];omega)
   (fun j u hj=>by
     unfold Bs at hj
     rw [List.getElem?_map] at hj
     obtain ⟨x,hx,rfl⟩:=Option.map_eq_some_iff.1 hj
     obtain ⟨a',e,hc⟩:=hy j x hx
     injection e with e;subst e;exact hc) (Bs_one _) (by simp only [maxLen];omega) (by omega) hbase
  exact ⟨v',w',hr,by rw [Bs_append];exact h2,h3,h5⟩
set_option maxRecDepth 100000 in
theorem wp_app_byt (w:World) {o:Oper} {a:Act} {K:Act→World→Prop} {Q:Exit→Act→World→Prop} (s x:Operand)
 (ho:o.op=.call { callee:=.builtin .append,args:=#[s,x],argTypes:=#[48,48] })
 (base:Nat) (v:Value) (n:Nat) (xs:List Int) (hs:a.eval s=v) (hown:w.ownsRow base 5 1 v n (Bs xs)) (A:Option Addr) (m c:Nat) (ys:List Int) (hx:a.eval x=.slice A m c) (hy:Byt w A ys) (hm:ys.length=m)
 (h63:n+m≤1000000) (hbase:base≤w.heap.size)
 (h:∀ v' w',w'.ownsRow base 5 1 v' (n+m) (Bs (xs++ys))→w.grownBy w' v.ownBlock→(v'.ownBlock=v.ownBlock∨v'.ownBlock=some w.heap.size)→K (a.put o.dst v') w'):o.wp Tryz.prog a w K Q:=by
 obtain ⟨v',w',hr,h2,h3,h4⟩:=run_app_byt w o.type base v n xs hown A m c ys hy hm h63 hbase
 unfold Oper.wp execOp
 simp only [ho,resolve,invoke,builtin,Sem.run_bind,Sem.run_pure,Result.andThen_ok,List.map_toArray,List.map_cons,List.map_nil,hs,hx,hr]
 exact h v' w' h2 h3 h4
set_option maxRecDepth 100000 in
theorem wpList_app_byt (w:World) {ops:Array Oper} {rest:List Oper} {o:Oper} {a:Act} {Q:Exit→Act→World→Prop} (hgd:o.guard=none) (s x:Operand)
 (ho:o.op=.call { callee:=.builtin .append,args:=#[s,x],argTypes:=#[48,48] })
 (base:Nat) (v:Value) (n:Nat) (xs:List Int) (hs:a.eval s=v) (hown:w.ownsRow base 5 1 v n (Bs xs)) (A:Option Addr) (m c:Nat) (ys:List Int) (hx:a.eval x=.slice A m c) (hy:Byt w A ys) (hm:ys.length=m)
 (h63:n+m≤1000000) (hbase:base≤w.heap.size)
 (h:∀ v' w',w'.ownsRow base 5 1 v' (n+m) (Bs (xs++ys))→w.grownBy w' v.ownBlock→(v'.ownBlock=v.ownBlock∨v'.ownBlock=some w.heap.size)→wpList Tryz.prog ops Q rest (a.put o.dst v') w'):wpList Tryz.prog ops Q (o :: rest) a w :=
 wpList_plain hgd fun _ hK=>wp_app_byt w s x ho base v n xs hs hown A m c ys hx hy hm h63 hbase fun v' w' h2 h3 h4=>hK _ _ (h v' w' h2 h3 h4)
theorem set_Bs (xs:List Int) (k:Nat) (x:Int):(Bs xs).set k (.int .u8 x)=Bs (xs.set k x):=by unfold Bs;rw [List.map_set]
structure Touch (F:Nat→Prop) (w w':World):Prop where
 os:w'.os=w.os
 tape:w'.tape=w.tape
 output:w'.output=w.output
 size:w.heap.size≤w'.heap.size
 block:∀ k,k<w.heap.size→¬ F k→w'.heap[k]?=w.heap[k]?
theorem Touch.refl (F:Nat→Prop) (w:World):Touch F w w:=⟨rfl,rfl,rfl,Nat.le_refl _,fun _ _ _=>rfl⟩
theorem Touch.trans' {F G:Nat→Prop} {a b c:World} (h:Touch F a b) (k:Touch G b c) (hG:∀ x,G x→F x∨a.heap.size≤x):Touch F a c :=
 ⟨k.os.trans h.os,k.tape.trans h.tape,k.output.trans h.output,Nat.le_trans h.size k.size,fun i hi hf =>
   (k.block i (Nat.lt_of_lt_of_le hi h.size) (fun hg=>by rcases hG i hg with h1 | h1;exact hf h1;omega)).trans (h.block i hi hf)⟩
theorem Touch.trans {F:Nat→Prop} {a b c:World} (h:Touch F a b) (k:Touch F b c):Touch F a c:=h.trans' k fun _ h=>Or.inl h
theorem Touch.mono {F G:Nat→Prop} {a b:World} (h:Touch F a b) (hG:∀ x,x<a.heap.size→F x→G x):Touch G a b :=
 ⟨h.os,h.tape,h.output,h.size,fun k hk hg=>h.block k hk fun hf=>hg (hG k hk hf)⟩
theorem Touch.of_below {w w':World} (h:Below w.heap.size w w') (F:Nat→Prop):Touch F w w':=⟨h.os,h.tape,h.output,h.size,fun k hk _=>h.block k hk⟩
theorem Touch.below {F:Nat→Prop} {w w':World} {B:Nat} (h:Touch F w w') (hB:B≤w.heap.size) (hF:∀ k,F k→B≤k):Below B w w' :=
 ⟨h.os,h.tape,h.output,h.size,fun k hk=>h.block k (by omega) fun hf=>by have:=hF k hf;omega⟩
theorem Touch.of_grown {w w':World} {row:Option Nat} (h:w.grownBy w' row):Touch (fun k=>some k=row) w w':=⟨h.os,h.tape,h.output,h.size,fun k hk hn=>h.block k hk hn⟩
theorem Touch.drew {F:Nat→Prop} {a w:World} (h:Touch F a w):Touch F a w.drew:=⟨h.os,h.tape,h.output,h.size,h.block⟩
theorem Touch.drewN {F:Nat→Prop} {a w:World} (h:Touch F a w) (n:Nat):Touch F a (w.drewN n):=⟨h.os,h.tape,h.output,h.size,h.block⟩
theorem Touch.alloc {F:Nat→Prop} {a w:World} (h:Touch F a w) (o:Obj):Touch F a (w.alloc o) :=
 h.trans ⟨rfl,rfl,rfl,by simp,fun k hk _=>Below.heap_alloc w o k hk⟩
theorem Touch.setCell {F:Nat→Prop} {a w:World} (h:Touch F a w) {p:Addr} (hp:F p.block) (u:Value):Touch F a (w.setCell p u) :=
 h.trans ⟨rfl,rfl,rfl,by simp [World.setCell],fun k _ hk=>Below.heap_setCell _ _ _ _ (fun e=>hk (e ▸ hp))⟩
theorem size_setCells (b:Nat):∀ (vs:List Value) (o:Nat) (w:World),(w.setCells b o vs).heap.size=w.heap.size
 | [],_,_=>rfl
 | v :: r,o,w=>by rw [World.setCells,size_setCells b r];simp [World.setCell]
theorem setCells_other (b:Nat):∀ (vs:List Value) (o:Nat) (w:World) (k:Nat),k≠b→(w.setCells b o vs).heap[k]?=w.heap[k]?
 | [],_,_,_,_=>rfl
 | v :: r,o,w,k,h=>by rw [World.setCells,setCells_other b r _ _ _ h,Below.heap_setCell _ _ _ _ h]
theorem setCells_env (b:Nat):∀ (vs:List Value) (o:Nat) (w:World),(w.setCells b o vs).os=w.os∧(w.setCells b o vs).tape=w.tape∧(w.setCells b o vs).output=w.output
 | [],_,_=>⟨rfl,rfl,rfl⟩
 | v :: r,o,w=>by rw [World.setCells];exact setCells_env b r (o+1) _
theorem setCells_same (b:Nat) (t:TypeId):∀ (vs:List Value) (o:Nat) (w:World) (C:List Value),w.heap[b]?=some (.cells C.toArray t (0,0))→o+vs.length≤C.length →
 (w.setCells b o vs).heap[b]?=some (.cells (splice C o vs).toArray t (0,0))
 | [],o,w,C,h,_=>by simpa [splice,World.setCells] using h
 | v :: r,o,w,C,h,hl=>by
   rw [World.setCells]
   have h1:(w.setCell ⟨b,o,none⟩ v).heap[b]?=some (.cells (C.set o v).toArray t (0,0)):=by
    rw [heap_setCell_same w b o C.toArray t v h];simp
   rw [setCells_same b t r (o+1) _ _ h1 (by simp at hl ⊢;omega)]
   congr 3
   simp only [List.length_cons] at hl
   unfold splice
   apply List.ext_getElem?
   intro i
   rw [List.getElem?_append,List.getElem?_append,List.getElem?_append,List.getElem?_append]
   simp only [List.length_take,List.length_set,List.getElem?_take,List.getElem?_drop,List.getElem?_set,List.length_cons,List.getElem?_cons]
   have e1:min (o+1) C.length=o+1:=by omega
   have e2:min o C.length=o:=by omega
   rw [e1,e2]
   by_cases c1:i<o
   ·simp [c1,show i<o+1 by omega,show ¬ o=i by omega]
   ·by_cases c2:i=o
    ·subst c2;simp [show i<C.length by omega]
    ·have c3:¬ i<o+1:=by omega
     simp only [c1,c3,if_false]
     by_cases c4:i-(o+1)<r.length
     ·simp [c4,show i-o<r.length+1 by omega,show ¬ i-o=0 by omega,show i-o-1=i-(o+1) by omega]
     ·simp only [c4,if_false,show ¬ i-o<r.length+1 by omega]
      rw [if_neg (by omega)]
      congr 1;omega
theorem Touch.setCells {F:Nat→Prop} {a w:World} (h:Touch F a w) {b:Nat} (hp:F b) (o:Nat) (vs:List Value):Touch F a (w.setCells b o vs) :=
 h.trans ⟨(setCells_env b vs o w).1,(setCells_env b vs o w).2.1,(setCells_env b vs o w).2.2,by rw [size_setCells];exact Nat.le_refl _,fun k _ hk=>setCells_other b vs o w k (fun e=>hk (e ▸ hp))⟩
def RowAt (w:World) (Own:Nat→Prop) (E:TypeId) (sz:Nat) (v:Value) (n:Nat) (xs:List Value):Prop :=
 w.ownsRow 0 E sz v n xs∧∀ g,v.ownBlock=some g→Own g
section
variable {w w':World} {Own:Nat→Prop} {E:TypeId} {sz:Nat} {v:Value} {n:Nat} {xs:List Value}
theorem RowAt.len (h:RowAt w Own E sz v n xs):xs.length=n*sz:=h.1.1
theorem RowAt.keep (h:RowAt w Own E sz v n xs) (hk:∀ k,k<w.heap.size→Own k→w'.heap[k]?=w.heap[k]?):RowAt w' Own E sz v n xs:=by
 refine ⟨⟨h.1.1,?_⟩,h.2⟩
 rcases h.1.2 with h1 | ⟨g,cap,cur,rfl,hb,hg,h2⟩
 ·exact Or.inl h1
 ·refine Or.inr ⟨g,cap,cur,rfl,hb,?_,h2⟩
  rw [hk g (room_lt hg) (h.2 g rfl)];exact hg
theorem RowAt.touch {F:Nat→Prop} (h:RowAt w Own E sz v n xs) (ht:Touch F w w') (hd:∀ k,Own k→¬ F k):RowAt w' Own E sz v n xs :=
 h.keep fun k hk ho=>ht.block k hk (hd k ho)
theorem RowAt.below (h:RowAt w Own E sz v n xs) (hb:Below w.heap.size w w'):RowAt w' Own E sz v n xs:=h.keep fun k hk _=>hb.block k hk
theorem RowAt.owner {Own':Nat→Prop} (h:RowAt w Own E sz v n xs) (ho:∀ g,g<w.heap.size→Own g→Own' g):RowAt w Own' E sz v n xs :=
 ⟨h.1,fun g hg=>ho g (h.1.lt g hg).2 (h.2 g hg)⟩
theorem RowAt.val (h:RowAt w Own E sz v n xs):∃ A cap,v=.slice A n cap∧n≤cap∧cap≤9223372036854775807:=by
 rcases h.1.2 with ⟨rfl,h0⟩ | ⟨g,cap,cur,rfl,hb,hg,hn,hm,_⟩
 ·exact ⟨none,0,by rw [h0],by omega,by omega⟩
 ·exact ⟨_,cap,rfl,hn,by simp only [maxLen] at hm;omega⟩
theorem RowAt.pos (h:RowAt w Own E sz v n xs) (hn:0<n) :
 ∃ g cap,v=.slice (some ⟨g,0,none⟩) n cap∧Own g∧g<w.heap.size∧n≤cap∧cap≤9223372036854775807∧(∀ j,j<n*sz→w.cell? ⟨g,j,none⟩=xs[j]?)∧∀ j,w.frozen? ⟨g,j,none⟩=false:=by
 rcases h.1.2 with ⟨_,h0⟩ | ⟨g,cap,cur,rfl,hb,hg,hn',hm,hs,ht⟩
 ·omega
 ·exact ⟨g,cap,rfl,h.2 g rfl,room_lt hg,hn',by simp only [maxLen] at hm;omega,fun j hj=>h.1.cellAt j hj,fun j=>h.1.frozenAt j⟩
theorem RowAt.one {g cap:Nat} (h:RowAt w Own E 1 (.slice (some ⟨g,0,none⟩) n cap) n xs) {j:Nat} {x:Value} (hx:xs[j]?=some x):w.cell? ⟨g,j,none⟩=some x:=by
 have hj:=(List.getElem?_eq_some_iff.1 hx).1
 rw [h.1.cellAt j (by have:=h.len;omega)];exact hx
theorem RowAt.nil (w:World) (Own:Nat→Prop) (E:TypeId) (sz:Nat):RowAt w Own E sz (.slice none 0 0) 0 []:=⟨World.ownsRow_nil _ _ _ _,fun g h=>by cases h⟩
theorem RowAt.stored {g cap:Nat} (h:RowAt w Own E sz (.slice (some ⟨g,0,none⟩) n cap) n xs) (j:Nat) (u:Value):RowAt (w.setCell ⟨g,j,none⟩ u) Own E sz (.slice (some ⟨g,0,none⟩) n cap) n (xs.set j u) :=
 ⟨(h.1.stored j u).1,h.2⟩
theorem RowAt.storedMany {g cap:Nat} (h:RowAt w Own E sz (.slice (some ⟨g,0,none⟩) n cap) n xs) (o:Nat) (us:List Value) (hf:o+us.length≤n*sz) :
 RowAt (w.setCells g o us) Own E sz (.slice (some ⟨g,0,none⟩) n cap) n (splice xs o us):=by
 refine ⟨⟨by rw [length_splice _ _ _ (by rw [h.len];exact hf)];exact h.len,?_⟩,h.2⟩
 rcases h.1.2 with ⟨h',_⟩ | ⟨g',cap',cur,h',hb,hg,hn',hm,hs,ht⟩
 ·cases h'
 ·injection h' with e1 e2 e3
  injection e1 with e1;injection e1 with e1
  subst e1;subst e3
  have hc:n*sz≤cap*sz:=Nat.mul_le_mul_right _ hn'
  have hcl:cur.toList.length=cap*sz:=by rw [← hs];simp
  have hle:o+us.length≤cur.toList.length:=by omega
  have:=setCells_same g E us o w cur.toList (by simpa using hg) hle
  refine Or.inr ⟨g,cap,_,rfl,hb,this,hn',hm,?_,?_⟩
  ·rw [List.size_toArray,length_splice _ _ _ hle,hcl]
  ·rw [← ht]
   unfold splice
   rw [List.take_append,List.take_take,List.length_take,hcl]
   have e1:min o (cap*sz)=o:=by omega
   rw [e1,List.take_append,show min (n*sz) o=o by omega,List.take_of_length_le (l:=us) (by omega),List.take_take,show min o (n*sz)=o by omega]
   congr 2
   rw [List.take_drop,show o+us.length+(n*sz-o-us.length)=n*sz by omega]
theorem RowAt.there {g cap:Nat} (h:RowAt w Own E sz (.slice (some ⟨g,0,none⟩) n cap) n xs) (o m:Nat) (hf:o+m≤n*sz):w.there g o m:=fun j hj=>by
 have hl:=h.len
 exact ⟨by rw [h.1.cellAt _ (by omega),List.getElem?_eq_getElem (by omega)];rfl,h.1.frozenAt _⟩
end
def RowsAt {α:Type} (w:World) (OT:Nat→Prop) (OR:Nat→Nat→Prop) (ET ER:TypeId) (sz:Nat) (enc:List α→List Value) (v:Value) (rows:List (List α)):Prop :=
 ∃ vs,RowAt w OT ET 1 v rows.length vs∧∀ r row,rows[r]?=some row→∃ u,vs[r]?=some u∧RowAt w (OR r) ER sz u row.length (enc row)
section
variable {α:Type} {w w':World} {OT:Nat→Prop} {OR:Nat→Nat→Prop} {ET ER:TypeId} {sz:Nat} {enc:List α→List Value} {v:Value} {rows:List (List α)}
theorem RowsAt.keep (h:RowsAt w OT OR ET ER sz enc v rows) (hk:∀ k,k<w.heap.size→OT k∨(∃ r,OR r k)→w'.heap[k]?=w.heap[k]?):RowsAt w' OT OR ET ER sz enc v rows:=by
 obtain ⟨vs,h1,h2⟩:=h
 refine ⟨vs,h1.keep fun k hk' ho=>hk k hk' (Or.inl ho),fun r row hr=>?_⟩
 obtain ⟨u,hu,h3⟩:=h2 r row hr
 exact ⟨u,hu,h3.keep fun k hk' ho=>hk k hk' (Or.inr ⟨r,ho⟩)⟩
theorem RowsAt.owner {OT':Nat→Prop} {OR':Nat→Nat→Prop} (h:RowsAt w OT OR ET ER sz enc v rows) (h1:∀ k,k<w.heap.size→OT k→OT' k) (h2:∀ r k,k<w.heap.size→OR r k→OR' r k):RowsAt w OT' OR' ET ER sz enc v rows:=by
 obtain ⟨vs,h3,h4⟩:=h
 refine ⟨vs,h3.owner h1,fun r row hr=>?_⟩
 obtain ⟨u,hu,h5⟩:=h4 r row hr
 exact ⟨u,hu,h5.owner (h2 r)⟩
theorem RowsAt.val (h:RowsAt w OT OR ET ER sz enc v rows):∃ A cap,v=.slice A rows.length cap∧rows.length≤cap∧cap≤9223372036854775807:=by
 obtain ⟨vs,h1,_⟩:=h;exact h1.val
theorem RowsAt.row {r:Nat} {row:List α} (h:RowsAt w OT OR ET ER sz enc v rows) (hr:rows[r]?=some row) :
 ∃ g cap u,v=.slice (some ⟨g,0,none⟩) rows.length cap∧OT g∧g<w.heap.size∧w.cell? ⟨g,r,none⟩=some u∧w.frozen? ⟨g,r,none⟩=false∧RowAt w (OR r) ER sz u row.length (enc row):=by
 obtain ⟨vs,h1,h2⟩:=h
 obtain ⟨u,hu,h3⟩:=h2 r row hr
 have hlt:=(List.getElem?_eq_some_iff.1 hr).1
 obtain ⟨g,cap,rfl,ho,hg,_,_,hc,hf⟩:=h1.pos (by omega)
 exact ⟨g,cap,u,rfl,ho,hg,by rw [hc r (by omega)];exact hu,hf r,h3⟩
theorem RowsAt.setRow {r:Nat} {row row':List α} (h:RowsAt w OT OR ET ER sz enc v rows) (hr:rows[r]?=some row) {g cap:Nat} {u:Value} (hv:v=.slice (some ⟨g,0,none⟩) rows.length cap) (hc:w.cell? ⟨g,r,none⟩=some u)
 (hu:RowAt w' (OR r) ER sz u row'.length (enc row')) (hT:∀ k,k<w.heap.size→OT k→w'.heap[k]?=w.heap[k]?) (hR:∀ r' k,k<w.heap.size→r'≠r→OR r' k→w'.heap[k]?=w.heap[k]?):RowsAt w' OT OR ET ER sz enc v (rows.set r row'):=by
 obtain ⟨vs,h1,h2⟩:=h
 subst hv
 obtain ⟨u0,hu0,_⟩:=h2 r row hr
 have hu2:=h1.one hu0
 rw [hu2] at hc
 injection hc with hc
 subst hc
 refine ⟨vs,by rw [List.length_set];exact h1.keep hT,fun r' row2 hr'=>?_⟩
 by_cases e:r'=r
 ·subst e
  rw [List.getElem?_set_self (List.getElem?_eq_some_iff.1 hr).1] at hr'
  injection hr' with hr'
  subst hr'
  exact ⟨_,hu0,hu⟩
 ·rw [List.getElem?_set_ne (fun h=>e h.symm)] at hr'
  obtain ⟨u',hu',h4⟩:=h2 r' row2 hr'
  exact ⟨u',hu',h4.keep fun k hk ho=>hR r' k hk e ho⟩
theorem RowsAt.nil (w:World) (OT:Nat→Prop) (OR:Nat→Nat→Prop) (ET ER:TypeId) (sz:Nat) (enc:List α→List Value):RowsAt w OT OR ET ER sz enc (.slice none 0 0) [] :=
 ⟨[],RowAt.nil _ _ _ _,fun r row h=>by cases h⟩
end
end Go.Proofs.YtamnpblijdgdaaaGreat
