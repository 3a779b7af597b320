/- For VolAll: contracts and facts, part 8. -/
import Derived.Deep.Slices
import Derived.Deep.Fields
import Derived.ChangeSame
import Derived.ProofKit
import Derived.OpenShut
import Derived.Carry
import Derived.Test.YtamnpblijdgdaaaGreatV03
import Derived.Test.YtamnpblijdgdaaaGreatV07
namespace Go.Proofs.YtamnpblijdgdaaaGreat
open Go.ChangeShapes Go.WideShapes Go.ChangeAt Go.RowKit
set_option linter.unusedVariables false
set_option maxRecDepth 100000
theorem dmade_u8 (n:Nat):(madeCells (Value.int .u8 0).cells n).toList=Bs (List.replicate n 0):=by
 rw [show (Value.int .u8 0).cells=#[.int .u8 0] from rfl,toList_madeCells_one]
 unfold Bs;rw [List.map_replicate]
structure DS (w0 W:World) (P:Nat→Prop) (q:Nat) (m:DM):Prop where
 dev:∃ F,Dev W F q m∧(∀ k,F k→w0.heap.size≤k)∧∀ k,P k→¬ F k
 low:∀ k,P k→k<W.heap.size
 bel:Below w0.heap.size w0 W
theorem DS.ok {w0 W:World} {P:Nat→Prop} {q:Nat} {m:DM} (h:DS w0 W P q m):m.Ok:=by obtain ⟨F,h1,_⟩:=h.dev;exact h1.ok
structure Same (P:Nat→Prop) (w w':World):Prop where
 blk:∀ k,P k→w'.heap[k]?=w.heap[k]?
 size:w.heap.size≤w'.heap.size
theorem Same.trans {P:Nat→Prop} {a b c:World} (h:Same P a b) (k:Same P b c):Same P a c:=⟨fun x hx=>(k.blk x hx).trans (h.blk x hx),Nat.le_trans h.size k.size⟩
theorem DS.next {w0 W W':World} {P:Nat→Prop} {q:Nat} {m m':DM} (h:DS w0 W P q m) {F:Nat→Prop} (hF:∀ k,F k→w0.heap.size≤k) (hP:∀ k,P k→¬ F k) (hs:DevStep W W' F q m'):DS w0 W' P q m'∧Same P W W':=by
 obtain ⟨F',h1,h2,h3⟩:=hs
 have hsz:=h.bel.size
 refine ⟨⟨⟨F',h1,fun k hk=>?_,fun k hk hf=>?_⟩,fun k hk=>Nat.lt_of_lt_of_le (h.low k hk) h2.size,h.bel.trans (h2.below hsz hF)⟩,fun k hk=>h2.block k (h.low k hk) (hP k hk),h2.size⟩
 ·rcases h3 k hk with h4 | h4
  ·exact hF k h4
  ·omega
 ·rcases h3 k hf with h4 | h4
  ·exact hP k hk h4
  ·have:=h.low k hk;omega
theorem DS.below {w0 W W':World} {P P':Nat→Prop} {q:Nat} {m:DM} (h:DS w0 W P q m) (hb:Below W.heap.size W W') (hP:∀ k,P' k→P k∨(W.heap.size≤k∧k<W'.heap.size)):DS w0 W' P' q m:=by
 obtain ⟨F,h1,h2,h3⟩:=h.dev
 obtain ⟨O,L,g1,g2,g3⟩:=h1
 refine ⟨⟨F,Dev.below ⟨O,L,g1,g2,g3⟩ hb,h2,fun k hk hf=>?_⟩,fun k hk=>?_,h.bel.trans (hb.mono h.bel.size)⟩
 ·rcases hP k hk with h4 | h4
  ·exact h3 k h4 hf
  ·have:=g3 k hf;omega
 ·rcases hP k hk with h4 | h4
  ·have:=h.low k h4;have:=hb.size;omega
  ·exact h4.2
theorem DS.same {w0 W W':World} {P:Nat→Prop} {q:Nat} {m:DM} (h:DS w0 W P q m) (hb:Below W.heap.size W W'):Same P W W':=⟨fun k hk=>hb.block k (h.low k hk),hb.size⟩
section
variable {w0 W:World} {P:Nat→Prop} {q:Nat} {m:DM}
theorem DS.write (h:DS w0 W P q m) (r i:Int) (hr:i64 r) (hi:i64 i) (A:Option Addr) (bs:List Int) (c:Nat) (hB:AllB bs) (hy:Byt W A bs) (hl:bs.length≤1000000) (hmax:m.done.length≤1000000) :
 Calls Tryz.prog 102 #[.pointer (some ⟨q,0,none⟩),.int .i64 r,.int .i64 i,.slice A bs.length c] W fun e w'=>e=.returned (.bool (okWrite m r i bs))∧DS w0 w' P q (m.doWrite r i bs)∧Same P W w':=by
 obtain ⟨F,h1,h2,h3⟩:=h.dev
 exact (write_any h1 r i hr hi A bs c hB hy hl hmax).mono fun e w' ⟨he,hs⟩=>⟨he,h.next h2 h3 hs⟩
theorem DS.barrier (h:DS w0 W P q m) (r:Int) (hr:i64 r) (hmax:m.done.length<1000000) :
 Calls Tryz.prog 89 #[.pointer (some ⟨q,0,none⟩),.int .i64 r] W fun e w'=>e=.returned (.bool (hasR m r))∧DS w0 w' P q (m.doBarrier r)∧Same P W w':=by
 obtain ⟨F,h1,h2,h3⟩:=h.dev
 exact (barrier_any h1 r hr hmax).mono fun e w' ⟨he,hs⟩=>⟨he,h.next h2 h3 hs⟩
theorem DS.crash (h:DS w0 W P q m) (A:Option Addr) (ks:List (List Int)) (c:Nat) (hks:∀ F,(∀ k,F k→w0.heap.size≤k)→(∀ k,P k→¬ F k)→TxtsF W F A ks) (hkl:ks.length≤1000000) (hmax:m.done.length≤1000000) :
 Calls Tryz.prog 19 #[.pointer (some ⟨q,0,none⟩),.slice A ks.length c] W fun e w'=>e=.returned (.tuple #[])∧DS w0 w' P q (m.crash ks)∧Same P W w':=by
 obtain ⟨F,h1,h2,h3⟩:=h.dev
 exact (crash_any h1 A ks c (hks F h2 h3) hkl hmax).mono fun e w' ⟨he,hs⟩=>⟨he,h.next h2 h3 hs⟩
theorem DS.read (h:DS w0 W P q m) (r i:Int) (hr:i64 r) (hi:i64 i) :
 Calls Tryz.prog 74 #[.pointer (some ⟨q,0,none⟩),.int .i64 r,.int .i64 i] W fun e w'=>(∃ v,e=.returned v∧ReadAns m r i W v w')∧Below W.heap.size W w':=by
 obtain ⟨F,h1,h2,h3⟩:=h.dev
 exact dread_any h1 r i hr hi
theorem DS.trace (h:DS w0 W P q m) (r:Nat) (hr:r<m.now.length) (hmax:m.done.length<1000000) :
 Calls Tryz.prog 27 #[.pointer (some ⟨q,0,none⟩),.int .i64 r] W fun e w'=>(∃ v,e=.returned v∧TxtOwn w' W.heap.size v (traceL m r))∧Below W.heap.size W w':=by
 obtain ⟨F,⟨O,L,g1,g2,g3⟩,h2,h3⟩:=h.dev
 exact trace_any g1 r hr hmax
end
theorem new_at (W:World) (g:Nat) (zs:List Int) (n:Nat) (hn:zs.length=n) (hm:mayV zs=true) (hI:AllI zs) (t:TypeId) (hb:W.heap[g]?=some (.cells ((zs.map (Value.int .i64)).toArray) t (0,0))) :
 Calls Tryz.prog 7 #[.slice (some ⟨g,0,none⟩) n n] W fun e w'=>(∃ q F,e=.returned (.tuple #[.pointer (some ⟨q,0,none⟩),.bool true])∧Dev w' F q (DM.make zs)∧∀ k,F k→W.heap.size≤k)∧Below W.heap.size W w':=by
 subst hn
 refine new_yes (some ⟨g,0,none⟩) zs _ W hI (fun i x hx=>⟨_,rfl,?_⟩) hm
 rw [Addr.add_mid,Nat.zero_add,blk_cell hb,List.getElem?_toArray,List.getElem?_map,hx];rfl
theorem DS.made {w0 W W':World} {F:Nat→Prop} {q:Nat} {m:DM} (hb0:Below w0.heap.size w0 W) (h1:Dev W' F q m) (h2:∀ k,F k→W.heap.size≤k) (hb:Below W.heap.size W W'):DS w0 W' (fun k=>k<W.heap.size) q m:=by
 have:=hb0.size
 have:=hb.size
 exact ⟨⟨F,h1,fun k hk=>by have:=h2 k hk;omega,fun k hk hf=>by have:=h2 k hf;omega⟩,fun k hk=>by omega,hb0.trans (hb.mono hb0.size)⟩
def dims (m:DM):List Nat:=m.now.map List.length
theorem hasR_dims {m m':DM} (h:dims m=dims m') (r:Int):hasR m r=hasR m' r:=by
 unfold hasR
 have:m.now.length=m'.now.length:=by have:=congrArg List.length h;simpa [dims] using this
 rw [this]
theorem rowLen_dims (m:DM) (r:Nat):rowLen m.now r=(dims m).getD r 0:=by
 unfold rowLen dims
 simp only [List.getD,List.getElem?_map]
 cases m.now[r]? <;> rfl
theorem hasB_dims {m m':DM} (h:dims m=dims m') (r i:Int):hasB m r i=hasB m' r i:=by
 unfold hasB
 rw [hasR_dims h,rowLen_dims,rowLen_dims,h]
theorem dims_setAt (l:List (List (List Int))) (r i:Nat) (b:List Int):(setAt l r i b).map List.length=l.map List.length:=by
 apply List.ext_getElem?
 intro k
 rw [List.getElem?_map,List.getElem?_map]
 exact set_lens k
theorem dims_write (m:DM) (r i:Nat) (b:List Int):dims (m.write r i b)=dims m:=dims_setAt _ _ _ _
theorem dims_doWrite (m:DM) (r i:Int) (b:List Int):dims (m.doWrite r i b)=dims m:=by
 unfold DM.doWrite;split
 ·exact dims_write _ _ _ _
 ·rfl
theorem dims_doBarrier (m:DM) (r:Int):dims (m.doBarrier r)=dims m:=by
 unfold DM.doBarrier;split <;> rfl
theorem dims_crash1 {m:DM} (h:m.Ok) {r:Nat} (hr:r<m.now.length) (bs:List Int):dims (m.crash1 r bs)=dims m:=by
 have hs:=h.settle r (bitAt bs)
 obtain ⟨srow,hsr⟩:∃ x,(m.settle r (bitAt bs)).sure[r]?=some x:=⟨_,List.getElem?_eq_getElem (by rw [hs.sureLen];exact hr)⟩
 obtain ⟨⟨nrow,hn,hl⟩,_⟩:=hs.sures r srow hsr
 have hn':m.now[r]?=some nrow:=hn
 have hg:(m.settle r (bitAt bs)).sure.getD r []=srow:=by rw [List.getD,hsr];rfl
 unfold DM.crash1 dims
 rw [hg]
 apply List.ext_getElem?
 intro k
 show ((m.now.set r srow).map List.length)[k]?=_
 rw [List.getElem?_map,List.getElem?_map,List.getElem?_set]
 by_cases e:r=k
 ·subst e;rw [if_pos rfl,if_pos hr,hn'];simp [hl]
 ·rw [if_neg e]
theorem dims_crashN {m:DM} (h:m.Ok) (ks:List (List Int)):∀ k,k≤m.now.length→dims (crashN m ks k)=dims m
 | 0,_=>rfl
 | k+1,hk=>by
   have:=dims_crashN h ks k (by omega)
   rw [← this]
   exact dims_crash1 (crashN_ok h ks k (by omega)) (by rw [(crashN_len m ks k).1];omega) _
theorem dims_crash {m:DM} (h:m.Ok) (ks:List (List Int)):dims (m.crash ks)=dims m:=dims_crashN h ks _ (Nat.le_refl _)
theorem crash_done (m:DM) (ks:List (List Int)):(m.crash ks).done=m.done:=(crashN_len m ks _).2
theorem crash_ok {m:DM} (h:m.Ok) (ks:List (List Int)):(m.crash ks).Ok:=(crashN_ok h ks _ (Nat.le_refl _)).stop (by constructor <;> omega) (by omega)
theorem crash_len {m:DM} (ks:List (List Int)):(m.crash ks).now.length=m.now.length:=(crashN_len m ks _).1
theorem traceL_write (m:DM) (r i:Nat) (b:List Int) (r':Nat):traceL (m.write r i b) r'=traceL m r'++(if r=r' then [traceB ⟨r,i,b⟩] else []):=by
 unfold traceL DM.write
 simp only [List.filter_append,List.map_append]
 congr 1
 by_cases e:r=r'
 ·simp [e]
 ·have:(r==r')=false:=by simpa using e
  simp [e,this]
theorem traceL_barrier (m:DM) (r r':Nat):traceL (m.barrier r) r'=traceL m r'++(if r=r' then [[255,255]] else []):=by
 unfold traceL DM.barrier DM.settle
 simp only [List.filter_append,List.map_append]
 congr 1
 by_cases e:r=r'
 ·simp [e,traceB]
 ·have:(r==r')=false:=by simpa using e
  simp [e,this]
theorem done_doWrite (m:DM) (r i:Int) (b:List Int):(m.doWrite r i b).done.length≤m.done.length+1:=by
 unfold DM.doWrite;split
 ·unfold DM.write;simp
 ·omega
theorem done_doBarrier (m:DM) (r:Int):(m.doBarrier r).done.length≤m.done.length+1:=by
 unfold DM.doBarrier;split
 ·unfold DM.barrier DM.settle;simp
 ·omega
end Go.Proofs.YtamnpblijdgdaaaGreat
namespace Go.Proofs.YtamnpblijdgdaaaGreat
open Go.ChangeShapes Go.WideShapes Go.ChangeAt Go.RowKit Go.Deep
set_option linter.unusedVariables false
set_option maxRecDepth 100000
theorem add_pos' (a:Addr) (k:Nat) (h:0<k):a.add k=⟨a.block,a.off+k,none⟩:=by unfold Addr.add;rw [if_neg (by omega)]
section
variable {H:Type} {enc:TypeId × Value→H} {w:World} {base:Nat} {spare:Nat→Bool} {held:Bool}
end
end Go.Proofs.YtamnpblijdgdaaaGreat
namespace Go.Proofs.YtamnpblijdgdaaaGreat
open Go.ChangeShapes Go.WideShapes Go.ChangeAt Go.RowKit
set_option linter.unusedVariables false
set_option maxRecDepth 100000
def rowW:List DWr→Nat→(Nat→Bool)→Nat→List (List Int)→List (List Int)
 | [],_,_,_,s=>s
 | x :: l,r,kept,nth,s=>if x.r=r then (if x.i=65535 then s else rowW l r kept (nth+1) (if kept nth then s.set x.i x.b else s)) else rowW l r kept nth s
theorem setAt_row (s:List (List (List Int))) (r i:Nat) (b:List Int):(setAt s r i b).getD r []=(s.getD r []).set i b:=by
 unfold setAt
 by_cases h:r<s.length
 ·simp [List.getD,h]
 ·simp [List.getD,List.getElem?_eq_none (by omega:s.length≤r),List.set_eq_of_length_le (by omega:s.length≤r)]
theorem setAt_other (s:List (List (List Int))) (r i:Nat) (b:List Int) {k:Nat} (h:k≠r):(setAt s r i b).getD k []=s.getD k []:=by
 unfold setAt
 simp [List.getD,Ne.symm h]
theorem settleW_row:∀ (l:List DWr) (r:Nat) (kept:Nat→Bool) (nth:Nat) (s:List (List (List Int))),(settleW l r kept nth s).getD r []=rowW l r kept nth (s.getD r [])
 | [],_,_,_,_=>rfl
 | x :: l,r,kept,nth,s=>by
   unfold settleW rowW
   by_cases e:x.r=r
   ·rw [if_pos e,if_pos e]
    split
    ·rfl
    ·rw [settleW_row]
     split
     ·rw [e,setAt_row]
     ·rfl
   ·rw [if_neg e,if_neg e,settleW_row]
theorem settleW_other:∀ (l:List DWr) (r:Nat) (kept:Nat→Bool) (nth:Nat) (s:List (List (List Int))) (k:Nat),k≠r→(settleW l r kept nth s).getD k []=s.getD k []
 | [],_,_,_,_,_,_=>rfl
 | x :: l,r,kept,nth,s,k,hk=>by
   unfold settleW
   by_cases e:x.r=r
   ·rw [if_pos e]
    split
    ·rfl
    ·rw [settleW_other _ _ _ _ _ _ hk]
     split
     ·rw [e,setAt_other _ _ _ _ hk]
     ·rfl
   ·rw [if_neg e,settleW_other _ _ _ _ _ _ hk]
def pend (l:List DWr) (r:Nat):Nat:=(l.filter (fun x=>x.r==r)).length
theorem rowW_skip (l:List DWr) (x:DWr) (r:Nat) (kept:Nat→Bool) (h:x.r≠r∨x.i=65535):∀ (nth:Nat) (s:List (List Int)),rowW (l++[x]) r kept nth s=rowW l r kept nth s:=by
 induction l with
 | nil =>
   intro nth s
   show rowW [x] r kept nth s=s
   unfold rowW
   split
   ·rename_i e
    rcases h with h | h
    ·exact absurd e h
    ·rw [if_pos h]
   ·rfl
 | cons y l ih =>
   intro nth s
   show rowW (y :: (l++[x])) r kept nth s=_
   unfold rowW
   split
   ·split
    ·rfl
    ·exact ih _ _
   ·exact ih _ _
theorem rowW_snoc (l:List DWr) (x:DWr) (r:Nat) (kept:Nat→Bool) (hc:∀ y∈l,y.r=r→y.i≠65535) (h:x.r=r) (hi:x.i≠65535):∀ (nth:Nat) (s:List (List Int)),rowW (l++[x]) r kept nth s=if kept (nth+pend l r) then (rowW l r kept nth s).set x.i x.b else rowW l r kept nth s:=by
 induction l with
 | nil =>
   intro nth s
   show rowW [x] r kept nth s=_
   unfold rowW
   rw [if_pos h,if_neg hi]
   rfl
 | cons y l ih =>
   intro nth s
   have hc':∀ y∈l,y.r=r→y.i≠65535:=fun z hz=>hc z (by simp [hz])
   show rowW (y :: (l++[x])) r kept nth s=_
   by_cases e:y.r=r
   ·have hp:pend (y :: l) r=pend l r+1:=by unfold pend;simp [e]
    have hy:=hc y (by simp) e
    have u1:rowW (y :: (l++[x])) r kept nth s=rowW (l++[x]) r kept (nth+1) (if kept nth then s.set y.i y.b else s):=by rw [rowW,if_pos e,if_neg hy]
    have u2:rowW (y :: l) r kept nth s=rowW l r kept (nth+1) (if kept nth then s.set y.i y.b else s):=by rw [rowW,if_pos e,if_neg hy]
    rw [u1,u2,ih hc',hp,show nth+1+pend l r=nth+(pend l r+1) by omega]
   ·have hp:pend (y :: l) r=pend l r:=by unfold pend;simp [e]
    have u1:rowW (y :: (l++[x])) r kept nth s=rowW (l++[x]) r kept nth s:=by rw [rowW,if_neg e]
    have u2:rowW (y :: l) r kept nth s=rowW l r kept nth s:=by rw [rowW,if_neg e]
    rw [u1,u2,ih hc',hp]
def sureRow (m:DM) (r:Nat):List (List Int):=m.sure.getD r []
def nowRow (m:DM) (r:Nat):List (List Int):=m.now.getD r []
def since (m:DM) (r:Nat):List DWr:=m.done.drop (m.uns.getD r 0)
theorem settle_same (m:DM) (r:Nat) (kept:Nat→Bool):sureRow (m.settle r kept) r=rowW (since m r) r kept 0 (sureRow m r):=settleW_row _ _ _ _ _
theorem settle_other (m:DM) (r:Nat) (kept:Nat→Bool) {k:Nat} (hk:k≠r):sureRow (m.settle r kept) k=sureRow m k∧since (m.settle r kept) k=since m k:=by
 refine ⟨settleW_other _ _ _ _ _ _ hk,?_⟩
 unfold since DM.settle
 simp [List.getD,Ne.symm hk]
theorem settle_since {m:DM} (h:m.Ok) {r:Nat} (hr:r<m.now.length) (kept:Nat→Bool):since (m.settle r kept) r=[]:=by
 unfold since DM.settle
 have:r<m.uns.length:=by rw [h.unsLen];exact hr
 simp [List.getD,this]
theorem crash1_same {m:DM} (h:m.Ok) {r:Nat} (hr:r<m.now.length) (bs:List Int):nowRow (m.crash1 r bs) r=rowW (since m r) r (bitAt bs) 0 (sureRow m r):=by
 rw [← settle_same]
 unfold nowRow DM.crash1
 simp [List.getD,hr]
 rfl
theorem crash1_other (m:DM) (r:Nat) (bs:List Int) {k:Nat} (hk:k≠r):nowRow (m.crash1 r bs) k=nowRow m k∧sureRow (m.crash1 r bs) k=sureRow m k∧since (m.crash1 r bs) k=since m k:=by
 have:=settle_other m r (bitAt bs) hk
 refine ⟨?_,this.1,this.2⟩
 unfold nowRow DM.crash1
 simp [List.getD,Ne.symm hk]
theorem crashN_rows {m:DM} (h:m.Ok) (ks:List (List Int)):∀ n,n≤m.now.length→(∀ r,r<n→nowRow (crashN m ks n) r=rowW (since m r) r (bitAt (ks.getD r [])) 0 (sureRow m r))∧∀ r,n≤r→nowRow (crashN m ks n) r=nowRow m r∧sureRow (crashN m ks n) r=sureRow m r∧since (crashN m ks n) r=since m r
 | 0,_=>⟨fun r hr=>by omega,fun r _=>⟨rfl,rfl,rfl⟩⟩
 | n+1,hn=>by
   obtain ⟨h1,h2⟩:=crashN_rows h ks n (by omega)
   have hok:=crashN_ok h ks n (by omega)
   have hl:n<(crashN m ks n).now.length:=by rw [(crashN_len m ks n).1];omega
   show (∀ r,r<n+1→nowRow ((crashN m ks n).crash1 n (ks.getD n [])) r=_)∧∀ r,n+1≤r→nowRow ((crashN m ks n).crash1 n (ks.getD n [])) r=_∧_∧_
   refine ⟨fun r hr=>?_,fun r hr=>?_⟩
   ·by_cases e:r=n
    ·subst e
     rw [crash1_same hok hl,(h2 r (Nat.le_refl _)).2.1,(h2 r (Nat.le_refl _)).2.2]
    ·rw [(crash1_other _ _ _ e).1]
     exact h1 r (by omega)
   ·have e:r≠n:=by omega
    obtain ⟨g1,g2,g3⟩:=crash1_other (crashN m ks n) n (ks.getD n []) e
    obtain ⟨f1,f2,f3⟩:=h2 r (by omega)
    exact ⟨g1.trans f1,g2.trans f2,g3.trans f3⟩
theorem crash_row {m:DM} (h:m.Ok) (ks:List (List Int)) {r:Nat} (hr:r<m.now.length):nowRow (m.crash ks) r=rowW (since m r) r (bitAt (ks.getD r [])) 0 (sureRow m r):=(crashN_rows h ks _ (Nat.le_refl _)).1 r hr
structure Told (m:DM):Prop where
 clean:∀ r,r<m.now.length→∀ x∈since m r,x.r=r→x.i≠65535
 full:∀ r,r<m.now.length→rowW (since m r) r (fun _=>true) 0 (sureRow m r)=nowRow m r
theorem Told.make (zs:List Int):Told (DM.make zs) where
 clean:=fun r _ x hx=>by unfold since DM.make at hx;simp at hx
 full:=fun r _=>by
  have:since (DM.make zs) r=[]:=by unfold since DM.make;simp
  rw [this];rfl
theorem since_write {m:DM} (h:m.Ok) {k:Nat} (hk:k<m.now.length) (r i:Nat) (b:List Int):since (m.write r i b) k=since m k++[⟨r,i,b⟩]:=by
 unfold since DM.write
 show List.drop (m.uns.getD k 0) (m.done++_)=_
 obtain ⟨u,hu⟩:∃ u,m.uns[k]?=some u:=⟨_,List.getElem?_eq_getElem (by rw [h.unsLen];exact hk)⟩
 have hle:=h.unss k u hu
 have hg:m.uns.getD k 0=u:=by rw [List.getD,hu];rfl
 rw [hg,List.drop_append_of_le_length hle]
theorem Told.write {m:DM} (h:Told m) (hm:m.Ok) (r i:Nat) (b:List Int) (hi:i≠65535):Told (m.write r i b) where
 clean:=fun k hk x hx=>by
  have hk':k<m.now.length:=by have:(m.write r i b).now.length=m.now.length:=by show (setAt _ _ _ _).length=_;unfold setAt;simp
                              omega
  rw [since_write hm hk'] at hx
  rcases List.mem_append.1 hx with h1 | h1
  ·exact h.clean k hk' x h1
  ·rw [List.mem_singleton.1 h1];intro _;exact hi
 full:=fun k hk=>by
  have hk':k<m.now.length:=by have:(m.write r i b).now.length=m.now.length:=by show (setAt _ _ _ _).length=_;unfold setAt;simp
                              omega
  have hs:sureRow (m.write r i b) k=sureRow m k:=rfl
  rw [since_write hm hk',hs]
  by_cases e:r=k
  ·subst e
   rw [rowW_snoc _ _ _ _ (h.clean r hk') rfl hi,h.full r hk',if_pos rfl]
   exact (setAt_row _ _ _ _).symm
  ·rw [rowW_skip _ _ _ _ (Or.inl e),h.full k hk']
   exact (setAt_other _ _ _ _ (Ne.symm e)).symm
theorem barrier_rows {m:DM} (h:Told m) (hm:m.Ok) {r:Nat} (hr:r<m.now.length):sureRow (m.barrier r) r=nowRow m r∧(∀ k,k≠r→sureRow (m.barrier r) k=sureRow m k)∧(∀ k,nowRow (m.barrier r) k=nowRow m k)∧since (m.barrier r) r=[]∧∀ k,k<m.now.length→k≠r→since (m.barrier r) k=since m k++[⟨r,65535,List.replicate 64 0⟩]:=by
 have hw:∀ k,k<m.now.length→since ({ m with done:=m.done++[⟨r,65535,List.replicate 64 0⟩] }:DM) k=since m k++[⟨r,65535,List.replicate 64 0⟩]:=fun k hk=>since_write hm hk r 65535 _
 have ho:({ m with done:=m.done++[⟨r,65535,List.replicate 64 0⟩] }:DM).Ok:=hm.tell hr
 unfold DM.barrier
 refine ⟨?_,fun k hk=>(settle_other _ _ _ hk).1,fun k=>rfl,settle_since ho hr _,fun k hk hk'=>?_⟩
 ·rw [settle_same,hw r hr,rowW_skip _ _ _ _ (Or.inr rfl)]
  exact h.full r hr
 ·rw [(settle_other _ _ _ hk').2]
  exact hw k hk
theorem Told.barrier {m:DM} (h:Told m) (hm:m.Ok) {r:Nat} (hr:r<m.now.length):Told (m.barrier r):=by
 obtain ⟨h1,h2,h3,h4,h5⟩:=barrier_rows h hm hr
 refine ⟨fun k hk x hx=>?_,fun k hk=>?_⟩
 ·have hk':k<m.now.length:=hk
  by_cases e:k=r
  ·subst e;rw [h4] at hx;cases hx
  ·rw [h5 k hk' e] at hx
   rcases List.mem_append.1 hx with g | g
   ·exact h.clean k hk' x g
   ·rw [List.mem_singleton.1 g];intro e2;exact absurd e2.symm e
 ·have hk':k<m.now.length:=hk
  by_cases e:k=r
  ·subst e;rw [h4,h1,h3];rfl
  ·rw [h5 k hk' e,h2 k e,h3,rowW_skip _ _ _ _ (Or.inl (Ne.symm e))]
   exact h.full k hk'
theorem pend_le (m:DM) (r:Nat):pend (since m r) r≤m.done.length:=by
 unfold pend since
 have h1:=List.length_filter_le (fun x:DWr=>x.r==r) (m.done.drop (m.uns.getD r 0))
 have h2:=List.length_drop (i:=m.uns.getD r 0) (l:=m.done)
 omega
end Go.Proofs.YtamnpblijdgdaaaGreat
namespace Go.Proofs.YtamnpblijdgdaaaGreat
open Go
set_option linter.unusedVariables false
set_option linter.unusedSimpArgs false
section
variable {P:Program} {ops:Array Oper} {T0 T:Array Value} {D:List Deferred} {V:Nat→Value→World→Prop} {J:(Nat→Bool)→World→Prop} {S:World→World→Prop} {Q:Exit→Act→World→Prop}
def RStepJ (P:Program) (ops:Array Oper) (T0:Array Value) (D:List Deferred) (V:Nat→Value→World→Prop) (J:(Nat→Bool)→World→Prop) (S:World→World→Prop) (Q:Exit→Act→World→Prop) (i:Nat) (o:Oper):Prop :=
 ∀ T w (L:Nat→Bool),agree ops T0 T→L i=false→J L w→(∀ e∈o.after,Region.binds .any e=true→L e.on=true)→(∀ e∈o.after,Region.binds .any e=true→∀ o',ops[e.on]?=some o'→V e.on (slotOf o' T) w) →
  if Region.wanted o (yielded ops T) then o.wp P ⟨T,D⟩ w (fun a' w'=>∃ v,a'=(⟨T,D⟩:Act).put o.dst v∧V i (match o.dst with | some _=>v | none=>undef) w'∧J (fun j=>if i=j then true else L j) w'∧S w w') Q else V i undef w∧J (fun j=>if i=j then true else L j) w
def RLastJ (P:Program) (ops:Array Oper) (T0:Array Value) (D:List Deferred) (V:Nat→Value→World→Prop) (J:(Nat→Bool)→World→Prop) (Q:Exit→Act→World→Prop) (o:Oper):Prop :=
 ∀ T w (L:Nat→Bool),agree ops T0 T→(∀ j,j+1<ops.size→L j=true)→L (ops.size-1)=false→J L w→(∀ j o',j+1<ops.size→ops[j]?=some o'→V j (slotOf o' T) w) →
  if Region.wanted o (yielded ops T) then o.wp P ⟨T,D⟩ w (fun a' w'=>Q .normal a' w') Q else Q .normal ((⟨T,D⟩:Act).put o.dst undef) w
structure RInvJ (ops:Array Oper) (T0:Array Value) (D:List Deferred) (V:Nat→Value→World→Prop) (J:(Nat→Bool)→World→Prop) (listed:Array Bool) (a:Act) (w:World):Prop where
 size:listed.size=ops.size
 down:∀ i o,ops[i]?=some o→listed.getD i false=true→∀ e∈o.after,Region.binds .any e=true→listed.getD e.on false=true
 defers:a.defers=D
 frame:agree ops T0 a.tmps
 vals:∀ i o,ops[i]?=some o→listed.getD i false=true→V i (slotOf o a.tmps) w
 world:J (fun i=>listed.getD i false) w
 last:listed.getD (ops.size-1) false=false
theorem wpAny_invJ {n:Nat} {Si:Nat→World→World→Prop} (hB:rgB n ops=true) (hn:T0.size=n) (stab:∀ i j v w w',i≠j→V j v w→Si i w w'→V j v w')
 (steps:∀ i o,ops[i]?=some o→i+1<ops.size→RStepJ P ops T0 D V J (Si i) Q i o) (hlast:∀ o,ops[ops.size-1]?=some o→RLastJ P ops T0 D V J Q o) :
 ∀ (fuel:Nat) (listed:Array Bool) (a:Act) (w:World),RInvJ ops T0 D V J listed a w→(List.range ops.size).countP (fun i=>!listed.getD i false)≤fuel→wpAny P .any ops Q fuel listed a w:=by
 obtain ⟨h0,hup,hwait,hdst,hfr⟩:=rg_parts hB
 intro fuel
 induction fuel with
 | zero =>
   intro listed a w hI hc
   exfalso
   have:0<(List.range ops.size).countP (fun i=>!listed.getD i false):=List.countP_pos_iff.2 ⟨ops.size-1,List.mem_range.2 (by omega),by rw [hI.last];rfl⟩
   omega
 | succ fuel ih =>
   intro listed a w hI hc
   obtain ⟨T,D'⟩:=a
   have hD:=hI.defers
   dsimp only at hD
   subst hD
   refine ⟨fun hr=>?_,fun i hi=>?_⟩
   ·exfalso
    have hex:∃ i,i<ops.size∧listed.getD i false=false:=⟨ops.size-1,by omega,hI.last⟩
    have hmin:∃ i,(i<ops.size∧listed.getD i false=false)∧∀ j,j<i→¬ (j<ops.size∧listed.getD j false=false):=by
     obtain ⟨i,hi⟩:=hex
     induction i using Nat.strongRecOn with
     | _ i ih =>
       by_cases hm:∃ j,j<i∧(j<ops.size∧listed.getD j false=false)
       ·obtain ⟨j,h1,h2⟩:=hm;exact ih j h1 h2
       ·exact ⟨i,hi,fun j hj h=>hm ⟨j,hj,h⟩⟩
    obtain ⟨i,⟨h1,h2⟩,h3⟩:=hmin
    have hm:i∈Region.ready .any ops listed:=mem_ready.2 ⟨h1,by rw [getD_tf (by rw [hI.size];exact h1)];exact h2,_,Array.getElem?_eq_getElem h1,fun e he hb=>by
     have h4:=hup i _ (Array.getElem?_eq_getElem h1) e he hb
     cases h5:listed.getD e.on false with
     | true=>rfl
     | false=>exact absurd ⟨by omega,h5⟩ (h3 e.on h4)⟩
    rw [hr] at hm;cases hm
   ·obtain ⟨h1,h2,o,ho,h3⟩:=mem_ready.1 hi
    rw [getD_tf (by rw [hI.size];exact h1)] at h2
    have hsz:i<listed.size:=by rw [hI.size];exact h1
    unfold wpOp
    rw [ho]
    dsimp only
    by_cases hl:i+1<ops.size
    ·have hst:=steps i o ho hl T w (fun j=>listed.getD j false) hI.frame h2 hI.world (fun e he hb=>h3 e he hb) (fun e he hb o' ho'=>hI.vals _ _ ho' (h3 e he hb))
     have next:∀ v w',V i (match o.dst with | some _=>v | none=>undef) w'→J (fun j=>if i=j then true else listed.getD j false) w'→(∀ j v,i≠j→V j v w→V j v w')→wpAny P .any ops Q fuel (listed.setIfInBounds i true) ((⟨T,D'⟩:Act).put o.dst v) w':=by
      intro v w' hV hJ hS
      refine ih _ _ _ ⟨by simpa using hI.size,fun j oj hoj hj e he hb=>?_,defers_put,agree_put ho hI.frame,fun j oj hoj hj=>?_,?_,?_⟩ ?_
      ·rw [getD_set hsz] at hj ⊢
       by_cases e1:i=e.on
       ·rw [if_pos e1]
       ·rw [if_neg e1]
        by_cases e2:i=j
        ·subst e2;rw [ho] at hoj;cases hoj;exact h3 e he hb
        ·rw [if_neg e2] at hj;exact hI.down j oj hoj hj e he hb
      ·rw [getD_set hsz] at hj
       by_cases e2:i=j
       ·subst e2;rw [ho] at hoj;cases hoj
        rw [slotOf_put_self (fun d hd=>by rw [hI.frame.1,hn];exact hfr i o d ho hd)];exact hV
       ·rw [if_neg e2] at hj
        rw [slotOf_put_other (fun d hd=>hdst i j o oj ho hoj e2 d hd)]
        exact hS j _ e2 (hI.vals j oj hoj hj)
      ·have e9:(fun j=>(listed.setIfInBounds i true).getD j false)=(fun j=>if i=j then true else listed.getD j false):=funext fun j=>getD_set hsz
       rw [e9];exact hJ
      ·rw [getD_set hsz,if_neg (by omega)];exact hI.last
      ·have:(List.range ops.size).countP (fun j=>!(listed.setIfInBounds i true).getD j false)<(List.range ops.size).countP (fun j=>!listed.getD j false):=by
        have key:∀ (l:List Nat),i∈l→l.Nodup→l.countP (fun j=>!(listed.setIfInBounds i true).getD j false)<l.countP (fun j=>!listed.getD j false):=by
         have le:∀ (l:List Nat),l.countP (fun j=>!(listed.setIfInBounds i true).getD j false)≤l.countP (fun j=>!listed.getD j false):=fun l =>
          List.countP_mono_left fun j _ hj=>by
           rw [getD_set hsz] at hj
           by_cases e2:i=j
           ·rw [if_pos e2] at hj;cases hj
           ·rw [if_neg e2] at hj;exact hj
         intro l
         induction l with
         | nil=>intro h;cases h
         | cons x l ihl =>
           intro hm hnd
           rw [List.countP_cons,List.countP_cons]
           by_cases e:x=i
           ·subst e
            have e1:(!(listed.setIfInBounds x true).getD x false)=false:=by rw [getD_set hsz,if_pos rfl];rfl
            have e2:(!listed.getD x false)=true:=by rw [h2];rfl
            rw [e1,e2]
            have:=le l
            simp only [Bool.false_eq_true,if_false,if_true]
            omega
           ·have hm':i∈l:=by
             rcases List.mem_cons.1 hm with h | h
             ·exact absurd h.symm e
             ·exact h
            have:=ihl hm' (List.nodup_cons.1 hnd).2
            have e1:(listed.setIfInBounds i true).getD x false=listed.getD x false:=by rw [getD_set hsz,if_neg (fun h=>e h.symm)]
            rw [e1]
            omega
        exact key _ (List.mem_range.2 h1) List.nodup_range
       omega
     by_cases hw:Region.wanted o (yielded ops T)=true
     ·rw [if_pos hw] at hst ⊢
      refine Or.inl (Oper.wp_mono (fun a' w'=>?_) hst)
      rintro ⟨v,rfl,hV,hJ,hS⟩
      exact next v w' hV hJ (fun j v hij h=>stab i j v w w' hij h hS)
     ·rw [if_neg hw] at hst ⊢
      refine next undef w ?_ hst.2 (fun j v _ h=>h)
      cases o.dst <;> exact hst.1
    ·have hil:i=ops.size-1:=by omega
     subst hil
     have hall:∀ m j,j+m+1=ops.size→j+1<ops.size→listed.getD j false=true:=by
      intro m
      induction m using Nat.strongRecOn with
      | _ m ihm =>
        intro j hj hj1
        obtain ⟨k,ok,hjk,hok,e,he,he1,hb⟩:=hwait j hj1
        subst he1
        by_cases hk:k+1<ops.size
        ·exact hI.down k ok hok (ihm (ops.size-1-k) (by omega) k (by omega) hk) e he hb
        ·have hkl:=(Array.getElem?_eq_some_iff.1 hok).1
         have:k=ops.size-1:=by omega
         subst this
         rw [ho] at hok;cases hok
         exact h3 e he hb
     have hst:=hlast o ho T w (fun j=>listed.getD j false) hI.frame (fun j hj=>hall (ops.size-1-j) j (by omega) hj) hI.last hI.world (fun j o' hj hoj=>hI.vals j o' hoj (hall (ops.size-1-j) j (by omega) hj))
     have next:∀ a' w',Q .normal a' w'→wpAny P .any ops Q fuel (listed.setIfInBounds (ops.size-1) true) a' w':=fun a' w' hq =>
      wpAny_done (by simpa using hI.size) (fun j hj=>by
       rw [getD_set hsz]
       by_cases e:ops.size-1=j
       ·rw [if_pos e]
       ·rw [if_neg e];exact hall (ops.size-1-j) j (by omega) (by omega)) hq
     by_cases hw:Region.wanted o (yielded ops T)=true
     ·rw [if_pos hw] at hst ⊢
      exact Or.inl (Oper.wp_mono next hst)
     ·rw [if_neg hw] at hst ⊢
      exact next _ _ hst
theorem RStepJ.of {i:Nat} {o:Oper} (hg:o.guard=none) (h:∀ T w (L:Nat→Bool),agree ops T0 T→L i=false→J L w→(∀ e∈o.after,Region.binds .any e=true→L e.on=true)→(∀ e∈o.after,Region.binds .any e=true→∀ o',ops[e.on]?=some o'→V e.on (slotOf o' T) w) →
 o.wp P ⟨T,D⟩ w (fun a' w'=>∃ v,a'=(⟨T,D⟩:Act).put o.dst v∧V i (match o.dst with | some _=>v | none=>undef) w'∧J (fun j=>if i=j then true else L j) w'∧S w w') Q):RStepJ P ops T0 D V J S Q i o:=by
 intro T w L h1 h2 h3 h4 h5
 rw [if_pos (by unfold Region.wanted;rw [hg])]
 exact h T w L h1 h2 h3 h4 h5
theorem RLastJ.of {o:Oper} (hg:o.guard=none) (h:∀ T w (L:Nat→Bool),agree ops T0 T→(∀ j,j+1<ops.size→L j=true)→L (ops.size-1)=false→J L w→(∀ j o',j+1<ops.size→ops[j]?=some o'→V j (slotOf o' T) w) →
 o.wp P ⟨T,D⟩ w (fun a' w'=>Q .normal a' w') Q):RLastJ P ops T0 D V J Q o:=by
 intro T w L h1 h2 h3 h4 h5
 rw [if_pos (by unfold Region.wanted;rw [hg])]
 exact h T w L h1 h2 h3 h4 h5
theorem wp_region_rgj {id:Nat} {w:World} {l:List Oper} (V:Nat→Value→World→Prop) (J:(Nat→Bool)→World→Prop) (Si:Nat→World→World→Prop) (hm:P.follows .mixedOrders=true) (hB:rgB T0.size l.toArray=true) (stab:∀ i j v w w',i≠j→V j v w→Si i w w'→V j v w') (hJ:J (fun _=>false) w.drew)
 (h:RAll (fun i o=>RStepJ P l.toArray T0 D V J (Si i) Q i o) (RLastJ P l.toArray T0 D V J Q) 0 l):(Code.region id l.toArray true).wp P Q ⟨T0,D⟩ w:=by
 obtain ⟨h1,h2⟩:=h.at_
 have e9:(fun i=>(Array.replicate l.toArray.size false).getD i false)=(fun _=>false):=funext fun i=>rep_f _ _
 refine wp_region_any hm (wpAny_invJ hB rfl stab (fun i o ho hi=>?_) (fun o ho=>h2 o (by simpa using ho)) _ _ _ _ ⟨by simp,fun i o ho hl=>?_,rfl,⟨rfl,fun _ _=>rfl⟩,fun i o ho hl=>?_,by rw [e9];exact hJ,?_⟩ ?_)
 ·have:=h1 i o (by simpa using ho) (by simpa using hi)
  rwa [Nat.zero_add] at this
 ·rw [rep_f] at hl;cases hl
 ·rw [rep_f] at hl;cases hl
 ·exact rep_f _ _
 ·exact Nat.le_trans List.countP_le_length (by simp)
end
end Go.Proofs.YtamnpblijdgdaaaGreat
