/- For FileForms: contracts and facts, part 5. -/
import Derived.WalkSpells
import Derived.ChangeShapes
import Derived.Deep.Slices
import Derived.Deep.Fields
import Derived.ChangeSame
import Derived.ProofKit
import Derived.OpenShut
import Derived.Carry
import Derived.WalkKit
import Derived.Deep.QuietTactic
import Derived.BigQuiet
import Derived.StillTail
import Derived.Test.YtegjelaejbacnaaGreatW01
import Derived.Test.YtegjelaejbacnaaGreatW02
import Derived.Test.YtegjelaejbacnaaGreatW04
set_option maxRecDepth 100000
set_option maxHeartbeats 25600000
set_option linter.unusedSimpArgs false
set_option linter.unusedVariables false
open Go.ChangeShapes Go.WideShapes Go.ChangeAt Go.RowKit Go Go.Deep
namespace Go.Proofs.YtegjelaejbacnaaGreat
theorem pG {P:Program} {w:World} {ops:Array Oper} {rest:List Oper} {o:Oper} {a:Act} {Q:Exit->Act->World->Prop} (hgd:o.guard=none) (s x:Operand) (t:TypeId) (ho:o.op=.call { callee:=.builtin .append,args:=#[s,x],argTypes:=#[t,t] })
 (e:TypeId) (i:TypeInfo) (z:Value) (size bytes:Nat) (ht:P.underlying t=some (.slice e)) (hi:P.info? e=some i) (hz:i.zero=some z)
 (hsize:i.size=size) (hby:i.bytes=bytes) (hzs:z.cells.size=size) (hsz:0<size)
 (v:Value) (n:Nat) (xs:List Value) (hs:a.eval s=v) (Own:Nat->Prop) (hown:aG w Own e size v n xs)
 (ad:Addr) (m c:Nat) (news:List Value) (hx:a.eval x=.slice (some ad) m c) (hl:news.length=m*size) (hnews:∀ j u,news[j]?=some u->w.cell? (ad.add j)=some u) (h1:∀ u∈news,u.oneCell'=true)
 (h63:n+m<=maxLen) (hbytes:(n+m)*bytes<=140737488355328)
 (h:∀ v' w',aG w' (fun k=>Own k\/w.heap.size<=k) e size v' (n+m) (xs++news)->w.grownBy w' v.ownBlock->aG w' Own e size v n xs->wpList P ops Q rest (a.put o.dst v') w'):wpList P ops Q (o :: rest) a w :=
 wpList_plain hgd fun _ hK=>iW s x t ho e i z size bytes ht hi hz hsize hby hzs hsz v n xs hs Own hown ad m c news hx hl hnews h1 h63 hbytes fun v' w' h2 h3 h4=>hK _ _ (h v' w' h2 h3 h4)
theorem AB (w:World) (E:TypeId) (sz n:Nat) (C:Array Value) (hm:n<=maxLen) (hs:C.size=n*sz) (Own:Nat->Prop) (ho:Own w.heap.size):aG (w.alloc (.cells C E)) Own E sz (.slice (some ⟨w.heap.size,0,none⟩) n n) n C.toList :=
 ⟨World.ownsRow_lit w C n (Nat.zero_le _) hm hs,fun g hg=>by injection hg with hg;subst hg;exact ho⟩
section
variable {P:Program} {ops:Array Oper} {T0 T:Array Value} {D:List Deferred} {V:Nat->Value->World->Prop} {J:World->Prop} {R:Nat->Value->Nat->Value->World->Prop} {S:World->World->Prop} {Q:Exit->Act->World->Prop}
end
theorem EO:(Tryz.prog.info? 3).map (fun i=>(i.zero,i.size,i.bytes))=some (some (.int .i64 0),1,8):=Hc
theorem vm {α:Type} {w':World} {OT:Nat->Prop} {OR:Nat->Nat->Prop} {ET ER:TypeId} {sz:Nat} {enc:List α->List Value} {v' u:Value} {rows:List (List α)} {row:List α} {vs:List Value}
 (h1:aG w' OT ET 1 v' (rows.length+1) (vs++[u])) (h2:∀ r row,rows[r]?=some row->∃ u,vs[r]?=some u/\aG w' (OR r) ER sz u row.length (enc row)) (hu:aG w' (OR rows.length) ER sz u row.length (enc row)) (hl:vs.length=rows.length) :
 cf w' OT OR ET ER sz enc v' (rows++[row]):=by
 refine ⟨vs++[u],by rw [List.length_append];exact h1,fun r row' hr=>?_⟩;by_cases e:r<rows.length
 ·rw [List.getElem?_append_left e] at hr;obtain ⟨u',h3,h4⟩:=h2 r row' hr;exact ⟨u',by rw [List.getElem?_append_left Ha];exact h3,h4⟩
 ·have hlt:=(List.getElem?_eq_some_iff.1 hr).1;simp only [List.length_append,List.length_cons,List.length_nil] at hlt;have er:r=rows.length:=Ha;subst er;rw [List.getElem?_append_right (Nat.le_refl _)] at hr;simp at hr;subst hr;exact ⟨u,by rw [List.getElem?_append_right Ha,hl];simp,hu⟩
theorem pg:(Tryz.prog.info? 174).map (fun i=>(i.zero,i.size,i.bytes))=some (some (.slice none 0 0),1,24):=Hc
theorem aG.ownerT {w:World} {Own Own':Nat->Prop} {E:TypeId} {sz:Nat} {v:Value} {n:Nat} {xs:List Value} (h:aG w Own E sz v n xs) (ho:∀ g cur,w.heap[g]?=some (.cells cur E (0,0))->v.ownBlock=some g->Own g->Own' g):aG w Own' E sz v n xs:=by
 refine ⟨h.1,fun g hg=>?_⟩;rcases h.1.2 with ⟨rfl,_⟩ | ⟨g',cap,cur,rfl,_,hc,_⟩
 ·cases hg
 ·injection hg with e
  subst e;exact ho _ cur hc rfl (h.2 _ rfl)
theorem aG.apart {w:World} {O1 O2:Nat->Prop} {E1 E2:TypeId} {s1 s2 n1 n2:Nat} {v1 v2:Value} {x1 x2:List Value} (h1:aG w O1 E1 s1 v1 n1 x1) (h2:aG w O2 E2 s2 v2 n2 x2) (hE:E1≠E2) {g:Nat} (hg:v1.ownBlock=some g):v2.ownBlock≠some g:=by
 intro hg2;rcases h1.1.2 with ⟨rfl,_⟩ | ⟨a,_,c1,rfl,_,hc1,_⟩
 ·cases hg
 ·rcases h2.1.2 with ⟨rfl,_⟩ | ⟨b,_,c2,rfl,_,hc2,_⟩
  ·cases hg2
  ·injection hg with hg;injection hg2 with hg2
   dsimp only at hg hg2;subst hg;subst hg2;rw [hc1] at hc2;injection hc2 with hc2;injection hc2 with _ e
   exact hE e
theorem AC:(Tryz.prog.info? 22).map (fun i=>(i.zero,i.size,i.bytes))=some (some (.slice none 0 0),1,24):=Hc
def zeroRow (z:Int):List (List Int):=List.replicate z.toNat (List.replicate 64 0)
theorem xO (z:Int):∀ b∈zeroRow z,cG b:=fun b hb=>by rw [(List.mem_replicate.1 hb).2];exact pf
theorem sm (n:Nat):dC (List.replicate n (List.replicate 64 0))=List.replicate (n*64) (.int .u8 0):=by
 induction n with
 | zero=>simp [dC]
 | succ n ih =>
   have:dC (List.replicate (n+1) (List.replicate 64 0))=Bs (List.replicate 64 0)++dC (List.replicate n (List.replicate 64 0)):=by unfold dC;rw [List.replicate_succ,List.flatMap_cons]
   rw [this,ih];unfold Bs;rw [List.map_replicate,List.replicate_append_replicate];congr 1;omega
theorem sn (n:Nat):(madeCells (Value.agg (Array.replicate 64 (.int .u8 0))).cells (n*64)).toList=List.replicate (n*64) (.int .u8 0):=by
 apply List.ext_getElem?;intro j;by_cases hj:j<n*64
 ·simp only [madeCells,Value.cells,Array.toList_map,List.getElem?_map,Array.toList_range,List.getElem?_range hj,Option.map_some,List.getElem?_replicate,hj,if_true];have h64:j%64<64:=Ha;simp [h64]
 ·simp [madeCells,hj]
def pH (w:World) (B:Nat) (T:Nat->Nat) (p:Nat) (v:Value) (rows:List (List (List Int))):Prop :=
 cf w (fun k=>B<=k/\k<w.heap.size/\T k=p) (fun r k=>B<=k/\k<w.heap.size/\T k=2*r+2+p) 174 262 64 dC v rows
structure so (w:World) (B q:Nat) (vu:Value) (R:Nat) (T:Nat->Nat) (v9 v14:Value) (rows9 rows14:List (List (List Int))):Prop where
 hd:w.heap[q]?=some (.cells #[v9,v14,.slice none 0 0,vu,.bool false,.int .i64 0] 173 (0,0))
 hq:B<=q
 t9:pH w B T 0 v9 rows9
 t14:pH w B T 1 v14 rows14
 un:aG w (fun k=>B<=k) 3 1 vu R (rH (List.replicate R 0))
theorem mQ {w:World} {q g:Nat} {C C':Array Value} {E E':TypeId} {f f':Nat × Nat} (h:w.heap[q]?=some (.cells C E f)) (h':w.heap[g]?=some (.cells C' E' f')) (hE:E≠E'):g≠q:=fun e=>by
 subst e;rw [h] at h';injection h' with h';injection h' with _ h';exact hE h'
theorem pH.push {w1 W:World} {B q f:Nat} {T:Nat->Nat} {p:Nat} {v v':Value} {rows:List (List (List Int))} {vs:List Value} {g n:Nat} {row:List (List Int)} {C:Array Value} (hB:B<=w1.heap.size)
 (hqt:w1.heap[q]?=some (.cells C 173 (0,0)))
 (h1:aG w1 (fun k=>B<=k/\k<w1.heap.size/\T k=p) 174 1 v rows.length vs) (h2:∀ (r:Nat) (row:List (List Int)),rows[r]?=some row->∃ u,vs[r]?=some u/\aG w1 (fun k=>B<=k/\k<w1.heap.size/\T k=2*r+2+p) 262 64 u row.length (dC row))
 (ht:aD (fun x=>v.ownBlock=some x) w1 W) (h3:aG W (fun k=>(B<=k/\k<w1.heap.size/\T k=p)\/w1.heap.size<=k) 174 1 v' (rows.length+1) (vs++[.slice (some ⟨g,0,none⟩) n n]))
 (hg:w1.heap.size<=g) (h4:aG W (fun k=>k=g) 262 64 (.slice (some ⟨g,0,none⟩) n n) row.length (dC row)) (a:Addr) (ha:a.block=q) (u0:Value) :
 pH (W.setCell a u0) B (fun x=>if x<w1.heap.size then T x else if x=g then 2*rows.length+2+p else p) p v' (rows++[row]):=by
 subst ha;have hsz:(W.setCell a u0).heap.size=W.heap.size:=by simp [World.setCell]
 have hqW:W.heap[a.block]?=some (.cells C 173 (0,0)):=by
  rw [ht.block _ (ai hqt) (fun e=>?_)];exact hqt;rcases h1.1.2 with ⟨rfl,_⟩ | ⟨b,_,c1,rfl,_,hc1,_⟩
  ·cases e
  ·injection e with e;dsimp only at e;subst e;rw [hqt] at hc1;injection hc1 with hc1;injection hc1 with _ hc1;exact absurd hc1 Hd
 have kp:∀ {Own:Nat->Prop} {E:TypeId} {sz m:Nat} {u:Value} {xs:List Value},E≠173->aG W Own E sz u m xs->aG (W.setCell a u0) Own E sz u m xs:=fun hE h=>by
  refine ⟨⟨h.1.1,?_⟩,h.2⟩;rcases h.1.2 with h0 | ⟨b,cap,cur,rfl,q0,q1,q2⟩
  ·exact Or.inl h0
  ·exact Or.inr ⟨b,cap,cur,rfl,q0,by rw [Below.heap_setCell _ _ _ _ (mQ hqW q1 (fun e=>hE e.symm))];exact q1,q2⟩
 have hgl:=(h4.1.lt g rfl).2;refine vm (vs:=vs) (u:=.slice (some ⟨g,0,none⟩) n n) ?_ (fun r row' hr=>?_) ?_ (by have:=h1.len;omega)
 ·refine kp Hd (h3.ownerT fun b cur hc he ho=>?_);have hbl:=ai hc;rw [hsz];rcases ho with ⟨q1,q2,q3⟩ | ho
  ·exact ⟨q1,hbl,by dsimp only;rw [if_pos q2];exact q3⟩
  ·refine ⟨Ha,hbl,?_⟩;dsimp only;rw [if_neg Ha,if_neg];intro e;subst e;rcases h4.1.2 with ⟨h0,_⟩ | ⟨b',_,c',h0,_,hc',_⟩
   ·cases h0
   ·injection h0 with h0 _ _;injection h0 with h0;injection h0 with h0 _ _;subst h0
    rw [hc] at hc';injection hc' with hc';injection hc' with _ hc';exact absurd hc' Hd
 ·obtain ⟨u,hu,h5⟩:=h2 r row' hr;refine ⟨u,hu,kp Hd ((h5.keep (w':=W) fun x hx ho=>ht.block x hx (fun e=>h1.apart h5 Hd e ?_)).ownerT fun b cur hc he ho=>?_)⟩
  ·have:=h1.2 x e;rcases h5.1.2 with ⟨rfl,_⟩ | ⟨b,_,c1,rfl,_,hc1,_⟩
   ·exact absurd ho.2.2 Ha
   ·exact absurd ho.2.2 Ha
  ·rw [hsz];exact ⟨ho.1,ai hc,by dsimp only;rw [if_pos ho.2.1];exact ho.2.2⟩
 ·refine kp Hd (h4.owner fun x hx e=>?_);subst e;rw [hsz];refine ⟨Ha,hgl,?_⟩;dsimp only;rw [if_neg Ha,if_pos rfl]
theorem pH.other {w1 W:World} {B q:Nat} {T:Nat->Nat} {p p':Nat} {v v2:Value} {rows2:List (List (List Int))} {g k:Nat} {C:Array Value} (hqt:w1.heap[q]?=some (.cells C 173 (0,0))) (h:pH w1 B T p' v2 rows2) (hp:p<=1) (hp':p'<=1) (hne:p≠p') {vs:List Value} {n:Nat}
 (h1:aG w1 (fun k=>B<=k/\k<w1.heap.size/\T k=p) 174 1 v n vs) (ht:aD (fun x=>v.ownBlock=some x) w1 W) (a:Addr) (ha:a.block=q) (u0:Value) :
 pH (W.setCell a u0) B (fun x=>if x<w1.heap.size then T x else if x=g then 2*k+2+p else p) p' v2 rows2:=by
 subst ha;have hsz:(W.setCell a u0).heap.size=W.heap.size:=by simp [World.setCell]
 have:=ht.size;have kp:∀ {Own Own':Nat->Prop} {E:TypeId} {sz m:Nat} {u:Value} {xs:List Value},E≠173->aG w1 Own E sz u m xs->(∀ x,x<w1.heap.size->Own x->T x≠p/\Own' x)->aG (W.setCell a u0) Own' E sz u m xs:=fun hE h ho=>by
  refine ⟨⟨h.1.1,?_⟩,fun b hb=>(ho b (h.1.lt b hb).2 (h.2 b hb)).2⟩;rcases h.1.2 with h0 | ⟨b,cap,cur,rfl,q0,q1,q2⟩
  ·exact Or.inl h0
  ·refine Or.inr ⟨b,cap,cur,rfl,q0,?_,q2⟩;rw [Below.heap_setCell _ _ _ _ (mQ hqt q1 (fun e=>hE e.symm)),ht.block b (ai q1) (fun e=>(ho b (ai q1) (h.2 b rfl)).1 (h1.2 b e).2.2)];exact q1
 obtain ⟨vs2,t1,t2⟩:=h;refine ⟨vs2,kp Hd t1 fun x hx ho=>⟨Ha,ho.1,Ha,by dsimp only;rw [if_pos hx];exact ho.2.2⟩,fun r row hr=>?_⟩;obtain ⟨u,hu,t3⟩:=t2 r row hr;exact ⟨u,hu,kp Hd t3 fun x hx ho=>⟨Ha,ho.1,Ha,by dsimp only;rw [if_pos hx];exact ho.2.2⟩⟩
def I5 (q f:Nat) (w1:World) (Own:Nat->Prop) (v0:Value) (n k:Nat) (vs:List Value) (i:Nat) (v:Value) (w:World):Prop :=
 match i with
 | 0 | 1 | 2 | 9=>v=.pointer (some ⟨q,0,none⟩)
 | 3 | 10=>v=.pointer (some ⟨q,f,none⟩)
 | 4=>v=v0
 | 5=>v=.int .i64 n
 | 6=>∃ g,v=.slice (some ⟨g,0,none⟩) n n/\w1.heap.size<=g/\aG w (fun x=>x=g) 262 64 (.slice (some ⟨g,0,none⟩) n n) n (List.replicate (n*64) (.int .u8 0))
 | 7=>∃ x g,v=.slice (some ⟨x,0,none⟩) 1 1/\w1.heap.size<=x/\w.heap[x]?=some (.cells #[.slice (some ⟨g,0,none⟩) n n] 174 (0,0))/\w1.heap.size<=g/\aG w (fun x=>x=g) 262 64 (.slice (some ⟨g,0,none⟩) n n) n (List.replicate (n*64) (.int .u8 0))
 | 8=>∃ g,w1.heap.size<=g/\aG w (fun x=>Own x\/w1.heap.size<=x) 174 1 v (k+1) (vs++[.slice (some ⟨g,0,none⟩) n n])/\aG w (fun x=>x=g) 262 64 (.slice (some ⟨g,0,none⟩) n n) n (List.replicate (n*64) (.int .u8 0))
 | _=>True
def EP (v0:Value) (i:Nat) (w w':World):Prop:=if i=8 then w.grownBy w' v0.ownBlock else w.grownBy w' none
theorem I5.on {q f:Nat} {w1:World} {Own:Nat->Prop} {v0:Value} {n k:Nat} {vs:List Value} (hB:∀ x,v0.ownBlock=some x->x<w1.heap.size) {i j:Nat} {v:Value} {w w':World} (hij:i≠j) (h:I5 q f w1 Own v0 n k vs j v w) (hg:EP v0 i w w'):I5 q f w1 Own v0 n k vs j v w':=by
 have kp:∀ x,x<w.heap.size->w1.heap.size<=x->w'.heap[x]?=w.heap[x]?:=fun x hx hl=>by
  unfold EP at hg;split at hg
  ·exact hg.block x hx (fun e=>by have:=hB x e.symm;omega)
  ·exact hg.block x hx Hb
 unfold I5 at *;split <;> try exact h
 ·obtain ⟨g,e,h1,h2⟩:=h;exact ⟨g,e,h1,h2.keep fun x hx e=>kp x hx Ha⟩
 ·obtain ⟨x,g,e,h1,h2,h3,h4⟩:=h;exact ⟨x,g,e,h1,(kp x (ai h2) h1).trans h2,h3,h4.keep fun x hx e=>kp x hx Ha⟩
 ·obtain ⟨g,h1,h2,h3⟩:=h;unfold EP at hg;rw [if_neg hij] at hg;exact ⟨g,h1,h2.keep fun x hx _=>hg.block x hx Hb,h3.keep fun x hx _=>hg.block x hx Hb⟩
 ·trivial
def DM.make (zs:List Int):DM:={ now:=zs.map zeroRow,sure:=zs.map zeroRow,done:=[],uns:=List.replicate zs.length 0,stops:=false,left:=0 }
theorem DM.make_ok {zs:List Int} (h:mP zs=true):(DM.make zs).Ok:=by
 unfold mP at h;simp only [Bool.and_eq_true,decide_eq_true_eq,Bool.not_eq_true',List.any_eq_false,dq,Bool.or_eq_true,not_or] at h;obtain ⟨h1,h2,h3⟩:=h;have row:∀ (r:Nat) (row:List (List Int)),(zs.map zeroRow)[r]?=some row->row.length<=1000/\∀ b∈row,cG b:=fun r row hr=>by
  rw [List.getElem?_map] at hr;obtain ⟨z,hz,rfl⟩:=Option.map_eq_some_iff.1 hr;have:=h3 z (List.mem_of_getElem? hz);exact ⟨by unfold zeroRow;rw [List.length_replicate];omega,xO z⟩
 exact { pos:=by show 0<(zs.map zeroRow).length;simpa using h1,few:=by show (zs.map zeroRow).length<=8;simpa using h2,sureLen:=rfl,unsLen:=by show (List.replicate zs.length 0).length=(zs.map zeroRow).length;simp
         rows:=row,sures:=fun r row' hr=>⟨⟨row',hr,rfl⟩,(row r row' hr).2⟩,dones:=fun x hx=>by cases hx
         unss:=fun r u hu=>by
          have hu':(List.replicate zs.length 0)[r]?=some u:=hu;rw [List.getElem?_replicate] at hu';split at hu'
          ·injection hu' with hu';omega
          ·cases hu'
         left:=by show 0<=_;omega }
theorem xP {w:World} {B q R:Nat} {vu v9 v14:Value} {T:Nat->Nat} {zs:List Int} (h:so w B q vu R T v9 v14 (zs.map zeroRow) (zs.map zeroRow)) (hR:zs.length=R) (hok:(DM.make zs).Ok):∃ F,pe w F q (DM.make zs)/\∀ k,F k->B<=k:=by
 classical
 obtain ⟨hd,hq,hn,hs,h7⟩:=h
 let O:Nat->de:=fun x=>if x=q then .hd else if vu.ownBlock=some x then .uns else
  if B<=x/\x<w.heap.size then (if T x=0 then .nowT else if T x=1 then .sureT else if T x%2=0 then .now (T x/2-1) else .sure (T x/2-1)) else .none
 have hO:∀ x,O x=if x=q then .hd else if vu.ownBlock=some x then .uns else
  if B<=x/\x<w.heap.size then (if T x=0 then .nowT else if T x=1 then .sureT else if T x%2=0 then .now (T x/2-1) else .sure (T x/2-1)) else .none:=fun _=>rfl
 clear_value O
 have ty:∀ {x cur E},w.heap[x]?=some (.cells cur E (0,0))->(E≠173->x≠q)/\(E≠3->vu.ownBlock≠some x):=by
  intro x cur E hx;refine ⟨fun hE e=>?_,fun hE e=>?_⟩
  ·subst e;rw [hd] at hx;injection hx with hx;injection hx with _ hx;exact hE hx.symm
  ·rcases h7.1.2 with ⟨e',_⟩ | ⟨g,cap,cur',e',_,hc,_⟩
   ·rw [e'] at e;cases e
   ·rw [e'] at e;injection e with e;dsimp only at e;subst e;rw [hc] at hx;injection hx with hx;injection hx with _ hx;exact hE hx.symm
 have tabO:∀ {OT:Nat->Prop} {OR:Nat->Nat->Prop} {OT':Nat->Prop} {OR':Nat->Nat->Prop} {v:Value} {rows:List (List (List Int))},cf w OT OR 174 262 64 dC v rows ->
  (∀ k,(k≠q/\vu.ownBlock≠some k)->OT k->OT' k)->(∀ r k,(k≠q/\vu.ownBlock≠some k)->OR r k->OR' r k)->cf w OT' OR' 174 262 64 dC v rows:=by
  intro OT OR OT' OR' v rows h a b;obtain ⟨vs,t1,t2⟩:=h;refine ⟨vs,t1.ownerT fun g cur hg _ ho=>a g ⟨(ty hg).1 Hd,(ty hg).2 Hd⟩ ho,fun r row hr=>?_⟩;obtain ⟨u,hu,t3⟩:=t2 r row hr;exact ⟨u,hu,t3.ownerT fun g cur hg _ ho=>b r g ⟨(ty hg).1 Hd,(ty hg).2 Hd⟩ ho⟩
 refine ⟨fun k=>O k≠.none,⟨O,⟨v9,v14,.slice none 0 0,vu⟩,⟨⟨hd,by rw [hO,if_pos rfl],?_,?_,aG.nil _ _ _ _,?_⟩,hok⟩,fun _=>Iff.rfl,fun k hk=>?_⟩,fun k hk=>?_⟩
 ·refine tabO hn (fun k hk ho=>?_) (fun r k hk ho=>?_)
  ·rw [hO,if_neg hk.1,if_neg hk.2,if_pos ⟨ho.1,ho.2.1⟩,if_pos ho.2.2]
  ·rw [hO,if_neg hk.1,if_neg hk.2,if_pos ⟨ho.1,ho.2.1⟩,if_neg Ha,if_neg Ha,if_pos Ha,ho.2.2]
   congr 1;omega
 ·refine tabO hs (fun k hk ho=>?_) (fun r k hk ho=>?_)
  ·rw [hO,if_neg hk.1,if_neg hk.2,if_pos ⟨ho.1,ho.2.1⟩,if_neg Ha,if_pos ho.2.2]
  ·rw [hO,if_neg hk.1,if_neg hk.2,if_pos ⟨ho.1,ho.2.1⟩,if_neg Ha,if_neg Ha,if_neg Ha,ho.2.2]
   congr 1;omega
 ·show aG w _ _ 1 vu (List.replicate zs.length 0).length (rH (List.replicate zs.length 0));rw [List.length_replicate,hR];exact h7.ownerT fun g cur hg he ho=>by rw [hO,if_neg ((ty hg).1 Hd),if_pos he]
 ·replace hk:O k≠.none:=hk;rw [hO] at hk;split at hk
  ·rename_i e;rw [e];exact ai hd
  ·split at hk
   ·rename_i e;exact (h7.1.lt k e).2
   ·split at hk
    ·omega
    ·exact absurd rfl hk
 ·replace hk:O k≠.none:=hk;rw [hO] at hk;split at hk
  ·omega
  ·split at hk
   ·rename_i e;exact h7.2 k e
   ·split at hk
    ·omega
    ·exact absurd rfl hk
theorem EQ (A:Option Addr) (zs:List Int) (c:Nat) (w0:World) (hB0:CB zs) (hy:jf w0 A zs) (hm:mP zs=true) :
 Calls Tryz.prog 40 #[.slice A zs.length c] w0 fun e w'=>(∃ q F,e=.returned (.tuple #[.pointer (some ⟨q,0,none⟩),.bool true])/\pe w' F q (DM.make zs)/\∀ k,F k->w0.heap.size<=k)/\Below w0.heap.size w0 w':=by
 have hmk:=DM.make_ok hm;have hzs:∀ z∈zs,1<=z/\z<=1000:=by
  unfold mP at hm;simp only [Bool.and_eq_true,decide_eq_true_eq,Bool.not_eq_true',List.any_eq_false,dq,Bool.or_eq_true,not_or] at hm;intro z hz;have:=hm.2.2 z hz;omega
 have hl8:zs.length<=8:=by
  unfold mP at hm;simp only [Bool.and_eq_true,decide_eq_true_eq] at hm;exact hm.2.1
 have hF:=He (CK A zs c w0 hB0 hy Ha);rw [hm] at hF;have HZ:=He hzs;have HY:=He hy;have HOK:=He hmk;clear hm hB0 hy hzs hmk;generalize hR:zs.length=R at *;have HR:=He hR;clear hR;obtain ⟨iu,hiu,hzu,hsu,hbu⟩:=info_parts EO;have hmu:=fun w:World=>run_make (P:=Tryz.prog) w 33 3 iu _ Tryz.underlying33 hiu hzu .i64 .i64 R R Ha Ha (by rw [hbu];omega) Ha;simp only [Int.toNat_natCast] at hmu;generalize hC:madeCells (Value.int .i64 0).cells (R*iu.size)=CU at hmu;have hCU:CU.toList=rH (List.replicate R 0)/\CU.size=R:=by
  rw [hsu,Nat.mul_one] at hC;rw [<- hC];constructor
  ·rw [show (Value.int .i64 0).cells=#[.int .i64 0] from rfl,toList_madeCells_one];unfold rH;rw [List.map_replicate];rfl
  ·simp [madeCells]
 have HCU:=He hCU;clear hC hCU hiu hzu hsu hbu;go_enter Tryz.func40,Tryz.ntmps40;go_wp2_with fail
 refine hF.out.mono ?_;rintro e w' ⟨rfl,rfl⟩;go_wp2_with fail
 obtain ⟨B,hB⟩:∃ B,B=w0.heap.size:=⟨_,rfl⟩
 obtain ⟨q,hq⟩:∃ q,q=w0.heap.size+1:=⟨_,rfl⟩
 obtain ⟨vu,hvu⟩:∃ vu:Value,vu=.slice (some ⟨w0.heap.size,0,none⟩) R R:=⟨_,rfl⟩
 have HBB:=He hB;clear hB;have h0:so ((w0.alloc (.cells CU 3)).alloc (.cells #[.slice none 0 0,.slice none 0 0,.slice none 0 0,vu,.bool false,.int .i64 0] 173)) B q vu R (fun _=>0) (.slice none 0 0) (.slice none 0 0) [] []:=by
  subst hq;subst hvu;refine ⟨heap_alloc2_new _ _ _,by rw [HBB.out];omega,cf.nil _ _ _ _ _ _ _,cf.nil _ _ _ _ _ _ _,?_⟩;have:=AB w0 3 1 R CU (by simp only [maxLen];omega) (by rw [HCU.out.2];omega) (fun k=>B<=k) (by rw [HBB.out];exact Nat.le_refl _);rw [HCU.out.1] at this;exact this.keep fun k hk _=>Below.heap_alloc _ _ k hk
 have hb0:Below B w0 ((w0.alloc (.cells CU 3)).alloc (.cells #[.slice none 0 0,.slice none 0 0,.slice none 0 0,vu,.bool false,.int .i64 0] 173)):=by
  rw [HBB.out];exact ((Below.refl _ _).alloc (Nat.le_refl _) _).alloc Hb _
 have H0:=He h0;have HB0:=He hb0;clear h0 hb0;rw [<- hq,<- hvu];generalize ((w0.alloc (.cells CU 3)).alloc (.cells #[.slice none 0 0,.slice none 0 0,.slice none 0 0,vu,.bool false,.int .i64 0] 173))=wA at *;have HQ:=He hq;have HVU:=He hvu;clear hq hvu hmu
 go_loopw [17] (fun i wr=>∃ (k:Nat) (T:Nat->Nat) (v9 v14:Value),i=.int .i64 k/\k<=R/\so wr B q vu R T v9 v14 ((zs.take k).map zeroRow) ((zs.take k).map zeroRow)/\Below B w0 wr) (fun i _=>R-(intOf i).toNat)
 case atStart=>exact ⟨0,_,_,_,rfl,Nat.zero_le _,H0.out,HB0.out⟩
 case round =>
  obtain ⟨k,T,v9,v14,rfl,hk,hn,hb⟩:=hrel;clear H0 HB0;by_cases hlt:k<R
  ·obtain ⟨z,hz⟩:∃ z,zs[k]?=some z:=⟨_,List.getElem?_eq_getElem (by rw [HR.out];exact hlt)⟩
   obtain ⟨a,rfl,hc⟩:=HY.out _ _ hz;have hzb:=HZ.out z (List.mem_of_getElem? hz);obtain ⟨n,rfl⟩:∃ n:Nat,z=(n:Int):=⟨z.toNat,Ha⟩
   have hn1000:n<=1000:=Ha;have hcell:wr.cell? (a.add k)=some (.int .i64 n):=by rw [hb.cell (by rw [HBB.out];exact World.block_lt_of_cell? w0 _ hc)];exact hc
   have hsn:(zs.take (k+1)).map zeroRow=(zs.take k).map zeroRow++[zeroRow (n:Int)]:=by rw [au hz,List.map_append];rfl
   have hkl:((zs.take k).map zeroRow).length=k:=by rw [List.length_map];exact List.length_take_of_le (by rw [HR.out];omega)
   have HSN:=He hsn;have HK:=He hkl;have hkk:(k:Int)<R:=Ha;clear hz hc hsn hkl hzb;generalize (zs.take k).map zeroRow=rows at *;obtain ⟨w1,rfl⟩:∃ w1,w1=wr:=⟨wr,rfl⟩
   have HW1:=He hb;have hb1:B<=w1.heap.size:=by rw [HBB.out];exact hb.size
   have HB1:=He hb1;obtain ⟨vs,t1,t2⟩:=hn.t9;have HRL:Hid (rows.length=k):=HK;rw [HRL.out] at t1;have HT1:=He t1;have HT2:=He t2;have HN:=He hn;have hqn:¬ ((v9:Value).ownBlock=some q):=fun e=>by
    rcases t1.1.2 with ⟨e',_⟩ | ⟨b',_,c',e',_,hc',_⟩
    ·rw [e'] at e;cases e
    ·rw [e'] at e;injection e with e;dsimp only at e;subst e;rw [hn.hd] at hc';injection hc' with hc';injection hc' with _ hc';exact absurd hc' Hd
   have HQN:=He hqn;clear t1 t2 hqn hb1 hb hn;go_wp2_with fail
   go_upto_region 7 with fail
   go_cut [4,6,17] (fun s4 s6 s17 wx=>∃ (T':Nat->Nat) (v9':Value),s4=.pointer (some ⟨q,0,none⟩)/\s6=.int .i64 n/\s17=.int .i64 k/\so wx B q vu R T' v9' v14 (rows++[zeroRow (n:Int)]) rows/\Below B w0 wx)
   case first =>
    have hBd:∀ x,(v9:Value).ownBlock=some x->x<w1.heap.size:=fun x hx=>(HT1.out.1.lt x hx).2;have srefl:∀ (i:Nat) (W:World),EP v9 i W W:=fun i W=>by unfold EP;split <;> exact World.grownBy.refl W _
    have hJ0:aD (fun x=>(v9:Value).ownBlock=some x) w1 w1.drew/\aG w1.drew (fun x=>B<=x/\x<w1.heap.size/\T x=0) 174 1 v9 k vs:=⟨(aD.refl _ _).drew,HT1.out⟩
    refine fR (I5 q 0 w1 (fun x=>B<=x/\x<w1.heap.size/\T x=0) v9 n k vs) (fun W=>aD (fun x=>(v9:Value).ownBlock=some x) w1 W/\aG W (fun x=>B<=x/\x<w1.heap.size/\T x=0) 174 1 v9 k vs) (EP v9) Hc Hc (fun i j v w w' hij h hg=>h.on hBd hij hg) hJ0 ?_;clear hJ0;simp only [bW];refine ⟨?_,?_,?_,?_,?_,?_,?_,?_,?_,?_,?_,?_⟩
    ·refine aA.of rfl fun T W hag hJ hd=>?_;have e4:T.getD 4 undef=.pointer (some ⟨q,0,none⟩):=(Hf hag 4).trans rfl;exact Hj
    ·refine aA.of rfl fun T W hag hJ hd=>?_;have e4:T.getD 4 undef=.pointer (some ⟨q,0,none⟩):=(Hf hag 4).trans rfl;exact Hj
    ·refine aA.of rfl fun T W hag hJ hd=>?_;have d1:T.getD 22 undef=_:=Hg hd 1 rfl;exact Hj
    ·refine aA.of rfl fun T W hag hJ hd=>?_;have d2:T.getD 23 undef=_:=Hg hd 2 rfl;exact Hj
    ·refine aA.of rfl fun T W hag hJ hd=>?_;have d3:T.getD 24 undef=_:=Hg hd 3 rfl;have c0:W.cell? ⟨q,0,none⟩=some v9:=zp hJ.1 (af HN.out.hd 0) HQN.out;exact Hj
    ·refine aA.of rfl fun T W hag hJ hd=>?_;have e6:T.getD 6 undef=.int .i64 n:=(Hf hag 6).trans rfl;exact Hj
    ·refine aA.of rfl fun T W hag hJ hd=>?_;have d5:T.getD 26 undef=.int .i64 n:=Hg hd 5 rfl;obtain ⟨i0,hi0,hz0,hz1,hz2⟩:=info_parts xM;refine iU 174 (.tmp 26) (.tmp 26) rfl 262 i0 _ 64 Tryz.underlying174 hi0 hz0 hz1 n .i64 .i64 d5 d5 (by rw [hz2];omega) (by simp only [maxLen];omega) ?_;intro w' hrow hgr hsz;rw [sn] at hrow;refine ⟨_,rfl,⟨W.heap.size,rfl,hJ.1.size,hrow,fun g hg=>by injection hg with hg;exact hg.symm⟩,⟨hJ.1.trans' (aD.of_grown hgr) (fun x hx=>by cases hx),hJ.2.keep fun x hx _=>hgr.block x hx Hb⟩,?_⟩;exact hgr
    ·refine aA.of rfl fun T W hag hJ hd=>?_;obtain ⟨g,(d6:T.getD 27 undef=_),hg,hrow⟩:=Hg hd 6 rfl;obtain ⟨i0,hi0,hz0,hz1,hz2⟩:=info_parts pg;refine gf 170 (.tmp 27) rfl 174 i0 _ 1 Tryz.underlying170 hi0 hz0 hz1 Hd Hd _ d6 rfl ?_;refine ⟨_,rfl,⟨W.heap.size,g,rfl,hJ.1.size,heap_alloc_new W _,hg,hrow.keep fun x hx _=>Below.heap_alloc W _ x hx⟩,⟨hJ.1.alloc _,hJ.2.keep fun x hx _=>Below.heap_alloc W _ x hx⟩,?_⟩;exact World.grownBy_alloc W _ _
    ·refine aA.of rfl fun T W hag hJ hd=>?_;have d4:T.getD 25 undef=v9:=Hg hd 4 rfl;obtain ⟨x,g,(d7:T.getD 28 undef=_),hx1,hx2,hg,hrow⟩:=Hg hd 7 rfl;obtain ⟨i0,hi0,hz0,hz1,hz2⟩:=info_parts pg;refine iW (.tmp 25) (.tmp 28) 170 rfl 174 i0 _ 1 24 Tryz.underlying170 hi0 hz0 hz1 hz2 rfl Hd v9 k vs d4 _ hJ.2 ⟨x,0,none⟩ 1 1 [.slice (some ⟨g,0,none⟩) n n] d7 rfl (World.news_of_block hx2) (fun u hu=>by rw [List.mem_singleton.1 hu];rfl) (by simp only [maxLen];omega) Ha ?_;intro v' w' hnew hgr hold;refine ⟨_,rfl,⟨g,hg,hnew.owner ?_,hrow.keep fun y hy e=>hgr.block y hy (fun e2=>?_)⟩,⟨hJ.1.trans' (aD.of_grown hgr) (fun y hy=>Or.inl hy.symm),hold⟩,hgr⟩
     ·intro y _ hy;rcases hy with hy | hy
      ·exact Or.inl hy
      ·exact Or.inr (by have:=hJ.1.size;omega)
     ·have:=(hJ.2.2 y e2.symm).2.1;omega
    ·refine aA.of rfl fun T W hag hJ hd=>?_;have d0:T.getD 21 undef=_:=Hg hd 0 rfl;exact Hj
    ·refine aA.of rfl fun T W hag hJ hd=>?_;have d9:T.getD 30 undef=_:=Hg hd 9 rfl;exact Hj
    ·refine jK.of rfl fun T' W hag hJ hd=>?_;have d10:T'.getD 31 undef=_:=hd 10 _ Hb rfl;obtain ⟨g,hg,hnew,hrow⟩:=hd 8 _ Hb rfl;obtain ⟨v,d8⟩:∃ v,T'.getD 29 undef=v:=⟨_,rfl⟩
     replace hnew:aG W _ _ 1 (T'.getD 29 undef) _ _:=hnew;rw [d8] at hnew;obtain ⟨A2,cq,rfl,hz1,hz2⟩:=hnew.val;have hqW:W.heap[q]?=_:=(hJ.1.block q (ai HN.out.hd) HQN.out).trans HN.out.hd;have hst:(W.setCell ⟨q,0,none⟩ (.slice A2 (k+1) cq)).heap[q]?=some (.cells #[.slice A2 (k+1) cq,v14,.slice none 0 0,vu,.bool false,.int .i64 0] 173 (0,0)):=ah hqW _;have hrl:=HRL.out;have hpush:=pH.push (q:=q) (f:=0) (row:=zeroRow (n:Int)) HB1.out HN.out.hd (by rw [hrl];exact HT1.out) HT2.out hJ.1 (by rw [hrl];exact hnew) hg (by unfold zeroRow;rw [sm,List.length_replicate,Int.toNat_natCast];exact hrow) ⟨q,0,none⟩ rfl (.slice A2 (k+1) cq);have hoth:=pH.other (q:=q) (g:=g) (k:=k) HN.out.hd HN.out.t14 Ha Ha Ha HT1.out hJ.1 ⟨q,0,none⟩ rfl (.slice A2 (k+1) cq);have hun:aG (W.setCell ⟨q,0,none⟩ (.slice A2 (k+1) cq)) (fun x=>B<=x) 3 1 vu R (rH (List.replicate R 0)):=by
      refine ⟨⟨HN.out.un.1.1,?_⟩,HN.out.un.2⟩;rcases HN.out.un.1.2 with h0 | ⟨b,cap,cur,rfl,q0,q1,q2⟩
      ·exact Or.inl h0
      ·exact Or.inr ⟨b,cap,cur,rfl,q0,by rw [Below.heap_setCell _ _ _ _ (mQ HN.out.hd q1 Hd),hJ.1.block b (ai q1) (fun e=>by
        rcases HT1.out.1.2 with ⟨e',_⟩ | ⟨b',_,c',e',_,hc',_⟩
        ·rw [e'] at e;cases e
        ·rw [e'] at e;injection e with e;dsimp only at e;subst e;rw [q1] at hc';injection hc' with hc';injection hc' with _ hc';exact absurd hc' Hd)];exact q1,q2⟩
     have hbel:Below B w0 (W.setCell ⟨q,0,none⟩ (.slice A2 (k+1) cq)):=HW1.out.trans ((hJ.1.below HB1.out (fun x hx=>(HT1.out.2 x hx).1)).setCell (by exact HN.out.hq) _);rw [hrl] at hpush;have hnewat:so (W.setCell ⟨q,0,none⟩ (.slice A2 (k+1) cq)) B q vu R (fun x=>if x<w1.heap.size then T x else if x=g then 2*k+2+0 else 0) (.slice A2 (k+1) cq) v14 (rows++[zeroRow (n:Int)]) rows:=⟨hst,HN.out.hq,hpush,hoth,hun⟩
     have HM:=He (And.intro hnewat hbel);have c0:W.cell? ⟨q,0,none⟩=some v9:=af hqW 0;have f0:W.frozen? ⟨q,0,none⟩=false:=az hqW 0;have d8':=d8;have d10':=d10;rw [Array.getD_eq_getD_getElem?] at d8' d10';have HAG:=He hag;clear hag hd hqW hst hrl hpush hoth hun hbel hnewat hnew hrow;go_simp;obtain ⟨fT,hf,hT⟩:=aH HAG.out;generalize (W.setCell ⟨q,0,none⟩ (.slice A2 (k+1) cq))=W2 at *;clear HAG hf d8 d10 d8' d10' c0 f0;rw [hT];clear hT;simp only [List.filterMap_cons,List.filterMap_nil,List.foldl_cons,List.foldl_nil,List.setIfInBounds_toArray,List.set_cons_succ,List.set_cons_zero];rename_i hJc hKc;refine hKc _ _ (hJc _ _ ?_)
     repeat apply Exists.intro
     exact ⟨⟨_,_,rfl,rfl,rfl,HM.out⟩,rfl⟩
   case rest =>
    obtain ⟨T2,v92,rfl,rfl,rfl,hn2,hb2⟩:=hcut;clear HW1 HB1 HT1 HT2 HN HQN HRL hcell;obtain ⟨w2,rfl⟩:∃ w2,w2=wc:=⟨wc,rfl⟩
    have HW1:=He hb2;have hb1:B<=w2.heap.size:=by rw [HBB.out];exact hb2.size
    have HB1:=He hb1;obtain ⟨vs,t1,t2⟩:=hn2.t14;have HRL:Hid (rows.length=k):=HK;rw [HRL.out] at t1;have HT1:=He t1;have HT2:=He t2;have HN:=He hn2;have hqn:¬ ((v14:Value).ownBlock=some q):=fun e=>by
     rcases t1.1.2 with ⟨e',_⟩ | ⟨b',_,c',e',_,hc',_⟩
     ·rw [e'] at e;cases e
     ·rw [e'] at e;injection e with e;dsimp only at e;subst e;rw [hn2.hd] at hc';injection hc' with hc';injection hc' with _ hc';exact absurd hc' Hd
    have HQN:=He hqn;clear t1 t2 hqn hb1 hb2 hn2;go_wp2_with fail
    go_upto_region 8 with fail
    have hBd:∀ x,(v14:Value).ownBlock=some x->x<w2.heap.size:=fun x hx=>(HT1.out.1.lt x hx).2;have srefl:∀ (i:Nat) (W:World),EP v14 i W W:=fun i W=>by unfold EP;split <;> exact World.grownBy.refl W _
    have hJ0:aD (fun x=>(v14:Value).ownBlock=some x) w2 w2.drew/\aG w2.drew (fun x=>B<=x/\x<w2.heap.size/\T2 x=1) 174 1 v14 k vs:=⟨(aD.refl _ _).drew,HT1.out⟩
    refine fR (I5 q 1 w2 (fun x=>B<=x/\x<w2.heap.size/\T2 x=1) v14 n k vs) (fun W=>aD (fun x=>(v14:Value).ownBlock=some x) w2 W/\aG W (fun x=>B<=x/\x<w2.heap.size/\T2 x=1) 174 1 v14 k vs) (EP v14) Hc Hc (fun i j v w w' hij h hg=>h.on hBd hij hg) hJ0 ?_;clear hJ0;simp only [bW];refine ⟨?_,?_,?_,?_,?_,?_,?_,?_,?_,?_,?_,?_⟩
    ·refine aA.of rfl fun T W hag hJ hd=>?_;have e4:T.getD 4 undef=.pointer (some ⟨q,0,none⟩):=(Hf hag 4).trans rfl;exact Hj
    ·refine aA.of rfl fun T W hag hJ hd=>?_;have e4:T.getD 4 undef=.pointer (some ⟨q,0,none⟩):=(Hf hag 4).trans rfl;exact Hj
    ·refine aA.of rfl fun T W hag hJ hd=>?_;have d1:T.getD 33 undef=_:=Hg hd 1 rfl;exact Hj
    ·refine aA.of rfl fun T W hag hJ hd=>?_;have d2:T.getD 34 undef=_:=Hg hd 2 rfl;exact Hj
    ·refine aA.of rfl fun T W hag hJ hd=>?_;have d3:T.getD 35 undef=_:=Hg hd 3 rfl;have c0:W.cell? ⟨q,1,none⟩=some v14:=zp hJ.1 (af HN.out.hd 1) HQN.out;exact Hj
    ·refine aA.of rfl fun T W hag hJ hd=>?_;have e6:T.getD 6 undef=.int .i64 n:=(Hf hag 6).trans rfl;exact Hj
    ·refine aA.of rfl fun T W hag hJ hd=>?_;have d5:T.getD 37 undef=.int .i64 n:=Hg hd 5 rfl;obtain ⟨i0,hi0,hz0,hz1,hz2⟩:=info_parts xM;refine iU 174 (.tmp 37) (.tmp 37) rfl 262 i0 _ 64 Tryz.underlying174 hi0 hz0 hz1 n .i64 .i64 d5 d5 (by rw [hz2];omega) (by simp only [maxLen];omega) ?_;intro w' hrow hgr hsz;rw [sn] at hrow;refine ⟨_,rfl,⟨W.heap.size,rfl,hJ.1.size,hrow,fun g hg=>by injection hg with hg;exact hg.symm⟩,⟨hJ.1.trans' (aD.of_grown hgr) (fun x hx=>by cases hx),hJ.2.keep fun x hx _=>hgr.block x hx Hb⟩,?_⟩;exact hgr
    ·refine aA.of rfl fun T W hag hJ hd=>?_;obtain ⟨g,(d6:T.getD 38 undef=_),hg,hrow⟩:=Hg hd 6 rfl;obtain ⟨i0,hi0,hz0,hz1,hz2⟩:=info_parts pg;refine gf 170 (.tmp 38) rfl 174 i0 _ 1 Tryz.underlying170 hi0 hz0 hz1 Hd Hd _ d6 rfl ?_;refine ⟨_,rfl,⟨W.heap.size,g,rfl,hJ.1.size,heap_alloc_new W _,hg,hrow.keep fun x hx _=>Below.heap_alloc W _ x hx⟩,⟨hJ.1.alloc _,hJ.2.keep fun x hx _=>Below.heap_alloc W _ x hx⟩,?_⟩;exact World.grownBy_alloc W _ _
    ·refine aA.of rfl fun T W hag hJ hd=>?_;have d4:T.getD 36 undef=v14:=Hg hd 4 rfl;obtain ⟨x,g,(d7:T.getD 39 undef=_),hx1,hx2,hg,hrow⟩:=Hg hd 7 rfl;obtain ⟨i0,hi0,hz0,hz1,hz2⟩:=info_parts pg;refine iW (.tmp 36) (.tmp 39) 170 rfl 174 i0 _ 1 24 Tryz.underlying170 hi0 hz0 hz1 hz2 rfl Hd v14 k vs d4 _ hJ.2 ⟨x,0,none⟩ 1 1 [.slice (some ⟨g,0,none⟩) n n] d7 rfl (World.news_of_block hx2) (fun u hu=>by rw [List.mem_singleton.1 hu];rfl) (by simp only [maxLen];omega) Ha ?_;intro v' w' hnew hgr hold;refine ⟨_,rfl,⟨g,hg,hnew.owner ?_,hrow.keep fun y hy e=>hgr.block y hy (fun e2=>?_)⟩,⟨hJ.1.trans' (aD.of_grown hgr) (fun y hy=>Or.inl hy.symm),hold⟩,hgr⟩
     ·intro y _ hy;rcases hy with hy | hy
      ·exact Or.inl hy
      ·exact Or.inr (by have:=hJ.1.size;omega)
     ·have:=(hJ.2.2 y e2.symm).2.1;omega
    ·refine aA.of rfl fun T W hag hJ hd=>?_;have d0:T.getD 32 undef=_:=Hg hd 0 rfl;exact Hj
    ·refine aA.of rfl fun T W hag hJ hd=>?_;have d9:T.getD 41 undef=_:=Hg hd 9 rfl;exact Hj
    ·refine jK.of rfl fun T' W hag hJ hd=>?_;have d10:T'.getD 42 undef=_:=hd 10 _ Hb rfl;obtain ⟨g,hg,hnew,hrow⟩:=hd 8 _ Hb rfl;obtain ⟨v,d8⟩:∃ v,T'.getD 40 undef=v:=⟨_,rfl⟩
     replace hnew:aG W _ _ 1 (T'.getD 40 undef) _ _:=hnew;rw [d8] at hnew;obtain ⟨A2,cq,rfl,hz1,hz2⟩:=hnew.val;have hqW:W.heap[q]?=_:=(hJ.1.block q (ai HN.out.hd) HQN.out).trans HN.out.hd;have hst:(W.setCell ⟨q,1,none⟩ (.slice A2 (k+1) cq)).heap[q]?=some (.cells #[v92,.slice A2 (k+1) cq,.slice none 0 0,vu,.bool false,.int .i64 0] 173 (0,0)):=ah hqW _;have hrl:=HRL.out;have hpush:=pH.push (q:=q) (f:=1) (row:=zeroRow (n:Int)) HB1.out HN.out.hd (by rw [hrl];exact HT1.out) HT2.out hJ.1 (by rw [hrl];exact hnew) hg (by unfold zeroRow;rw [sm,List.length_replicate,Int.toNat_natCast];exact hrow) ⟨q,1,none⟩ rfl (.slice A2 (k+1) cq);have hoth:=pH.other (q:=q) (g:=g) (k:=k) HN.out.hd HN.out.t9 Ha Ha Ha HT1.out hJ.1 ⟨q,1,none⟩ rfl (.slice A2 (k+1) cq);have hun:aG (W.setCell ⟨q,1,none⟩ (.slice A2 (k+1) cq)) (fun x=>B<=x) 3 1 vu R (rH (List.replicate R 0)):=by
      refine ⟨⟨HN.out.un.1.1,?_⟩,HN.out.un.2⟩;rcases HN.out.un.1.2 with h0 | ⟨b,cap,cur,rfl,q0,q1,q2⟩
      ·exact Or.inl h0
      ·exact Or.inr ⟨b,cap,cur,rfl,q0,by rw [Below.heap_setCell _ _ _ _ (mQ HN.out.hd q1 Hd),hJ.1.block b (ai q1) (fun e=>by
        rcases HT1.out.1.2 with ⟨e',_⟩ | ⟨b',_,c',e',_,hc',_⟩
        ·rw [e'] at e;cases e
        ·rw [e'] at e;injection e with e;dsimp only at e;subst e;rw [q1] at hc';injection hc' with hc';injection hc' with _ hc';exact absurd hc' Hd)];exact q1,q2⟩
     have hbel:Below B w0 (W.setCell ⟨q,1,none⟩ (.slice A2 (k+1) cq)):=HW1.out.trans ((hJ.1.below HB1.out (fun x hx=>(HT1.out.2 x hx).1)).setCell (by exact HN.out.hq) _);rw [hrl] at hpush;have hnewat:so (W.setCell ⟨q,1,none⟩ (.slice A2 (k+1) cq)) B q vu R (fun x=>if x<w2.heap.size then T2 x else if x=g then 2*k+2+1 else 1) v92 (.slice A2 (k+1) cq) (rows++[zeroRow (n:Int)]) (rows++[zeroRow (n:Int)]):=⟨hst,HN.out.hq,hoth,hpush,hun⟩
     have HM:=He (And.intro hnewat hbel);have c0:W.cell? ⟨q,1,none⟩=some v14:=af hqW 1;have f0:W.frozen? ⟨q,1,none⟩=false:=az hqW 1;have d8':=d8;have d10':=d10;rw [Array.getD_eq_getD_getElem?] at d8' d10';have HAG:=He hag;clear hag hd hqW hst hrl hpush hoth hun hbel hnewat hnew hrow;go_simp;obtain ⟨fT,hf,hT⟩:=aH HAG.out;generalize (W.setCell ⟨q,1,none⟩ (.slice A2 (k+1) cq))=W2 at *;clear HAG hf d8 d10 d8' d10' c0 f0;rw [hT];clear hT;simp only [List.filterMap_cons,List.filterMap_nil,List.foldl_cons,List.foldl_nil,List.setIfInBounds_toArray,List.set_cons_succ,List.set_cons_zero];go_wp2
     go_roundw
     case rel=>exact ⟨k+1,_,_,_,by go_num,Ha,by rw [HSN.out];exact HM.out.1,HM.out.2⟩
     case measure=>simp [intOf];omega
  ·obtain rfl:k=R:=Ha;rw [List.take_of_length_le (by rw [HR.out];exact Nat.le_refl _)] at hn;have HN:=He hn;have HB1:=He hb;clear hn hb;go_wp2
   go_ret2
   obtain ⟨F,hF,hFB⟩:=xP HN.out (by rw [HR.out]) HOK.out;rw [HBB.out] at hFB;exact ⟨⟨q,F,rfl,hF,hFB⟩,by have:=HB1.out;rw [HBB.out] at this;exact this⟩
theorem CP {w:World} {O:Nat->de} {hp:Nat} {L:jd} {m:DM} (h:df w O hp L m) (r i:Int) (hr:i64 r) (hi:i64 i) (A:Option Addr) (n c:Nat) (hb:ig m r i=false\/n≠64) (hn:n<=1000000) :
 Calls Tryz.prog 188 #[.pointer (some ⟨hp,0,none⟩),.int .i64 r,.int .i64 i,.slice A n c] w fun e w'=>e=.returned (.bool false)/\w=w':=by
 have hB:=He (gw h r i hr hi);clear h;cases hq:ig m r i
 ·rw [hq] at hB;clear hb hq;go_enter Tryz.func188,Tryz.ntmps188;go_wp2_with fail
  refine hB.out.mono ?_;rintro e w' ⟨rfl,rfl⟩;go_wp2;go_ret;exact ⟨rfl,rfl⟩
 ·rw [hq] at hB;have hn64:n≠64:=by rcases hb with hb | hb;rw [hq] at hb;cases hb;exact hb
  have h1:((n:Int) != 64)=true:=by rw [bne_iff_ne];omega
  clear hb hq hn64;go_enter Tryz.func188,Tryz.ntmps188;go_wp2_with fail
  refine hB.out.mono ?_;rintro e w' ⟨rfl,rfl⟩;go_wp2;go_ret;exact ⟨rfl,rfl⟩
theorem rK {w:World} {O:Nat->de} {hp:Nat} {L:jd} {m:DM} (h:df w O hp L m) (r i:Int) (hr:i64 r) (hi:i64 i) (A:Option Addr) (c:Nat) (hb:ig m r i=true) (hst:aF m=true) :
 Calls Tryz.prog 188 #[.pointer (some ⟨hp,0,none⟩),.int .i64 r,.int .i64 i,.slice A 64 c] w fun e w'=>e=.returned (.bool true)/\w=w':=by
 have hB:=He (gw h r i hr hi);have hS:=He (ji h);rw [hb] at hB;rw [hst] at hS;clear h hb hst;go_enter Tryz.func188,Tryz.ntmps188;go_wp2_with fail
 refine hB.out.mono ?_;rintro e w' ⟨rfl,rfl⟩;go_wp2_with fail
 refine hS.out.mono ?_;rintro e w' ⟨rfl,rfl⟩;go_wp2;go_ret;exact ⟨rfl,rfl⟩
theorem xQ {w:World} {O:Nat->de} {hp:Nat} {L:jd} {m:DM} (h:df w O hp L m) (r:Int) (hr:i64 r) (hb:jM m r=false) :
 Calls Tryz.prog 190 #[.pointer (some ⟨hp,0,none⟩),.int .i64 r] w fun e w'=>e=.returned (.bool false)/\w=w':=by
 have hB:=He (gZ h r hr);rw [hb] at hB;clear h hb;go_enter Tryz.func190,Tryz.ntmps190;go_wp2_with fail
 refine hB.out.mono ?_;rintro e w' ⟨rfl,rfl⟩;go_wp2;go_ret;exact ⟨rfl,rfl⟩
theorem o4 {w:World} {O:Nat->de} {hp:Nat} {L:jd} {m:DM} (h:df w O hp L m) (r:Int) (hr:i64 r) (hb:jM m r=true) (hst:aF m=true) :
 Calls Tryz.prog 190 #[.pointer (some ⟨hp,0,none⟩),.int .i64 r] w fun e w'=>e=.returned (.bool true)/\w=w':=by
 have hB:=He (gZ h r hr);have hS:=He (ji h);rw [hb] at hB;rw [hst] at hS;clear h hb hst;go_enter Tryz.func190,Tryz.ntmps190;go_wp2_with fail
 refine hB.out.mono ?_;rintro e w' ⟨rfl,rfl⟩;go_wp2_with fail
 refine hS.out.mono ?_;rintro e w' ⟨rfl,rfl⟩;go_wp2;go_ret;exact ⟨rfl,rfl⟩
def DM.doWrite (m:DM) (r i:Int) (bs:List Int):DM:=if ig m r i=true/\bs.length=64/\aF m=false then m.write r.toNat i.toNat bs else m
def lj (m:DM) (r i:Int) (bs:List Int):Bool:=ig m r i&&decide (bs.length=64)
theorem pI {m:DM} {r i:Int} (h:ig m r i=true):∃ (rn j:Nat) (row:List (List Int)),r=(rn:Int)/\i=(j:Int)/\m.now[rn]?=some row/\j<row.length:=by
 unfold ig jM at h;simp only [Bool.and_eq_true,decide_eq_true_eq] at h;obtain ⟨⟨h1,h2⟩,h3,h4⟩:=h;refine ⟨r.toNat,i.toNat,m.now[r.toNat]'Ha,Ha,Ha,List.getElem?_eq_getElem _,?_⟩;have:tW m.now r.toNat=(m.now[r.toNat]'Ha).length:=jN (List.getElem?_eq_getElem _);omega
theorem f7.refl {w:World} {F:Nat->Prop} {hp:Nat} {m:DM} (h:pe w F hp m):f7 w w F hp m:=⟨F,h,aD.refl _ _,fun k hk=>Or.inl hk⟩
theorem AD {w:World} {F:Nat->Prop} {hp:Nat} {m:DM} (h:pe w F hp m) (r i:Int) (hr:i64 r) (hi:i64 i) (A:Option Addr) (bs:List Int) (c:Nat) (hB:ax bs) (hy:dD w A bs) (hl:bs.length<=1000000) (hmax:m.done.length<=1000000) :
 Calls Tryz.prog 188 #[.pointer (some ⟨hp,0,none⟩),.int .i64 r,.int .i64 i,.slice A bs.length c] w fun e w'=>e=.returned (.bool (lj m r i bs))/\f7 w w' F hp (m.doWrite r i bs):=by
 obtain ⟨O,L,h1,h2,h3⟩:=h;by_cases hb:ig m r i=true/\bs.length=64
 ·have ho:lj m r i bs=true:=by unfold lj;rw [hb.1,hb.2];rfl
  rw [ho];cases hst:aF m
  ·obtain ⟨rn,j,row,rfl,rfl,hrow,hj⟩:=pI hb.1;have:m.doWrite rn j bs=m.write rn j bs:=by unfold DM.doWrite;rw [if_pos ⟨hb.1,hb.2,hst⟩];rfl
   rw [this,hb.2];exact Az ⟨O,L,h1,h2,h3⟩ rn j hrow hj A bs c ⟨hb.2,hB⟩ hy hst hmax
  ·have:m.doWrite r i bs=m:=by unfold DM.doWrite;rw [if_neg (by rw [hst];simp)]
   rw [this,hb.2];refine (rK h1 r i hr hi A c hb.1 hst).mono ?_;rintro e w' ⟨rfl,rfl⟩;exact ⟨rfl,f7.refl ⟨O,L,h1,h2,h3⟩⟩
 ·have ho:lj m r i bs=false:=by
   unfold lj;cases hq:ig m r i
   ·rfl
   ·have:¬ bs.length=64:=fun e=>hb ⟨hq,e⟩;simp [this]
  have hd:m.doWrite r i bs=m:=by unfold DM.doWrite;rw [if_neg (fun h=>hb ⟨h.1,h.2.1⟩)]
  rw [ho,hd];refine (CP h1 r i hr hi A bs.length c ?_ hl).mono ?_
  ·cases hq:ig m r i
   ·exact Or.inl rfl
   ·exact Or.inr (fun e=>hb ⟨hq,e⟩)
  ·rintro e w' ⟨rfl,rfl⟩;exact ⟨rfl,f7.refl ⟨O,L,h1,h2,h3⟩⟩
def DM.doBarrier (m:DM) (r:Int):DM:=if jM m r=true/\aF m=false then m.barrier r.toNat else m
theorem vo {w:World} {F:Nat->Prop} {hp:Nat} {m:DM} (h:pe w F hp m) (r:Int) (hr:i64 r) (hmax:m.done.length<1000000) :
 Calls Tryz.prog 190 #[.pointer (some ⟨hp,0,none⟩),.int .i64 r] w fun e w'=>e=.returned (.bool (jM m r))/\f7 w w' F hp (m.doBarrier r):=by
 obtain ⟨O,L,h1,h2,h3⟩:=h;cases hb:jM m r
 ·have hd:m.doBarrier r=m:=by unfold DM.doBarrier;rw [hb,if_neg Hb]
  rw [hd];refine (xQ h1 r hr hb).mono ?_;rintro e w' ⟨rfl,rfl⟩;exact ⟨rfl,f7.refl ⟨O,L,h1,h2,h3⟩⟩
 ·cases hst:aF m
  ·have hd:m.doBarrier r=m.barrier r.toNat:=by unfold DM.doBarrier;rw [hb,hst,if_pos Hb]
   rw [hd];have hb':=hb;unfold jM at hb';simp only [Bool.and_eq_true,decide_eq_true_eq] at hb';obtain ⟨rn,rfl⟩:∃ rn:Nat,r=(rn:Int):=⟨r.toNat,Ha⟩
   exact vl ⟨O,L,h1,h2,h3⟩ rn Ha hst hmax
  ·have hd:m.doBarrier r=m:=by unfold DM.doBarrier;rw [hst,if_neg Hb]
   rw [hd];refine (o4 h1 r hr hb hst).mono ?_;rintro e w' ⟨rfl,rfl⟩;exact ⟨rfl,f7.refl ⟨O,L,h1,h2,h3⟩⟩
def zq (m:DM) (r i:Int) (w0:World) (v:Value) (w:World):Prop :=
 (ig m r i=false/\v=.tuple #[.slice none 0 0,.bool false]) \/
 (ig m r i=true/\∃ (q:Nat) (b:List Int),(m.now.getD r.toNat [])[i.toNat]?=some b/\cG b/\v=.tuple #[.slice (some ⟨q,0,none⟩) 64 64,.bool true]/\w0.heap.size<=q/\w.heap[q]?=some (.cells (Bs b).toArray 262 (0,0)))
theorem AE {w:World} {F:Nat->Prop} {hp:Nat} {m:DM} (h:pe w F hp m) (r i:Int) (hr:i64 r) (hi:i64 i) :
 Calls Tryz.prog 151 #[.pointer (some ⟨hp,0,none⟩),.int .i64 r,.int .i64 i] w fun e w'=>(∃ v,e=.returned v/\zq m r i w v w')/\Below w.heap.size w w':=by
 obtain ⟨O,L,h1,h2,h3⟩:=h;cases hb:ig m r i
 ·refine (EN h1 r i hr hi hb).mono ?_;rintro e w' ⟨rfl,rfl⟩;exact ⟨⟨_,rfl,Or.inl ⟨hb,rfl⟩⟩,Below.refl _ _⟩
 ·obtain ⟨rn,j,row,rfl,rfl,hrow,hj⟩:=pI hb;obtain ⟨b,hbk⟩:∃ b,row[j]?=some b:=⟨_,List.getElem?_eq_getElem hj⟩
  refine (CL h1 rn j hrow hbk).mono ?_;rintro e w' ⟨⟨q,rfl,hq,hc⟩,hbel⟩;refine ⟨⟨_,rfl,Or.inr ⟨hb,q,b,?_,(h1.ok.rows _ _ hrow).2 b (List.mem_of_getElem? hbk),rfl,hq,hc⟩⟩,hbel⟩;rw [Int.toNat_natCast,Int.toNat_natCast,List.getD,hrow];exact hbk
structure DS (w0 W:World) (P:Nat->Prop) (q:Nat) (m:DM):Prop where
 dev:∃ F,pe W F q m/\(∀ k,F k->w0.heap.size<=k)/\∀ k,P k->¬ F k
 low:∀ k,P k->k<W.heap.size
 bel:Below w0.heap.size w0 W
structure bv (P:Nat->Prop) (w w':World):Prop where
 blk:∀ k,P k->w'.heap[k]?=w.heap[k]?
 size:w.heap.size<=w'.heap.size
theorem bv.trans {P:Nat->Prop} {a b c:World} (h:bv P a b) (k:bv P b c):bv P a c:=⟨fun x hx=>(k.blk x hx).trans (h.blk x hx),Nat.le_trans h.size k.size⟩
theorem DS.next {w0 W W':World} {P:Nat->Prop} {q:Nat} {m m':DM} (h:DS w0 W P q m) {F:Nat->Prop} (hF:∀ k,F k->w0.heap.size<=k) (hP:∀ k,P k->¬ F k) (hs:f7 W W' F q m'):DS w0 W' P q m'/\bv P W W':=by
 obtain ⟨F',h1,h2,h3⟩:=hs;have hsz:=h.bel.size;refine ⟨⟨⟨F',h1,fun k hk=>?_,fun k hk hf=>?_⟩,fun k hk=>Nat.lt_of_lt_of_le (h.low k hk) h2.size,h.bel.trans (h2.below hsz hF)⟩,fun k hk=>h2.block k (h.low k hk) (hP k hk),h2.size⟩
 ·rcases h3 k hk with h4 | h4
  ·exact hF k h4
  ·omega
 ·rcases h3 k hf with h4 | h4
  ·exact hP k hk h4
  ·have:=h.low k hk;omega
theorem DS.below {w0 W W':World} {P P':Nat->Prop} {q:Nat} {m:DM} (h:DS w0 W P q m) (hb:Below W.heap.size W W') (hP:∀ k,P' k->P k\/(W.heap.size<=k/\k<W'.heap.size)):DS w0 W' P' q m:=by
 obtain ⟨F,h1,h2,h3⟩:=h.dev;obtain ⟨O,L,g1,g2,g3⟩:=h1;refine ⟨⟨F,pe.below ⟨O,L,g1,g2,g3⟩ hb,h2,fun k hk hf=>?_⟩,fun k hk=>?_,h.bel.trans (hb.mono h.bel.size)⟩
 ·rcases hP k hk with h4 | h4
  ·exact h3 k h4 hf
  ·have:=g3 k hf;omega
 ·rcases hP k hk with h4 | h4
  ·have:=h.low k h4;have:=hb.size;omega
  ·exact h4.2
theorem DS.same {w0 W W':World} {P:Nat->Prop} {q:Nat} {m:DM} (h:DS w0 W P q m) (hb:Below W.heap.size W W'):bv P W W':=⟨fun k hk=>hb.block k (h.low k hk),hb.size⟩
section
variable {w0 W:World} {P:Nat->Prop} {q:Nat} {m:DM}
theorem DS.write (h:DS w0 W P q m) (r i:Int) (hr:i64 r) (hi:i64 i) (A:Option Addr) (bs:List Int) (c:Nat) (hB:ax bs) (hy:dD W A bs) (hl:bs.length<=1000000) (hmax:m.done.length<=1000000) :
 Calls Tryz.prog 188 #[.pointer (some ⟨q,0,none⟩),.int .i64 r,.int .i64 i,.slice A bs.length c] W fun e w'=>e=.returned (.bool (lj m r i bs))/\DS w0 w' P q (m.doWrite r i bs)/\bv P W w':=by
 obtain ⟨F,h1,h2,h3⟩:=h.dev;exact (AD h1 r i hr hi A bs c hB hy hl hmax).mono fun e w' ⟨he,hs⟩=>⟨he,h.next h2 h3 hs⟩
theorem DS.barrier (h:DS w0 W P q m) (r:Int) (hr:i64 r) (hmax:m.done.length<1000000) :
 Calls Tryz.prog 190 #[.pointer (some ⟨q,0,none⟩),.int .i64 r] W fun e w'=>e=.returned (.bool (jM m r))/\DS w0 w' P q (m.doBarrier r)/\bv P W w':=by
 obtain ⟨F,h1,h2,h3⟩:=h.dev;exact (vo h1 r hr hmax).mono fun e w' ⟨he,hs⟩=>⟨he,h.next h2 h3 hs⟩
theorem DS.read (h:DS w0 W P q m) (r i:Int) (hr:i64 r) (hi:i64 i) :
 Calls Tryz.prog 151 #[.pointer (some ⟨q,0,none⟩),.int .i64 r,.int .i64 i] W fun e w'=>(∃ v,e=.returned v/\zq m r i W v w')/\Below W.heap.size W w':=by
 obtain ⟨F,h1,h2,h3⟩:=h.dev;exact AE h1 r i hr hi
end
def b7:List Int:=7 :: List.replicate 63 0
theorem G0 (W:World) (g:Nat) (zs:List Int) (n:Nat) (hn:zs.length=n) (hm:mP zs=true) (hI:CB zs) (t:TypeId) (hb:W.heap[g]?=some (.cells ((zs.map (Value.int .i64)).toArray) t (0,0))) :
 Calls Tryz.prog 40 #[.slice (some ⟨g,0,none⟩) n n] W fun e w'=>(∃ q F,e=.returned (.tuple #[.pointer (some ⟨q,0,none⟩),.bool true])/\pe w' F q (DM.make zs)/\∀ k,F k->W.heap.size<=k)/\Below W.heap.size W w':=by
 subst hn;refine EQ (some ⟨g,0,none⟩) zs _ W hI (fun i x hx=>⟨_,rfl,?_⟩) hm;rw [Addr.add_mid,Nat.zero_add,af hb,List.getElem?_toArray,List.getElem?_map,hx];rfl
theorem DS.made {w0 W W':World} {F:Nat->Prop} {q:Nat} {m:DM} (hb0:Below w0.heap.size w0 W) (h1:pe W' F q m) (h2:∀ k,F k->W.heap.size<=k) (hb:Below W.heap.size W W'):DS w0 W' (fun k=>k<W.heap.size) q m:=by
 have:=hb0.size;have:=hb.size;exact ⟨⟨F,h1,fun k hk=>by have:=h2 k hk;omega,fun k hk hf=>by have:=h2 k hf;omega⟩,fun k hk=>Ha,hb0.trans (hb.mono hb0.size)⟩
theorem fD (m:DM) (r i:Int) (b:List Int):(m.doWrite r i b).done.length<=m.done.length+1:=by
 unfold DM.doWrite;split
 ·unfold DM.write;simp
 ·omega
theorem cH (m:DM) (r:Int):(m.doBarrier r).done.length<=m.done.length+1:=by
 unfold DM.doBarrier;split
 ·unfold DM.barrier DM.settle;simp
 ·omega
section
variable {H:Type} {enc:TypeId × Value->H} {w:World} {base:Nat} {spare:Nat->Bool} {held:Bool}
end
def fU:List dd->Nat->(Nat->Bool)->Nat->List (List Int)->List (List Int)
 | [],_,_,_,s=>s
 | x :: l,r,kept,nth,s=>if x.r=r then (if x.i=65535 then s else fU l r kept (nth+1) (if kept nth then s.set x.i x.b else s)) else fU l r kept nth s
theorem nR (s:List (List (List Int))) (r i:Nat) (b:List Int):(bX s r i b).getD r []=(s.getD r []).set i b:=by
 unfold bX;by_cases h:r<s.length
 ·simp [List.getD,h]
 ·simp [List.getD,List.getElem?_eq_none (by omega:s.length<=r),List.set_eq_of_length_le (by omega:s.length<=r)]
theorem oF (s:List (List (List Int))) (r i:Nat) (b:List Int) {k:Nat} (h:k≠r):(bX s r i b).getD k []=s.getD k []:=by
 unfold bX;simp [List.getD,Ne.symm h]
theorem kB:∀ (l:List dd) (r:Nat) (kept:Nat->Bool) (nth:Nat) (s:List (List (List Int))),(bC l r kept nth s).getD r []=fU l r kept nth (s.getD r [])
 | [],_,_,_,_=>rfl
 | x :: l,r,kept,nth,s=>by
   unfold bC fU;by_cases e:x.r=r
   ·rw [if_pos e,if_pos e];split
    ·rfl
    ·rw [kB];split
     ·rw [e,nR]
     ·rfl
   ·rw [if_neg e,if_neg e,kB]
theorem jx:∀ (l:List dd) (r:Nat) (kept:Nat->Bool) (nth:Nat) (s:List (List (List Int))) (k:Nat),k≠r->(bC l r kept nth s).getD k []=s.getD k []
 | [],_,_,_,_,_,_=>rfl
 | x :: l,r,kept,nth,s,k,hk=>by
   unfold bC;by_cases e:x.r=r
   ·rw [if_pos e];split
    ·rfl
    ·rw [jx _ _ _ _ _ _ hk];split
     ·rw [e,oF _ _ _ _ hk]
     ·rfl
   ·rw [if_neg e,jx _ _ _ _ _ _ hk]
def tY (l:List dd) (r:Nat):Nat:=(l.filter (fun x=>x.r==r)).length
theorem nS (l:List dd) (x:dd) (r:Nat) (kept:Nat->Bool) (h:x.r≠r\/x.i=65535):∀ (nth:Nat) (s:List (List Int)),fU (l++[x]) r kept nth s=fU l r kept nth s:=by
 induction l with
 | nil =>
   intro nth s;show fU [x] r kept nth s=s;unfold fU;split
   ·rename_i e;rcases h with h | h
    ·exact absurd e h
    ·rw [if_pos h]
   ·rfl
 | cons y l ih =>
   intro nth s;show fU (y :: (l++[x])) r kept nth s=_;unfold fU;split
   ·split
    ·rfl
    ·exact ih _ _
   ·exact ih _ _
theorem AF (l:List dd) (x:dd) (r:Nat) (kept:Nat->Bool) (hc:∀ y∈l,y.r=r->y.i≠65535) (h:x.r=r) (hi:x.i≠65535):∀ (nth:Nat) (s:List (List Int)),fU (l++[x]) r kept nth s=if kept (nth+tY l r) then (fU l r kept nth s).set x.i x.b else fU l r kept nth s:=by
 induction l with
 | nil =>
   intro nth s;show fU [x] r kept nth s=_;unfold fU;rw [if_pos h,if_neg hi];rfl
 | cons y l ih =>
   intro nth s;have hc':∀ y∈l,y.r=r->y.i≠65535:=fun z hz=>hc z (by simp [hz]);show fU (y :: (l++[x])) r kept nth s=_;by_cases e:y.r=r
   ·have hp:tY (y :: l) r=tY l r+1:=by unfold tY;simp [e]
    have hy:=hc y Hb e;have u1:fU (y :: (l++[x])) r kept nth s=fU (l++[x]) r kept (nth+1) (if kept nth then s.set y.i y.b else s):=by rw [fU,if_pos e,if_neg hy]
    have u2:fU (y :: l) r kept nth s=fU l r kept (nth+1) (if kept nth then s.set y.i y.b else s):=by rw [fU,if_pos e,if_neg hy]
    rw [u1,u2,ih hc',hp,show nth+1+tY l r=nth+(tY l r+1) by omega]
   ·have hp:tY (y :: l) r=tY l r:=by unfold tY;simp [e]
    have u1:fU (y :: (l++[x])) r kept nth s=fU (l++[x]) r kept nth s:=by rw [fU,if_neg e]
    have u2:fU (y :: l) r kept nth s=fU l r kept nth s:=by rw [fU,if_neg e]
    rw [u1,u2,ih hc',hp]
def gx (m:DM) (r:Nat):List (List Int):=m.sure.getD r []
def aE (m:DM) (r:Nat):List (List Int):=m.now.getD r []
def since (m:DM) (r:Nat):List dd:=m.done.drop (m.uns.getD r 0)
theorem vp (m:DM) (r:Nat) (kept:Nat->Bool):gx (m.settle r kept) r=fU (since m r) r kept 0 (gx m r):=kB _ _ _ _ _
theorem mR (m:DM) (r:Nat) (kept:Nat->Bool) {k:Nat} (hk:k≠r):gx (m.settle r kept) k=gx m k/\since (m.settle r kept) k=since m k:=by
 refine ⟨jx _ _ _ _ _ _ hk,?_⟩;unfold since DM.settle;simp [List.getD,Ne.symm hk]
theorem tZ {m:DM} (h:m.Ok) {r:Nat} (hr:r<m.now.length) (kept:Nat->Bool):since (m.settle r kept) r=[]:=by
 unfold since DM.settle;have:r<m.uns.length:=by rw [h.unsLen];exact hr
 simp [List.getD,this]
structure pJ (m:DM):Prop where
 clean:∀ r,r<m.now.length->∀ x∈since m r,x.r=r->x.i≠65535
 full:∀ r,r<m.now.length->fU (since m r) r (fun _=>true) 0 (gx m r)=aE m r
theorem pJ.make (zs:List Int):pJ (DM.make zs) where
 clean:=fun r _ x hx=>by unfold since DM.make at hx;simp at hx
 full:=fun r _=>by
  have:since (DM.make zs) r=[]:=by unfold since DM.make;simp
  rw [this];rfl
theorem jj {m:DM} (h:m.Ok) {k:Nat} (hk:k<m.now.length) (r i:Nat) (b:List Int):since (m.write r i b) k=since m k++[⟨r,i,b⟩]:=by
 unfold since DM.write;show List.drop (m.uns.getD k 0) (m.done++_)=_;obtain ⟨u,hu⟩:∃ u,m.uns[k]?=some u:=⟨_,List.getElem?_eq_getElem (by rw [h.unsLen];exact hk)⟩
 have hle:=h.unss k u hu;have hg:m.uns.getD k 0=u:=by rw [List.getD,hu];rfl
 rw [hg,List.drop_append_of_le_length hle]
theorem pJ.write {m:DM} (h:pJ m) (hm:m.Ok) (r i:Nat) (b:List Int) (hi:i≠65535):pJ (m.write r i b) where
 clean:=fun k hk x hx=>by
  have hk':k<m.now.length:=by have:(m.write r i b).now.length=m.now.length:=by show (bX _ _ _ _).length=_;unfold bX;simp
                              omega
  rw [jj hm hk'] at hx;rcases List.mem_append.1 hx with h1 | h1
  ·exact h.clean k hk' x h1
  ·rw [List.mem_singleton.1 h1];intro _;exact hi
 full:=fun k hk=>by
  have hk':k<m.now.length:=by have:(m.write r i b).now.length=m.now.length:=by show (bX _ _ _ _).length=_;unfold bX;simp
                              omega
  have hs:gx (m.write r i b) k=gx m k:=rfl;rw [jj hm hk',hs];by_cases e:r=k
  ·subst e;rw [AF _ _ _ _ (h.clean r hk') rfl hi,h.full r hk',if_pos rfl];exact (nR _ _ _ _).symm
  ·rw [nS _ _ _ _ (Or.inl e),h.full k hk'];exact (oF _ _ _ _ (Ne.symm e)).symm
theorem mS {m:DM} (h:pJ m) (hm:m.Ok) {r:Nat} (hr:r<m.now.length):gx (m.barrier r) r=aE m r/\(∀ k,k≠r->gx (m.barrier r) k=gx m k)/\(∀ k,aE (m.barrier r) k=aE m k)/\since (m.barrier r) r=[]/\∀ k,k<m.now.length->k≠r->since (m.barrier r) k=since m k++[⟨r,65535,List.replicate 64 0⟩]:=by
 have hw:∀ k,k<m.now.length->since ({ m with done:=m.done++[⟨r,65535,List.replicate 64 0⟩] }:DM) k=since m k++[⟨r,65535,List.replicate 64 0⟩]:=fun k hk=>jj hm hk r 65535 _;have ho:({ m with done:=m.done++[⟨r,65535,List.replicate 64 0⟩] }:DM).Ok:=hm.tell hr;unfold DM.barrier;refine ⟨?_,fun k hk=>(mR _ _ _ hk).1,fun k=>rfl,tZ ho hr _,fun k hk hk'=>?_⟩
 ·rw [vp,hw r hr,nS _ _ _ _ (Or.inr rfl)];exact h.full r hr
 ·rw [(mR _ _ _ hk').2];exact hw k hk
theorem pJ.barrier {m:DM} (h:pJ m) (hm:m.Ok) {r:Nat} (hr:r<m.now.length):pJ (m.barrier r):=by
 obtain ⟨h1,h2,h3,h4,h5⟩:=mS h hm hr;refine ⟨fun k hk x hx=>?_,fun k hk=>?_⟩
 ·have hk':k<m.now.length:=hk;by_cases e:k=r
  ·subst e;rw [h4] at hx;cases hx
  ·rw [h5 k hk' e] at hx;rcases List.mem_append.1 hx with g | g
   ·exact h.clean k hk' x g
   ·rw [List.mem_singleton.1 g];intro e2;exact absurd e2.symm e
 ·have hk':k<m.now.length:=hk;by_cases e:k=r
  ·subst e;rw [h4,h1,h3];rfl
  ·rw [h5 k hk' e,h2 k e,h3,nS _ _ _ _ (Or.inl (Ne.symm e))];exact h.full k hk'
def dU (W:World):Type:={ g:World // Below W.heap.size W g }
instance {W:World}:Nonempty (dU W):=⟨⟨W,Below.refl _ _⟩⟩
def dU.w {W:World} (g:dU W):World:=g.1
theorem dU.below {W:World} (g:dU W):Below W.heap.size W g.w:=g.2
theorem kq {P:Program} {id:Nat} {Q:Exit->Act->World->Prop} {a:Act} {w:World} {l:List Oper} (hm:P.follows .mixedOrders=true) (hB:Region.lexB .any l.toArray=true)
 (h:wpQuiet P l.toArray (fun w'=>∃ n:dU w,w'=n.w) (fun a'=>∀ w',(∃ n:dU w,w'=n.w)->Q .normal a' w') l a):(Code.region id l.toArray true).wp P Q a w :=
 wp_region_quiet (C:=fun w'=>∃ n:dU w,w'=n.w) hm hB ⟨⟨w.drew,(Below.refl _ _).drew⟩,rfl⟩ (by simpa using h)
theorem oG {P:Program} {f:FuncId} {args:Array Value} {W:World} {n:dU W} {v:Value}
 (h:Calls P f args n.w fun e w'=>e=.returned v/\Below n.w.heap.size n.w w'):Calls P f args n.w fun e w''=>e=.returned v/\∃ m:dU W,w''=m.w :=
 h.mono fun _ w' ⟨he,hb⟩=>⟨he,⟨w',n.below.trans (hb.mono n.below.size)⟩,rfl⟩
theorem nT {P:Program} {f:FuncId} {args:Array Value} {W:World} {n:dU W} {v:Value}
 (h:Calls P f args n.w fun e w'=>e=.returned v/\n.w=w'):Calls P f args n.w fun e w''=>e=.returned v/\∃ m:dU W,w''=m.w :=
 h.mono fun _ _ ⟨he,hb⟩=>⟨he,n,hb.symm⟩
theorem dU.keep {W:World} (g:dU W) {b o:Nat} {v:Value} (h:W.cell? ⟨b,o,none⟩=some v):g.w.cell? ⟨b,o,none⟩=some v:=by
 rw [g.below.cell (World.block_lt_of_cell? W _ h)];exact h
section
variable {P:Program} {ops:Array Oper} {md:Region.Mode} {C:World->Prop}
end
end Go.Proofs.YtegjelaejbacnaaGreat
