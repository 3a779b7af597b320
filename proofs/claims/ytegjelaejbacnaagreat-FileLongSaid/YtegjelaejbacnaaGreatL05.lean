/- For FileLong: contracts and facts, part 5. -/
import Derived.WalkSpells
import Derived.ChangeShapes
import Derived.Deep.Slices
import Derived.Deep.Fields
import Derived.ChangeSame
import Derived.ProofKit
import Derived.OpenShut
import Derived.Carry
import Derived.WalkKit
import Derived.Deep.QuietTactic
import Derived.BigQuiet
import Derived.StillTail
import Derived.Test.YtegjelaejbacnaaGreatL01
import Derived.Test.YtegjelaejbacnaaGreatL02
import Derived.Test.YtegjelaejbacnaaGreatL04
set_option maxRecDepth 100000
set_option maxHeartbeats 25600000
set_option linter.unusedSimpArgs false
set_option linter.unusedVariables false
open Go.ChangeShapes Go.WideShapes Go.ChangeAt Go.RowKit Go Go.Deep
namespace Go.Proofs.YtegjelaejbacnaaGreat
theorem qF {P:Program} {w:World} {ops:Array Oper} {rest:List Oper} {o:Oper} {a:Act} {Q:Exit->Act->World->Prop} (A:o.guard=none) (s x:Operand) (t:TypeId) (L:o.op=.call { callee:=.builtin .append,args:=#[s,x],argTypes:=#[t,t] })
 (e:TypeId) (i:TypeInfo) (z:Value) (size d:Nat) (M:P.underlying t=some (.slice e)) (N:P.info? e=some i) (O:i.zero=some z)
 (g:i.size=size) (B:i.bytes=d) (C:z.cells.size=size) (H:0<size)
 (v:Value) (n:Nat) (r:List Value) (R:a.eval s=v) (Own:Nat->Prop) (q:aI w Own e size v n r)
 (I:Addr) (m c:Nat) (b:List Value) (S:a.eval x=.slice (some I) m c) (T:b.length=m*size) (l:∀ j u,b[j]?=some u->w.cell? (I.add j)=some u) (U:∀ u∈b,u.oneCell'=true)
 (K:n+m<=maxLen) (f:(n+m)*d<=140737488355328)
 (h:∀ y p,aI p (fun k=>Own k\/w.heap.size<=k) e size y (n+m) (r++b)->w.grownBy p v.ownBlock->aI p Own e size v n r->wpList P ops Q rest (a.put o.dst y) p):wpList P ops Q (o :: rest) a w :=
 wpList_plain A fun _ V=>jk s x t L e i z size d M N O g B C H v n r R Own q I m c b S T l U K f fun y p W X Y=>V _ _ (h y p W X Y)
theorem Cd (w:World) (E:TypeId) (sz n:Nat) (C:Array Value) (b:n<=maxLen) (c:C.size=n*sz) (Own:Nat->Prop) (d:Own w.heap.size):aI (w.alloc (.cells C E)) Own E sz (.slice (some ⟨w.heap.size,0,none⟩) n n) n C.toList :=
 ⟨World.ownsRow_lit w C n (Nat.zero_le _) b c,fun g a=>by injection a with a;subst a;exact d⟩
section
variable {P:Program} {ops:Array Oper} {T0 T:Array Value} {D:List Deferred} {V:Nat->Value->World->Prop} {J:World->Prop} {R:Nat->Value->Nat->Value->World->Prop} {S:World->World->Prop} {Q:Exit->Act->World->Prop}
end
theorem GL:(Tryz.prog.info? 3).map (fun i=>(i.zero,i.size,i.bytes))=some (some (.int .i64 0),1,8):=Hc
theorem wV {α:Type} {w':World} {g:Nat->Prop} {c:Nat->Nat->Prop} {h d:TypeId} {sz:Nat} {enc:List α->List Value} {v' u:Value} {rows:List (List α)} {row:List α} {vs:List Value}
 (i:aI w' g h 1 v' (rows.length+1) (vs++[u])) (j:∀ r row,rows[r]?=some row->∃ u,vs[r]?=some u/\aI w' (c r) d sz u row.length (enc row)) (k:aI w' (c rows.length) d sz u row.length (enc row)) (l:vs.length=rows.length) :
 cC w' g c h d sz enc v' (rows++[row]):=by
 refine ⟨vs++[u],by rw [List.length_append];exact i,fun r b a=>?_⟩;by_cases e:r<rows.length
 ·rw [List.getElem?_append_left e] at a;obtain ⟨m,n,o⟩:=j r b a;exact ⟨m,by rw [List.getElem?_append_left Ha];exact n,o⟩
 ·have f:=(List.getElem?_eq_some_iff.1 a).1;simp only [List.length_append,List.length_cons,List.length_nil] at f;have p:r=rows.length:=Ha;subst p;rw [List.getElem?_append_right (Nat.le_refl _)] at a;simp at a;subst a;exact ⟨u,by rw [List.getElem?_append_right Ha,l];simp,k⟩
theorem qp:(Tryz.prog.info? 174).map (fun i=>(i.zero,i.size,i.bytes))=some (some (.slice none 0 0),1,24):=Hc
theorem aI.ownerT {w:World} {Own Own':Nat->Prop} {E:TypeId} {sz:Nat} {v:Value} {n:Nat} {xs:List Value} (h:aI w Own E sz v n xs) (c:∀ g a,w.heap[g]?=some (.cells a E (0,0))->v.ownBlock=some g->Own g->Own' g):aI w Own' E sz v n xs:=by
 refine ⟨h.1,fun g b=>?_⟩;rcases h.1.2 with ⟨rfl,_⟩ | ⟨i,d,a,rfl,_,f,_⟩
 ·cases b
 ·injection b with e
  subst e;exact c _ a f rfl (h.2 _ rfl)
theorem aI.apart {w:World} {m n:Nat->Prop} {i j:TypeId} {o p q r:Nat} {k l:Value} {s t:List Value} (u:aI w m i o k q s) (v:aI w n j p l r t) (x:i≠j) {g:Nat} (f:k.ownBlock=some g):l.ownBlock≠some g:=by
 intro c;rcases u.1.2 with ⟨rfl,_⟩ | ⟨a,_,y,rfl,_,h,_⟩
 ·cases f
 ·rcases v.1.2 with ⟨rfl,_⟩ | ⟨b,_,z,rfl,_,d,_⟩
  ·cases c
  ·injection f with f;injection c with c
   dsimp only at f c;subst f;subst c;rw [h] at d;injection d with d;injection d with _ e
   exact x e
theorem Ce:(Tryz.prog.info? 22).map (fun i=>(i.zero,i.size,i.bytes))=some (some (.slice none 0 0),1,24):=Hc
def zeroRow (z:Int):List (List Int):=List.replicate z.toNat (List.replicate 64 0)
theorem zp (z:Int):∀ b∈zeroRow z,cQ b:=fun b a=>by rw [(List.mem_replicate.1 a).2];exact qo
theorem tB (n:Nat):dM (List.replicate n (List.replicate 64 0))=List.replicate (n*64) (.int .u8 0):=by
 induction n with
 | zero=>simp [dM]
 | succ n ih =>
   have:dM (List.replicate (n+1) (List.replicate 64 0))=Bs (List.replicate 64 0)++dM (List.replicate n (List.replicate 64 0)):=by unfold dM;rw [List.replicate_succ,List.flatMap_cons]
   rw [this,ih];unfold Bs;rw [List.map_replicate,List.replicate_append_replicate];congr 1;omega
theorem tC (n:Nat):(madeCells (Value.agg (Array.replicate 64 (.int .u8 0))).cells (n*64)).toList=List.replicate (n*64) (.int .u8 0):=by
 apply List.ext_getElem?;intro j;by_cases hj:j<n*64
 ·simp only [madeCells,Value.cells,Array.toList_map,List.getElem?_map,Array.toList_range,List.getElem?_range hj,Option.map_some,List.getElem?_replicate,hj,if_true];have a:j%64<64:=Ha;simp [a]
 ·simp [madeCells,hj]
def qG (w:World) (B:Nat) (T:Nat->Nat) (p:Nat) (v:Value) (rows:List (List (List Int))):Prop :=
 cC w (fun k=>B<=k/\k<w.heap.size/\T k=p) (fun r k=>B<=k/\k<w.heap.size/\T k=2*r+2+p) 174 262 64 dM v rows
structure tD (w:World) (B q:Nat) (vu:Value) (R:Nat) (T:Nat->Nat) (v9 v14:Value) (rows9 rows14:List (List (List Int))):Prop where
 hd:w.heap[q]?=some (.cells #[v9,v14,.slice none 0 0,vu,.bool false,.int .i64 0] 173 (0,0))
 hq:B<=q
 t9:qG w B T 0 v9 rows9
 t14:qG w B T 1 v14 rows14
 un:aI w (fun k=>B<=k) 3 1 vu R (sK (List.replicate R 0))
theorem nK {w:World} {q g:Nat} {C c:Array Value} {E b:TypeId} {f d:Nat × Nat} (h:w.heap[q]?=some (.cells C E f)) (a:w.heap[g]?=some (.cells c b d)) (i:E≠b):g≠q:=fun e=>by
 subst e;rw [h] at a;injection a with a;injection a with _ a;exact i a
theorem qG.push {i W:World} {B q f:Nat} {T:Nat->Nat} {p:Nat} {v v':Value} {rows:List (List (List Int))} {vs:List Value} {g n:Nat} {row:List (List Int)} {C:Array Value} (hB:B<=i.heap.size)
 (o:i.heap[q]?=some (.cells C 173 (0,0)))
 (z:aI i (fun k=>B<=k/\k<i.heap.size/\T k=p) 174 1 v rows.length vs) (Y:∀ (r:Nat) (row:List (List Int)),rows[r]?=some row->∃ u,vs[r]?=some u/\aI i (fun k=>B<=k/\k<i.heap.size/\T k=2*r+2+p) 262 64 u row.length (dM row))
 (S:aE (fun x=>v.ownBlock=some x) i W) (Z:aI W (fun k=>(B<=k/\k<i.heap.size/\T k=p)\/i.heap.size<=k) 174 1 v' (rows.length+1) (vs++[.slice (some ⟨g,0,none⟩) n n]))
 (hg:i.heap.size<=g) (I:aI W (fun k=>k=g) 262 64 (.slice (some ⟨g,0,none⟩) n n) row.length (dM row)) (a:Addr) (ha:a.block=q) (K:Value) :
 qG (W.setCell a K) B (fun x=>if x<i.heap.size then T x else if x=g then 2*rows.length+2+p else p) p v' (rows++[row]):=by
 subst ha;have s:(W.setCell a K).heap.size=W.heap.size:=by simp [World.setCell]
 have L:W.heap[a.block]?=some (.cells C 173 (0,0)):=by
  rw [S.block _ (ah o) (fun e=>?_)];exact o;rcases z.1.2 with ⟨rfl,_⟩ | ⟨b,_,c1,rfl,_,c,_⟩
  ·cases e
  ·injection e with e;dsimp only at e;subst e;rw [o] at c;injection c with c;injection c with _ c;exact absurd c Hd
 have M:∀ {Own:Nat->Prop} {E:TypeId} {U m:Nat} {u:Value} {V:List Value},E≠173->aI W Own E U u m V->aI (W.setCell a K) Own E U u m V:=fun hE h=>by
  refine ⟨⟨h.1.1,?_⟩,h.2⟩;rcases h.1.2 with j | ⟨b,N,t,rfl,q0,A,O⟩
  ·exact Or.inl j
  ·exact Or.inr ⟨b,N,t,rfl,q0,by rw [Below.heap_setCell _ _ _ _ (nK L A (fun e=>hE e.symm))];exact A,O⟩
 have R:=(I.1.lt g rfl).2;refine wV (vs:=vs) (u:=.slice (some ⟨g,0,none⟩) n n) ?_ (fun r w hr=>?_) ?_ (by have:=z.len;omega)
 ·refine M Hd (Z.ownerT fun b t H he l=>?_);have y:=ah H;rw [s];rcases l with ⟨A,O,q3⟩ | l
  ·exact ⟨A,y,by dsimp only;rw [if_pos O];exact q3⟩
  ·refine ⟨Ha,y,?_⟩;dsimp only;rw [if_neg Ha,if_neg];intro e;subst e;rcases I.1.2 with ⟨j,_⟩ | ⟨b',_,c',j,_,d,_⟩
   ·cases j
   ·injection j with j _ _;injection j with j;injection j with j _ _;subst j
    rw [H] at d;injection d with d;injection d with _ d;exact absurd d Hd
 ·obtain ⟨u,hu,h5⟩:=Y r w hr;refine ⟨u,hu,M Hd ((h5.keep (w':=W) fun x X l=>S.block x X (fun e=>z.apart h5 Hd e ?_)).ownerT fun b t H he l=>?_)⟩
  ·have:=z.2 x e;rcases h5.1.2 with ⟨rfl,_⟩ | ⟨b,_,c1,rfl,_,c,_⟩
   ·exact absurd l.2.2 Ha
   ·exact absurd l.2.2 Ha
  ·rw [s];exact ⟨l.1,ah H,by dsimp only;rw [if_pos l.2.1];exact l.2.2⟩
 ·refine M Hd (I.owner fun x X e=>?_);subst e;rw [s];refine ⟨Ha,R,?_⟩;dsimp only;rw [if_neg Ha,if_pos rfl]
theorem qG.other {d W:World} {B q:Nat} {T:Nat->Nat} {p i:Nat} {v A:Value} {c:List (List (List Int))} {g k:Nat} {C:Array Value} (l:d.heap[q]?=some (.cells C 173 (0,0))) (h:qG d B T i A c) (hp:p<=1) (N:i<=1) (O:p≠i) {vs:List Value} {n:Nat}
 (R:aI d (fun k=>B<=k/\k<d.heap.size/\T k=p) 174 1 v n vs) (H:aE (fun x=>v.ownBlock=some x) d W) (a:Addr) (S:a.block=q) (o:Value) :
 qG (W.setCell a o) B (fun x=>if x<d.heap.size then T x else if x=g then 2*k+2+p else p) i A c:=by
 subst S;have U:(W.setCell a o).heap.size=W.heap.size:=by simp [World.setCell]
 have:=H.size;have I:∀ {Own Own':Nat->Prop} {E:TypeId} {K m:Nat} {u:Value} {L:List Value},E≠173->aI d Own E K u m L->(∀ x,x<d.heap.size->Own x->T x≠p/\Own' x)->aI (W.setCell a o) Own' E K u m L:=fun V h f=>by
  refine ⟨⟨h.1.1,?_⟩,fun b M=>(f b (h.1.lt b M).2 (h.2 b M)).2⟩;rcases h.1.2 with X | ⟨b,s,t,rfl,Y,j,Z⟩
  ·exact Or.inl X
  ·refine Or.inr ⟨b,s,t,rfl,Y,?_,Z⟩;rw [Below.heap_setCell _ _ _ _ (nK l j (fun e=>V e.symm)),H.block b (ah j) (fun e=>(f b (ah j) (h.2 b rfl)).1 (R.2 b e).2.2)];exact j
 obtain ⟨w,t1,t2⟩:=h;refine ⟨w,I Hd t1 fun x y f=>⟨Ha,f.1,Ha,by dsimp only;rw [if_pos y];exact f.2.2⟩,fun r z hr=>?_⟩;obtain ⟨u,hu,t3⟩:=t2 r z hr;exact ⟨u,hu,I Hd t3 fun x y f=>⟨Ha,f.1,Ha,by dsimp only;rw [if_pos y];exact f.2.2⟩⟩
def KZ (q f:Nat) (a:World) (Own:Nat->Prop) (b:Value) (n k:Nat) (vs:List Value) (i:Nat) (v:Value) (w:World):Prop :=
 match i with
 | 0 | 1 | 2 | 9=>v=.pointer (some ⟨q,0,none⟩)
 | 3 | 10=>v=.pointer (some ⟨q,f,none⟩)
 | 4=>v=b
 | 5=>v=.int .i64 n
 | 6=>∃ g,v=.slice (some ⟨g,0,none⟩) n n/\a.heap.size<=g/\aI w (fun x=>x=g) 262 64 (.slice (some ⟨g,0,none⟩) n n) n (List.replicate (n*64) (.int .u8 0))
 | 7=>∃ x g,v=.slice (some ⟨x,0,none⟩) 1 1/\a.heap.size<=x/\w.heap[x]?=some (.cells #[.slice (some ⟨g,0,none⟩) n n] 174 (0,0))/\a.heap.size<=g/\aI w (fun x=>x=g) 262 64 (.slice (some ⟨g,0,none⟩) n n) n (List.replicate (n*64) (.int .u8 0))
 | 8=>∃ g,a.heap.size<=g/\aI w (fun x=>Own x\/a.heap.size<=x) 174 1 v (k+1) (vs++[.slice (some ⟨g,0,none⟩) n n])/\aI w (fun x=>x=g) 262 64 (.slice (some ⟨g,0,none⟩) n n) n (List.replicate (n*64) (.int .u8 0))
 | _=>True
def GM (a:Value) (i:Nat) (w w':World):Prop:=if i=8 then w.grownBy w' a.ownBlock else w.grownBy w' none
theorem KZ.on {q f:Nat} {l:World} {Own:Nat->Prop} {m:Value} {n k:Nat} {vs:List Value} (s:∀ x,m.ownBlock=some x->x<l.heap.size) {i j:Nat} {v:Value} {w w':World} (o:i≠j) (h:KZ q f l Own m n k vs j v w) (b:GM m i w w'):KZ q f l Own m n k vs j v w':=by
 have p:∀ x,x<w.heap.size->l.heap.size<=x->w'.heap[x]?=w.heap[x]?:=fun x a u=>by
  unfold GM at b;split at b
  ·exact b.block x a (fun e=>by have:=s x e.symm;omega)
  ·exact b.block x a Hb
 unfold KZ at *;split <;> try exact h
 ·obtain ⟨g,e,c,d⟩:=h;exact ⟨g,e,c,d.keep fun x a e=>p x a Ha⟩
 ·obtain ⟨x,g,e,c,d,r,t⟩:=h;exact ⟨x,g,e,c,(p x (ah d) c).trans d,r,t.keep fun x a e=>p x a Ha⟩
 ·obtain ⟨g,c,d,r⟩:=h;unfold GM at b;rw [if_neg o] at b;exact ⟨g,c,d.keep fun x a _=>b.block x a Hb,r.keep fun x a _=>b.block x a Hb⟩
 ·trivial
def DM.make (a:List Int):DM:={ now:=a.map zeroRow,sure:=a.map zeroRow,done:=[],uns:=List.replicate a.length 0,stops:=false,left:=0 }
theorem DM.make_ok {d:List Int} (h:nJ d=true):(DM.make d).Ok:=by
 unfold nJ at h;simp only [Bool.and_eq_true,decide_eq_true_eq,Bool.not_eq_true',List.any_eq_false,dx,Bool.or_eq_true,not_or] at h;obtain ⟨g,i,j⟩:=h;have a:∀ (r:Nat) (a:List (List Int)),(d.map zeroRow)[r]?=some a->a.length<=1000/\∀ b∈a,cQ b:=fun r a f=>by
  rw [List.getElem?_map] at f;obtain ⟨z,k,rfl⟩:=Option.map_eq_some_iff.1 f;have:=j z (List.mem_of_getElem? k);exact ⟨by unfold zeroRow;rw [List.length_replicate];omega,zp z⟩
 exact { pos:=by show 0<(d.map zeroRow).length;simpa using g,few:=by show (d.map zeroRow).length<=8;simpa using i,sureLen:=rfl,unsLen:=by show (List.replicate d.length 0).length=(d.map zeroRow).length;simp
         rows:=a,sures:=fun r e f=>⟨⟨e,f,rfl⟩,(a r e f).2⟩,dones:=fun x l=>by cases l
         unss:=fun r u m=>by
          have c:(List.replicate d.length 0)[r]?=some u:=m;rw [List.getElem?_replicate] at c;split at c
          ·injection c with c;omega
          ·cases c
         left:=by show 0<=_;omega }
theorem zq {w:World} {B q R:Nat} {j M t:Value} {T:Nat->Nat} {n:List Int} (h:tD w B q j R T M t (n.map zeroRow) (n.map zeroRow)) (S:n.length=R) (A:(DM.make n).Ok):∃ F,qn w F q (DM.make n)/\∀ k,F k->B<=k:=by
 classical
 obtain ⟨hd,hq,U,V,z⟩:=h
 let O:Nat->dt:=fun x=>if x=q then .hd else if j.ownBlock=some x then .uns else
  if B<=x/\x<w.heap.size then (if T x=0 then .nowT else if T x=1 then .sureT else if T x%2=0 then .now (T x/2-1) else .sure (T x/2-1)) else .none
 have l:∀ x,O x=if x=q then .hd else if j.ownBlock=some x then .uns else
  if B<=x/\x<w.heap.size then (if T x=0 then .nowT else if T x=1 then .sureT else if T x%2=0 then .now (T x/2-1) else .sure (T x/2-1)) else .none:=fun _=>rfl
 clear_value O
 have y:∀ {x i E},w.heap[x]?=some (.cells i E (0,0))->(E≠173->x≠q)/\(E≠3->j.ownBlock≠some x):=by
  intro x i E f;refine ⟨fun C e=>?_,fun C e=>?_⟩
  ·subst e;rw [hd] at f;injection f with f;injection f with _ f;exact C f.symm
  ·rcases z.1.2 with ⟨H,_⟩ | ⟨g,W,N,H,_,X,_⟩
   ·rw [H] at e;cases e
   ·rw [H] at e;injection e with e;dsimp only at e;subst e;rw [X] at f;injection f with f;injection f with _ f;exact C f.symm
 have m:∀ {I:Nat->Prop} {K:Nat->Nat->Prop} {o:Nat->Prop} {p:Nat->Nat->Prop} {v:Value} {rows:List (List (List Int))},cC w I K 174 262 64 dM v rows ->
  (∀ k,(k≠q/\j.ownBlock≠some k)->I k->o k)->(∀ r k,(k≠q/\j.ownBlock≠some k)->K r k->p r k)->cC w o p 174 262 64 dM v rows:=by
  intro I K o p v rows h a b;obtain ⟨Y,Z,t2⟩:=h;refine ⟨Y,Z.ownerT fun g i s _ d=>a g ⟨(y s).1 Hd,(y s).2 Hd⟩ d,fun r L hr=>?_⟩;obtain ⟨u,hu,t3⟩:=t2 r L hr;exact ⟨u,hu,t3.ownerT fun g i s _ d=>b r g ⟨(y s).1 Hd,(y s).2 Hd⟩ d⟩
 refine ⟨fun k=>O k≠.none,⟨O,⟨M,t,.slice none 0 0,j⟩,⟨⟨hd,by rw [l,if_pos rfl],?_,?_,aI.nil _ _ _ _,?_⟩,A⟩,fun _=>Iff.rfl,fun k c=>?_⟩,fun k c=>?_⟩
 ·refine m U (fun k c d=>?_) (fun r k c d=>?_)
  ·rw [l,if_neg c.1,if_neg c.2,if_pos ⟨d.1,d.2.1⟩,if_pos d.2.2]
  ·rw [l,if_neg c.1,if_neg c.2,if_pos ⟨d.1,d.2.1⟩,if_neg Ha,if_neg Ha,if_pos Ha,d.2.2]
   congr 1;omega
 ·refine m V (fun k c d=>?_) (fun r k c d=>?_)
  ·rw [l,if_neg c.1,if_neg c.2,if_pos ⟨d.1,d.2.1⟩,if_neg Ha,if_pos d.2.2]
  ·rw [l,if_neg c.1,if_neg c.2,if_pos ⟨d.1,d.2.1⟩,if_neg Ha,if_neg Ha,if_neg Ha,d.2.2]
   congr 1;omega
 ·show aI w _ _ 1 j (List.replicate n.length 0).length (sK (List.replicate n.length 0));rw [List.length_replicate,S];exact z.ownerT fun g i s he d=>by rw [l,if_neg ((y s).1 Hd),if_pos he]
 ·replace c:O k≠.none:=c;rw [l] at c;split at c
  ·rename_i e;rw [e];exact ah hd
  ·split at c
   ·rename_i e;exact (z.1.lt k e).2
   ·split at c
    ·omega
    ·exact absurd rfl c
 ·replace c:O k≠.none:=c;rw [l] at c;split at c
  ·omega
  ·split at c
   ·rename_i e;exact z.2 k e
   ·split at c
    ·omega
    ·exact absurd rfl c
theorem GO (A:Option Addr) (zs:List Int) (c:Nat) (w0:World) (b5:DX zs) (O:jF w0 A zs) (hm:nJ zs=true) :
 Calls Tryz.prog 40 #[.slice A zs.length c] w0 fun e w'=>(∃ q F,e=.returned (.tuple #[.pointer (some ⟨q,0,none⟩),.bool true])/\qn w' F q (DM.make zs)/\∀ k,F k->w0.heap.size<=k)/\Below w0.heap.size w0 w':=by
 have b6:=DM.make_ok hm;have b8:∀ z∈zs,1<=z/\z<=1000:=by
  unfold nJ at hm;simp only [Bool.and_eq_true,decide_eq_true_eq,Bool.not_eq_true',List.any_eq_false,dx,Bool.or_eq_true,not_or] at hm;intro z hz;have:=hm.2.2 z hz;omega
 have c3:zs.length<=8:=by
  unfold nJ at hm;simp only [Bool.and_eq_true,decide_eq_true_eq] at hm;exact hm.2.1
 have hF:=He (D8 A zs c w0 b5 O Ha);rw [hm] at hF;have HZ:=He b8;have HY:=He O;have cu:=He b6;clear hm b5 O b8 b6;generalize hR:zs.length=R at *;have HR:=He hR;clear hR;obtain ⟨iu,b9,ca,cb,cc⟩:=info_parts GL;have bt:=fun w:World=>run_make (P:=Tryz.prog) w 33 3 iu _ Tryz.underlying33 b9 ca .i64 .i64 R R Ha Ha (by rw [cc];omega) Ha;simp only [Int.toNat_natCast] at bt;generalize hC:madeCells (Value.int .i64 0).cells (R*iu.size)=CU at bt;have cg:CU.toList=sK (List.replicate R 0)/\CU.size=R:=by
  rw [cb,Nat.mul_one] at hC;rw [<- hC];constructor
  ·rw [show (Value.int .i64 0).cells=#[.int .i64 0] from rfl,toList_madeCells_one];unfold sK;rw [List.map_replicate];rfl
  ·simp [madeCells]
 have ch:=He cg;clear hC cg b9 ca cb cc;go_enter Tryz.func40,Tryz.ntmps40;go_wp2_with fail
 refine hF.out.mono ?_;rintro e w' ⟨rfl,rfl⟩;go_wp2_with fail
 obtain ⟨B,hB⟩:∃ B,B=w0.heap.size:=⟨_,rfl⟩
 obtain ⟨q,hq⟩:∃ q,q=w0.heap.size+1:=⟨_,rfl⟩
 obtain ⟨vu,bk⟩:∃ vu:Value,vu=.slice (some ⟨w0.heap.size,0,none⟩) R R:=⟨_,rfl⟩
 have Y:=He hB;clear hB;have h0:tD ((w0.alloc (.cells CU 3)).alloc (.cells #[.slice none 0 0,.slice none 0 0,.slice none 0 0,vu,.bool false,.int .i64 0] 173)) B q vu R (fun _=>0) (.slice none 0 0) (.slice none 0 0) [] []:=by
  subst hq;subst bk;refine ⟨heap_alloc2_new _ _ _,by rw [Y.out];omega,cC.nil _ _ _ _ _ _ _,cC.nil _ _ _ _ _ _ _,?_⟩;have:=Cd w0 3 1 R CU (by simp only [maxLen];omega) (by rw [ch.out.2];omega) (fun k=>B<=k) (by rw [Y.out];exact Nat.le_refl _);rw [ch.out.1] at this;exact this.keep fun k hk _=>Below.heap_alloc _ _ k hk
 have ci:Below B w0 ((w0.alloc (.cells CU 3)).alloc (.cells #[.slice none 0 0,.slice none 0 0,.slice none 0 0,vu,.bool false,.int .i64 0] 173)):=by
  rw [Y.out];exact ((Below.refl _ _).alloc (Nat.le_refl _) _).alloc Hb _
 have H0:=He h0;have ck:=He ci;clear h0 ci;rw [<- hq,<- bk];generalize ((w0.alloc (.cells CU 3)).alloc (.cells #[.slice none 0 0,.slice none 0 0,.slice none 0 0,vu,.bool false,.int .i64 0] 173))=wA at *;have HQ:=He hq;have c4:=He bk;clear hq bk bt
 go_loopw [17] (fun i wr=>∃ (k:Nat) (T:Nat->Nat) (v9 o:Value),i=.int .i64 k/\k<=R/\tD wr B q vu R T v9 o ((zs.take k).map zeroRow) ((zs.take k).map zeroRow)/\Below B w0 wr) (fun i _=>R-(intOf i).toNat)
 case atStart=>exact ⟨0,_,_,_,rfl,Nat.zero_le _,H0.out,ck.out⟩
 case round =>
  obtain ⟨k,T,v9,o,rfl,hk,hn,hb⟩:=hrel;clear H0 ck;by_cases cv:k<R
  ·obtain ⟨z,hz⟩:∃ z,zs[k]?=some z:=⟨_,List.getElem?_eq_getElem (by rw [HR.out];exact cv)⟩
   obtain ⟨a,rfl,hc⟩:=HY.out _ _ hz;have cw:=HZ.out z (List.mem_of_getElem? hz);obtain ⟨n,rfl⟩:∃ n:Nat,z=(n:Int):=⟨z.toNat,Ha⟩
   have cs:n<=1000:=Ha;have bx:wr.cell? (a.add k)=some (.int .i64 n):=by rw [hb.cell (by rw [Y.out];exact World.block_lt_of_cell? w0 _ hc)];exact hc
   have cl:(zs.take (k+1)).map zeroRow=(zs.take k).map zeroRow++[zeroRow (n:Int)]:=by rw [aw hz,List.map_append];rfl
   have cn:((zs.take k).map zeroRow).length=k:=by rw [List.length_map];exact List.length_take_of_le (by rw [HR.out];omega)
   have cx:=He cl;have HK:=He cn;have c5:(k:Int)<R:=Ha;clear hz hc cl cn cw;generalize (zs.take k).map zeroRow=rows at *;obtain ⟨w1,rfl⟩:∃ w1,w1=wr:=⟨wr,rfl⟩
   have bl:=He hb;have a3:B<=w1.heap.size:=by rw [Y.out];exact hb.size
   have Z:=He a3;obtain ⟨vs,t1,t2⟩:=hn.t9;have a1:Hid (rows.length=k):=HK;rw [a1.out] at t1;have s:=He t1;have bn:=He t2;have C:=He hn;have a4:¬ ((v9:Value).ownBlock=some q):=fun e=>by
    rcases t1.1.2 with ⟨e',_⟩ | ⟨b',_,c',e',_,l,_⟩
    ·rw [e'] at e;cases e
    ·rw [e'] at e;injection e with e;dsimp only at e;subst e;rw [hn.hd] at l;injection l with l;injection l with _ l;exact absurd l Hd
   have a2:=He a4;clear t1 t2 a4 a3 hb hn;go_wp2_with fail
   go_upto_region 7 with fail
   go_cut [4,6,17] (fun s4 s6 cz wx=>∃ (T':Nat->Nat) (cA:Value),s4=.pointer (some ⟨q,0,none⟩)/\s6=.int .i64 n/\cz=.int .i64 k/\tD wx B q vu R T' cA o (rows++[zeroRow (n:Int)]) rows/\Below B w0 wx)
   case first =>
    have b0:∀ x,(v9:Value).ownBlock=some x->x<w1.heap.size:=fun x I=>(s.out.1.lt x I).2;have srefl:∀ (i:Nat) (W:World),GM v9 i W W:=fun i W=>by unfold GM;split <;> exact World.grownBy.refl W _
    have a5:aE (fun x=>(v9:Value).ownBlock=some x) w1 w1.drew/\aI w1.drew (fun x=>B<=x/\x<w1.heap.size/\T x=0) 174 1 v9 k vs:=⟨(aE.refl _ _).drew,s.out⟩
    refine gm (KZ q 0 w1 (fun x=>B<=x/\x<w1.heap.size/\T x=0) v9 n k vs) (fun W=>aE (fun x=>(v9:Value).ownBlock=some x) w1 W/\aI W (fun x=>B<=x/\x<w1.heap.size/\T x=0) 174 1 v9 k vs) (GM v9) Hc Hc (fun i j v w w' b1 h K=>h.on b0 b1 K) a5 ?_;clear a5;simp only [cf];refine ⟨?_,?_,?_,?_,?_,?_,?_,?_,?_,?_,?_,?_⟩
    ·refine aC.of rfl fun T W hag hJ hd=>?_;have e4:T.getD 4 undef=.pointer (some ⟨q,0,none⟩):=(Hf hag 4).trans rfl;exact Hj
    ·refine aC.of rfl fun T W hag hJ hd=>?_;have e4:T.getD 4 undef=.pointer (some ⟨q,0,none⟩):=(Hf hag 4).trans rfl;exact Hj
    ·refine aC.of rfl fun T W hag hJ hd=>?_;have d1:T.getD 22 undef=_:=Hg hd 1 rfl;exact Hj
    ·refine aC.of rfl fun T W hag hJ hd=>?_;have d2:T.getD 23 undef=_:=Hg hd 2 rfl;exact Hj
    ·refine aC.of rfl fun T W hag hJ hd=>?_;have d3:T.getD 24 undef=_:=Hg hd 3 rfl;have c0:W.cell? ⟨q,0,none⟩=some v9:=AS hJ.1 (af C.out.hd 0) a2.out;exact Hj
    ·refine aC.of rfl fun T W hag hJ hd=>?_;have e6:T.getD 6 undef=.int .i64 n:=(Hf hag 6).trans rfl;exact Hj
    ·refine aC.of rfl fun T W hag hJ hd=>?_;have d5:T.getD 26 undef=.int .i64 n:=Hg hd 5 rfl;obtain ⟨i0,L,M,H,N⟩:=info_parts zn;refine kA 174 (.tmp 26) (.tmp 26) rfl 262 i0 _ 64 Tryz.underlying174 L M H n .i64 .i64 d5 d5 (by rw [N];omega) (by simp only [maxLen];omega) ?_;intro w' d p cP;rw [tC] at d;refine ⟨_,rfl,⟨W.heap.size,rfl,hJ.1.size,d,fun g K=>by injection K with K;exact K.symm⟩,⟨hJ.1.trans' (aE.of_grown p) (fun x I=>by cases I),hJ.2.keep fun x I _=>p.block x I Hb⟩,?_⟩;exact p
    ·refine aC.of rfl fun T W hag hJ hd=>?_;obtain ⟨g,(d6:T.getD 27 undef=_),K,d⟩:=Hg hd 6 rfl;obtain ⟨i0,L,M,H,N⟩:=info_parts qp;refine gH 170 (.tmp 27) rfl 174 i0 _ 1 Tryz.underlying170 L M H Hd Hd _ d6 rfl ?_;refine ⟨_,rfl,⟨W.heap.size,g,rfl,hJ.1.size,heap_alloc_new W _,K,d.keep fun x I _=>Below.heap_alloc W _ x I⟩,⟨hJ.1.alloc _,hJ.2.keep fun x I _=>Below.heap_alloc W _ x I⟩,?_⟩;exact World.grownBy_alloc W _ _
    ·refine aC.of rfl fun T W hag hJ hd=>?_;have d4:T.getD 25 undef=v9:=Hg hd 4 rfl;obtain ⟨x,g,(d7:T.getD 28 undef=_),hx1,hx2,K,d⟩:=Hg hd 7 rfl;obtain ⟨i0,L,M,H,N⟩:=info_parts qp;refine jk (.tmp 25) (.tmp 28) 170 rfl 174 i0 _ 1 24 Tryz.underlying170 L M H N rfl Hd v9 k vs d4 _ hJ.2 ⟨x,0,none⟩ 1 1 [.slice (some ⟨g,0,none⟩) n n] d7 rfl (World.news_of_block hx2) (fun u hu=>by rw [List.mem_singleton.1 hu];rfl) (by simp only [maxLen];omega) Ha ?_;intro v' w' m p a6;refine ⟨_,rfl,⟨g,K,m.owner ?_,d.keep fun y O e=>p.block y O (fun e2=>?_)⟩,⟨hJ.1.trans' (aE.of_grown p) (fun y O=>Or.inl O.symm),a6⟩,p⟩
     ·intro y _ O;rcases O with O | O
      ·exact Or.inl O
      ·exact Or.inr (by have:=hJ.1.size;omega)
     ·have:=(hJ.2.2 y e2.symm).2.1;omega
    ·refine aC.of rfl fun T W hag hJ hd=>?_;have d0:T.getD 21 undef=_:=Hg hd 0 rfl;exact Hj
    ·refine aC.of rfl fun T W hag hJ hd=>?_;have d9:T.getD 30 undef=_:=Hg hd 9 rfl;exact Hj
    ·refine kd.of rfl fun T' W hag hJ hd=>?_;have a7:T'.getD 31 undef=_:=hd 10 _ Hb rfl;obtain ⟨g,K,m,d⟩:=hd 8 _ Hb rfl;obtain ⟨v,d8⟩:∃ v,T'.getD 29 undef=v:=⟨_,rfl⟩
     replace m:aI W _ _ 1 (T'.getD 29 undef) _ _:=m;rw [d8] at m;obtain ⟨S,U,rfl,H,N⟩:=m.val;have V:W.heap[q]?=_:=(hJ.1.block q (ah C.out.hd) a2.out).trans C.out.hd;have a8:(W.setCell ⟨q,0,none⟩ (.slice S (k+1) U)).heap[q]?=some (.cells #[.slice S (k+1) U,o,.slice none 0 0,vu,.bool false,.int .i64 0] 173 (0,0)):=ai V _;have X:=a1.out;have r:=qG.push (q:=q) (f:=0) (row:=zeroRow (n:Int)) Z.out C.out.hd (by rw [X];exact s.out) bn.out hJ.1 (by rw [X];exact m) K (by unfold zeroRow;rw [tB,List.length_replicate,Int.toNat_natCast];exact d) ⟨q,0,none⟩ rfl (.slice S (k+1) U);have ad:=qG.other (q:=q) (g:=g) (k:=k) C.out.hd C.out.t14 Ha Ha Ha s.out hJ.1 ⟨q,0,none⟩ rfl (.slice S (k+1) U);have a9:aI (W.setCell ⟨q,0,none⟩ (.slice S (k+1) U)) (fun x=>B<=x) 3 1 vu R (sK (List.replicate R 0)):=by
      refine ⟨⟨C.out.un.1.1,?_⟩,C.out.un.2⟩;rcases C.out.un.1.2 with h0 | ⟨b,b2,b3,rfl,q0,q1,q2⟩
      ·exact Or.inl h0
      ·exact Or.inr ⟨b,b2,b3,rfl,q0,by rw [Below.heap_setCell _ _ _ _ (nK C.out.hd q1 Hd),hJ.1.block b (ah q1) (fun e=>by
        rcases s.out.1.2 with ⟨e',_⟩ | ⟨b',_,c',e',_,l,_⟩
        ·rw [e'] at e;cases e
        ·rw [e'] at e;injection e with e;dsimp only at e;subst e;rw [q1] at l;injection l with l;injection l with _ l;exact absurd l Hd)];exact q1,q2⟩
     have an:Below B w0 (W.setCell ⟨q,0,none⟩ (.slice S (k+1) U)):=bl.out.trans ((hJ.1.below Z.out (fun x I=>(s.out.2 x I).1)).setCell (by exact C.out.hq) _);rw [X] at r;have t:tD (W.setCell ⟨q,0,none⟩ (.slice S (k+1) U)) B q vu R (fun x=>if x<w1.heap.size then T x else if x=g then 2*k+2+0 else 0) (.slice S (k+1) U) o (rows++[zeroRow (n:Int)]) rows:=⟨a8,C.out.hq,r,ad,a9⟩
     have HM:=He (And.intro t an);have c0:W.cell? ⟨q,0,none⟩=some v9:=af V 0;have f0:W.frozen? ⟨q,0,none⟩=false:=aA V 0;have bb:=d8;have a0:=a7;rw [Array.getD_eq_getD_getElem?] at bb a0;have bi:=He hag;clear hag hd V a8 X r ad a9 an t m d;go_simp;obtain ⟨fT,hf,hT⟩:=aJ bi.out;generalize (W.setCell ⟨q,0,none⟩ (.slice S (k+1) U))=W2 at *;clear bi hf d8 a7 bb a0 c0 f0;rw [hT];clear hT;simp only [List.filterMap_cons,List.filterMap_nil,List.foldl_cons,List.foldl_nil,List.setIfInBounds_toArray,List.set_cons_succ,List.set_cons_zero];rename_i c1 c2;refine c2 _ _ (c1 _ _ ?_)
     repeat apply Exists.intro
     exact ⟨⟨_,_,rfl,rfl,rfl,HM.out⟩,rfl⟩
   case rest =>
    obtain ⟨T2,cp,rfl,rfl,rfl,bs,b4⟩:=hcut;clear bl Z s bn C a2 a1 bx;obtain ⟨w2,rfl⟩:∃ w2,w2=wc:=⟨wc,rfl⟩
    have bl:=He b4;have a3:B<=w2.heap.size:=by rw [Y.out];exact b4.size
    have Z:=He a3;obtain ⟨vs,t1,t2⟩:=bs.t14;have a1:Hid (rows.length=k):=HK;rw [a1.out] at t1;have s:=He t1;have bn:=He t2;have C:=He bs;have a4:¬ ((o:Value).ownBlock=some q):=fun e=>by
     rcases t1.1.2 with ⟨e',_⟩ | ⟨b',_,c',e',_,l,_⟩
     ·rw [e'] at e;cases e
     ·rw [e'] at e;injection e with e;dsimp only at e;subst e;rw [bs.hd] at l;injection l with l;injection l with _ l;exact absurd l Hd
    have a2:=He a4;clear t1 t2 a4 a3 b4 bs;go_wp2_with fail
    go_upto_region 8 with fail
    have b0:∀ x,(o:Value).ownBlock=some x->x<w2.heap.size:=fun x I=>(s.out.1.lt x I).2;have srefl:∀ (i:Nat) (W:World),GM o i W W:=fun i W=>by unfold GM;split <;> exact World.grownBy.refl W _
    have a5:aE (fun x=>(o:Value).ownBlock=some x) w2 w2.drew/\aI w2.drew (fun x=>B<=x/\x<w2.heap.size/\T2 x=1) 174 1 o k vs:=⟨(aE.refl _ _).drew,s.out⟩
    refine gm (KZ q 1 w2 (fun x=>B<=x/\x<w2.heap.size/\T2 x=1) o n k vs) (fun W=>aE (fun x=>(o:Value).ownBlock=some x) w2 W/\aI W (fun x=>B<=x/\x<w2.heap.size/\T2 x=1) 174 1 o k vs) (GM o) Hc Hc (fun i j v w w' b1 h K=>h.on b0 b1 K) a5 ?_;clear a5;simp only [cf];refine ⟨?_,?_,?_,?_,?_,?_,?_,?_,?_,?_,?_,?_⟩
    ·refine aC.of rfl fun T W hag hJ hd=>?_;have e4:T.getD 4 undef=.pointer (some ⟨q,0,none⟩):=(Hf hag 4).trans rfl;exact Hj
    ·refine aC.of rfl fun T W hag hJ hd=>?_;have e4:T.getD 4 undef=.pointer (some ⟨q,0,none⟩):=(Hf hag 4).trans rfl;exact Hj
    ·refine aC.of rfl fun T W hag hJ hd=>?_;have d1:T.getD 33 undef=_:=Hg hd 1 rfl;exact Hj
    ·refine aC.of rfl fun T W hag hJ hd=>?_;have d2:T.getD 34 undef=_:=Hg hd 2 rfl;exact Hj
    ·refine aC.of rfl fun T W hag hJ hd=>?_;have d3:T.getD 35 undef=_:=Hg hd 3 rfl;have c0:W.cell? ⟨q,1,none⟩=some o:=AS hJ.1 (af C.out.hd 1) a2.out;exact Hj
    ·refine aC.of rfl fun T W hag hJ hd=>?_;have e6:T.getD 6 undef=.int .i64 n:=(Hf hag 6).trans rfl;exact Hj
    ·refine aC.of rfl fun T W hag hJ hd=>?_;have d5:T.getD 37 undef=.int .i64 n:=Hg hd 5 rfl;obtain ⟨i0,L,M,H,N⟩:=info_parts zn;refine kA 174 (.tmp 37) (.tmp 37) rfl 262 i0 _ 64 Tryz.underlying174 L M H n .i64 .i64 d5 d5 (by rw [N];omega) (by simp only [maxLen];omega) ?_;intro w' d p cP;rw [tC] at d;refine ⟨_,rfl,⟨W.heap.size,rfl,hJ.1.size,d,fun g K=>by injection K with K;exact K.symm⟩,⟨hJ.1.trans' (aE.of_grown p) (fun x I=>by cases I),hJ.2.keep fun x I _=>p.block x I Hb⟩,?_⟩;exact p
    ·refine aC.of rfl fun T W hag hJ hd=>?_;obtain ⟨g,(d6:T.getD 38 undef=_),K,d⟩:=Hg hd 6 rfl;obtain ⟨i0,L,M,H,N⟩:=info_parts qp;refine gH 170 (.tmp 38) rfl 174 i0 _ 1 Tryz.underlying170 L M H Hd Hd _ d6 rfl ?_;refine ⟨_,rfl,⟨W.heap.size,g,rfl,hJ.1.size,heap_alloc_new W _,K,d.keep fun x I _=>Below.heap_alloc W _ x I⟩,⟨hJ.1.alloc _,hJ.2.keep fun x I _=>Below.heap_alloc W _ x I⟩,?_⟩;exact World.grownBy_alloc W _ _
    ·refine aC.of rfl fun T W hag hJ hd=>?_;have d4:T.getD 36 undef=o:=Hg hd 4 rfl;obtain ⟨x,g,(d7:T.getD 39 undef=_),hx1,hx2,K,d⟩:=Hg hd 7 rfl;obtain ⟨i0,L,M,H,N⟩:=info_parts qp;refine jk (.tmp 36) (.tmp 39) 170 rfl 174 i0 _ 1 24 Tryz.underlying170 L M H N rfl Hd o k vs d4 _ hJ.2 ⟨x,0,none⟩ 1 1 [.slice (some ⟨g,0,none⟩) n n] d7 rfl (World.news_of_block hx2) (fun u hu=>by rw [List.mem_singleton.1 hu];rfl) (by simp only [maxLen];omega) Ha ?_;intro v' w' m p a6;refine ⟨_,rfl,⟨g,K,m.owner ?_,d.keep fun y O e=>p.block y O (fun e2=>?_)⟩,⟨hJ.1.trans' (aE.of_grown p) (fun y O=>Or.inl O.symm),a6⟩,p⟩
     ·intro y _ O;rcases O with O | O
      ·exact Or.inl O
      ·exact Or.inr (by have:=hJ.1.size;omega)
     ·have:=(hJ.2.2 y e2.symm).2.1;omega
    ·refine aC.of rfl fun T W hag hJ hd=>?_;have d0:T.getD 32 undef=_:=Hg hd 0 rfl;exact Hj
    ·refine aC.of rfl fun T W hag hJ hd=>?_;have d9:T.getD 41 undef=_:=Hg hd 9 rfl;exact Hj
    ·refine kd.of rfl fun T' W hag hJ hd=>?_;have a7:T'.getD 42 undef=_:=hd 10 _ Hb rfl;obtain ⟨g,K,m,d⟩:=hd 8 _ Hb rfl;obtain ⟨v,d8⟩:∃ v,T'.getD 40 undef=v:=⟨_,rfl⟩
     replace m:aI W _ _ 1 (T'.getD 40 undef) _ _:=m;rw [d8] at m;obtain ⟨S,U,rfl,H,N⟩:=m.val;have V:W.heap[q]?=_:=(hJ.1.block q (ah C.out.hd) a2.out).trans C.out.hd;have a8:(W.setCell ⟨q,1,none⟩ (.slice S (k+1) U)).heap[q]?=some (.cells #[cp,.slice S (k+1) U,.slice none 0 0,vu,.bool false,.int .i64 0] 173 (0,0)):=ai V _;have X:=a1.out;have r:=qG.push (q:=q) (f:=1) (row:=zeroRow (n:Int)) Z.out C.out.hd (by rw [X];exact s.out) bn.out hJ.1 (by rw [X];exact m) K (by unfold zeroRow;rw [tB,List.length_replicate,Int.toNat_natCast];exact d) ⟨q,1,none⟩ rfl (.slice S (k+1) U);have ad:=qG.other (q:=q) (g:=g) (k:=k) C.out.hd C.out.t9 Ha Ha Ha s.out hJ.1 ⟨q,1,none⟩ rfl (.slice S (k+1) U);have a9:aI (W.setCell ⟨q,1,none⟩ (.slice S (k+1) U)) (fun x=>B<=x) 3 1 vu R (sK (List.replicate R 0)):=by
      refine ⟨⟨C.out.un.1.1,?_⟩,C.out.un.2⟩;rcases C.out.un.1.2 with h0 | ⟨b,b2,b3,rfl,q0,q1,q2⟩
      ·exact Or.inl h0
      ·exact Or.inr ⟨b,b2,b3,rfl,q0,by rw [Below.heap_setCell _ _ _ _ (nK C.out.hd q1 Hd),hJ.1.block b (ah q1) (fun e=>by
        rcases s.out.1.2 with ⟨e',_⟩ | ⟨b',_,c',e',_,l,_⟩
        ·rw [e'] at e;cases e
        ·rw [e'] at e;injection e with e;dsimp only at e;subst e;rw [q1] at l;injection l with l;injection l with _ l;exact absurd l Hd)];exact q1,q2⟩
     have an:Below B w0 (W.setCell ⟨q,1,none⟩ (.slice S (k+1) U)):=bl.out.trans ((hJ.1.below Z.out (fun x I=>(s.out.2 x I).1)).setCell (by exact C.out.hq) _);rw [X] at r;have t:tD (W.setCell ⟨q,1,none⟩ (.slice S (k+1) U)) B q vu R (fun x=>if x<w2.heap.size then T2 x else if x=g then 2*k+2+1 else 1) cp (.slice S (k+1) U) (rows++[zeroRow (n:Int)]) (rows++[zeroRow (n:Int)]):=⟨a8,C.out.hq,ad,r,a9⟩
     have HM:=He (And.intro t an);have c0:W.cell? ⟨q,1,none⟩=some o:=af V 1;have f0:W.frozen? ⟨q,1,none⟩=false:=aA V 1;have bb:=d8;have a0:=a7;rw [Array.getD_eq_getD_getElem?] at bb a0;have bi:=He hag;clear hag hd V a8 X r ad a9 an t m d;go_simp;obtain ⟨fT,hf,hT⟩:=aJ bi.out;generalize (W.setCell ⟨q,1,none⟩ (.slice S (k+1) U))=W2 at *;clear bi hf d8 a7 bb a0 c0 f0;rw [hT];clear hT;simp only [List.filterMap_cons,List.filterMap_nil,List.foldl_cons,List.foldl_nil,List.setIfInBounds_toArray,List.set_cons_succ,List.set_cons_zero];go_wp2
     go_roundw
     case rel=>exact ⟨k+1,_,_,_,by go_num,Ha,by rw [cx.out];exact HM.out.1,HM.out.2⟩
     case measure=>simp [intOf];omega
  ·obtain rfl:k=R:=Ha;rw [List.take_of_length_le (by rw [HR.out];exact Nat.le_refl _)] at hn;have C:=He hn;have Z:=He hb;clear hn hb;go_wp2
   go_ret2
   obtain ⟨F,hF,cr⟩:=zq C.out (by rw [HR.out]) cu.out;rw [Y.out] at cr;exact ⟨⟨q,F,rfl,hF,cr⟩,by have:=Z.out;rw [Y.out] at this;exact this⟩
theorem Ed {w:World} {O:Nat->dt} {hp:Nat} {L:jC} {m:DM} (h:du w O hp L m) (r i:Int) (g:i64 r) (j:i64 i) (A:Option Addr) (n c:Nat) (a:iN m r i=false\/n≠64) (k:n<=1000000) :
 Calls Tryz.prog 188 #[.pointer (some ⟨hp,0,none⟩),.int .i64 r,.int .i64 i,.slice A n c] w fun e w'=>e=.returned (.bool false)/\w=w':=by
 have f:=He (gP h r i g j);clear h;cases b:iN m r i
 ·rw [b] at f;clear a b;go_enter Tryz.func188,Tryz.ntmps188;go_wp2_with fail
  refine f.out.mono ?_;rintro e w' ⟨rfl,rfl⟩;go_wp2;go_ret;exact ⟨rfl,rfl⟩
 ·rw [b] at f;have d:n≠64:=by rcases a with a | a;rw [b] at a;cases a;exact a
  have l:((n:Int) != 64)=true:=by rw [bne_iff_ne];omega
  clear a b d;go_enter Tryz.func188,Tryz.ntmps188;go_wp2_with fail
  refine f.out.mono ?_;rintro e w' ⟨rfl,rfl⟩;go_wp2;go_ret;exact ⟨rfl,rfl⟩
theorem sM {w:World} {O:Nat->dt} {hp:Nat} {L:jC} {m:DM} (h:du w O hp L m) (r i:Int) (g:i64 r) (j:i64 i) (A:Option Addr) (c:Nat) (b:iN m r i=true) (a:aG m=true) :
 Calls Tryz.prog 188 #[.pointer (some ⟨hp,0,none⟩),.int .i64 r,.int .i64 i,.slice A 64 c] w fun e w'=>e=.returned (.bool true)/\w=w':=by
 have d:=He (gP h r i g j);have f:=He (jI h);rw [b] at d;rw [a] at f;clear h b a;go_enter Tryz.func188,Tryz.ntmps188;go_wp2_with fail
 refine d.out.mono ?_;rintro e w' ⟨rfl,rfl⟩;go_wp2_with fail
 refine f.out.mono ?_;rintro e w' ⟨rfl,rfl⟩;go_wp2;go_ret;exact ⟨rfl,rfl⟩
theorem zr {w:World} {O:Nat->dt} {hp:Nat} {L:jC} {m:DM} (h:du w O hp L m) (r:Int) (c:i64 r) (a:kf m r=false) :
 Calls Tryz.prog 190 #[.pointer (some ⟨hp,0,none⟩),.int .i64 r] w fun e w'=>e=.returned (.bool false)/\w=w':=by
 have b:=He (iE h r c);rw [a] at b;clear h a;go_enter Tryz.func190,Tryz.ntmps190;go_wp2_with fail
 refine b.out.mono ?_;rintro e w' ⟨rfl,rfl⟩;go_wp2;go_ret;exact ⟨rfl,rfl⟩
theorem qc {w:World} {O:Nat->dt} {hp:Nat} {L:jC} {m:DM} (h:du w O hp L m) (r:Int) (f:i64 r) (b:kf m r=true) (a:aG m=true) :
 Calls Tryz.prog 190 #[.pointer (some ⟨hp,0,none⟩),.int .i64 r] w fun e w'=>e=.returned (.bool true)/\w=w':=by
 have c:=He (iE h r f);have d:=He (jI h);rw [b] at c;rw [a] at d;clear h b a;go_enter Tryz.func190,Tryz.ntmps190;go_wp2_with fail
 refine c.out.mono ?_;rintro e w' ⟨rfl,rfl⟩;go_wp2_with fail
 refine d.out.mono ?_;rintro e w' ⟨rfl,rfl⟩;go_wp2;go_ret;exact ⟨rfl,rfl⟩
def DM.doWrite (m:DM) (r i:Int) (bs:List Int):DM:=if iN m r i=true/\bs.length=64/\aG m=false then m.write r.toNat i.toNat bs else m
def lX (m:DM) (r i:Int) (bs:List Int):Bool:=iN m r i&&decide (bs.length=64)
theorem qH {m:DM} {r i:Int} (h:iN m r i=true):∃ (a j:Nat) (row:List (List Int)),r=(a:Int)/\i=(j:Int)/\m.now[a]?=some row/\j<row.length:=by
 unfold iN kf at h;simp only [Bool.and_eq_true,decide_eq_true_eq] at h;obtain ⟨⟨b,c⟩,d,e⟩:=h;refine ⟨r.toNat,i.toNat,m.now[r.toNat]'Ha,Ha,Ha,List.getElem?_eq_getElem _,?_⟩;have:vd m.now r.toNat=(m.now[r.toNat]'Ha).length:=kh (List.getElem?_eq_getElem _);omega
theorem gD.refl {w:World} {F:Nat->Prop} {hp:Nat} {m:DM} (h:qn w F hp m):gD w w F hp m:=⟨F,h,aE.refl _ _,fun k a=>Or.inl a⟩
theorem Cf {w:World} {F:Nat->Prop} {hp:Nat} {m:DM} (h:qn w F hp m) (r i:Int) (q:i64 r) (s:i64 i) (A:Option Addr) (bs:List Int) (c:Nat) (t:ay bs) (u:dK w A bs) (v:bs.length<=1000000) (d:m.done.length<=1000000) :
 Calls Tryz.prog 188 #[.pointer (some ⟨hp,0,none⟩),.int .i64 r,.int .i64 i,.slice A bs.length c] w fun e w'=>e=.returned (.bool (lX m r i bs))/\gD w w' F hp (m.doWrite r i bs):=by
 obtain ⟨O,L,f,k,l⟩:=h;by_cases a:iN m r i=true/\bs.length=64
 ·have n:lX m r i bs=true:=by unfold lX;rw [a.1,a.2];rfl
  rw [n];cases b:aG m
  ·obtain ⟨o,j,x,rfl,rfl,g,hj⟩:=qH a.1;have:m.doWrite o j bs=m.write o j bs:=by unfold DM.doWrite;rw [if_pos ⟨a.1,a.2,b⟩];rfl
   rw [this,a.2];exact Cb ⟨O,L,f,k,l⟩ o j g hj A bs c ⟨a.2,t⟩ u b d
  ·have:m.doWrite r i bs=m:=by unfold DM.doWrite;rw [if_neg (by rw [b];simp)]
   rw [this,a.2];refine (sM f r i q s A c a.1 b).mono ?_;rintro e w' ⟨rfl,rfl⟩;exact ⟨rfl,gD.refl ⟨O,L,f,k,l⟩⟩
 ·have n:lX m r i bs=false:=by
   unfold lX;cases p:iN m r i
   ·rfl
   ·have:¬ bs.length=64:=fun e=>a ⟨p,e⟩;simp [this]
  have hd:m.doWrite r i bs=m:=by unfold DM.doWrite;rw [if_neg (fun h=>a ⟨h.1,h.2.1⟩)]
  rw [n,hd];refine (Ed f r i q s A bs.length c ?_ v).mono ?_
  ·cases p:iN m r i
   ·exact Or.inl rfl
   ·exact Or.inr (fun e=>a ⟨p,e⟩)
  ·rintro e w' ⟨rfl,rfl⟩;exact ⟨rfl,gD.refl ⟨O,L,f,k,l⟩⟩
def DM.doBarrier (m:DM) (r:Int):DM:=if kf m r=true/\aG m=false then m.barrier r.toNat else m
theorem wW {w:World} {F:Nat->Prop} {hp:Nat} {m:DM} (h:qn w F hp m) (r:Int) (k:i64 r) (b:m.done.length<1000000) :
 Calls Tryz.prog 190 #[.pointer (some ⟨hp,0,none⟩),.int .i64 r] w fun e w'=>e=.returned (.bool (kf m r))/\gD w w' F hp (m.doBarrier r):=by
 obtain ⟨O,L,c,g,i⟩:=h;cases d:kf m r
 ·have hd:m.doBarrier r=m:=by unfold DM.doBarrier;rw [d,if_neg Hb]
  rw [hd];refine (zr c r k d).mono ?_;rintro e w' ⟨rfl,rfl⟩;exact ⟨rfl,gD.refl ⟨O,L,c,g,i⟩⟩
 ·cases a:aG m
  ·have hd:m.doBarrier r=m.barrier r.toNat:=by unfold DM.doBarrier;rw [d,a,if_pos Hb]
   rw [hd];have f:=d;unfold kf at f;simp only [Bool.and_eq_true,decide_eq_true_eq] at f;obtain ⟨j,rfl⟩:∃ j:Nat,r=(j:Int):=⟨r.toNat,Ha⟩
   exact wU ⟨O,L,c,g,i⟩ j Ha a b
  ·have hd:m.doBarrier r=m:=by unfold DM.doBarrier;rw [a,if_neg Hb]
   rw [hd];refine (qc c r k d a).mono ?_;rintro e w' ⟨rfl,rfl⟩;exact ⟨rfl,gD.refl ⟨O,L,c,g,i⟩⟩
def AT (m:DM) (r i:Int) (w0:World) (v:Value) (w:World):Prop :=
 (iN m r i=false/\v=.tuple #[.slice none 0 0,.bool false]) \/
 (iN m r i=true/\∃ (q:Nat) (b:List Int),(m.now.getD r.toNat [])[i.toNat]?=some b/\cQ b/\v=.tuple #[.slice (some ⟨q,0,none⟩) 64 64,.bool true]/\w0.heap.size<=q/\w.heap[q]?=some (.cells (Bs b).toArray 262 (0,0)))
theorem Cg {w:World} {F:Nat->Prop} {hp:Nat} {m:DM} (h:qn w F hp m) (r i:Int) (l:i64 r) (n:i64 i) :
 Calls Tryz.prog 151 #[.pointer (some ⟨hp,0,none⟩),.int .i64 r,.int .i64 i] w fun e w'=>(∃ v,e=.returned v/\AT m r i w v w')/\Below w.heap.size w w':=by
 obtain ⟨O,L,g,t,u⟩:=h;cases f:iN m r i
 ·refine (GK g r i l n f).mono ?_;rintro e w' ⟨rfl,rfl⟩;exact ⟨⟨_,rfl,Or.inl ⟨f,rfl⟩⟩,Below.refl _ _⟩
 ·obtain ⟨o,j,k,rfl,rfl,a,hj⟩:=qH f;obtain ⟨b,c⟩:∃ b,k[j]?=some b:=⟨_,List.getElem?_eq_getElem hj⟩
  refine (D9 g o j a c).mono ?_;rintro e w' ⟨⟨q,rfl,p,s⟩,d⟩;refine ⟨⟨_,rfl,Or.inr ⟨f,q,b,?_,(g.ok.rows _ _ a).2 b (List.mem_of_getElem? c),rfl,p,s⟩⟩,d⟩;rw [Int.toNat_natCast,Int.toNat_natCast,List.getD,a];exact c
structure DS (w0 W:World) (P:Nat->Prop) (q:Nat) (m:DM):Prop where
 dev:∃ F,qn W F q m/\(∀ k,F k->w0.heap.size<=k)/\∀ k,P k->¬ F k
 low:∀ k,P k->k<W.heap.size
 bel:Below w0.heap.size w0 W
structure bz (P:Nat->Prop) (w w':World):Prop where
 blk:∀ k,P k->w'.heap[k]?=w.heap[k]?
 size:w.heap.size<=w'.heap.size
theorem bz.trans {P:Nat->Prop} {a b c:World} (h:bz P a b) (k:bz P b c):bz P a c:=⟨fun x d=>(k.blk x d).trans (h.blk x d),Nat.le_trans h.size k.size⟩
theorem DS.next {w0 W W':World} {P:Nat->Prop} {q:Nat} {m e:DM} (h:DS w0 W P q m) {F:Nat->Prop} (f:∀ k,F k->w0.heap.size<=k) (g:∀ k,P k->¬ F k) (j:gD W W' F q e):DS w0 W' P q e/\bz P W W':=by
 obtain ⟨l,n,c,i⟩:=j;have d:=h.bel.size;refine ⟨⟨⟨l,n,fun k a=>?_,fun k a o=>?_⟩,fun k a=>Nat.lt_of_lt_of_le (h.low k a) c.size,h.bel.trans (c.below d f)⟩,fun k a=>c.block k (h.low k a) (g k a),c.size⟩
 ·rcases i k a with b | b
  ·exact f k b
  ·omega
 ·rcases i k o with b | b
  ·exact g k a b
  ·have:=h.low k a;omega
theorem DS.below {w0 W W':World} {P P':Nat->Prop} {q:Nat} {m:DM} (h:DS w0 W P q m) (b:Below W.heap.size W W') (d:∀ k,P' k->P k\/(W.heap.size<=k/\k<W'.heap.size)):DS w0 W' P' q m:=by
 obtain ⟨F,g,i,j⟩:=h.dev;obtain ⟨O,L,l,n,e⟩:=g;refine ⟨⟨F,qn.below ⟨O,L,l,n,e⟩ b,i,fun k c f=>?_⟩,fun k c=>?_,h.bel.trans (b.mono h.bel.size)⟩
 ·rcases d k c with a | a
  ·exact j k a f
  ·have:=e k f;omega
 ·rcases d k c with a | a
  ·have:=h.low k a;have:=b.size;omega
  ·exact a.2
theorem DS.same {w0 W W':World} {P:Nat->Prop} {q:Nat} {m:DM} (h:DS w0 W P q m) (a:Below W.heap.size W W'):bz P W W':=⟨fun k b=>a.block k (h.low k b),a.size⟩
section
variable {w0 W:World} {P:Nat->Prop} {q:Nat} {m:DM}
theorem DS.write (h:DS w0 W P q m) (r i:Int) (b:i64 r) (d:i64 i) (A:Option Addr) (bs:List Int) (c:Nat) (f:ay bs) (g:dK W A bs) (j:bs.length<=1000000) (a:m.done.length<=1000000) :
 Calls Tryz.prog 188 #[.pointer (some ⟨q,0,none⟩),.int .i64 r,.int .i64 i,.slice A bs.length c] W fun e w'=>e=.returned (.bool (lX m r i bs))/\DS w0 w' P q (m.doWrite r i bs)/\bz P W w':=by
 obtain ⟨F,k,l,n⟩:=h.dev;exact (Cf k r i b d A bs c f g j a).mono fun e w' ⟨o,p⟩=>⟨o,h.next l n p⟩
theorem DS.barrier (h:DS w0 W P q m) (r:Int) (b:i64 r) (a:m.done.length<1000000) :
 Calls Tryz.prog 190 #[.pointer (some ⟨q,0,none⟩),.int .i64 r] W fun e w'=>e=.returned (.bool (kf m r))/\DS w0 w' P q (m.doBarrier r)/\bz P W w':=by
 obtain ⟨F,c,d,f⟩:=h.dev;exact (wW c r b a).mono fun e w' ⟨g,i⟩=>⟨g,h.next d f i⟩
theorem DS.read (h:DS w0 W P q m) (r i:Int) (a:i64 r) (b:i64 i) :
 Calls Tryz.prog 151 #[.pointer (some ⟨q,0,none⟩),.int .i64 r,.int .i64 i] W fun e w'=>(∃ v,e=.returned v/\AT m r i W v w')/\Below W.heap.size W w':=by
 obtain ⟨F,c,d,f⟩:=h.dev;exact Cg c r i a b
end
def b7:List Int:=7 :: List.replicate 63 0
theorem JV (W:World) (g:Nat) (a:List Int) (n:Nat) (b:a.length=n) (c:nJ a=true) (d:DX a) (t:TypeId) (f:W.heap[g]?=some (.cells ((a.map (Value.int .i64)).toArray) t (0,0))) :
 Calls Tryz.prog 40 #[.slice (some ⟨g,0,none⟩) n n] W fun e w'=>(∃ q F,e=.returned (.tuple #[.pointer (some ⟨q,0,none⟩),.bool true])/\qn w' F q (DM.make a)/\∀ k,F k->W.heap.size<=k)/\Below W.heap.size W w':=by
 subst b;refine GO (some ⟨g,0,none⟩) a _ W d (fun i x h=>⟨_,rfl,?_⟩) c;rw [Addr.add_mid,Nat.zero_add,af f,List.getElem?_toArray,List.getElem?_map,h];rfl
theorem DS.made {w0 W W':World} {F:Nat->Prop} {q:Nat} {m:DM} (a:Below w0.heap.size w0 W) (e:qn W' F q m) (c:∀ k,F k->W.heap.size<=k) (d:Below W.heap.size W W'):DS w0 W' (fun k=>k<W.heap.size) q m:=by
 have:=a.size;have:=d.size;exact ⟨⟨F,e,fun k b=>by have:=c k b;omega,fun k b f=>by have:=c k f;omega⟩,fun k b=>Ha,a.trans (d.mono a.size)⟩
theorem fQ (m:DM) (r i:Int) (b:List Int):(m.doWrite r i b).done.length<=m.done.length+1:=by
 unfold DM.doWrite;split
 ·unfold DM.write;simp
 ·omega
theorem cR (m:DM) (r:Int):(m.doBarrier r).done.length<=m.done.length+1:=by
 unfold DM.doBarrier;split
 ·unfold DM.barrier DM.settle;simp
 ·omega
section
variable {H:Type} {enc:TypeId × Value->H} {w:World} {base:Nat} {spare:Nat->Bool} {held:Bool}
end
def gp:List dr->Nat->(Nat->Bool)->Nat->List (List Int)->List (List Int)
 | [],_,_,_,s=>s
 | x :: l,r,kept,a,s=>if x.r=r then (if x.i=65535 then s else gp l r kept (a+1) (if kept a then s.set x.i x.b else s)) else gp l r kept a s
theorem oK (s:List (List (List Int))) (r i:Nat) (b:List Int):(cj s r i b).getD r []=(s.getD r []).set i b:=by
 unfold cj;by_cases h:r<s.length
 ·simp [List.getD,h]
 ·simp [List.getD,List.getElem?_eq_none (by omega:s.length<=r),List.set_eq_of_length_le (by omega:s.length<=r)]
theorem pC (s:List (List (List Int))) (r i:Nat) (b:List Int) {k:Nat} (h:k≠r):(cj s r i b).getD k []=s.getD k []:=by
 unfold cj;simp [List.getD,Ne.symm h]
theorem ld:∀ (l:List dr) (r:Nat) (kept:Nat->Bool) (a:Nat) (s:List (List (List Int))),(bE l r kept a s).getD r []=gp l r kept a (s.getD r [])
 | [],_,_,_,_=>rfl
 | x :: l,r,kept,a,s=>by
   unfold bE gp;by_cases e:x.r=r
   ·rw [if_pos e,if_pos e];split
    ·rfl
    ·rw [ld];split
     ·rw [e,oK]
     ·rfl
   ·rw [if_neg e,if_neg e,ld]
theorem jW:∀ (l:List dr) (r:Nat) (kept:Nat->Bool) (a:Nat) (s:List (List (List Int))) (k:Nat),k≠r->(bE l r kept a s).getD k []=s.getD k []
 | [],_,_,_,_,_,_=>rfl
 | x :: l,r,kept,a,s,k,b=>by
   unfold bE;by_cases e:x.r=r
   ·rw [if_pos e];split
    ·rfl
    ·rw [jW _ _ _ _ _ _ b];split
     ·rw [e,pC _ _ _ _ b]
     ·rfl
   ·rw [if_neg e,jW _ _ _ _ _ _ b]
def vh (l:List dr) (r:Nat):Nat:=(l.filter (fun x=>x.r==r)).length
theorem oL (l:List dr) (x:dr) (r:Nat) (kept:Nat->Bool) (h:x.r≠r\/x.i=65535):∀ (a:Nat) (s:List (List Int)),gp (l++[x]) r kept a s=gp l r kept a s:=by
 induction l with
 | nil =>
   intro a s;show gp [x] r kept a s=s;unfold gp;split
   ·rename_i e;rcases h with h | h
    ·exact absurd e h
    ·rw [if_pos h]
   ·rfl
 | cons y l ih =>
   intro a s;show gp (y :: (l++[x])) r kept a s=_;unfold gp;split
   ·split
    ·rfl
    ·exact ih _ _
   ·exact ih _ _
theorem Ch (l:List dr) (x:dr) (r:Nat) (kept:Nat->Bool) (j:∀ y∈l,y.r=r->y.i≠65535) (h:x.r=r) (m:x.i≠65535):∀ (a:Nat) (s:List (List Int)),gp (l++[x]) r kept a s=if kept (a+vh l r) then (gp l r kept a s).set x.i x.b else gp l r kept a s:=by
 induction l with
 | nil =>
   intro a s;show gp [x] r kept a s=_;unfold gp;rw [if_pos h,if_neg m];rfl
 | cons y l ih =>
   intro a s;have c:∀ y∈l,y.r=r->y.i≠65535:=fun z n=>j z (by simp [n]);show gp (y :: (l++[x])) r kept a s=_;by_cases e:y.r=r
   ·have d:vh (y :: l) r=vh l r+1:=by unfold vh;simp [e]
    have k:=j y Hb e;have f:gp (y :: (l++[x])) r kept a s=gp (l++[x]) r kept (a+1) (if kept a then s.set y.i y.b else s):=by rw [gp,if_pos e,if_neg k]
    have g:gp (y :: l) r kept a s=gp l r kept (a+1) (if kept a then s.set y.i y.b else s):=by rw [gp,if_pos e,if_neg k]
    rw [f,g,ih c,d,show a+1+vh l r=a+(vh l r+1) by omega]
   ·have d:vh (y :: l) r=vh l r:=by unfold vh;simp [e]
    have f:gp (y :: (l++[x])) r kept a s=gp (l++[x]) r kept a s:=by rw [gp,if_neg e]
    have g:gp (y :: l) r kept a s=gp l r kept a s:=by rw [gp,if_neg e]
    rw [f,g,ih c,d]
def gQ (m:DM) (r:Nat):List (List Int):=m.sure.getD r []
def aF (m:DM) (r:Nat):List (List Int):=m.now.getD r []
def since (m:DM) (r:Nat):List dr:=m.done.drop (m.uns.getD r 0)
theorem wX (m:DM) (r:Nat) (kept:Nat->Bool):gQ (m.settle r kept) r=gp (since m r) r kept 0 (gQ m r):=ld _ _ _ _ _
theorem nL (m:DM) (r:Nat) (kept:Nat->Bool) {k:Nat} (a:k≠r):gQ (m.settle r kept) k=gQ m k/\since (m.settle r kept) k=since m k:=by
 refine ⟨jW _ _ _ _ _ _ a,?_⟩;unfold since DM.settle;simp [List.getD,Ne.symm a]
theorem vi {m:DM} (h:m.Ok) {r:Nat} (a:r<m.now.length) (kept:Nat->Bool):since (m.settle r kept) r=[]:=by
 unfold since DM.settle;have:r<m.uns.length:=by rw [h.unsLen];exact a
 simp [List.getD,this]
structure qI (m:DM):Prop where
 clean:∀ r,r<m.now.length->∀ x∈since m r,x.r=r->x.i≠65535
 full:∀ r,r<m.now.length->gp (since m r) r (fun _=>true) 0 (gQ m r)=aF m r
theorem qI.make (a:List Int):qI (DM.make a) where
 clean:=fun r _ x b=>by unfold since DM.make at b;simp at b
 full:=fun r _=>by
  have:since (DM.make a) r=[]:=by unfold since DM.make;simp
  rw [this];rfl
theorem jJ {m:DM} (h:m.Ok) {k:Nat} (d:k<m.now.length) (r i:Nat) (b:List Int):since (m.write r i b) k=since m k++[⟨r,i,b⟩]:=by
 unfold since DM.write;show List.drop (m.uns.getD k 0) (m.done++_)=_;obtain ⟨u,c⟩:∃ u,m.uns[k]?=some u:=⟨_,List.getElem?_eq_getElem (by rw [h.unsLen];exact d)⟩
 have a:=h.unss k u c;have e:m.uns.getD k 0=u:=by rw [List.getD,c];rfl
 rw [e,List.drop_append_of_le_length a]
theorem qI.write {m:DM} (h:qI m) (d:m.Ok) (r i:Nat) (b:List Int) (f:i≠65535):qI (m.write r i b) where
 clean:=fun k j x g=>by
  have a:k<m.now.length:=by have:(m.write r i b).now.length=m.now.length:=by show (cj _ _ _ _).length=_;unfold cj;simp
                            omega
  rw [jJ d a] at g;rcases List.mem_append.1 g with c | c
  ·exact h.clean k a x c
  ·rw [List.mem_singleton.1 c];intro _;exact f
 full:=fun k j=>by
  have a:k<m.now.length:=by have:(m.write r i b).now.length=m.now.length:=by show (cj _ _ _ _).length=_;unfold cj;simp
                            omega
  have l:gQ (m.write r i b) k=gQ m k:=rfl;rw [jJ d a,l];by_cases e:r=k
  ·subst e;rw [Ch _ _ _ _ (h.clean r a) rfl f,h.full r a,if_pos rfl];exact (oK _ _ _ _).symm
  ·rw [oL _ _ _ _ (Or.inl e),h.full k a];exact (pC _ _ _ _ (Ne.symm e)).symm
theorem nM {m:DM} (h:qI m) (d:m.Ok) {r:Nat} (b:r<m.now.length):gQ (m.barrier r) r=aF m r/\(∀ k,k≠r->gQ (m.barrier r) k=gQ m k)/\(∀ k,aF (m.barrier r) k=aF m k)/\since (m.barrier r) r=[]/\∀ k,k<m.now.length->k≠r->since (m.barrier r) k=since m k++[⟨r,65535,List.replicate 64 0⟩]:=by
 have e:∀ k,k<m.now.length->since ({ m with done:=m.done++[⟨r,65535,List.replicate 64 0⟩] }:DM) k=since m k++[⟨r,65535,List.replicate 64 0⟩]:=fun k a=>jJ d a r 65535 _;have f:({ m with done:=m.done++[⟨r,65535,List.replicate 64 0⟩] }:DM).Ok:=d.tell b;unfold DM.barrier;refine ⟨?_,fun k a=>(nL _ _ _ a).1,fun k=>rfl,vi f b _,fun k a c=>?_⟩
 ·rw [wX,e r b,oL _ _ _ _ (Or.inr rfl)];exact h.full r b
 ·rw [(nL _ _ _ c).2];exact e k a
theorem qI.barrier {m:DM} (h:qI m) (i:m.Ok) {r:Nat} (j:r<m.now.length):qI (m.barrier r):=by
 obtain ⟨l,n,d,f,h5⟩:=nM h i j;refine ⟨fun k c x b=>?_,fun k c=>?_⟩
 ·have a:k<m.now.length:=c;by_cases e:k=r
  ·subst e;rw [f] at b;cases b
  ·rw [h5 k a e] at b;rcases List.mem_append.1 b with g | g
   ·exact h.clean k a x g
   ·rw [List.mem_singleton.1 g];intro o;exact absurd o.symm e
 ·have a:k<m.now.length:=c;by_cases e:k=r
  ·subst e;rw [f,l,d];rfl
  ·rw [h5 k a e,n k e,d,oL _ _ _ _ (Or.inl (Ne.symm e))];exact h.full k a
def fx (W:World):Type:={ g:World // Below W.heap.size W g }
instance {W:World}:Nonempty (fx W):=⟨⟨W,Below.refl _ _⟩⟩
def fx.w {W:World} (g:fx W):World:=g.1
theorem fx.below {W:World} (g:fx W):Below W.heap.size W g.w:=g.2
theorem kS {P:Program} {id:Nat} {Q:Exit->Act->World->Prop} {a:Act} {w:World} {l:List Oper} (b:P.follows .mixedOrders=true) (c:Region.lexB .any l.toArray=true)
 (h:wpQuiet P l.toArray (fun w'=>∃ n:fx w,w'=n.w) (fun d=>∀ w',(∃ n:fx w,w'=n.w)->Q .normal d w') l a):(Code.region id l.toArray true).wp P Q a w :=
 wp_region_quiet (C:=fun w'=>∃ n:fx w,w'=n.w) b c ⟨⟨w.drew,(Below.refl _ _).drew⟩,rfl⟩ (by simpa using h)
theorem pD {P:Program} {f:FuncId} {args:Array Value} {W:World} {n:fx W} {v:Value}
 (h:Calls P f args n.w fun e w'=>e=.returned v/\Below n.w.heap.size n.w w'):Calls P f args n.w fun e a=>e=.returned v/\∃ m:fx W,a=m.w :=
 h.mono fun _ w' ⟨b,c⟩=>⟨b,⟨w',n.below.trans (c.mono n.below.size)⟩,rfl⟩
theorem oM {P:Program} {f:FuncId} {args:Array Value} {W:World} {n:fx W} {v:Value}
 (h:Calls P f args n.w fun e w'=>e=.returned v/\n.w=w'):Calls P f args n.w fun e a=>e=.returned v/\∃ m:fx W,a=m.w :=
 h.mono fun _ _ ⟨b,c⟩=>⟨b,n,c.symm⟩
theorem fx.keep {W:World} (g:fx W) {b o:Nat} {v:Value} (h:W.cell? ⟨b,o,none⟩=some v):g.w.cell? ⟨b,o,none⟩=some v:=by
 rw [g.below.cell (World.block_lt_of_cell? W _ h)];exact h
section
variable {P:Program} {ops:Array Oper} {md:Region.Mode} {C:World->Prop}
end
end Go.Proofs.YtegjelaejbacnaaGreat
