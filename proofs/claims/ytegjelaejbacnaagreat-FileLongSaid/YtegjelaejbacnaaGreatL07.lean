/- For FileLong: contracts and facts, part 7. -/
import Derived.Laws.BitsAllLaws
import Derived.Deep.QuietTactic
import Derived.Deep.DeepCutAuto
import Derived.StillTailTactics
import Derived.Test.YtegjelaejbacnaaGreatL02
import Derived.Test.YtegjelaejbacnaaGreatL06
set_option maxRecDepth 100000
set_option maxHeartbeats 25600000
set_option linter.unusedVariables false
open Go.ChangeShapes Go.WideShapes Go.ChangeAt Go.RowKit
namespace Go.Proofs.YtegjelaejbacnaaGreat
structure Wr where
 (t k:Int) (bs:List Int)
structure Wr.Ok (x:Wr):Prop where
 t:i64 x.t
 k:i64 x.k
 len:x.bs.length=56
 b:ay x.bs
def bW (l:List Wr):Prop:=∀ x∈l,x.Ok
def wrL (x:Wr):List Value:=.int .i64 x.t :: blkL x.k x.bs
def cS (x:Wr):Array Value:=(wrL x).toArray
theorem bA {x:Wr} (h:x.bs.length=56):(wrL x).length=58:=by unfold wrL blkL;simp [ar,h]
theorem dd {x:Wr} (h:x.bs.length=56):(cS x).size=58:=by unfold cS;simp [bA h]
theorem ki (x:Wr):(cS x).toList=wrL x:=by unfold cS;simp
theorem nP (x:Wr):∀ v∈wrL x,v.oneCell'=true:=by
 intro v a;unfold wrL blkL at a;simp only [List.mem_cons] at a;rcases a with rfl | rfl | a
 ·rfl
 ·rfl
 ·exact io x.bs v a
theorem AZ (x:Wr):(cS x).all (·.oneCell')=true:=Array.all_eq_true_iff_forall_mem.2 fun v a=>nP x v (by unfold cS at a;simpa using a)
def mU (w:World) (p:Addr) (x:Wr):Prop:=∀ j v,(wrL x)[j]?=some v->w.cell? (p.add j)=some v
def GV (w:World) (A:Option Addr) (l:List Wr):Prop:=∀ i x,l[i]?=some x->∃ a,A=some a/\mU w (a.add (i*58)) x
theorem mU.keep {w w':World} {p:Addr} {x:Wr} (h:mU w p x) (a:Below w.heap.size w w'):mU w' p x:=fun j v hj=>cO a (h j v hj)
theorem GV.keep {w w':World} {A:Option Addr} {l:List Wr} (h:GV w A l) (b:Below w.heap.size w w'):GV w' A l:=fun i x c =>
 let ⟨a,e,hs⟩:=h i x c;⟨a,e,hs.keep b⟩
def bQ (l:List Wr):Prop:=(1<=l.length/\l.length<=12)/\(∀ x∈l,mS x.k x.t)/\(l.map (·.t)).Nodup
instance (l:List Wr):Decidable (bQ l):=by unfold bQ;infer_instance
def de (xs:List Int):List Int:=xs++List.replicate (60-xs.length) 0
def df (xs:List Int):List Int:=de xs++be (oO (de xs)) 4
theorem kF {xs:List Int} (h:xs.length<=60):(de xs).length=60:=by unfold de;simp;omega
theorem fC {xs:List Int} (h:xs.length<=60):(df xs).length=64:=by unfold df;rw [List.length_append,kF h,au]
theorem qO {xs:List Int} (h:ay xs):ay (de xs):=ay.append h fun x a=>by rw [List.eq_of_mem_replicate a];omega
theorem oS {xs:List Int} (h:ay xs):ay (df xs):=ay.append (qO h) (cF _ _)
def told:List Wr->List Int
 | []=>[]
 | x :: l=>(be x.t.toNat 2++[x.k])++told l
theorem pF:∀ (l m:List Wr),told (l++m)=told l++told m
 | [],_=>rfl
 | x :: l,m=>by show _++told (l++m)=_;rw [pF l m,<- List.append_assoc];rfl
theorem lj:∀ (l:List Wr),(told l).length=3*l.length
 | []=>rfl
 | x :: l=>by
   show ((be x.t.toNat 2++[x.k])++told l).length=_;rw [List.length_append,lj l];simp [au];omega
theorem tG:∀ {l:List Wr},(∀ x∈l,mS x.k x.t)->ay (told l)
 | [],_=>fun x b=>by cases b
 | x :: l,h=>ay.append (ay.append (cF _ _) (fun y a=>by
    simp only [List.mem_cons,List.not_mem_nil,or_false] at a;subst a;have:=(h x Hb).1;omega)) (tG fun y a=>h y (by simp [a]))
def kl (lb:Int) (e s:Nat) (n:Nat):List Int:=[72,lb]++be e 4++be s 4++[(n:Int)]
theorem gR (lb:Int) (e s n:Nat):(kl lb e s n).length=11:=by unfold kl;simp [au]
def bO (lb:Int) (e s:Nat) (l:List Wr):List Int:=kl lb e s l.length++told l
theorem cH (lb:Int) (e s:Nat) (l:List Wr):(bO lb e s l).length=11+3*l.length:=by unfold bO;rw [List.length_append,gR,lj]
theorem zw {lb:Int} (e s:Nat) {n:Nat} (b:0<=lb/\lb<=255) (c:n<=12):ay (kl lb e s n):=by
 unfold kl;refine ay.append (ay.append (ay.append (fun x a=>?_) (cF _ _)) (cF _ _)) (fun x a=>?_)
 ·simp only [List.mem_cons,List.not_mem_nil,or_false] at a;rcases a with rfl | rfl <;> omega
 ·simp only [List.mem_cons,List.not_mem_nil,or_false] at a;subst a;omega
theorem qP {lb:Int} (e s:Nat) {l:List Wr} (b:0<=lb/\lb<=255) (a:bQ l):ay (bO lb e s l):=ay.append (zw e s b a.1.2) (tG a.2.1)
def gc (e s:Nat) (bs:List Int):List Int:=bs++be e 2++be s 2
theorem gS {e s:Nat} {bs:List Int} (h:bs.length=56):(gc e s bs).length=60:=by unfold gc;simp [au,h]
theorem qQ {e s:Nat} {bs:List Int} (h:ay bs):ay (gc e s bs):=ay.append (ay.append h (cF _ _)) (cF _ _)
def putL (lb:Int) (e s:Nat) (l:List Wr):List (List Int):=df (bO lb e s l) :: l.map fun x=>df (gc e s x.bs)
theorem bG (lb:Int) (e s:Nat) (l:List Wr):(putL lb e s l).length=1+l.length:=by unfold putL;simp;omega
def bg (lb:Int) (e:Nat):List Int:=df ([65,78,lb]++be e 4)
theorem cm (lb:Int) (e:Nat):(bg lb e).length=64:=fC (by simp [au])
theorem kG {lb:Int} (e:Nat) (h:0<=lb/\lb<=255):ay (bg lb e):=oS (ay.append (fun x a=>by
 simp only [List.mem_cons,List.not_mem_nil,or_false] at a;rcases a with rfl | rfl | rfl <;> omega) (cF _ _))
def pG (a:List (List Int)):Nat:=((a.headD []).getD 10 0).toNat
def nQ (b:List Int):List Int:=b.take 56++List.replicate (56-b.length) 0
theorem ll (b:List Int):(nQ b).length=56:=by unfold nQ;simp;omega
theorem Cs {b:List Int} (h:ay b):ay (nQ b):=ay.append (fun x a=>h x (List.mem_of_mem_take a)) fun x a=>by rw [List.eq_of_mem_replicate a];omega
def Ct (a:List (List Int)) (i:Nat):Wr:=⟨aB (((a.headD []).drop (11+3*i)).take 2),(a.headD []).getD (13+3*i) 0,nQ (a.getD (1+i) [])⟩
def ff (a:List (List Int)) (n:Nat):List Wr:=(List.range n).map (Ct a)
theorem bY (a:List (List Int)) (n:Nat):(ff a n).length=n:=by unfold ff;simp
theorem zx (a:List (List Int)) (n:Nat):ff a (n+1)=ff a n++[Ct a n]:=by unfold ff;rw [List.range_succ,List.map_append];rfl
def fS (a:List (List Int)):Prop:=(a.headD []).length=64/\pG a<=12/\pG a<a.length
instance (a:List (List Int)):Decidable (fS a):=by unfold fS;infer_instance
def ge (lb:Int) (e s:Nat) (a:List (List Int)):Prop:=fS a/\bQ (ff a (pG a))/\putL lb e s (ff a (pG a))=a.take (1+pG a)
instance (lb:Int) (e s:Nat) (a:List (List Int)):Decidable (ge lb e s a):=by unfold ge;infer_instance
def kT (lb:Int) (e s:Nat) (a:List (List Int)):List Wr:=if ge lb e s a then ff a (pG a) else []
def nR (lb:Int) (e s:Nat) (a:List (List Int)):Nat:=if ge lb e s a then 1+pG a else 0
def sN (a:List (List Int)):Prop:=∀ b∈a,ay b
theorem Eg {a:List (List Int)} (h:sN a) (i:Nat):(Ct a i).Ok:=by
 have d:ay (a.headD []):=by
  cases a with
  | nil=>exact fun x c=>by cases c
  | cons b l=>exact h b Hb
 refine ⟨?_,?_,ll _,Cs ?_⟩
 ·have e:aB (((a.headD []).drop (11+3*i)).take 2)<256 ^ (((a.headD []).drop (11+3*i)).take 2).length:=i5 _ _ rfl (fun x c=>d x (List.mem_of_mem_drop (List.mem_of_mem_take c)));have f:256 ^ (((a.headD []).drop (11+3*i)).take 2).length<=256 ^ 2:=Nat.pow_le_pow_right Ha (List.length_take_le _ _);unfold Ct;simp only;constructor <;> omega
 ·show i64 ((a.headD []).getD (13+3*i) 0);rw [List.getD];cases c:(a.headD [])[13+3*i]? with
  | none=>simp;constructor <;> omega
  | some x=>have:=d x (List.mem_of_getElem? c);simp;constructor <;> omega
 ·rw [List.getD];cases c:a[1+i]? with
  | none=>exact fun x c=>by cases c
  | some b=>exact h b (List.mem_of_getElem? c)
theorem qR {a:List (List Int)} (h:sN a) (n:Nat):bW (ff a n):=fun x b=>by
 unfold ff at b;obtain ⟨i,_,rfl⟩:=List.mem_map.1 b;exact Eg h i
theorem Eh {lb:Int} {e s:Nat} {a:List (List Int)} (h:sN a):bW (kT lb e s a):=by
 unfold kT;split
 ·exact qR h _
 ·exact fun x b=>by cases b
def Tx (w:World) (A:Option Addr) (c:List (List Int)):Prop:=∀ i b,c[i]?=some b->∃ a B d,A=some a/\w.cell? (a.add i)=some (.slice B b.length d)/\b.length<=d/\d<=9223372036854775807/\dK w B b
theorem Tx.keep {w w':World} {A:Option Addr} {c:List (List Int)} (h:Tx w A c) (f:Below w.heap.size w w'):Tx w' A c:=fun i b g =>
 let ⟨a,B,d,e,hc,h1,h2,hy⟩:=h i b g;⟨a,B,d,e,cO f hc,h1,h2,hy.keep f⟩
theorem Tx.take {w:World} {A:Option Addr} {b:List (List Int)} (h:Tx w A b) (k:Nat):Tx w A (b.take k):=fun i x a=>h i x (by
 rw [List.getElem?_take] at a;split at a;exact a;cases a)
def co (w:World) (base:Nat) (v:Value) (a:List (List Int)):Prop :=
 ∃ c:List Value,w.ownsRow base 22 1 v a.length c/\∀ (i:Nat) (b:List Int),a[i]?=some b->∃ u,c[i]?=some u/\w.ownsRow base 5 1 u b.length (Bs b)
theorem co.mono {w:World} {b a:Nat} {v:Value} {c:List (List Int)} (h:co w b v c) (d:a<=b):co w a v c:=by
 obtain ⟨f,g,j⟩:=h;exact ⟨f,g.mono d,fun i b k=>let ⟨u,e,h3⟩:=j i b k;⟨u,e,h3.mono d⟩⟩
theorem co.keep {w w':World} {base:Nat} {v:Value} {a:List (List Int)} (h:co w base v a) (c:Below w.heap.size w w'):co w' base v a:=by
 obtain ⟨d,f,g⟩:=h;exact ⟨d,ic f c,fun i b j=>let ⟨u,e,h3⟩:=g i b j;⟨u,e,ic h3 c⟩⟩
theorem co.nil (w:World) (base:Nat):co w base (.slice none 0 0) []:=⟨[],World.ownsRow_nil _ _ _ _,fun i b a=>by cases a⟩
theorem co.tx {w:World} {base:Nat} {v:Value} {c:List (List Int)} (h:co w base v c):∃ A d,v=.slice A c.length d/\c.length<=d/\d<=9223372036854775807/\Tx w A c:=by
 obtain ⟨p,n,q⟩:=h;have f:∀ i b,c[i]?=some b->∃ B d,p[i]?=some (Value.slice B b.length d)/\b.length<=d/\d<=9223372036854775807/\dK w B b:=fun i b a=>by
  obtain ⟨u,e,r⟩:=q i b a;obtain ⟨B,d,rfl,j,h5,k⟩:=bM r rfl;exact ⟨B,d,e,j,h5,k⟩
 rcases n.2 with ⟨rfl,o⟩ | ⟨g,l,s,rfl,x,y,m,t,z,C⟩
 ·refine ⟨none,0,by rw [o],Ha,Ha,fun i b a=>?_⟩;rw [List.length_eq_zero_iff.1 o] at a;cases a
 ·refine ⟨some ⟨g,0,none⟩,l,rfl,m,by simp only [maxLen] at t;omega,fun i b a=>?_⟩;obtain ⟨B,d,e,j,h5,k⟩:=f i b a;exact ⟨_,B,d,rfl,n.cells (g:=g) rfl _ _ e,j,h5,k⟩
theorem Ei:(22:TypeId)≠5:=Hd
theorem GW {w:World} {b l:Nat} {t i:TypeId} {sz c n m:Nat} {v v':Value} {xs d:List Value} (f:t≠i) (h:w.ownsRow b t sz v n xs) (o:w.ownsRow l i c v' m d):v'.ownBlock=none\/v'.ownBlock≠v.ownBlock:=by
 rcases o.2 with ⟨rfl,_⟩ | ⟨u,j,k,rfl,_,a,_⟩
 ·exact Or.inl rfl
 ·right;rcases h.2 with ⟨rfl,_⟩ | ⟨g,p,q,rfl,_,r,_⟩
  ·simp [Value.ownBlock]
  ·intro e;simp [Value.ownBlock] at e;subst e;rw [r] at a;injection a with a
   injection a with x s
   exact f s
def kH (w:World) (R:Option Nat) (v:Value):Prop:=v.ownBlock=R\/∀ k,v.ownBlock=some k->w.heap.size<=k
theorem kH.step {w W:World} {R:Option Nat} {v v':Value} (h:kH w R v) (b:w.heap.size<=W.heap.size) (c:kH W v.ownBlock v'):kH w R v':=by
 rcases c with e | e
 ·rcases h with h | h
  ·exact Or.inl (e.trans h)
  ·exact Or.inr fun k a=>h k (by rw [<- e];exact a)
 ·exact Or.inr fun k a=>Nat.le_trans b (e k a)
theorem zy {w W W':World} {R:Option Nat} {v:Value} (h:w.grownBy W R) (a:kH w R v) (b:W.grownBy W' v.ownBlock):w.grownBy W' R :=
 ⟨b.os.trans h.os,b.tape.trans h.tape,b.output.trans h.output,Nat.le_trans h.size b.size,fun k c d =>
   (b.block k (Nat.lt_of_lt_of_le c h.size) (fun e=>by
     rcases a with a | a
     ·exact d (by rw [e,a])
     ·have:=a k e.symm;omega)).trans (h.block k c d)⟩
theorem gJ {w w':World} {R:Option Nat} {base:Nat} (h:w.grownBy w' R) (a:base<=w.heap.size) (b:∀ k,R=some k->base<=k):Below base w w':=(Below.refl _ _).grown h a b
theorem kH.at_alloc {W:World} {R:Option Nat} {v:Value} {o:Obj} (h:kH (W.alloc o) R v):kH W R v:=h.imp id fun h k a=>by have:=h k a;rw [al] at this;omega
def Jn (w:World) (base:Nat) (v:Value) (n:Nat) (xs:List Int) (R:Option Nat):Prop :=
 (w.ownsRow base 5 1 v n (Bs xs)/\R=v.ownBlock)\/(R=none/\∃ g o,v=.slice (some ⟨g,o,none⟩) n n/\xs.length=n/\dK w (some ⟨g,o,none⟩) xs)
theorem Jn.alloc {w:World} {base:Nat} {v:Value} {n:Nat} {xs:List Int} {R:Option Nat} (h:Jn w base v n xs R) (o:Obj):Jn (w.alloc o) base v n xs R:=by
 rcases h with ⟨h,a⟩ | ⟨a,g,b,e,c,d⟩
 ·exact Or.inl ⟨h.alloc o,a⟩
 ·exact Or.inr ⟨a,g,b,e,c,d.alloc o⟩
theorem lZ {w:World} {a:Addr} {xs:List Int} (h:dK w (some a) xs):∀ j u,(Bs xs)[j]?=some u->w.cell? (a.add j)=some u:=fun j u hj=>by
 unfold Bs at hj;rw [List.getElem?_map] at hj;obtain ⟨x,b,rfl⟩:=Option.map_eq_some_iff.1 hj;obtain ⟨d,e,c⟩:=h j x b;injection e with e;subst e;exact c
theorem sO (w:World) (ty:TypeId) (f:Addr) (n:Nat) (xs:List Int) (q:dK w (some f) xs) (r:xs.length=n) (A:Option Addr) (m c:Nat) (ys:List Int) (o:dK w A ys) (p:ys.length=m)
 (C:0<m) (s:n+m<=1000000) :
 ∃ v' w',(Builtin.append_ #[22,22] ty #[.slice (some f) n n,.slice A m c]).run Tryz.prog w=.ok v' w'/\(∀ base,base<=w.heap.size->w'.ownsRow base 5 1 v' (n+m) (Bs (xs++ys)))/\w.grownBy w' none:=by
 obtain ⟨t,u,g,d,h⟩:=info_parts jE;have v:∃ a,A=some a:=by
  cases ys with
  | nil=>simp at p;omega
  | cons y l=>obtain ⟨a,e,_⟩:=o 0 y rfl;exact ⟨a,e⟩
 obtain ⟨a,rfl⟩:=v;have i:=grownCap_ge w (n+m) n 5;have j:grownCap w (n+m) n 5<=maxLen:=grownCap_le_maxLen w (n+m) n _ (by simp only [maxLen];omega);have x:=run_append_grow (P:=Tryz.prog) w 22 ty 5 t (.int .u8 0) Tryz.underlying22 u g f n n (Bs xs) (by rw [ar,d];omega) (lZ q) a m c (Bs ys) (by rw [ar,d];omega) (lZ o) Ha Ha
  (by rw [h];have:=nextslicecap_le (show n<n+m by omega);omega)
 have b:(Bs (xs++ys)).length=(n+m)*1:=by rw [ar,List.length_append];omega
 refine ⟨_,_,x,fun base z=>⟨b,.inr ⟨w.heap.size,_,_,rfl,z,heap_alloc_new w.drew _,i,j,?_,?_⟩⟩,⟨rfl,rfl,rfl,Hb,fun k B _=>heap_alloc_old w.drew _ B⟩⟩
 ·simp only [Array.size_append,List.size_toArray,size_zeroCells,ar,r,p];show n+m+(_-(n+m))*1=_*1;omega
 ·simp only [Array.toList_append,List.append_assoc];rw [<- List.append_assoc,<- b,je];exact List.take_left
theorem xg (w:World) (ty:TypeId) (base:Nat) (v:Value) (n:Nat) (xs:List Int) (R:Option Nat) (b:Jn w base v n xs R) (A:Option Addr) (m c:Nat) (ys:List Int) (q:dK w A ys) (r:ys.length=m)
 (s:0<m) (d:n+m<=1000000) (a:base<=w.heap.size) :
 ∃ v' w',(Builtin.append_ #[22,22] ty #[v,.slice A m c]).run Tryz.prog w=.ok v' w'/\w'.ownsRow base 5 1 v' (n+m) (Bs (xs++ys))/\w.grownBy w' R/\kH w R v':=by
 rcases b with ⟨e,i⟩ | ⟨i,g,u,rfl,t,l⟩
 ·obtain ⟨v',w',o,j,p,f⟩:=iK w ty base v n xs e A m c ys q r d a;refine ⟨v',w',o,j,by rw [i];exact p,?_⟩;rcases f with f | f
  ·exact Or.inl (by rw [i];exact f)
  ·exact Or.inr fun k h=>by rw [f] at h;injection h with h;omega
 ·obtain ⟨v',w',o,j,p⟩:=sO w ty _ n xs l t A m c ys q r s d;refine ⟨v',w',o,j base a,by rw [i];exact p,?_⟩;exact Or.inr fun k h=>((j w.heap.size (Nat.le_refl _)).lt k h).1
theorem gT (w:World) {ops:Array Oper} {rest:List Oper} {o:Oper} {a:Act} {Q:Exit->Act->World->Prop} (j:o.guard=none) (s x:Operand)
 (p:o.op=.call { callee:=.builtin .append,args:=#[s,x],argTypes:=#[22,22] })
 (b:Nat) (v:Value) (n:Nat) (k:List Int) (R:Option Nat) (q:a.eval s=v) (e:Jn w b v n k R) (A:Option Addr) (m c:Nat) (i:List Int) (r:a.eval x=.slice A m c) (t:dK w A i) (u:i.length=m)
 (y:0<m) (l:n+m<=1000000) (d:b<=w.heap.size)
 (h:∀ f g,g.ownsRow b 5 1 f (n+m) (Bs (k++i))->w.grownBy g R->kH w R f->wpList Tryz.prog ops Q rest (a.put o.dst f) g):wpList Tryz.prog ops Q (o :: rest) a w:=by
 refine wpList_plain j fun _ z=>?_;obtain ⟨f,g,B,C,H,I⟩:=xg w o.type b v n k R e A m c i t u y l d;unfold Oper.wp execOp;simp only [p,resolve,invoke,builtin,Sem.run_bind,Sem.run_pure,Result.andThen_ok,List.map_toArray,List.map_cons,List.map_nil,q,r,B];exact z _ _ (h f g C H I)
theorem A0 (w:World) (base:Nat) (v:Value) (m:Nat) (xs:List Int) (R:Option Nat) (n s:Nat) (d:Jn w base v m xs R) (i:base<=w.heap.size) (hm:m<=900000) (hs:s<=4) (X:0<s) (hn:n<4294967296) :
 Calls Tryz.prog 192 #[v,.int .u32 n,.int .i64 s] w fun e w'=>∃ v',e=.returned v'/\w'.ownsRow base 5 1 v' (m+s) (Bs (xs++be n s))/\w.grownBy w' R/\kH w R v':=by
 have HO:=He d;clear d;go_enter Tryz.func192,Tryz.ntmps192;go_wp2;refine bq (fun T w'=>∃ (k:Nat) (l:Value) (a:List Int) (c:Option Nat),k<=s/\Hid (Jn w' base l (m+(s-k)) (xs++a) c/\(k<s->w'.ownsRow base 5 1 l (m+(s-k)) (Bs (xs++a))/\c=l.ownBlock/\kH w R l)/\(k=s->c=R)/\a++be n k=be n s/\w.grownBy w' R)/\∃ u7 u8 u9 p q r t u y z A B C:Value,T={ tmps:=#[l,.int .u32 n,.int .i64 k,undef,undef,undef,.slice none 0 0,u7,u8,u9,p,q,r,t,u,y,z,A,B,C],defers:=[] })
  (fun T _=>(intOf (T.tmps.getD 2 undef)).toNat) rfl ?_ ?_
 ·intro HF;go_wp2;go_step3;rename_i hK;exact hK _ _ (HF _ _ ⟨s,v,[],R,Nat.le_refl _,⟨by simpa using HO.out,fun h=>absurd h (Nat.lt_irrefl _),fun _=>rfl,rfl,World.grownBy.refl _ _⟩,_,_,_,_,_,_,_,_,_,_,_,_,_,rfl⟩)
 ·rintro T W ⟨k,l,a,c,hk,f,u7,u8,u9,p,q,r,t,u,y,z,A,B,C,rfl⟩;by_cases Y:k=0
  ·subst Y;go_wp2;simp only [Exit.jump];go_ret;obtain ⟨_,H,_,o,U⟩:=f.out;obtain ⟨H,_,V⟩:=H X;exact ⟨_,rfl,by rw [<- o];simpa [be] using H,U,V⟩
  ·obtain ⟨j,rfl⟩:∃ j,k=j+1:=⟨k-1,Ha⟩
   have hq:(((j+1:Nat):Int)==0)=false:=by simp;omega
   have hj:j<4:=Ha;have a0:base<=W.heap.size:=Nat.le_trans i f.out.2.2.2.2.size;have b:∀ x:Int,x=((n/256 ^ j%256:Nat):Int)->∀ (g:World) (v':Value),g.ownsRow base 5 1 v' (m+(s-(j+1))+1) (Bs ((xs++a)++[x]))->W.grownBy g c->kH W c v'->∀ I,I=v'.ownBlock->Jn g base v' (m+(s-j)) (xs++(a++[x])) I/\(j<s->g.ownsRow base 5 1 v' (m+(s-j)) (Bs (xs++(a++[x])))/\I=v'.ownBlock/\kH w R v')/\(j=s->I=R)/\(a++[x])++be n j=be n s/\w.grownBy g R:=by
    intro x hx g v' H o V I K;have U:g.ownsRow base 5 1 v' (m+(s-j)) (Bs (xs++(a++[x]))):=by
     rw [show m+(s-j)=m+(s-(j+1))+1 by omega,<- List.append_assoc];exact H
    have L:kH w R v'/\w.grownBy g R:=by
     by_cases Z:j+1=s
     ·have e:=f.out.2.2.1 Z;subst e;have M:=f.out.2.2.2.2;exact ⟨V.imp id fun h k hk=>Nat.le_trans M.size (h k hk),M.trans o⟩
     ·obtain ⟨_,e,N⟩:=f.out.2.1 Ha;subst e;have M:=f.out.2.2.2.2;exact ⟨N.step M.size V,zy M N o⟩
    refine ⟨Or.inl ⟨U,K⟩,fun _=>⟨U,K,L.1⟩,fun e=>Ha,?_,L.2⟩;rw [<- f.out.2.2.2.1,hx,List.append_assoc];rfl
   have HS:=He b;clear b;have a1:((j+1:Nat):Int)-1=j:=Ha;have HL:Hid (m+(s-(j+1))+1<=1000000):=by unfold Hid;omega
   rcases (show j=0\/j=1\/j=2\/j=3 by omega) with rfl | rfl | rfl | rfl
   all_goals
    go_wp2_with (first
     | (at_builtin
        refine gT _ rfl (.tmp 12) (.tmp 18) rfl base l (m+(s-_)) (xs++a) c rfl (f.out.1.alloc _) (some ⟨W.heap.size,0,none⟩) 1 1 [_] rfl (gC (heap_alloc_new _ _) rfl) rfl Ha HL.out (by rw [al];omega) ?_;intro v2 w2 o O S;have ad:W.grownBy w2 c:=(World.grownBy_alloc W _ c).trans O;have an:kH W c v2:=S.at_alloc;have H2:=He o;clear o O S))
    go_step3;refine ⟨rfl,⟨_,v2,a++[_],_,Ha,HS.out _ ?_ _ _ H2.out ad an _ rfl,_,_,_,_,_,_,_,_,_,_,_,_,_,rfl⟩,?_⟩
    ·first
      | (rw [Int.natCast_emod,Int.natCast_ediv];rfl)
      | (simp;done)
      | (simp;omega)
    ·simp [intOf]
theorem l9 (w:World) (base:Nat) (v:Value) (m:Nat) (xs:List Int) (n s:Nat) (b:w.ownsRow base 5 1 v m (Bs xs)) (a:base<=w.heap.size) (f:m<=900000) (g:s<=4) (c:0<s) (h:n<4294967296) :
 Calls Tryz.prog 192 #[v,.int .u32 n,.int .i64 s] w fun e w'=>∃ v',e=.returned v'/\w'.ownsRow base 5 1 v' (m+s) (Bs (xs++be n s))/\Below base w w'/\w.grownBy w' v.ownBlock/\kH w v.ownBlock v' :=
 (A0 w base v m xs _ n s (Or.inl ⟨b,rfl⟩) a f g c h).mono fun e w' ⟨v',i,j,d,l⟩=>⟨v',i,j,gJ d a (fun k o=>(b.lt k o).1),d,l⟩
theorem tH (A:Option Addr) (xs:List Int) (n d:Nat) (w:World) (m:xs.length=n) (v:n<=4) (o:ay xs) (p:dK w A xs) :
 Calls Tryz.prog 193 #[.slice A n d] w fun e w'=>e=.returned (.int .u32 (aB xs))/\w=w':=by
 have q:=He p;have c:=He m;have HB:=He o;clear m o p;go_enter Tryz.func193,Tryz.ntmps193;go_wp2
 go_loop [3,8] (fun z i=>∃ k:Nat,k<=n/\i=.int .i64 k/\z=.int .u32 (aB (xs.take k):Nat)) (fun _ i=>n-(intOf i).toNat)
 case atStart=>exact ⟨0,Nat.zero_le _,rfl,rfl⟩
 case round =>
  obtain ⟨k,B,rfl,rfl⟩:=hrel;by_cases f:k<n
  ·obtain ⟨x,b⟩:∃ x,xs[k]?=some x:=⟨_,List.getElem?_eq_getElem (by rw [c.out];exact f)⟩
   obtain ⟨C,rfl,r⟩:=q.out k x b;have g:=HB.out x (List.mem_of_getElem? b);obtain ⟨y,rfl⟩:∃ y:Nat,x=(y:Int):=⟨x.toNat,Ha⟩
   have h:y<256:=Ha;have s:Hid (aB (xs.take (k+1))=aB (xs.take k)*256+y):=by
    unfold Hid;rw [aw b,ka,Int.toNat_natCast]
   have t:=i5 k (xs.take k) (by rw [List.length_take,c.out];omega) (fun z u=>HB.out z (List.mem_of_mem_take u));have j:256 ^ k<=256 ^ 3:=Nat.pow_le_pow_right Ha Ha;have l:aB (xs.take k)<16777216:=Ha;clear b g t j;generalize aB (xs.take k)=a at *;have H:IntKind.u32.wrap (y:Int)=y:=IntWalk.u32_in _ Ha;go_wp2
   go_round
   case rel=>exact ⟨k+1,Ha,by go_num,by rw [s.out,AK a y l h]⟩
   case measure=>simp [intOf];omega
  ·have e:xs.take k=xs:=List.take_of_length_le (by rw [c.out];omega);rw [e];go_wp2;go_ret;exact ⟨rfl,rfl⟩
theorem vl (n:Nat):(madeCells (Value.int .u8 0).cells n).toList=Bs (List.replicate n 0):=by
 unfold madeCells Bs;apply List.ext_getElem?;intro i;simp [List.getElem?_replicate,Value.cells];by_cases h:i<n <;> simp [h,Nat.mod_one]
theorem mV (A:Option Addr) (xs:List Int) (n d:Nat) (w:World) (L:xs.length=n) (V:n<=60) (N:ay xs) (O:dK w A xs) :
 Calls Tryz.prog 191 #[.slice A n d] w fun e w'=>∃ v,e=.returned v/\w'.ownsRow w.heap.size 5 1 v 64 (Bs (df xs))/\Below w.heap.size w w':=by
 obtain ⟨y,z,c,a,f⟩:=info_parts jE;have b:=fun w:World=>run_make (P:=Tryz.prog) w 22 5 y _ Tryz.underlying22 z c .i64 .i64 60 64 Ha Ha (by rw [f];omega) Ha;have g:(madeCells (Value.int .u8 0).cells (64*y.size)).toList=Bs (List.replicate 64 0):=by
  rw [a,Nat.mul_one];exact vl 64
 generalize R:madeCells (Value.int .u8 0).cells ((64:Int).toNat*y.size)=M at b;rw [show ((64:Int)).toNat=64 by omega,show ((60:Int)).toNat=60 by omega] at b;have S:Hid (M.toList=Bs (List.replicate 64 0)):=by unfold Hid;rw [<- R];exact g
 have T:=He O;have x:=He L;have HB:=He N;have W:Hid ((Tryz.prog.info? 5).map (·.size)=some 1):=by unfold Hid;rw [z];simp [a]
 clear R g z c a f O L N;go_enter Tryz.func191,Tryz.ntmps191;go_upto_region 2 with fail
 have i:=He (heap_alloc_new w (Obj.cells M 5));have j:Hid (Below w.heap.size w (w.alloc (Obj.cells M 5))):=(Below.refl _ _).alloc (Nat.le_refl _) _;clear b;have X:Hid (w.heap.size=w.heap.size):=rfl;generalize w.alloc (Obj.cells M 5)=W0 at *;have k:(Bs (List.replicate 64 0)).length=64:=by rw [ar];simp
 go_upto_region 3 with (first
  | (refine wpList_copy_splice rfl (.tmp 5) (.tmp 6) 22 22 rfl 5 Tryz.underlying22 W.out (some ⟨w.heap.size,0,none⟩) A 60 64 n d rfl rfl w.heap.size 0 (Bs (List.replicate 64 0)) 5 (by rw [<- S.out,Array.toArray_toList];exact i.out) (Bs xs) (by rw [ar,x.out];show n=min n 60;omega) ?_ (by rw [ar,x.out,k];omega) (io xs) w.heap.size w j.out (Nat.le_refl _) ?_
     ·intro U;refine ⟨rfl,?_⟩;have B:0<xs.length:=by rw [ar] at U;exact U
      obtain ⟨Y,e,_⟩:=T.out 0 _ (List.getElem?_eq_getElem B);subst e;exact ⟨Y,rfl,lZ (T.out.keep j.out)⟩
     intro l m o))
 have p:splice (Bs (List.replicate 64 0)) 0 (Bs xs)=Bs (de xs++List.replicate 4 0):=by
  unfold splice de;rw [ar,x.out,List.take_zero,List.nil_append,Nat.zero_add];unfold Bs;rw [<- List.map_drop,<- List.map_append,List.drop_replicate,List.append_assoc,List.replicate_append_replicate]
  congr 3
  omega
 have q:Hid (l.heap[w.heap.size]?=some (.cells (Bs (de xs++List.replicate 4 0)).toArray 5 (0,0))):=by
  unfold Hid;rw [<- p];exact m.out
 have r:=He (kF (xs:=xs) (by rw [x.out];exact V));have own1:l.ownsRow w.heap.size 5 1 (.slice (some ⟨w.heap.size,0,none⟩) 60 64) 60 (Bs (de xs)):=by
  refine ⟨by rw [ar,r.out],Or.inr ⟨w.heap.size,64,_,rfl,Nat.le_refl _,q.out,Ha,by simp only [maxLen];omega,?_,?_⟩⟩
  ·simp [ar,r.out]
  ·rw [je];have:(Bs (de xs)).length=60*1:=by rw [ar,r.out]
   rw [<- this];exact List.take_left
 have C:=He own1;have s:dK l (some ⟨w.heap.size,0,none⟩) (de xs):=by
  obtain ⟨A',d',e,_,_,h⟩:=bM own1 r.out;injection e with e;rw [<- e] at h;exact h
 have t:=qO HB.out;have H:=He (AX (de xs));have I:Hid (df xs=de xs++be (oO (de xs)) 4):=He rfl;clear m q p own1 k i S;go_wp2_with fail
 refine (AY (some ⟨w.heap.size,0,none⟩) (de xs) 60 64 l r.out Ha t s).mono ?_;rintro e W2 ⟨rfl,rfl⟩;clear t s;generalize oO (de xs)=Z at *;go_wp2_with fail
 refine (l9 l w.heap.size _ 60 (de xs) Z 4 C.out o.size Ha Ha Ha H.out).mono ?_;rintro e W4 ⟨v4,rfl,u,K,_⟩;go_wp2_with fail
 go_ret;exact ⟨v4,rfl,by rw [I.out];exact u,o.trans K⟩
def zW:Wr:=⟨0,0,az⟩
theorem iX:zW.bs.length=56:=ak
theorem mD:(Tryz.prog.info? 52).map (fun i=>(i.zero,i.size,i.bytes))=some (some (.agg (cS zW)),58,72):=Hc
theorem qS:(Tryz.prog.info? 52).map (·.size)=some 58:=Hc
theorem qT {P:Program} (w:World) (p:Addr) (ty:TypeId) (cs:List Value) (d:TypeDesc) (e:∀ j v,cs[j]?=some v->w.cell? (p.add j)=some v)
 (f:P.underlying ty=some d) (hd:d.isRow=true) (c:(P.info? ty).map (·.size)=some cs.length) :
 (loadVar ty p).run P w=.ok (.agg cs.toArray) w:=by
 have g:(loadCells p cs.length).run P w=.ok cs.toArray w:=run_loadCells_list (P:=P) w p cs e;cases b:P.info? ty with
 | none=>simp [b] at c
 | some i =>
   have h:i.size=cs.length:=by simpa [b] using c
   have a:(isAgg ty).run P w=.ok true w:=by
    unfold isAgg;rw [Sem.run_bind,run_underlying f w];cases d <;> simp_all
   simp [loadVar,Sem.run_bind,a,sizeOf,typeInfo,b,h,g]
theorem Cu (w:World) (p:Addr) (x:Wr) (a:x.bs.length=56) (b:mU w p x) :
 (Instr.loadAt 52 (.pointer (some p))).run Tryz.prog w=.ok (.agg (cS x)) w:=by
 simp only [Instr.loadAt,Instr.sureAddr,Sem.run_bind,Sem.run_pure,Result.andThen_ok];rw [qT w p 52 (wrL x) _ b Tryz.underlying52 rfl (by rw [bA a];exact qS)];rfl
theorem gU {w:World} {g:Nat} {x:Wr} {t:TypeId} {a:Nat × Nat} (h:w.heap[g]?=some (.cells (cS x) t a)):mU w ⟨g,0,none⟩ x:=fun j v hj=>by
 rw [dU,cell_of_row _ _ _ _ _ _ h,<- Array.getElem?_toList,ki];exact hj
theorem mU.c0 {w:World} {p:Addr} {x:Wr} (h:mU w p x):w.cell? p=some (.int .i64 x.t):=by
 have:=h 0 _ rfl
 rwa [show p.add 0=p by unfold Addr.add;simp] at this
theorem mU.c1 {w:World} {p:Addr} {x:Wr} (h:mU w p x):w.cell? ⟨p.block,p.off+1,none⟩=some (.int .i64 x.k):=by
 have:=h 1 _ rfl
 rwa [lS p 0] at this
theorem mU.body {w:World} {p:Addr} {x:Wr} (h:mU w p x):dK w (some ⟨p.block,p.off+2,none⟩) x.bs:=fun i v a=>by
 refine ⟨_,rfl,?_⟩;have:=h (i+2) (.int .u8 v) (by unfold wrL blkL;simp;exact kR a);rw [lS p (i+1)] at this;rw [cZ,show p.off+2+i=p.off+(i+1+1) by omega];exact this
section
variable {ops:Array Oper} {rest:List Oper} {o:Oper} {a:Act} {w:World} {Q:Exit->Act->World->Prop}
theorem iF (b:o.guard=none) (x:Operand) (d:o.op=.load 52 x) (p:Addr) (e:a.eval x=.pointer (some p)) (y:Wr) (c:y.bs.length=56) (f:mU w p y)
 (h:wpList Tryz.prog ops Q rest (a.put o.dst (.agg (cS y))) w):wpList Tryz.prog ops Q (o :: rest) a w :=
 wpList_plain b fun _ g=>jT (by
  unfold execOp;simp only [d,e,Sem.run_bind,Cu w p y c f,Result.andThen_ok,Sem.run_pure]) (g _ _ h)
theorem dk (b:o.guard=none) (d:o.op=.alloc 52)
 (h:wpList Tryz.prog ops Q rest (a.put o.dst (.pointer (some ⟨w.heap.size,0,none⟩))) (w.alloc (.cells (cS zW) 52))):wpList Tryz.prog ops Q (o :: rest) a w:=by
 obtain ⟨e,f,c,g,i⟩:=info_parts mD;exact wpList_plain b fun _ j=>ce 52 d e _ f c (j _ _ h)
theorem nS (b:o.guard=none) (x:Operand) (d:o.op=.load 52 x) (g:Nat) (e:a.eval x=.pointer (some ⟨g,0,none⟩)) (y:Wr) (c:y.bs.length=56) (f:w.heap[g]?=some (.cells (cS y) 52 (0,0)))
 (h:wpList Tryz.prog ops Q rest (a.put o.dst (.agg (cS y))) w):wpList Tryz.prog ops Q (o :: rest) a w :=
 wpList_load_row b 52 x d g e _ _ _ _ f Tryz.underlying52 rfl (by rw [dd c];exact qS) h
theorem dm (d:o.guard=none) (x y:Operand) (e:o.op=.store 52 x y) (g:Nat) (f:a.eval x=.pointer (some ⟨g,0,none⟩)) (u v:Wr) (i:a.eval y=.agg (cS u)) (b:u.bs.length=56) (c:v.bs.length=56) (j:w.heap[g]?=some (.cells (cS v) 52 (0,0)))
 (h:wpList Tryz.prog ops Q rest (a.put o.dst undef) (w.setRow g (cS u))):wpList Tryz.prog ops Q (o :: rest) a w :=
 wpList_store_row d 52 x y e g _ f i _ _ j (by rw [dd b];exact qS) (by rw [dd b,dd c]) (AZ _) h
end
theorem oT (w:World) (x:Wr):((w.alloc (.cells (cS zW) 52)).setRow w.heap.size (cS x)).heap[w.heap.size]?=some (.cells (cS x) 52 (0,0)) :=
 setRow_heap _ _ _ _ _ _ (heap_alloc_new w _)
theorem fU (w:World) (x:Wr):Below w.heap.size w ((w.alloc (.cells (cS zW) 52)).setRow w.heap.size (cS x)) :=
 below_setRow ((Below.refl _ _).alloc (Nat.le_refl _) _) (Nat.le_refl _) _
def km (s:List Wr):List Value:=(List.range 200).map fun (j:Nat)=>.bool (decide (∃ x∈s,x.t=(j:Int)))
theorem i8 (s:List Wr):(km s).length=200:=by unfold km;simp
theorem nT (s:List Wr) {m:Nat} (h:m<200):(km s)[m]?=some (.bool (decide (∃ x∈s,x.t=(m:Int)))):=by unfold km;simp [h]
theorem Cv:km []=List.replicate 200 (.bool false):=by
 apply List.ext_getElem?;intro j;by_cases hj:j<200
 ·rw [nT _ hj,List.getElem?_replicate,if_pos hj];simp
 ·rw [List.getElem?_eq_none (by rw [i8];omega),List.getElem?_eq_none (by rw [List.length_replicate];omega)]
theorem Cw (s:List Wr) {x:Wr} {m:Nat} (c:x.t=(m:Int)):(km s).set m (.bool true)=km (s++[x]):=by
 apply List.ext_getElem?;intro j;by_cases hj:j<200
 ·rw [nT _ hj,List.getElem?_set,i8];by_cases e:m=j
  ·subst e;rw [if_pos rfl,if_pos hj,decide_eq_true ⟨x,Hb,c⟩]
  ·rw [if_neg e,nT _ hj]
   congr 2
   rw [decide_eq_decide];constructor
   ·rintro ⟨y,a,b⟩;exact ⟨y,by simp [a],b⟩
   ·rintro ⟨y,a,b⟩;rcases List.mem_append.1 a with a | a
    ·exact ⟨y,a,b⟩
    ·simp only [List.mem_cons,List.not_mem_nil,or_false] at a;subst a;omega
 ·rw [List.getElem?_eq_none (by rw [List.length_set,i8];omega),List.getElem?_eq_none (by rw [i8];omega)]
theorem Ll:(Tryz.prog.info? 195).map (fun i=>(i.zero,i.size,i.bytes))=some (some (.agg (km []).toArray),200,200):=by rw [Cv];kernel_rfl
theorem sP {ops:Array Oper} {rest:List Oper} {o:Oper} {a:Act} {w:World} {Q:Exit->Act->World->Prop} (b:o.guard=none) (d:o.op=.alloc 195)
 (h:wpList Tryz.prog ops Q rest (a.put o.dst (.pointer (some ⟨w.heap.size,0,none⟩))) (w.alloc (.cells (km []).toArray 195))):wpList Tryz.prog ops Q (o :: rest) a w:=by
 obtain ⟨e,f,c,g,i⟩:=info_parts Ll;exact wpList_plain b fun _ j=>ce 195 d e _ f c (j _ _ h)
structure vm (l:List Wr) (k:Nat):Prop where
 may:∀ x∈l.take k,mS x.k x.t
 nd:((l.take k).map (·.t)).Nodup
theorem vm.none (l:List Wr):vm l 0:=⟨fun x a=>by simp at a,Hb⟩
theorem vm.next {l:List Wr} {k:Nat} {x:Wr} (h:vm l k) (f:l[k]?=some x) (i:mS x.k x.t) (j:¬ ∃ y∈l.take k,y.t=x.t):vm l (k+1):=by
 refine ⟨fun y c=>?_,?_⟩
 ·rw [aw f] at c;rcases List.mem_append.1 c with d | d
  ·exact h.may y d
  ·simp only [List.mem_cons,List.not_mem_nil,or_false] at d;subst d;exact i
 ·rw [aw f,List.map_append,List.nodup_append];refine ⟨h.nd,Hb,fun a m b g=>?_⟩;obtain ⟨y,c,rfl⟩:=List.mem_map.1 m;simp only [List.map_cons,List.map_nil,List.mem_cons,List.not_mem_nil,or_false] at g;subst g;exact fun e=>j ⟨y,c,e⟩
theorem vm.all {l:List Wr} {k:Nat} (h:vm l k) (a:l.length<=k) (b:1<=l.length/\l.length<=12):bQ l:=by
 have e:l.take k=l:=List.take_of_length_le a;exact ⟨b,by have:=h.may;rwa [e] at this,by have:=h.nd;rwa [e] at this⟩
theorem i9 {l:List Wr} {k:Nat} {x:Wr} (a:l[k]?=some x) (b:¬ mS x.k x.t):¬ bQ l:=fun h=>b (h.2.1 x (List.mem_of_getElem? a))
theorem vo {l:List Wr} {k:Nat} {x:Wr} (b:l[k]?=some x) (c:∃ y∈l.take k,y.t=x.t):¬ bQ l:=fun h=>by
 obtain ⟨y,d,e⟩:=c;have a:((l.take (k+1)).map (·.t)).Nodup:=h.2.2.sublist ((List.take_sublist _ _).map _);rw [aw b,List.map_append,List.nodup_append] at a;exact a.2.2 _ (List.mem_map.2 ⟨y,d,rfl⟩) _ Hb e
theorem GX (A:Option Addr) (l:List Wr) (n d:Nat) (w:World) (hn:l.length=n) (hl:n<=d) (hd:d<=9223372036854775807) (L:bW l) (hy:GV w A l) :
 Calls Tryz.prog 162 #[.slice A n d] w fun e w'=>e=.returned (.bool (decide (bQ l)))/\Below w.heap.size w w':=by
 have HY:=He hy;have M:=He hn;have HO:=He L;clear hn L hy;by_cases h1:n<1
 ·have a:¬ bQ l:=fun h=>by have:=h.1.1;rw [M.out] at this;omega
  rw [decide_eq_false a];have Y:decide ((n:Int)<1)=true:=decide_eq_true Ha;clear a;go_enter Tryz.func162,Tryz.ntmps162;go_wp2;go_ret;exact ⟨rfl,Below.refl _ _⟩
 have Y:decide ((n:Int)<1)=false:=decide_eq_false Ha;by_cases h2:12<n
 ·have a:¬ bQ l:=fun h=>by have:=h.1.2;rw [M.out] at this;omega
  rw [decide_eq_false a];have Z:decide (12<(n:Int))=true:=decide_eq_true Ha;clear a;go_enter Tryz.func162,Tryz.ntmps162;go_wp2;go_ret;exact ⟨rfl,Below.refl _ _⟩
 have Z:decide (12<(n:Int))=false:=decide_eq_false Ha;have g:Below w.heap.size w (w.alloc (Obj.cells (km []).toArray 195)):=(Below.refl _ _).alloc (Nat.le_refl _) _;have j:=heap_alloc_new w (Obj.cells (km []).toArray 195);go_enter Tryz.func162,Tryz.ntmps162;go_wp2_with (first
  | (refine sP rfl rfl ?_))
 generalize w.alloc (Obj.cells (km []).toArray 195)=W0 at *;have HS:Hid (w.heap.size=w.heap.size):=rfl
 go_loopw [16] (fun i wr=>∃ k:Nat,i=.int .i64 k/\k<=n/\wr.heap[w.heap.size]?=some (.cells (km (l.take k)).toArray 195 (0,0))/\vm l k/\Below w.heap.size w wr) (fun i _=>n-(intOf i).toNat)
 case atStart=>exact ⟨0,rfl,Nat.zero_le _,j,vm.none l,g⟩
 case round =>
  obtain ⟨k,rfl,hk,s,o,f⟩:=hrel;have B:=He s;have HP:=He o;clear s o j g;by_cases an:k<n
  ·obtain ⟨x,V⟩:∃ x,l[k]?=some x:=⟨_,List.getElem?_eq_getElem (by rw [M.out];exact an)⟩
   have r:=HO.out x (List.mem_of_getElem? V);obtain ⟨ad,rfl,N⟩:=HY.out.keep f k x V;have C:=He V;have O:=He r.len;have R:=He N;have a0:=r.t;have a1:=r.k;clear V N r;go_upto_region 7 with (first
    | (refine iF rfl (.tmp 18) rfl (ad.add (k*58)) rfl x O.out R.out ?_)
    | (refine dk rfl rfl ?_)
    | (refine dm rfl (.tmp 5) (.tmp 19) rfl wr.heap.size rfl x zW rfl O.out iX (heap_alloc_new wr _) ?_))
   have p:=oT wr x;have H:=fU wr x;have S:=ah B.out;have u:((wr.alloc (.cells (cS zW) 52)).setRow wr.heap.size (cS x)).heap[w.heap.size]?=_:=(H.block _ S).trans B.out;have b:=aR f H;generalize (wr.alloc (.cells (cS zW) 52)).setRow wr.heap.size (cS x)=W at *;generalize wr.heap.size=g5 at *;have c0:W.cell? ⟨g5,0,none⟩=_:=(gU p).c0;have c1:W.cell? ⟨g5,1,none⟩=_:=(gU p).c1;have q:=He u;clear p H u B f R;by_cases q1:x.k<0
   ·have a:¬ bQ l:=i9 C.out (fun h=>by have:=h.1;omega);have e1:decide (x.k<0)=true:=decide_eq_true q1;have c:=He a;clear a;go_wp2;go_ret;exact ⟨aj (decide_eq_false c.out).symm,b⟩
   have e1:decide (x.k<0)=false:=decide_eq_false q1;by_cases q2:7<x.k
   ·have a:¬ bQ l:=i9 C.out (fun h=>by have:=h.1;omega);have e2:decide (7<x.k)=true:=decide_eq_true q2;have c:=He a;clear a;go_wp2;go_ret;exact ⟨aj (decide_eq_false c.out).symm,b⟩
   have e2:decide (7<x.k)=false:=decide_eq_false q2;by_cases q3:x.t<0
   ·have a:¬ bQ l:=i9 C.out (fun h=>by have:=h.2;omega);have e3:decide (x.t<0)=true:=decide_eq_true q3;have c:=He a;clear a;go_wp2;go_ret;exact ⟨aj (decide_eq_false c.out).symm,b⟩
   have e3:decide (x.t<0)=false:=decide_eq_false q3;by_cases X:200<=x.t
   ·have a:¬ bQ l:=i9 C.out (fun h=>by have:=h.2;omega);have e4:decide (200<=x.t)=true:=decide_eq_true X;have c:=He a;clear a;go_wp2;go_ret;exact ⟨aj (decide_eq_false c.out).symm,b⟩
   obtain ⟨m,hm⟩:∃ m:Nat,x.t=(m:Int):=⟨x.t.toNat,Ha⟩
   have HM:=He hm;rw [hm] at c0 e3 X;have e4:decide (200<=(m:Int))=false:=decide_eq_false X;have I:m<200:=Ha;have cs:W.cell? ⟨w.heap.size,m,none⟩=some (.bool (decide (∃ y∈l.take k,y.t=(m:Int)))):=by
    rw [af q.out,List.getElem?_toArray];exact nT _ I
   have fs:W.frozen? ⟨w.heap.size,m,none⟩=false:=aA q.out m;have v:mS x.k x.t:=⟨Ha,Ha⟩
   have T:=He v;clear v hm X q3 a0;by_cases K:∃ y∈l.take k,y.t=(m:Int)
   ·have a:¬ bQ l:=vo C.out (by rw [HM.out];exact K);rw [decide_eq_true K] at cs;have c:=He a;clear a K;go_wp2;go_ret;exact ⟨aj (decide_eq_false c.out).symm,b⟩
   ·have HQ:=He K;rw [decide_eq_false K] at cs;clear K;go_wp2
    go_roundw
    case rel =>
     refine ⟨k+1,by go_num,Ha,?_,HP.out.next C.out T.out (by rw [HM.out];exact HQ.out),b.setCell (Nat.le_refl _) _⟩;rw [ai q.out,aw C.out,<- Cw _ HM.out];simp
    case measure=>simp [intOf];omega
  ·have z:bQ l:=HP.out.all (by rw [M.out];omega) (by rw [M.out];omega);have U:=He z;clear z;go_wp2;go_ret;exact ⟨aj (decide_eq_true U.out).symm,f⟩
theorem Cx {l:List Wr} {k:Nat} {x:Wr} {m:Nat} (a:l[k]?=some x) (b:x.t=(m:Int)):told (l.take (k+1))=(told (l.take k)++be m 2)++[x.k]:=by
 rw [aw a,pF];show _++((be x.t.toNat 2++[x.k])++[])=_;rw [b,Int.toNat_natCast,List.append_nil,List.append_assoc]
theorem Ej (lb:Int) (e s:Nat) (A:Option Addr) (l:List Wr) (n d:Nat) (w:World) (an:0<=lb/\lb<=255) (he:e<4294967296) (hs:s<4294967296) (hn:l.length=n) (hl:n<=d) (hd:d<=9223372036854775807) (z:bW l) (hy:GV w A l) (c:bQ l) :
 Calls Tryz.prog 163 #[.int .u8 lb,.int .u32 e,.int .u32 s,.slice A n d] w fun B w'=>∃ v,B=.returned v/\w'.ownsRow w.heap.size 5 1 v 64 (Bs (df (bO lb e s l)))/\Below w.heap.size w w':=by
 have a8:n<=12:=by have:=c.1.2;omega
 have HY:=He hy;have X:=He hn;have HO:=He z;have C:=He c;have a0:=He (qP e s an c);have a1:=He (cH lb e s l);clear hn z hy c;have a9:IntKind.u8.wrap (n:Int)=n:=IntWalk.u8_in _ Ha;have o:=GB w w.heap.size 5 2 #[.int .u8 72,.int .u8 lb] (Bs [72,lb]) (Nat.le_refl _) rfl Hd rfl;have B0:Below w.heap.size w (w.alloc (Obj.cells #[.int .u8 72,.int .u8 lb] 5)):=(Below.refl _ _).alloc (Nat.le_refl _) _;go_enter Tryz.func163,Tryz.ntmps163;go_upto_region 2 with fail
 generalize w.alloc (Obj.cells #[.int .u8 72,.int .u8 lb] 5)=W0 at *;go_wp2_with fail
 refine (l9 W0 w.heap.size _ 2 [72,lb] e 4 o B0.size Ha Ha Ha he).mono ?_;rintro B w1 ⟨v1,rfl,own1,H,_⟩;have B1:=B0.trans H;clear o B0 H;go_wp2_with fail
 refine (l9 w1 w.heap.size v1 6 _ s 4 own1 B1.size Ha Ha Ha hs).mono ?_;rintro B w2 ⟨v2,rfl,own2,I,_⟩;have K:=B1.trans I;clear own1 B1 I;go_wp2_with (first
  | (at_builtin
     refine gT _ rfl (.tmp 20) (.tmp 24) rfl w.heap.size v2 10 _ _ rfl (Or.inl ⟨own2.alloc _,rfl⟩) (some ⟨w2.heap.size,0,none⟩) 1 1 [(n:Int)] rfl (gC (heap_alloc_new _ _) rfl) rfl Ha Ha (by rw [al];have:=K.size;omega) ?_;intro v3 w3 h3 L _;have B3:Below w.heap.size w w3:=(K.alloc K.size _).trans (gJ L (by rw [al];have:=K.size;omega) (fun k Y=>(own2.lt k Y).1));have p:w3.ownsRow w.heap.size 5 1 v3 11 (Bs (kl lb e s n++told (l.take 0))):=by
      rw [show told (l.take 0)=[] from rfl,List.append_nil];exact h3
     clear h3 L own2 K))
 go_loopw [9,28] (fun v i wr=>∃ k:Nat,i=.int .i64 k/\k<=n/\wr.ownsRow w.heap.size 5 1 v (11+3*k) (Bs (kl lb e s n++told (l.take k)))/\Below w.heap.size w wr) (fun _ i _=>n-(intOf i).toNat)
 case atStart=>exact ⟨0,rfl,Nat.zero_le _,p,B3⟩
 case round =>
  obtain ⟨v,rfl⟩:∃ v,v=u9:=⟨u9,rfl⟩
  obtain ⟨k,rfl,Y,own,a⟩:=hrel;clear p B3;by_cases a2:k<n
  ·obtain ⟨x,M⟩:∃ x,l[k]?=some x:=⟨_,List.getElem?_eq_getElem (by rw [X.out];exact a2)⟩
   have N:=HO.out x (List.mem_of_getElem? M);have g:=C.out.2.1 x (List.mem_of_getElem? M);obtain ⟨m,Z⟩:∃ m:Nat,x.t=(m:Int):=⟨x.t.toNat,by have:=g.2;omega⟩
   have a3:m<200:=by have:=g.2;omega
   have bb:=g.1;obtain ⟨ad,rfl,O⟩:=HY.out.keep a k x M;have R:=He N.len;have a4:=He O;have HT:=He (Cx M Z);have HM:=He Z;have wm:IntKind.u32.wrap (m:Int)=m:=IntWalk.u32_in _ Ha;have wk:IntKind.u8.wrap x.k=x.k:=IntWalk.u8_in _ Ha;have f:=oT wr x;have y:=fU wr x;clear M O N g;go_upto_region 8 with (first
    | (refine iF rfl (.tmp 30) rfl (ad.add (k*58)) rfl x R.out a4.out ?_)
    | (refine dk rfl rfl ?_)
    | (refine dm rfl (.tmp 11) (.tmp 31) rfl wr.heap.size rfl x zW rfl R.out iX (heap_alloc_new wr _) ?_))
   have q:=ic own y;have HV:=He own;have B4:=aR a y;have c0:((wr.alloc (.cells (cS zW) 52)).setRow wr.heap.size (cS x)).cell? ⟨wr.heap.size,0,none⟩=_:=(gU f).c0;have c1:((wr.alloc (.cells (cS zW) 52)).setRow wr.heap.size (cS x)).cell? ⟨wr.heap.size,1,none⟩=_:=(gU f).c1;have bi:w.heap.size<=wr.heap.size:=a.size;have S:=ah f;generalize (wr.alloc (.cells (cS zW) 52)).setRow wr.heap.size (cS x)=W4 at *;have r:v.ownBlock≠some wr.heap.size:=fun h=>Nat.lt_irrefl _ (HV.out.lt _ h).2;generalize wr.heap.size=g5 at *;have a5:=He r;clear r HV;rw [Z] at c0;clear f y own a Z;go_wp2_with fail
   refine (l9 W4 w.heap.size v (11+3*k) _ m 2 q B4.size Ha Ha Ha Ha).mono ?_;rintro B w5 ⟨v5,rfl,b,j,u,a6⟩;have bk:w5.cell? ⟨g5,1,none⟩=_:=(World.cell?_of_block (u.block g5 S (fun h=>a5.out h.symm))).trans c1;have T:=B4.trans j;clear q B4 j u a6 c0 c1;go_wp2_with (first
    | (at_builtin
       refine gT _ rfl (.tmp 37) (.tmp 42) rfl w.heap.size v5 (11+3*k+2) _ _ rfl (Or.inl ⟨b.alloc _,rfl⟩) (some ⟨w5.heap.size,0,none⟩) 1 1 [x.k] rfl (gC (heap_alloc_new _ _) rfl) rfl Ha Ha (by rw [al];have:=T.size;omega) ?_;intro v6 w6 h6 U _;have B6:Below w.heap.size w w6:=(T.alloc T.size _).trans (gJ U (by rw [al];have:=T.size;omega) (fun k Y=>(b.lt k Y).1));have H6:w6.ownsRow w.heap.size 5 1 v6 (11+3*(k+1)) (Bs (kl lb e s n++told (l.take (k+1)))):=by
        rw [HT.out,show 11+3*(k+1)=11+3*k+2+1 by omega,<- List.append_assoc,<- List.append_assoc];exact h6
       clear h6 U b T))
   go_roundw
   case rel=>exact ⟨k+1,by go_num,Ha,H6,B6⟩
   case measure=>simp [intOf];omega
  ·obtain rfl:k=n:=Ha;have e0:l.take k=l:=List.take_of_length_le (by rw [X.out];omega);have eH:bO lb e s l=kl lb e s k++told l:=by unfold bO;rw [X.out]
   rw [e0,<- eH] at own;have HE:=He own;have HL:Hid ((bO lb e s l).length=11+3*k):=by unfold Hid;rw [a1.out,X.out]
   obtain ⟨A3,d3,rfl,V,bl,W⟩:=bM own HL.out;rw [HL.out] at HE ⊢;have a7:=He W;clear own e0 eH W V;go_wp2_with fail
   refine (mV A3 (bO lb e s l) (11+3*k) d3 wr HL.out Ha a0.out a7.out).mono ?_;rintro B w5 ⟨v5,rfl,b,j⟩;go_wp2_with fail
   go_ret;exact ⟨v5,rfl,b.mono a.size,aR a j⟩
theorem zz (e s:Nat) (x:Wr) (w:World) (B:e<4294967296) (C:s<4294967296) (c:x.Ok) :
 Calls Tryz.prog 164 #[.int .u32 e,.int .u32 s,.agg (cS x)] w fun p w'=>∃ v,p=.returned v/\w'.ownsRow w.heap.size 5 1 v 64 (Bs (df (gc e s x.bs)))/\Below w.heap.size w w':=by
 have q:=He c.len;have HB:=He c.b;have f:=heap_alloc_new w (Obj.cells (cS x) 52);have h:dK (w.alloc (Obj.cells (cS x) 52)) (some ⟨w.heap.size,2,none⟩) x.bs:=(gU f).body;have a:Below w.heap.size w (w.alloc (Obj.cells (cS x) 52)):=(Below.refl _ _).alloc (Nat.le_refl _) _;have i:=He h;have r:=He (qQ (e:=e) (s:=s) c.b);have g:=He (gS (e:=e) (s:=s) c.len);clear f h c;go_enter Tryz.func164,Tryz.ntmps164;go_wp2_with fail
 generalize w.alloc (Obj.cells (cS x) 52)=W0 at *;refine (A0 W0 w.heap.size _ 56 x.bs none e 2 (Or.inr ⟨rfl,w.heap.size,2,rfl,q.out,i.out⟩) a.size Ha Ha Ha B).mono ?_;rintro p H ⟨I,rfl,own1,j,_⟩;have t:=a.grown j a.size (fun k K=>by cases K);clear j a i;go_wp2_with fail
 refine (l9 H w.heap.size I 58 _ s 2 own1 t.size Ha Ha Ha C).mono ?_;rintro p z ⟨L,rfl,own2,l,_⟩;have A:=t.trans l;have d:z.ownsRow w.heap.size 5 1 L 60 (Bs (gc e s x.bs)):=own2;obtain ⟨M,N,rfl,m,O,n⟩:=bM d g.out;rw [g.out];have u:=He n;clear own1 own2 d t l n m;go_wp2_with fail
 refine (mV M (gc e s x.bs) 60 N z g.out Ha r.out u.out).mono ?_;rintro p S ⟨R,rfl,o,y⟩;go_wp2_with fail
 go_ret;exact ⟨R,rfl,o.mono A.size,aR A y⟩
theorem Jo:(Tryz.prog.info? 22).map (fun i=>(i.zero,i.size,i.bytes))=some (some (.slice none 0 0),1,24):=Hc
def xh (w:World) (base:Nat) (ys:List Value) (a:List (List Int)):Prop:=ys.length=a.length/\∀ (i:Nat) (b:List Int),a[i]?=some b->∃ u,ys[i]?=some u/\w.ownsRow base 5 1 u b.length (Bs b)
theorem GY {w:World} {base:Nat} {t:TypeId} {sz n:Nat} {v:Value} {xs:List Value} (h:w.ownsRow base t sz v n xs):v.oneCell'=true:=by
 rcases h.2 with ⟨rfl,_⟩ | ⟨g,a,b,rfl,_⟩ <;> rfl
theorem xh.one {w:World} {base:Nat} {ys:List Value} {d:List (List Int)} (h:xh w base ys d):∀ u∈ys,u.oneCell'=true:=fun u e=>by
 obtain ⟨i,c⟩:=List.mem_iff_getElem?.1 e;have b:=(List.getElem?_eq_some_iff.1 c).1;obtain ⟨g,a,f⟩:=h.2 i _ (List.getElem?_eq_getElem (by rw [<- h.1];exact b));rw [c] at a;injection a with a
 subst a;exact GY f
theorem xi (w:World) (ty:TypeId) (base:Nat) (v:Value) (g:List (List Int)) (l:co w base v g) (p:Addr) (m c:Nat) (ys:List Value) (q:List (List Int)) (I:q.length=m) (d:xh w base ys q) (K:∀ j u,ys[j]?=some u->w.cell? (p.add j)=some u)
 (L:g.length+m<=1000000) (f:base<=w.heap.size) :
 ∃ v' w',(Builtin.append_ #[186,186] ty #[v,.slice (some p) m c]).run Tryz.prog w=.ok v' w'/\co w' base v' (g++q)/\w.grownBy w' v.ownBlock/\kH w v.ownBlock v':=by
 obtain ⟨M,N,r,s,t⟩:=info_parts Jo;obtain ⟨x,y,O⟩:=l;obtain ⟨v',w',R,S,H,h5,n⟩:=run_append_own_at (P:=Tryz.prog) w base 186 ty 22 M (.slice none 0 0) 1 24 Tryz.underlying186 N r s t rfl Hd v g.length x y p m c ys (by rw [d.1];omega) K d.one (by simp only [maxLen];omega) Ha f;have a:∀ {u:Value} {b:List Int},w.ownsRow base 5 1 u b.length (Bs b)->w'.ownsRow base 5 1 u b.length (Bs b):=fun h=>h.kept H (GW Ei y h);refine ⟨v',w',R,⟨x++ys,by rw [List.length_append,I];exact S,fun i b o=>?_⟩,H,?_⟩
 ·have z:x.length=g.length:=by have:=y.1;omega
  by_cases A:i<g.length
  ·rw [List.getElem?_append_left A] at o;obtain ⟨u,e,B⟩:=O i b o;exact ⟨u,by rw [List.getElem?_append_left Ha];exact e,a B⟩
  ·rw [List.getElem?_append_right Ha] at o;obtain ⟨u,e,B⟩:=d.2 _ b o;exact ⟨u,by rw [List.getElem?_append_right Ha,z];exact e,a B⟩
 ·rcases n with n | n
  ·exact Or.inl n
  ·exact Or.inr fun k C=>by rw [n] at C;injection C with C;omega
theorem lq (w:World) {ops:Array Oper} {rest:List Oper} {o:Oper} {a:Act} {Q:Exit->Act->World->Prop} (l:o.guard=none) (s x:Operand)
 (t:o.op=.call { callee:=.builtin .append,args:=#[s,x],argTypes:=#[186,186] })
 (b:Nat) (v:Value) (i:List (List Int)) (y:a.eval s=v) (e:co w b v i) (n:Addr) (m c:Nat) (z:a.eval x=.slice (some n) m c) (p:List Value) (k:List (List Int)) (A:k.length=m) (q:xh w b p k) (B:∀ j u,p[j]?=some u->w.cell? (n.add j)=some u)
 (r:i.length+m<=1000000) (d:b<=w.heap.size)
 (h:∀ f g,co g b f (i++k)->w.grownBy g v.ownBlock->kH w v.ownBlock f->wpList Tryz.prog ops Q rest (a.put o.dst f) g):wpList Tryz.prog ops Q (o :: rest) a w:=by
 refine wpList_plain l fun _ C=>?_;obtain ⟨f,g,H,I,K,L⟩:=xi w o.type b v i e n m c p k A q B r d;unfold Oper.wp execOp;simp only [t,resolve,invoke,builtin,Sem.run_bind,Sem.run_pure,Result.andThen_ok,List.map_toArray,List.map_cons,List.map_nil,y,z,H];exact C _ _ (h f g I K L)
theorem co.low {w:World} {base:Nat} {v:Value} {a:List (List Int)} (h:co w base v a):∀ k,v.ownBlock=some k->base<=k:=fun k b=>by
 obtain ⟨d,c,_⟩:=h;exact (c.lt k b).1
theorem co.alloc {w:World} {base:Nat} {v:Value} {a:List (List Int)} (h:co w base v a) (o:Obj):co (w.alloc o) base v a:=by
 obtain ⟨c,d,f⟩:=h;exact ⟨c,d.alloc o,fun i b g=>let ⟨u,e,h3⟩:=f i b g;⟨u,e,h3.alloc o⟩⟩
theorem tI {w:World} {base:Nat} {u:Value} {b:List Int} (h:w.ownsRow base 5 1 u b.length (Bs b)):xh w base [u] [b]:=⟨rfl,fun i c a=>by
 cases i with
 | zero=>injection a with a;subst a;exact ⟨u,rfl,h⟩
 | succ i=>cases a⟩
theorem Ek (w:World) (base:Nat) (C:Array Value) (cap:Nat) (a:base<=w.heap.size) (c:cap<=maxLen) (e:C.size=cap):co (w.alloc (.cells C 22)) base (.slice (some ⟨w.heap.size,0,none⟩) 0 cap) [] :=
 ⟨[],World.ownsRow_made w C cap a c Ha,fun i b d=>by cases d⟩
def mr (lb:Int) (e s:Nat) (l:List Wr):List (List Int):=if bQ l then putL lb e s l else []
def qU (lb:Int) (e s:Nat) (l:List Wr) (k:Nat):List (List Int):=df (bO lb e s l) :: (l.take k).map fun x=>df (gc e s x.bs)
theorem Cy {lb:Int} {e s:Nat} {l:List Wr} {k:Nat} {x:Wr} (a:l[k]?=some x):qU lb e s l (k+1)=qU lb e s l k++[df (gc e s x.bs)]:=by
 unfold qU;rw [aw a,List.map_append];rfl
theorem xj {lb:Int} {e s:Nat} {l:List Wr} {k:Nat} (h:k<=l.length):(qU lb e s l k).length=1+k:=by unfold qU;simp;omega
theorem El {lb:Int} {e s:Nat} {l:List Wr} {k:Nat} (h:l.length<=k):qU lb e s l k=putL lb e s l:=by unfold qU putL;rw [List.take_of_length_le h]
theorem A4 (lb:Int) (e s:Nat) (A:Option Addr) (l:List Wr) (n d:Nat) (w:World) (a2:0<=lb/\lb<=255) (he:e<4294967296) (hs:s<4294967296) (hn:l.length=n) (hl:n<=d) (hd:d<=9223372036854775807) (r:bW l) (hy:GV w A l) :
 Calls Tryz.prog 102 #[.int .u8 lb,.int .u32 e,.int .u32 s,.slice A n d] w fun K w'=>∃ v,K=.returned (.tuple #[v,.bool (decide (bQ l))])/\co w' w.heap.size v (mr lb e s l)/\Below w.heap.size w w':=by
 have HY:=He hy;have H:=He hn;have HO:=He r;have L:=He (GX A l n d w hn hl hd r hy);clear hn r hy;by_cases a:bQ l
 ·have a9:n<=12:=by rw [<- H.out];exact a.1.2
  have N:=He a;have HX:Hid (mr lb e s l=putL lb e s l):=by unfold Hid mr;rw [if_pos a]
  obtain ⟨i0,hi,O,R,S⟩:=info_parts Jo;have t:=fun w:World=>run_make (P:=Tryz.prog) w 186 22 i0 _ Tryz.underlying186 hi O .i64 .i64 0 (1+(n:Int)) Ha Ha (by rw [S];omega) Ha;generalize hM:madeCells (Value.slice none 0 0).cells ((1+(n:Int)).toNat*i0.size)=M at t;have HM:Hid (M.size=1+n):=by unfold Hid;rw [<- hM,size_madeCells,R];omega
  rw [show (1+(n:Int)).toNat=1+n by omega,show ((0:Int)).toNat=0 by omega] at t;rw [decide_eq_true a] at L ⊢;clear hM hi O R S a;go_enter Tryz.func102,Tryz.ntmps102;go_wp2_with fail
  refine L.out.mono ?_;rintro K I ⟨rfl,g⟩;have T:=He (HY.out.keep g);clear L;go_upto_region 4 with fail
  have own2:=Ek I w.heap.size M (1+n) g.size (by simp only [maxLen];omega) HM.out;have B2:Below w.heap.size w (I.alloc (Obj.cells M 22)):=g.alloc g.size _;have a3:=He (T.out.keep ((Below.refl I.heap.size I).alloc (Nat.le_refl _) (Obj.cells M 22)));generalize I.alloc (Obj.cells M 22)=W2 at *;clear t T g;go_wp2_with fail
  refine (Ej lb e s A l n d W2 a2 he hs H.out hl hd HO.out a3.out N.out).mono ?_;rintro K w3 ⟨u3,rfl,m,U⟩;have u:=own2.keep U;have V:=aR B2 U;have b:=m.mono B2.size;clear own2 m B2;have f:(df (bO lb e s l)).length=64:=fC (by rw [cH,H.out];omega);obtain ⟨A3,d3,rfl,_,_,_⟩:=bM b f;rw [f] at b ⊢;go_wp2_with (first
   | (at_builtin
      refine lq _ rfl (.tmp 20) (.tmp 26) rfl w.heap.size _ [] rfl (u.alloc _) ⟨w3.heap.size,0,none⟩ 1 1 rfl [_] [df (bO lb e s l)] rfl (tI (by rw [f];exact b.alloc _)) (cell_one_new _ _ _) Hb (by rw [al];have:=V.size;omega) ?_;intro v4 w4 W X _;have B4:Below w.heap.size w w4:=(V.alloc V.size _).trans (gJ X (by rw [al];have:=V.size;omega) u.low);have o:co w4 w.heap.size v4 (qU lb e s l 0):=W;clear W u b V X))
  clear f
  go_loopw [10,30] (fun v i wr=>∃ k:Nat,i=.int .i64 k/\k<=n/\co wr w.heap.size v (qU lb e s l k)/\Below w.heap.size w wr) (fun _ i _=>n-(intOf i).toNat)
  case atStart=>exact ⟨0,rfl,Nat.zero_le _,o,B4⟩
  case round =>
   obtain ⟨v,rfl⟩:∃ v,v=u10:=⟨u10,rfl⟩
   obtain ⟨k,rfl,hk,OT,h⟩:=hrel;clear o B4;by_cases a4:k<n
   ·obtain ⟨x,hx⟩:∃ x,l[k]?=some x:=⟨_,List.getElem?_eq_getElem (by rw [H.out];exact a4)⟩
    have y:=HO.out x (List.mem_of_getElem? hx);obtain ⟨ad,rfl,Y⟩:=HY.out.keep h k x hx;have j:=He y.len;have a5:=He y;have a6:=He Y;have HK:=He (Cy (lb:=lb) (e:=e) (s:=s) hx);have a7:(qU lb e s l k).length=1+k:=xj (by rw [H.out];omega);have p:=oT wr x;have z:=fU wr x;clear hx Y y;go_upto_region 8 with (first
     | (refine iF rfl (.tmp 32) rfl (ad.add (k*58)) rfl x j.out a6.out ?_)
     | (refine dk rfl rfl ?_)
     | (refine dm rfl (.tmp 12) (.tmp 33) rfl wr.heap.size rfl x zW rfl j.out iX (heap_alloc_new wr _) ?_))
    have Z:=OT.keep z;have B5:=aR h z;have a8:=He p;clear p z OT h;generalize (wr.alloc (.cells (cS zW) 52)).setRow wr.heap.size (cS x)=W5 at *;generalize wr.heap.size=g5 at *;go_wp2_with (first
     | (refine nS rfl (.tmp 12) rfl g5 rfl x j.out a8.out ?_))
    refine (zz e s x W5 he hs a5.out).mono ?_;rintro K w6 ⟨u6,rfl,q,B⟩;have C:=Z.keep B;have B6:=aR B5 B;have c:=q.mono B5.size;have f:(df (gc e s x.bs)).length=64:=fC (by rw [gS j.out];omega);obtain ⟨A6,d6,rfl,_,_,_⟩:=bM c f;rw [f] at c ⊢;clear Z B5 q B;go_wp2_with (first
     | (at_builtin
        refine lq _ rfl (.tmp 34) (.tmp 39) rfl w.heap.size _ _ rfl (C.alloc _) ⟨w6.heap.size,0,none⟩ 1 1 rfl [_] [df (gc e s x.bs)] rfl (tI (by rw [f];exact c.alloc _)) (cell_one_new _ _ _) (by rw [a7];omega) (by rw [al];have:=B6.size;omega) ?_;intro v7 w7 an a0 _;have B7:Below w.heap.size w w7:=(B6.alloc B6.size _).trans (gJ a0 (by rw [al];have:=B6.size;omega) C.low);have a1:co w7 w.heap.size v7 (qU lb e s l (k+1)):=by rw [HK.out];exact an
        clear an C c B6 a0))
    go_roundw
    case rel=>exact ⟨k+1,by go_num,Ha,a1,B7⟩
    case measure=>simp [intOf];omega
   ·obtain rfl:k=n:=Ha;have HE:=He (El (lb:=lb) (e:=e) (s:=s) (l:=l) (k:=k) (by rw [H.out];omega));go_wp2_with fail
    go_ret2
    exact ⟨v,rfl,by rw [HX.out,<- HE.out];exact OT,h⟩
 ·have HX:Hid (mr lb e s l=[]):=by unfold Hid mr;rw [if_neg a]
  rw [decide_eq_false a] at L ⊢;clear a;go_enter Tryz.func102,Tryz.ntmps102;go_wp2_with fail
  refine L.out.mono ?_;rintro K I ⟨rfl,g⟩;go_wp2_with fail
  go_ret2
  exact ⟨.slice none 0 0,rfl,by rw [HX.out];exact co.nil _ _,g⟩
theorem GZ (x:Int):Tryz.prog.built 52 [(0,.int .i64 x)]=some (cS ⟨x,0,az⟩):=Hc
theorem qV {ops:Array Oper} {rest:List Oper} {o:Oper} {a:Act} {w:World} {Q:Exit->Act->World->Prop} (b:o.guard=none) (x:Operand) (k:Int) (c:o.op=.build 52 #[(0,x)]) (d:a.eval x=.int .i64 k)
 (h:wpList Tryz.prog ops Q rest (a.put o.dst (.agg (cS ⟨k,0,az⟩))) w):wpList Tryz.prog ops Q (o :: rest) a w :=
 wpList_plain b fun _ e=>by
  unfold Oper.wp execOp;have f:=run_build (P:=Tryz.prog) w 52 #[(0,.int .i64 k)] _ (GZ k);simp only [c,List.map_toArray,List.map_cons,List.map_nil,d,Sem.run_bind,f,Result.andThen_ok];exact e _ _ h
theorem Em (t k a:Int) (bs:List Int):(cS ⟨t,k,bs⟩).setIfInBounds 1 (.int .i64 a)=cS ⟨t,a,bs⟩:=by unfold cS wrL blkL;simp
theorem zA (t k:Int) (b:List Int):splice (wrL ⟨t,k,az⟩) 2 (Bs (b.take 56))=wrL ⟨t,k,nQ b⟩:=by
 unfold splice wrL blkL nQ;rw [ar,List.length_take];have e:(Bs az).drop (min 56 b.length)=Bs (List.replicate (56-b.length) 0):=by
  unfold Bs az;rw [<- List.map_drop,List.drop_replicate];congr 2;omega
 have a:(Value.int .i64 t :: Value.int .i64 k :: Bs az).drop (2+min 56 b.length)=(Bs az).drop (min 56 b.length):=by
  rw [show 2+min 56 b.length=min 56 b.length+1+1 by omega];rfl
 rw [a,e];unfold Bs;rw [List.map_append];rfl
theorem xm (A B:Option Addr) (xs b:List Int) (n c m d:Nat) (y:Int) (w:World) (hn:xs.length=n) (h3:3<=n) (a4:n<=c) (hc:c<=9223372036854775807) (hm:b.length=m) (U:ay xs) (q:xs[2]?=some y) (W:dK w A xs) (bb:dK w B b) :
 Calls Tryz.prog 212 #[.slice A n c,.slice B m d] w fun e w'=>e=.returned (.agg (cS ⟨aB (xs.take 2),y,nQ b⟩))/\Below w.heap.size w w':=by
 have HX:=He W;have HB:=He bb;have HN:=He hn;have HM:=He hm;have X:=He U;have a5:=U y (List.mem_of_getElem? q);have Y:=He q;have hp:dK w A (xs.take 2):=W.take 2;have hv:=i5 2 (xs.take 2) (by rw [List.length_take];omega) (fun x Z=>U x (List.mem_of_mem_take Z));clear W bb hn hm U q;obtain ⟨V,rfl,z⟩:=HX.out 2 y Y.out;have HZ:Hid ((Tryz.prog.info? 5).map (·.size)=some 1):=by
  obtain ⟨i0,hi,a6,an,a7⟩:=info_parts jE;unfold Hid;rw [hi];simp [an]
 have C:=heap_alloc_new w (Obj.cells (cS zW) 52);have a:Below w.heap.size w (w.alloc (Obj.cells (cS zW) 52)):=(Below.refl _ _).alloc (Nat.le_refl _) _;go_enter Tryz.func212,Tryz.ntmps212;go_upto_region 1 with (first
  | (refine dk rfl rfl ?_))
 have H:=He C;have a0:=He (hp.keep a);have l:=al w (Obj.cells (cS zW) 52);generalize w.alloc (Obj.cells (cS zW) 52)=j at *;have o:Hid (j.heap.size=w.heap.size+1):=l;clear C hp l;go_wp2_with fail
 refine (tH (some V) (xs.take 2) 2 c j (by rw [List.length_take,HN.out];omega) Ha (fun x Z=>X.out x (List.mem_of_mem_take Z)) a0.out).mono ?_;rintro e w2 ⟨rfl,rfl⟩;generalize hq:aB (xs.take 2)=v at *;have HQ:=He hq;clear hq;have wv:IntKind.i64.wrap (v:Int)=v:=IntWalk.i64_in _ Ha;have I:=He (heap_alloc_new j (Obj.cells (cS zW) 52));go_upto_region 2 with (first
  | (refine qV rfl (.tmp 9) (v:Int) rfl rfl ?_)
  | (refine dk rfl rfl ?_)
  | (refine dm rfl (.tmp 5) (.tmp 10) rfl j.heap.size rfl ⟨(v:Int),0,az⟩ zW rfl ak iX I.out ?_))
 have f:=oT j ⟨(v:Int),0,az⟩;have r:=fU j ⟨(v:Int),0,az⟩;have K:=He (kb r H.out);have h:=He (aR a r);clear I H a r;generalize (j.alloc (.cells (cS zW) 52)).setRow j.heap.size (cS ⟨(v:Int),0,az⟩)=s at *;have a8:w.heap.size<j.heap.size:=by rw [o.out];omega
 clear o;generalize j.heap.size=g at *;have c1:s.cell? ⟨g,1,none⟩=some (.int .i64 0):=(gU f).c1;have f1:s.frozen? ⟨g,1,none⟩=false:=aA f 1;have a1:s.cell? ⟨V.block,V.off+2,none⟩=some (.int .u8 y):=by
  have:=cO h.out z
  rwa [show (2:Nat)=1+1 from rfl,lS V 1] at this
 have L:=He f;have a9:(2:Int)<n:=Ha;clear f z;go_upto_region 3 with fail
 have p:Hid ((s.setCell ⟨g,1,none⟩ (.int .i64 y)).heap[g]?=some (.cells (cS ⟨(v:Int),y,az⟩) 52 (0,0))):=by
  unfold Hid;rw [ai L.out,Em]
 have M:Hid ((s.setCell ⟨g,1,none⟩ (.int .i64 y)).heap[w.heap.size]?=some (.cells (cS zW) 52 (0,0))):=by
  unfold Hid;rw [heap_setCell_other _ _ _ _ (by show w.heap.size≠g;omega)];exact K.out
 have i:Hid (Below w.heap.size w (s.setCell ⟨g,1,none⟩ (.int .i64 y))):=h.out.setCell (by show w.heap.size<=g;omega) _;clear L K h c1 f1 a1;generalize s.setCell ⟨g,1,none⟩ (.int .i64 y)=W4 at *;have N:(wrL ⟨(v:Int),y,az⟩).length=58:=bA ak;have k:(Bs (b.take 56)).length=min m 56:=by rw [ar,List.length_take,HM.out,Nat.min_comm]
 go_upto_region 4 with (first
  | (refine wpList_copy_splice rfl (.tmp 19) (.tmp 20) 22 22 rfl 5 Tryz.underlying22 HZ.out (some ⟨g,2,none⟩) B 56 56 m d rfl rfl g 2 (wrL ⟨(v:Int),y,az⟩) 52 p.out (Bs (b.take 56)) k ?_ (by rw [k,N];omega) (io _) (w.heap.size+1) W4 (Below.refl _ _) Ha ?_
     ·intro h0;refine ⟨rfl,?_⟩;have a2:0<b.length:=by rw [k] at h0;rw [HM.out];omega
      obtain ⟨a3,e,_⟩:=HB.out 0 _ (List.getElem?_eq_getElem a2);subst e;exact ⟨a3,rfl,lZ ((HB.out.keep i.out).take 56)⟩
     intro W5 O t))
 have R:Hid (W5.heap[g]?=some (.cells (cS ⟨(v:Int),y,nQ b⟩) 52 (0,0))):=by
  unfold Hid cS;rw [<- zA];exact O.out
 have S:Hid (W5.heap[w.heap.size]?=some (.cells (cS zW) 52 (0,0))):=by
  unfold Hid;rw [t.block _ Ha];exact M.out
 have T:Hid (Below w.heap.size w W5):=i.out.trans (t.mono Ha);clear O t p M i N k;have u:=ll b;go_wp2_with (first
  | (refine nS rfl (.tmp 5) rfl g rfl ⟨(v:Int),y,nQ b⟩ u R.out ?_)
  | (refine dm rfl (.tmp 4) (.tmp 22) rfl w.heap.size rfl ⟨(v:Int),y,nQ b⟩ zW rfl u iX S.out ?_))
 refine bodyPost_ret (results_cell_row rfl _ _ w.heap.size _ _ _ _ rfl (setRow_heap _ _ _ _ _ _ S.out) Tryz.underlying52 rfl (by rw [dd u];exact qS)) rfl ?_;exact ⟨by rw [HQ.out],below_setRow T.out (Nat.le_refl _) _⟩
theorem zC (A B:Option Addr) (f g:List (List Int)) (n m c d:Nat) (w:World) (I:f.length=n) (K:g.length=m) (T:n<=9223372036854775807) (L:sN f) (M:sN g) (l:Tx w A f) (o:Tx w B g) :
 Calls Tryz.prog 196 #[.slice A n c,.slice B m d,.func (.func 194) #[] #[]] w fun e w'=>e=.returned (.bool (decide (f=g)))/\w=w':=by
 have U:=He l;have V:=He o;have C:=He I;have H:=He K;have W:=He L;have HB:=He M;clear I K L M l o;go_enter Tryz.func196,Tryz.ntmps196;by_cases N:n=m
 ·subst N;go_wp2
  go_loop [17] (fun i=>∃ k:Nat,i=.int .i64 k/\k<=n/\f.take k=g.take k) (fun i=>n-(intOf i).toNat)
  case atStart=>exact ⟨0,rfl,Nat.zero_le _,rfl⟩
  case round =>
   obtain ⟨k,rfl,hk,j⟩:=hrel;have O:=He j;clear j;by_cases r:k<n
   ·obtain ⟨x,l⟩:∃ x,f[k]?=some x:=⟨_,List.getElem?_eq_getElem (by rw [C.out];exact r)⟩
    obtain ⟨y,o⟩:∃ y,g[k]?=some y:=⟨_,List.getElem?_eq_getElem (by rw [H.out];exact r)⟩
    obtain ⟨a,X,Y,rfl,Z,_,_,s⟩:=U.out k x l;obtain ⟨b,B2,d2,rfl,ad,_,_,t⟩:=V.out k y o;have v:=He (oP X B2 x y x.length y.length Y d2 w rfl rfl (W.out x (List.mem_of_getElem? l)) (HB.out y (List.mem_of_getElem? o)) s t);have R:=He l;have S:=He o;generalize x.length=xl at *;generalize y.length=yl at *;clear l o s t;by_cases q:x=y
    ·rw [decide_eq_true q] at v;have HQ:=He q;clear q;go_wp2_with fail
     refine v.out.mono ?_;rintro e w' ⟨rfl,rfl⟩;go_wp2_with fail
     go_round
     case rel=>exact ⟨k+1,by go_num,Ha,by rw [aw R.out,aw S.out,O.out,HQ.out]⟩
     case measure=>simp [intOf];omega
    ·rw [decide_eq_false q] at v;have p:Hid (¬ f=g):=fun e=>q (by have z:=R.out;rw [e,S.out] at z;injection z with z;exact z.symm);clear q;go_wp2_with fail
     refine v.out.mono ?_;rintro e w' ⟨rfl,rfl⟩;go_wp2_with fail
     go_ret;exact ⟨aj (decide_eq_false p.out).symm,rfl⟩
   ·have u:Hid (f=g):=by
     have h:=O.out;rw [List.take_of_length_le (by rw [C.out];omega),List.take_of_length_le (by rw [H.out];omega)] at h;exact h
    go_wp2;go_ret;exact ⟨aj (decide_eq_true u.out).symm,rfl⟩
 ·have p:Hid (¬ f=g):=fun e=>N (by rw [<- C.out,<- H.out,e]);go_wp2;go_ret;exact ⟨aj (decide_eq_false p.out).symm,rfl⟩
def sQ:List Wr->List Value
 | []=>[]
 | x :: l=>wrL x++sQ l
def xo (l:List Wr):Prop:=∀ x∈l,x.bs.length=56
theorem bW.len {l:List Wr} (h:bW l):xo l:=fun x a=>(h x a).len
theorem pH:∀ (l m:List Wr),sQ (l++m)=sQ l++sQ m
 | [],_=>rfl
 | x :: l,m=>by show wrL x++sQ (l++m)=_;rw [pH l m,<- List.append_assoc];rfl
theorem A9:∀ {l:List Wr},xo l->∀ {i:Nat} {x:Wr},l[i]?=some x->∀ {j:Nat} {v:Value},(wrL x)[j]?=some v->(sQ l)[i*58+j]?=some v
 | [],_,i,x,h,_,_,_=>by cases h
 | y :: l,a,0,x,h,j,v,hj=>by
   injection h with h;subst h
   show (wrL y++sQ l)[0*58+j]?=some v;rw [Nat.zero_mul,Nat.zero_add,List.getElem?_append_left (List.getElem?_eq_some_iff.1 hj).1];exact hj
 | y :: l,a,i+1,x,h,j,v,hj=>by
   have b:=A9 (l:=l) (fun z c=>a z (by simp [c])) (i:=i) h hj;show (wrL y++sQ l)[(i+1)*58+j]?=some v;rw [List.getElem?_append_right (by rw [bA (a y Hb)];omega),bA (a y Hb),show (i+1)*58+j-58=i*58+j by omega];exact b
def gj (w:World) (base:Nat) (v:Value) (l:List Wr):Prop:=w.ownsRow base 52 58 v l.length (sQ l)
theorem gj.nil (w:World) (base:Nat):gj w base (.slice none 0 0) []:=World.ownsRow_nil _ _ _ _
theorem gj.wrs {w:World} {base:Nat} {v:Value} {l:List Wr} (h:gj w base v l) (b:xo l):∃ A d,v=.slice A l.length d/\l.length<=d/\d<=9223372036854775807/\GV w A l:=by
 rcases h.2 with ⟨rfl,f⟩ | ⟨g,c,k,rfl,n,o,e,m,p,q⟩
 ·refine ⟨none,0,by rw [f],Ha,Ha,fun i x a=>?_⟩;rw [List.length_eq_zero_iff.1 f] at a;cases a
 ·refine ⟨some ⟨g,0,none⟩,c,rfl,e,by simp only [maxLen] at m;omega,fun i x a=>⟨_,rfl,fun j v hj=>?_⟩⟩;have:=h.cells (g:=g) rfl _ _ (A9 b a hj);rw [ji];exact this
def nU:Value->Nat
 | .slice _ n _=>n
 | _=>0
def pI (w:World) (Y:Act) (w':World):Prop:=Below w.heap.size w w'/\∃ Z u1 u2 u3 u4 u5 u6 u7 u8 u9 a b c d e f g h i j k l m n o p q r s t u v u32 x y z A B C H I K L M N O R S T U V W X:Value,Y={ tmps:=#[Z,u1,u2,u3,u4,u5,u6,u7,u8,u9,a,b,c,d,e,f,g,h,i,j,k,l,m,n,o,p,q,r,s,t,u,v,u32,x,y,z,A,B,C,H,I,K,L,M,N,O,R,S,T,U,V,W,X],defers:=[] }
def JY (w:World) (A:Option Addr) (n c:Nat) (fa:Addr) (fd cn:Nat) (a:List (List Int)) (a':Act) (w':World):Prop:=∃ (k:Nat) (v:Value),k<=cn/\gj w' w.heap.size v (ff a k)/\Below w.heap.size w w'/\nU v=k/\∃ u1 u7 u8 u9 b d e f g h i j l m o p q r s t u x y z B C u32 H I K L M N O R S T U V W X Y Z ad an a0 a1:Value,a'={ tmps:=#[.slice A n c,u1,.slice none 0 0,.bool false,v,.slice (some fa) 64 fd,.int .i64 cn,u7,u8,u9,b,d,e,f,g,h,i,j,l,m,o,p,q,r,s,t,u,x,y,z,B,C,u32,H,I,K,L,M,N,O,R,S,T,U,V,W,X,Y,Z,ad,an,a0,a1],defers:=[] }
theorem Ba {w:World} {base:Nat} {v:Value} {l:List Wr} (h:gj w base v l):nU v=l.length:=by
 rcases h.2 with ⟨rfl,a⟩ | ⟨g,b,c,rfl,_⟩
 ·rw [a];rfl
 ·rfl
structure ML (base:Nat) (w:World) (lv:Value) (l:List Wr) (W:World):Prop where
 bel:Below base w W
 row:gj W base lv l
def Lm (base:Nat) (a b:Addr) (n c e k p q d h:Nat) (B Av:Option Addr) (f:Nat) (y:Wr) (l:List Wr) (i:Nat) (v:Value) (w:World):Prop :=
 match i with
 | 0 | 2 | 8=>v=.slice Av k f
 | 1=>v=.slice (some b) 64 e
 | 3 | 9=>v=.int .i64 k
 | 4=>v=.int .i64 (3*(k:Int))
 | 5=>v=.int .i64 (q:Nat)
 | 6=>v=.slice (some (b.add q)) (64-q) (e-q)
 | 7=>v=.slice (some a) n c
 | 10=>v=.int .i64 (p:Nat)
 | 11=>v=.pointer (some (a.add p))
 | 12=>v=.slice B h d
 | 13=>v=.agg (cS y)
 | 14=>∃ g,v=.slice (some ⟨g,0,none⟩) 1 1/\w.heap[g]?=some (.cells (cS y) 52 (0,0))/\(Value.slice Av k f).ownBlock≠some g
 | 15=>gj w base v (l++[y])
 | _=>True
def Mh (lv:Value) (i:Nat) (w w':World):Prop:=w.grownBy w' (if i=15 then lv.ownBlock else none)
theorem Lm.on {base:Nat} {m o:Addr} {n c r k p q d s:Nat} {B Av:Option Addr} {b:Nat} {y:Wr} {l:List Wr} {i j:Nat} {v:Value} {w w':World} (f:i≠j) (h:Lm base m o n c r k p q d s B Av b y l j v w) (a:Mh (.slice Av k b) i w w'):Lm base m o n c r k p q d s B Av b y l j v w':=by
 unfold Mh at a;unfold Lm at *;split <;> try exact h
 ·obtain ⟨g,x,t,u⟩:=h;refine ⟨g,x,?_,u⟩;rw [a.block g (ah t) (by split;exact fun e=>u e.symm;simp)];exact t
 ·rw [if_neg f] at a;exact World.ownsRow.kept h a (by cases v.ownBlock <;> simp)
 ·trivial
theorem Cz {w:World} {o:Oper} {a:Act} {K:Act->World->Prop} {Q:Exit->Act->World->Prop} (s x:Operand)
 (C:o.op=.call { callee:=.builtin .append,args:=#[s,x],argTypes:=#[49,49] })
 (b:Nat) (v:Value) (l:List Wr) (H:a.eval s=v) (c:gj w b v l) (g:Nat) (y:Wr) (f:y.bs.length=56) (I:a.eval x=.slice (some ⟨g,0,none⟩) 1 1) (r:mU w ⟨g,0,none⟩ y) (L:l.length<=1000) (d:b<=w.heap.size)
 (h:∀ n w',gj w' b n (l++[y])->w.grownBy w' v.ownBlock->gj w' b v l->K (a.put o.dst n) w'):o.wp Tryz.prog a w K Q:=by
 obtain ⟨t,u,i,j,k⟩:=info_parts mD;have m:(Value.agg (cS zW)).cells.size=58:=by show (cS zW).size=58;exact dd iX
 obtain ⟨n,w',z,M,N,_,_⟩:=run_append_own_at (P:=Tryz.prog) w b 49 o.type 52 t _ 58 72 Tryz.underlying49 u i j k m Hd v l.length _ c ⟨g,0,none⟩ 1 1 (wrL y) (by rw [bA f]) r (nP y) (by simp only [maxLen];omega) Ha d;have A:=jj (w:=w) (w':=w') 49 o.type 52 t _ 58 72 Tryz.underlying49 u i j k m Hd v l.length _ (c.mono (Nat.zero_le _)) ⟨g,0,none⟩ 1 1 (wrL y) (by rw [bA f]) r (nP y) (by simp only [maxLen];omega) Ha z;have h5:gj w' b v l:=by
  refine ⟨A.1,?_⟩;rcases A.2 with O | ⟨B,p,q,e,_,R⟩
  ·exact Or.inl O
  ·exact Or.inr ⟨B,p,q,e,(c.lt B (by rw [e];rfl)).1,R⟩
 unfold Oper.wp execOp;simp only [C,resolve,invoke,builtin,Sem.run_bind,Sem.run_pure,Result.andThen_ok,List.map_toArray,List.map_cons,List.map_nil,H,I,z];refine h n w' ?_ N h5;unfold gj;rw [pH,List.length_append];simpa [sQ] using M
def qW (a:List (List Int)):List Wr:=if fS a then ff a (pG a) else []
theorem Eo (A:Option Addr) (a:List (List Int)) (n c:Nat) (w:World) (hn:a.length=n) (hl:n<=c) (hc:c<=9223372036854775807) (c0:sN a) (hy:Tx w A a) :
 Calls Tryz.prog 195 #[.slice A n c] w fun e w'=>∃ v,e=.returned (.tuple #[v,.bool (decide (fS a))])/\gj w' w.heap.size v (qW a)/\Below w.heap.size w w':=by
 have HY:=He hy;have HN:=He hn;have HO:=He c0;clear hn c0 hy;have c1:¬ fS a->qW a=[]:=fun h=>by unfold qW;rw [if_neg h]
 have O:=He c1;clear c1;go_enter Tryz.func195,Tryz.ntmps195;go_wp2;by_cases h0:n=0
 ·subst h0;have t:Hid (¬ fS a):=fun h=>by have:=h.2.2;rw [HN.out] at this;omega
  refine jh (pI w) (fun _ _=>False) (fun _ _=>0) rfl rfl ?_ (fun _ _ h=>h.elim) ?_
  ·intro _;go_wp2;go_step3;exact (show pI _ _ _ from ⟨Below.refl _ _,_,_,_,_,_,_,_,_,_,_,_,_,_,_,_,_,_,_,_,_,_,_,_,_,_,_,_,_,_,_,_,_,_,_,_,_,_,_,_,_,_,_,_,_,_,_,_,_,_,_,_,_,_, rfl⟩)
  ·rintro a' W ⟨m,u0,u1,u2,u3,u4,u5,u6,u7,u8,u9,R,S,U,V,X,Y,Z,an,a0,a1,a3,a4,a5,a6,a7,a8,a9,bb,bi,bk,bn,bt,u32,b1,b2,b3,b4,b5,b6,b8,b9,ca,cb,cc,cg,ch,ci,ck,cl,cp,cq,cr,cs,rfl⟩;go_wp2
   try simp only [cK]
   go_ret2
   exact ⟨.slice none 0 0,by rw [decide_eq_false t.out];rfl,by rw [O.out t.out];exact gj.nil _ _,m⟩
 ·obtain ⟨u,C⟩:∃ u,a[0]?=some u:=⟨_,List.getElem?_eq_getElem (by rw [HN.out];omega)⟩
  have c2:a.headD []=u:=by
   cases a with
   | nil=>cases C
   | cons y l=>injection C
  obtain ⟨ad,F,fd,rfl,c3,dn,eh,c4⟩:=HY.out 0 u C;have ea:ad.add 0=ad:=by unfold Addr.add;simp
  rw [ea] at c3;have c5:=He (HO.out u (List.mem_of_getElem? C));have cu:=He c2;have c6:=He c4;clear ea c4 c2 C;by_cases H:u.length=64
  ·have I:=He H;rw [H] at c3 dn;obtain ⟨x,r⟩:∃ x,u[10]?=some x:=⟨_,List.getElem?_eq_getElem (by rw [H];omega)⟩
   obtain ⟨fa,rfl,c7⟩:=c6.out 10 x r;have ei:=c5.out x (List.mem_of_getElem? r);obtain ⟨s,rfl⟩:∃ s:Nat,x=(s:Int):=⟨x.toNat,Ha⟩
   have K:Hid (pG a=s):=by unfold Hid pG;rw [cu.out,List.getD,r];simp
   rw [show (10:Nat)=9+1 from rfl,lS fa 9] at c7;clear r H;by_cases ej:12<s
   ·have t:Hid (¬ fS a):=fun h=>by have:=h.2.1;rw [K.out] at this;omega
    have dT:decide (12<(s:Int))=true:=decide_eq_true Ha;refine jh (pI w) (fun _ _=>False) (fun _ _=>0) rfl rfl ?_ (fun _ _ h=>h.elim) ?_
    ·intro _;go_wp2;go_step3;exact (show pI _ _ _ from ⟨Below.refl _ _,_,_,_,_,_,_,_,_,_,_,_,_,_,_,_,_,_,_,_,_,_,_,_,_,_,_,_,_,_,_,_,_,_,_,_,_,_,_,_,_,_,_,_,_,_,_,_,_,_,_,_,_,_, rfl⟩)
    ·rintro a' W ⟨m,u0,u1,u2,u3,u4,u5,u6,u7,u8,u9,R,S,U,V,X,Y,Z,an,a0,a1,a3,a4,a5,a6,a7,a8,a9,bb,bi,bk,bn,bt,u32,b1,b2,b3,b4,b5,b6,b8,b9,ca,cb,cc,cg,ch,ci,ck,cl,cp,cq,cr,cs,rfl⟩;go_wp2
     try simp only [cK]
     go_ret2
     exact ⟨.slice none 0 0,by rw [decide_eq_false t.out];rfl,by rw [O.out t.out];exact gj.nil _ _,m⟩
   have dT:decide (12<(s:Int))=false:=decide_eq_false Ha;by_cases ek:n<=s
   ·have t:Hid (¬ fS a):=fun h=>by have:=h.2.2;rw [K.out,HN.out] at this;omega
    have d1:decide ((n:Int)<=s)=true:=decide_eq_true Ha;refine jh (pI w) (fun _ _=>False) (fun _ _=>0) rfl rfl ?_ (fun _ _ h=>h.elim) ?_
    ·intro _;go_wp2;go_step3;exact (show pI _ _ _ from ⟨Below.refl _ _,_,_,_,_,_,_,_,_,_,_,_,_,_,_,_,_,_,_,_,_,_,_,_,_,_,_,_,_,_,_,_,_,_,_,_,_,_,_,_,_,_,_,_,_,_,_,_,_,_,_,_,_,_, rfl⟩)
    ·rintro a' W ⟨m,u0,u1,u2,u3,u4,u5,u6,u7,u8,u9,R,S,U,V,X,Y,Z,an,a0,a1,a3,a4,a5,a6,a7,a8,a9,bb,bi,bk,bn,bt,u32,b1,b2,b3,b4,b5,b6,b8,b9,ca,cb,cc,cg,ch,ci,ck,cl,cp,cq,cr,cs,rfl⟩;go_wp2
     try simp only [cK]
     go_ret2
     exact ⟨.slice none 0 0,by rw [decide_eq_false t.out];rfl,by rw [O.out t.out];exact gj.nil _ _,m⟩
   have d1:decide ((n:Int)<=s)=false:=decide_eq_false Ha;have HT:Hid (fS a):=⟨by rw [cu.out];exact I.out,by rw [K.out];omega,by rw [K.out,HN.out];omega⟩
   have d2:Hid (qW a=ff a s):=by unfold Hid qW;rw [if_pos HT.out,K.out]
   refine jh (fun _ _=>False) (JY w (some ad) n c fa fd s a) (fun a' _=>s-nU (a'.tmps.getD 4 undef)) rfl rfl ?_ ?_ (fun _ _ h=>h.elim)
   ·intro c8;have t:=He c8;clear c8;go_wp2;go_step3;rename_i hK;refine hK _ _ (t.out _ _ ⟨0,.slice none 0 0,Nat.zero_le _,gj.nil _ _,Below.refl _ _,rfl,_,_,_,_,_,_,_,_,_,_,_,_,_,_,_,_,_,_,_,_,_,_,_,_,_,_,_,_,_,_,_,_,_,_,_,_,_,_,_,_,_,_,_,_,_,_,_, rfl⟩)
   ·rintro a' W ⟨k,v,hk,own,m,d3,u1,u7,u8,u9,R,S,U,V,X,Y,Z,an,a0,a1,a3,a4,a5,a6,a7,a8,a9,bb,bi,bk,bn,bt,u32,b1,b2,b3,b4,b5,b6,b8,b9,ca,cb,cc,cg,ch,ci,ck,cl,cp,cq,cr,cs,rfl⟩;have c9:=(qR HO.out k).len;obtain ⟨Av,dv,rfl,_,_,_⟩:=own.wrs c9;rw [bY];have cz:=He own;rw [bY] at cz;clear own c9 d3;by_cases d4:k=s
    ·subst d4;go_wp2
     try simp only [cK]
     go_ret2
     exact ⟨_,by rw [decide_eq_true HT.out];rfl,by rw [d2.out];exact cz.out,m⟩
    ·have hq:((k:Int)==s)=false:=by simp;omega
     obtain ⟨bx,cv⟩:∃ bx,a[1+k]?=some bx:=⟨_,List.getElem?_eq_getElem (by rw [HN.out];omega)⟩
     obtain ⟨a',B,d,e',da,el,em,cw⟩:=HY.out (1+k) bx cv;injection e' with e';subst e'
     obtain ⟨p,hp,HP⟩:∃ p:Nat,1+(k:Int)=p/\Hid (p=1+k):=⟨1+k,Ha,rfl⟩
     obtain ⟨q,eo,HQ⟩:∃ q:Nat,11+3*(k:Int)=q/\Hid (q=11+3*k):=⟨11+3*k,Ha,rfl⟩
     have eq:(p:Int)<n:=Ha;have ee:q<=44:=Ha;have d5:(q:Int)<=64:=Ha;have er:¬ fd=q:=Ha;have w3:IntKind.i64.wrap (3*(k:Int))=3*(k:Int):=IntWalk.i64_in _ Ha;have wq:IntKind.i64.wrap (q:Int)=q:=IntWalk.i64_in _ Ha;have wp:IntKind.i64.wrap (p:Int)=p:=IntWalk.i64_in _ Ha;have d6:Hid (∀ N,Below w.heap.size w N->N.cell? (ad.add p)=some (.slice B bx.length d)):=fun N hW=>by rw [HP.out];exact cO hW da
     have es:=He cv;have M:Ct a k=⟨aB ((u.drop q).take 2),u.getD (q+2) 0,nQ bx⟩:=by
      unfold Ct;rw [cu.out,HQ.out,List.getD_eq_getElem?_getD (l:=a),cv,show 11+3*k+2=13+3*k by omega];rfl
     obtain ⟨y2,cA⟩:∃ y2,u[q+2]?=some y2:=⟨_,List.getElem?_eq_getElem (by rw [I.out];omega)⟩
     have dc:u.getD (q+2) 0=y2:=by rw [List.getD,cA];rfl
     rw [dc] at M;have HW:Hid (∀ N,Below w.heap.size w N->Calls Tryz.prog 212 #[.slice (some (fa.add q)) (64-q) (fd-q),.slice B bx.length d] N fun e w'=>e=.returned (.agg (cS (Ct a k)))/\Below N.heap.size N w'):=fun N hW=>by
      rw [M];refine xm _ B (u.drop q) bx (64-q) (fd-q) bx.length d y2 N (by rw [List.length_drop,I.out]) Ha Ha Ha rfl (fun z hz=>c5.out z (List.mem_of_mem_drop hz)) (by rw [List.getElem?_drop];exact cA) ?_ (cw.keep hW);intro i z hz;rw [List.getElem?_drop] at hz;obtain ⟨a2,e2,h2⟩:=(c6.out.keep hW) _ _ hz;injection e2 with e2;subst e2
      exact ⟨_,rfl,by rw [ji];exact h2⟩
     have cx:Hid ((Ct a k).bs.length=56):=(Eg HO.out k).len;clear da cv cw M cA dc;go_upto_region 10 with fail
     have srefl:∀ (i:Nat) (W:World),Mh (.slice Av k dv) i W W:=fun i W=>World.grownBy.refl _ _;have dg:ML w.heap.size w (.slice Av k dv) (ff a k) W.drew:=⟨m.drew,cz.out⟩
     refine ax (Lm w.heap.size ad fa n c fd k p q d bx.length B Av dv (Ct a k) (ff a k)) (fun _ W=>ML w.heap.size w (.slice Av k dv) (ff a k) W) (Mh (.slice Av k dv)) Hc Hc (fun i j v' w' et d7 ef h hg=>h.on d7 hg) dg ?_;clear dg;simp only [cf];refine ⟨?_,?_,?_,?_,?_,?_,?_,?_,?_,?_,?_,?_,?_,?_,?_,?_,?_⟩
     ·refine aa.of rfl fun T W L hag o hJ b hd=>?_;have e4:=Hf hag 4;exact Hi
     ·refine aa.of rfl fun T W L hag o hJ b hd=>?_;have e5:=Hf hag 5;exact Hi
     ·refine aa.of rfl fun T W L hag o hJ b hd=>?_;have e4:=Hf hag 4;exact Hi
     ·refine aa.of rfl fun T W L hag o hJ b hd=>?_;have eu:T.getD 39 undef=_:=Hg hd 2 rfl;exact Hi
     ·refine aa.of rfl fun T W L hag o hJ b hd=>?_;have ev:T.getD 40 undef=_:=Hg hd 3 rfl;exact Hi
     ·refine aa.of rfl fun T W L hag o hJ b hd=>?_;have ew:T.getD 41 undef=_:=Hg hd 4 rfl;exact Hi
     ·refine aa.of rfl fun T W L hag o hJ b hd=>?_;have ex:T.getD 38 undef=_:=Hg hd 1 rfl;have ey:T.getD 42 undef=_:=Hg hd 5 rfl;exact Hi
     ·refine aa.of rfl fun T W L hag o hJ b hd=>?_;have e0:=Hf hag 0;exact Hi
     ·refine aa.of rfl fun T W L hag o hJ b hd=>?_;have e4:=Hf hag 4;exact Hi
     ·refine aa.of rfl fun T W L hag o hJ b hd=>?_;have ez:T.getD 45 undef=_:=Hg hd 8 rfl;exact Hi
     ·refine aa.of rfl fun T W L hag o hJ b hd=>?_;have eA:T.getD 46 undef=_:=Hg hd 9 rfl;exact Hi
     ·refine aa.of rfl fun T W L hag o hJ b hd=>?_;have eB:T.getD 44 undef=_:=Hg hd 7 rfl;have eC:T.getD 47 undef=_:=Hg hd 10 rfl;exact Hi
     ·refine aa.of rfl fun T W L hag o hJ b hd=>?_;have eD:T.getD 48 undef=_:=Hg hd 11 rfl;have eg:=d6.out W hJ.bel;exact Hi
     ·refine aa.of rfl fun T W L hag o hJ b hd=>?_;have eE:T.getD 43 undef=_:=Hg hd 6 rfl;have eF:T.getD 49 undef=_:=Hg hd 12 rfl;clear hag hd;go_simp;refine (HW.out W hJ.bel).mono ?_;rintro en w' ⟨rfl,hb⟩;exact ⟨_,rfl,rfl,⟨hJ.bel.trans (hb.mono hJ.bel.size),ic hJ.row hb⟩,dZ hb⟩
     ·refine aa.of rfl fun T W L hag o hJ b hd=>?_;have d8:T.getD 50 undef=_:=Hg hd 13 rfl;clear hag hd;obtain ⟨i0,hi,d9,eb,eG⟩:=info_parts mD;refine gH 49 (.tmp 50) rfl 52 i0 _ 58 Tryz.underlying49 hi d9 eb Hd Hd _ d8 (by show (cS _).size=58;exact dd cx.out) ?_;exact ⟨_,rfl,⟨W.heap.size,rfl,heap_alloc_new W _,fun e=>Nat.lt_irrefl _ (hJ.row.lt _ e).2⟩,⟨hJ.bel.alloc hJ.bel.size _,hJ.row.alloc _⟩,World.grownBy_alloc W _ _⟩
     ·refine aa.of rfl fun T W L hag o hJ b hd=>?_;have ec:T.getD 37 undef=_:=Hg hd 0 rfl;obtain ⟨g,(ed:T.getD 51 undef=_),hg,hne⟩:=Hg hd 14 rfl;refine Cz (.tmp 37) (.tmp 51) rfl w.heap.size _ _ ec hJ.row g _ cx.out ed (gU hg) (by rw [bY];omega) hJ.bel.size ?_;intro v' w' h1 h2 h3;exact ⟨_,rfl,h1,⟨hJ.bel.trans (gJ h2 hJ.bel.size (fun k hk=>(hJ.row.lt k hk).1)),h3⟩,h2⟩
     ·refine bm.of rfl fun T W L hag b o hJ hd=>?_;have cP:gj W w.heap.size (T.getD 52 undef) (ff a k++[Ct a k]):=hd 15 _ Hb rfl;obtain ⟨f,hf,hT⟩:=aJ hag;have dl:=hf 52;rw [<- dl] at cP;have HX:=He cP;have HJ:=He hJ.bel;clear hag hd cP dl hJ hf;rw [hT];clear hT;simp only [List.pop_toArray,List.dropLast_cons_cons,List.dropLast_singleton,List.filterMap_cons,List.filterMap_nil,List.foldl_cons,List.foldl_nil,List.setIfInBounds_toArray,List.set_cons_succ,List.set_cons_zero];go_wp2_with fail
      go_step3;exact ⟨⟨k+1,_,Ha,by rw [zx];exact HX.out,HJ.out,by rw [Ba HX.out];simp [bY],_,_,_,_,_,_,_,_,_,_,_,_,_,_,_,_,_,_,_,_,_,_,_,_,_,_,_,_,_,_,_,_,_,_,_,_,_,_,_,_,_,_,_,_,_,_,_, rfl⟩,by have:=Ba HX.out;simp [nU,bY] at this ⊢;omega⟩
  ·have t:Hid (¬ fS a):=fun h=>H (by have:=h.1;rwa [cu.out] at this);generalize u.length=bl at *;have eH:((n:Int)==0)=false:=by simp;omega
   have eI:((bl:Int) != 64)=true:=by simp;omega
   refine jh (pI w) (fun _ _=>False) (fun _ _=>0) rfl rfl ?_ (fun _ _ h=>h.elim) ?_
   ·intro _;go_wp2;go_step3;exact (show pI _ _ _ from ⟨Below.refl _ _,_,_,_,_,_,_,_,_,_,_,_,_,_,_,_,_,_,_,_,_,_,_,_,_,_,_,_,_,_,_,_,_,_,_,_,_,_,_,_,_,_,_,_,_,_,_,_,_,_,_,_,_,_, rfl⟩)
   ·rintro a' W ⟨m,u0,u1,u2,u3,u4,u5,u6,u7,u8,u9,R,S,U,V,X,Y,Z,an,a0,a1,a3,a4,a5,a6,a7,a8,a9,bb,bi,bk,bn,bt,u32,b1,b2,b3,b4,b5,b6,b8,b9,ca,cb,cc,cg,ch,ci,ck,cl,cp,cq,cr,cs,rfl⟩;go_wp2
    try simp only [cK]
    go_ret2
    exact ⟨.slice none 0 0,by rw [decide_eq_false t.out];rfl,by rw [O.out t.out];exact gj.nil _ _,m⟩
theorem xp {lb:Int} {e s:Nat} {a:List (List Int)} (h:¬ ge lb e s a):kT lb e s a=[]/\nR lb e s a=0:=by
 unfold kT nR;rw [if_neg h,if_neg h];exact ⟨rfl,rfl⟩
theorem CA {lb:Int} {e s:Nat} {a:List (List Int)} (h:ge lb e s a):kT lb e s a=ff a (pG a)/\nR lb e s a=1+pG a:=by
 unfold kT nR;rw [if_pos h,if_pos h];exact ⟨rfl,rfl⟩
theorem tJ {lb:Int} (e s:Nat) {l:List Wr} (c:0<=lb/\lb<=255) (f:bQ l) (d:bW l):sN (putL lb e s l):=fun b a=>by
 unfold putL at a;rcases List.mem_cons.1 a with rfl | a
 ·exact oS (qP e s c f)
 ·obtain ⟨x,g,rfl⟩:=List.mem_map.1 a;exact oS (qQ (d x g).b)
theorem Ep (lb:Int) (e s:Nat) (A:Option Addr) (a:List (List Int)) (n c:Nat) (w:World) (C:0<=lb/\lb<=255) (he:e<4294967296) (hs:s<4294967296) (hn:a.length=n) (hl:n<=c) (hc:c<=9223372036854775807) (y:sN a) (hy:Tx w A a) :
 Calls Tryz.prog 160 #[.int .u8 lb,.int .u32 e,.int .u32 s,.slice A n c] w fun z w'=>∃ v,z=.returned (.tuple #[v,.int .i64 (nR lb e s a),.bool (decide (ge lb e s a))])/\gj w' w.heap.size v (kT lb e s a)/\Below w.heap.size w w':=by
 have HY:=He hy;have HN:=He hn;have HO:=He y;have m:=He (Eo A a n c w hn hl hc y hy);have b6:Hid (¬ ge lb e s a->kT lb e s a=[]/\nR lb e s a=0/\decide (ge lb e s a)=false):=fun h=>⟨(xp h).1,(xp h).2,decide_eq_false h⟩
 clear hn y hy;go_enter Tryz.func160,Tryz.ntmps160;go_wp2;refine bq (fun a' w'=>Hid (Below w.heap.size w w'/\¬ ge lb e s a)/\∃ u0 u1 u2 u3 u4 u5 u6 u7 u8 u9 H I K L M N O R S T U V X Y Z ad an a0 a1 a2 a3 a4 u32 a5 a6 a7 a8 a9 bb bi:Value,a'={ tmps:=#[u0,u1,u2,u3,u4,u5,u6,u7,u8,u9,H,I,K,L,M,N,O,R,S,T,U,V,X,Y,Z,ad,an,a0,a1,a2,a3,a4,u32,a5,a6,a7,a8,a9,bb,bi],defers:=[] }) (fun _ _=>0) rfl ?_ ?_
 ·intro _;by_cases f:fS a
  ·have b8:Hid (qW a=ff a (pG a)):=by unfold Hid qW;rw [if_pos f]
   have ck:pG a<n:=by rw [<- HN.out];exact f.2.2
   have b9:pG a<=12:=f.2.1;have ca:=He f;rw [decide_eq_true f] at m;clear f;go_wp2_with fail
   refine m.out.mono ?_;rintro z w1 ⟨v,rfl,own,j⟩;rw [b8.out] at own;have g:=qR HO.out (pG a);obtain ⟨Av,dv,rfl,bk,bl,bn⟩:=own.wrs g.len;rw [bY] at bk ⊢;have bs:=He own;rw [bY] at bs;have bt:=He g;have HP:=He (A4 lb e s Av (ff a (pG a)) (pG a) dv w1 C he hs (bY _ _) bk bl g bn);have cb:=He (HY.out.keep j);have bx:=He (bY a (pG a));clear m own g bn;generalize b0:ff a (pG a)=lv at *;have o:=He b0;clear b0;generalize b1:pG a=cn at *;have k:=He b1;clear b1;obtain ⟨p,hp,q⟩:∃ p:Nat,1+(cn:Int)=p/\Hid (p=1+cn):=⟨1+cn,Ha,rfl⟩
   have cl:IntKind.i64.wrap (p:Int)=p:=IntWalk.i64_in _ Ha;by_cases d:bQ lv
   ·have cc:Hid (mr lb e s lv=putL lb e s lv):=by unfold Hid mr;rw [if_pos d]
    have b2:=He d;rw [decide_eq_true d] at HP;have cg:=He (tJ e s C d bt.out);clear d;go_wp2_with fail
    refine HP.out.mono ?_;rintro z w2 ⟨v2,rfl,t,l⟩;rw [cc.out] at t;obtain ⟨A2,d2,rfl,b3,ci,x⟩:=t.tx;rw [bG,bx.out,<- q.out] at b3 ⊢;have ch:=He (cb.out.keep l);have u:=He (zC A2 A (putL lb e s lv) (a.take p) p p d2 c w2 (by rw [bG,bx.out,<- q.out]) (by rw [List.length_take,HN.out];omega) Ha cg.out (fun b hb=>HO.out b (List.mem_of_mem_take hb)) x (ch.out.take _));have b4:=He (show gj w2 w.heap.size (.slice Av cn dv) lv from ic bs.out l);have i:=He (aR j l);clear t x j l b3 HP;by_cases B:putL lb e s lv=a.take p
    ·have hT:ge lb e s a:=⟨ca.out,by rw [k.out,o.out];exact b2.out,by rw [k.out,o.out,<- q.out];exact B⟩
     have b5:=He (CA hT);have HT:=He hT;rw [decide_eq_true B] at u;clear B hT;go_wp2_with fail
     refine u.out.mono ?_;rintro z w3 ⟨rfl,rfl⟩;go_wp2_with fail
     try simp only [Exit.jump]
     go_ret3
     exact ⟨_,by rw [b5.out.2,decide_eq_true HT.out,k.out,<- q.out];rfl,by rw [b5.out.1,k.out,o.out];exact b4.out,i.out⟩
    ·have r:Hid (¬ ge lb e s a):=fun h=>B (by have:=h.2.2;rwa [k.out,o.out,<- q.out] at this);rw [decide_eq_false B] at u;clear B;go_wp2_with fail
     refine u.out.mono ?_;rintro z w3 ⟨rfl,rfl⟩;go_wp2_with fail
     go_step3;exact ⟨rfl,⟨i.out,r.out⟩,_,_,_,_,_,_,_,_,_,_,_,_,_,_,_,_,_,_,_,_,_,_,_,_,_,_,_,_,_,_,_,_,_,_,_,_,_,_,_,_,rfl⟩
   ·have r:Hid (¬ ge lb e s a):=fun h=>d (by have:=h.2.1;rwa [k.out,o.out] at this);rw [decide_eq_false d] at HP;clear d;go_wp2_with fail
    refine HP.out.mono ?_;rintro z w2 ⟨v2,rfl,t,l⟩;have i:=He (aR j l);go_wp2_with fail
    go_step3;exact ⟨rfl,⟨i.out,r.out⟩,_,_,_,_,_,_,_,_,_,_,_,_,_,_,_,_,_,_,_,_,_,_,_,_,_,_,_,_,_,_,_,_,_,_,_,_,_,_,_,_,rfl⟩
  ·have r:Hid (¬ ge lb e s a):=fun h=>f h.1;rw [decide_eq_false f] at m;clear f;go_wp2_with fail
   refine m.out.mono ?_;rintro z w1 ⟨v,rfl,own,j⟩;go_wp2_with fail
   go_step3;exact ⟨rfl,⟨j,r.out⟩,_,_,_,_,_,_,_,_,_,_,_,_,_,_,_,_,_,_,_,_,_,_,_,_,_,_,_,_,_,_,_,_,_,_,_,_,_,_,_,_,rfl⟩
 ·rintro a' W ⟨HH,u0,u1,u2,u3,u4,u5,u6,u7,u8,u9,H,I,K,L,M,N,O,R,S,T,U,V,X,Y,Z,ad,an,a0,a1,a2,a3,a4,u32,a5,a6,a7,a8,a9,bb,bi,rfl⟩;go_wp2
  try simp only [Exit.jump]
  go_ret3
  obtain ⟨h1,h2,h3⟩:=b6.out HH.out.2;exact ⟨.slice none 0 0,by rw [h2,h3];rfl,by rw [h1];exact gj.nil _ _,HH.out.1⟩
structure J2 (w w5 W:World):Prop where
 bel:Below w.heap.size w W
 bel5:Below w5.heap.size w5 W
theorem qX (lb:Int) (e:Nat) (w:World) (t:0<=lb/\lb<=255) (u:e<4294967296) :
 Calls Tryz.prog 157 #[.int .u8 lb,.int .u32 e] w fun g w'=>∃ v,g=.returned v/\w'.ownsRow w.heap.size 5 1 v 64 (Bs (bg lb e))/\Below w.heap.size w w':=by
 have H:=fun (w:World) (C:Array Value) (n c:Nat)=>Lib.run_convert_bytes_const (P:=Tryz.prog) w 22 5 C n c Tryz.underlying22 Tryz.underlying5;have HB:Hid (∀ o,Below w.heap.size w (w.alloc o)):=fun o=>(Below.refl _ _).alloc (Nat.le_refl _) _;go_enter Tryz.func157,Tryz.ntmps157;go_upto_region 2 with (first
  | (at_builtin
     refine gT _ rfl (.tmp 7) (.tmp 9) rfl w.heap.size _ 2 [65,78] none rfl (Or.inr ⟨rfl,w.heap.size,0,rfl,rfl,(GT rfl).alloc _⟩) (some ⟨w.heap.size+1,0,none⟩) 1 1 [lb] rfl (gC (by rw [<- al w];exact heap_alloc_new _ _) rfl) rfl Ha Ha (by rw [al,al];omega) ?_;intro p h q b _;have i:Below w.heap.size w h:=((HB.out _).alloc (HB.out _).size _).grown b ((HB.out _).alloc (HB.out _).size _).size (fun j hj=>by cases hj);have own1:h.ownsRow w.heap.size 5 1 p 3 (Bs [65,78,lb]):=q;clear q b))
 go_wp2_with fail
 refine (l9 h w.heap.size p 3 _ e 4 own1 i.size Ha Ha Ha u).mono ?_;rintro g y ⟨I,rfl,own2,d,_⟩;have r:=i.trans d;have a:([65,78,lb]++be e 4).length=7:=by simp [au]
 obtain ⟨z,A,rfl,_,_,k⟩:=bM own2 a;rw [a];have l:Hid (ay ([65,78,lb]++be e 4)):=ay.append (fun x s=>by
  simp only [List.mem_cons,List.not_mem_nil,or_false] at s;rcases s with rfl | rfl | rfl <;> omega) (cF _ _)
 clear own1 i d;go_wp2_with fail
 refine (mV z _ 7 A y a Ha l.out k).mono ?_;rintro g K ⟨B,rfl,f,m⟩;go_wp2_with fail
 go_ret;exact ⟨B,rfl,f.mono r.size,aR r m⟩
def Bb (xs:List Int):Nat:=aB ((xs.drop 3).take 4)
def fD (lb:Int) (xs:List Int):Prop:=xs.length=64/\Bb xs≠4294967295/\bg lb (Bb xs)=xs
instance (lb:Int) (xs:List Int):Decidable (fD lb xs):=by unfold fD;infer_instance
def dD (lb:Int) (xs:List Int):Nat:=if fD lb xs then Bb xs else 0
theorem JZ {xs:List Int} (h:ay xs) (a:xs.length=64):Bb xs<4294967296:=by
 have:=i5 4 ((xs.drop 3).take 4) (by rw [List.length_take,List.length_drop,a];rfl) (fun x b=>h x (List.mem_of_mem_drop (List.mem_of_mem_take b)));unfold Bb;omega
theorem G0 {w:World} {a:Addr} {xs:List Int} (h:dK w (some a) xs) (q m:Nat):dK w (some (a.add q)) ((xs.drop q).take m):=by
 intro i z b;rw [List.getElem?_take] at b;split at b
 ·rw [List.getElem?_drop] at b;obtain ⟨e,c,d⟩:=h _ _ b;injection c with c;subst c
  exact ⟨_,rfl,by rw [ji];exact d⟩
 ·cases b
theorem CB (lb:Int) (A:Option Addr) (xs:List Int) (n c:Nat) (w:World) (o:0<=lb/\lb<=255) (X:xs.length=n) (hl:n<=c) (hc:c<=9223372036854775807) (Y:ay xs) (Z:dK w A xs) :
 Calls Tryz.prog 158 #[.int .u8 lb,.slice A n c] w fun k w'=>k=.returned (.tuple #[.int .u32 (dD lb xs),.bool (decide (fD lb xs))])/\Below w.heap.size w w':=by
 have O:=He Z;have l:=He X;have HB:=He Y;have R:Hid (¬ fD lb xs->dD lb xs=0/\decide (fD lb xs)=false):=fun h=>⟨by unfold dD;rw [if_neg h],decide_eq_false h⟩
 clear X Y Z;go_enter Tryz.func158,Tryz.ntmps158;go_wp2;refine bq (fun a' w'=>Hid (Below w.heap.size w w'/\¬ fD lb xs)/\∃ u0 u1 u2 u3 u4 u5 u6 u7 u8 u9 p q r s t u v y z B C H:Value,a'={ tmps:=#[u0,u1,u2,u3,u4,u5,u6,u7,u8,u9,p,q,r,s,t,u,v,y,z,B,C,H],defers:=[] }) (fun _ _=>0) rfl ?_ ?_
 ·intro _;by_cases I:n=64
  ·subst I;obtain ⟨S,K⟩:∃ S,xs[0]?=some S:=⟨_,List.getElem?_eq_getElem (by rw [l.out];omega)⟩
   obtain ⟨m,rfl,_⟩:=O.out 0 S K;have T:=JZ HB.out l.out;have b:=He (tH (some (m.add 3)) ((xs.drop 3).take 4) 4 (c-3) w (by rw [List.length_take,List.length_drop,l.out];rfl) Ha (fun x hx=>HB.out x (List.mem_of_mem_drop (List.mem_of_mem_take hx))) (G0 O.out 3 4));have U:Hid (fD lb xs↔Bb xs≠4294967295/\bg lb (Bb xs)=xs):=⟨fun h=>h.2,fun h=>⟨l.out,h⟩⟩
   have V:Hid (fD lb xs->dD lb xs=Bb xs):=fun h=>by unfold dD;rw [if_pos h]
   change Hid (Calls _ _ _ _ (fun e w'=>e=.returned (.int .u32 (Bb xs))/\w=w')) at b;generalize Bb xs=g at *;have L:m.add 3=⟨m.block,m.off+3,none⟩:=lS m 2;rw [L] at b;have an:¬ c=3:=Ha;clear K L;by_cases a:g=4294967295
   ·have f:Hid (¬ fD lb xs):=fun h=>(U.out.1 h).1 a;have hq:((g:Int)==4294967295)=true:=by simp;omega
    clear a;go_wp2_with fail
    refine b.out.mono ?_;rintro k w1 ⟨rfl,rfl⟩;go_wp2_with fail
    go_step3;exact ⟨rfl,⟨Below.refl _ _,f.out⟩,_,_,_,_,_,_,_,_,_,_,_,_,_,_,_,_,_,_,_,_,_,_, rfl⟩
   ·have hq:((g:Int)==4294967295)=false:=by simp;omega
    have HL:=He a;clear a;go_wp2_with fail
    refine b.out.mono ?_;rintro k w1 ⟨rfl,rfl⟩;go_wp2_with fail
    refine (qX lb g w o T).mono ?_;rintro k w2 ⟨v2,rfl,own2,j⟩;obtain ⟨A2,d2,rfl,_,_,M⟩:=bM own2 (cm lb g);rw [cm];have N:=He (oP A2 (some m) (bg lb g) xs 64 64 d2 c w2 (cm lb g) l.out (kG g o) HB.out M (O.out.keep j));clear own2 M;by_cases d:bg lb g=xs
    ·have i:Hid (fD lb xs):=U.out.2 ⟨HL.out,d⟩;rw [decide_eq_true d] at N;clear d;go_wp2_with fail
     refine N.out.mono ?_;rintro k w3 ⟨rfl,rfl⟩;go_wp2_with fail
     try simp only [Exit.jump]
     go_ret2
     exact ⟨by rw [V.out i.out,decide_eq_true i.out];rfl,j⟩
    ·have f:Hid (¬ fD lb xs):=fun h=>d (U.out.1 h).2;rw [decide_eq_false d] at N;clear d;go_wp2_with fail
     refine N.out.mono ?_;rintro k w3 ⟨rfl,rfl⟩;go_wp2_with fail
     go_step3;exact ⟨rfl,⟨j,f.out⟩,_,_,_,_,_,_,_,_,_,_,_,_,_,_,_,_,_,_,_,_,_,_, rfl⟩
  ·have f:Hid (¬ fD lb xs):=fun h=>I (by rw [<- l.out];exact h.1);go_wp2;go_step3;exact ⟨rfl,⟨Below.refl _ _,f.out⟩,_,_,_,_,_,_,_,_,_,_,_,_,_,_,_,_,_,_,_,_,_,_, rfl⟩
 ·rintro a' W ⟨HH,u0,u1,u2,u3,u4,u5,u6,u7,u8,u9,p,q,r,s,t,u,v,y,z,B,C,H,rfl⟩;go_wp2
  try simp only [Exit.jump]
  go_ret2
  obtain ⟨h1,h2⟩:=R.out HH.out.2;exact ⟨by rw [h1,h2];rfl,HH.out.1⟩
instance:DecidableEq Wr:=fun x y =>
 if h:x.t=y.t/\x.k=y.k/\x.bs=y.bs then isTrue (by cases x;cases y;simp at h;obtain ⟨rfl,rfl,rfl⟩:=h;rfl) else isFalse (fun e=>h (by subst e;exact ⟨rfl,rfl,rfl⟩))
theorem kn {xs:List Int} (h:xs.length<=60):(df xs).take 60=de xs:=by unfold df;rw [<- kF h];exact List.take_left
theorem xu {xs ys:List Int} (h:xs.length<=60) (c:ys.length<=60) (d:xs.length=ys.length) (e:df xs=df ys):xs=ys:=by
 have b:=congrArg (List.take 60) e;rw [kn h,kn c] at b;have a:=congrArg (List.take xs.length) b;unfold de at a;rw [List.take_left,d,List.take_left] at a;exact a
theorem CC {lb lb':Int} {e a s s' n d:Nat} (f:e<4294967296) (b:a<4294967296) (g:s<4294967296) (c:s'<4294967296) (h:kl lb e s n=kl lb' a s' d):lb=lb'/\e=a/\s=s':=by
 refine ⟨?_,?_,?_⟩
 ·have:=congrArg (fun z:List Int=>z.getD 1 0) h;exact this
 ·exact uY f b (by have:=congrArg (fun z:List Int=>(z.drop 2).take 4) h;exact this)
 ·exact uY g c (by have:=congrArg (fun z:List Int=>(z.drop 6).take 4) h;exact this)
theorem tK:∀ {l:List Wr} {i:Nat} {x:Wr},l[i]?=some x->(told l).drop (3*i)=be x.t.toNat 2++[x.k]++told (l.drop (i+1))
 | [],i,x,h=>by cases h
 | y :: l,0,x,h=>by injection h with h;subst h;rfl
 | y :: l,i+1,x,h=>by
   have a:=tK (l:=l) (i:=i) h;show ((be y.t.toNat 2++[y.k])++told l).drop (3*(i+1))=_;rw [List.drop_append,List.drop_of_length_le (by simp [au];omega),List.nil_append];rw [show 3*(i+1)-(be y.t.toNat 2++[y.k]).length=3*i by simp [au];omega];exact a
section
variable {lb:Int} {e s:Nat} {l:List Wr} {rest:List (List Int)}
theorem qY (a:bQ l):(putL lb e s l++rest).headD []=df (bO lb e s l):=rfl
theorem qZ (a:bQ l):(bO lb e s l).length<=60:=by rw [cH];have:=a.1.2;omega
theorem Bc (a:bQ l) {j:Nat} (hj:j<11+3*l.length):(df (bO lb e s l))[j]?=(bO lb e s l)[j]?:=by
 unfold df de;rw [List.append_assoc,List.getElem?_append_left (by rw [cH];exact hj)]
theorem qr (a:bQ l):pG (putL lb e s l++rest)=l.length:=by
 unfold pG;rw [qY a,List.getD_eq_getElem?_getD,Bc a Ha];unfold bO;rw [List.getElem?_append_left (by rw [gR];omega)];show ((kl lb e s l.length)[10]?.getD 0).toNat=_;show ((l.length:Int)).toNat=_;simp
theorem G4 (a:bQ l):fS (putL lb e s l++rest) :=
 ⟨by rw [qY a];exact fC (qZ a),by rw [qr a];exact a.1.2,by rw [qr a,List.length_append,bG];omega⟩
theorem J3 {i:Nat} {x:Wr} (a:l[i]?=some x):(putL lb e s l++rest)[1+i]?=some (df (gc e s x.bs)):=by
 have b:=(List.getElem?_eq_some_iff.1 a).1;rw [List.getElem?_append_left (by rw [bG];omega)];unfold putL;rw [Nat.add_comm,List.getElem?_cons_succ,List.getElem?_map,a];rfl
theorem Er {bs:List Int} (h:bs.length=56):nQ (df (gc e s bs))=bs:=by
 have b:(gc e s bs).length=60:=gS h;unfold nQ;rw [fC Ha];have a:(df (gc e s bs)).take 56=bs:=by
  have:(df (gc e s bs)).take 56=((df (gc e s bs)).take 60).take 56:=by rw [List.take_take];rfl
  rw [this,kn Ha];unfold de gc;rw [List.append_assoc,List.append_assoc,<- h];exact List.take_left
 rw [a];simp
theorem G5 (f:bQ l) (d:bW l) {i:Nat} {x:Wr} (b:l[i]?=some x):Ct (putL lb e s l++rest) i=x:=by
 have g:=(List.getElem?_eq_some_iff.1 b).1;have c:=f.2.1 x (List.mem_of_getElem? b);have hd:(df (bO lb e s l)).drop (11+3*i)=be x.t.toNat 2++[x.k]++(told (l.drop (i+1))++(List.replicate (60-(bO lb e s l).length) 0++be (oO (de (bO lb e s l))) 4)):=by
  unfold df de;rw [List.append_assoc];have h:∀ a:List Int,(bO lb e s l++a).drop (11+3*i)=be x.t.toNat 2++[x.k]++told (l.drop (i+1))++a:=fun a=>by
   unfold bO;rw [<- tK b,List.append_assoc,<- List.drop_drop,<- gR lb e s l.length,List.drop_left,List.drop_append_of_le_length (by rw [lj];omega)]
  rw [h,List.append_assoc]
 unfold Ct;rw [qY f,hd];have j:aB ((be x.t.toNat 2++[x.k]++(told (l.drop (i+1))++(List.replicate (60-(bO lb e s l).length) 0++be (oO (de (bO lb e s l))) 4))).take 2)=x.t.toNat:=by
  rw [List.append_assoc];have:∀ a:List Int,(be x.t.toNat 2++a).take 2=be x.t.toNat 2:=fun a=>by
   have m:=au x.t.toNat 2;rw [<- m];simp [au]
  rw [this];exact nD 2 _ (by have:=c.2;omega)
 have n:(df (bO lb e s l)).getD (13+3*i) 0=x.k:=by
  have o:(df (bO lb e s l))[11+3*i+2]?=some x.k:=by
   rw [<- List.getElem?_drop,hd];rfl
  rw [List.getD,show 13+3*i=11+3*i+2 by omega,o];rfl
 have p:nQ ((putL lb e s l++rest).getD (1+i) [])=x.bs:=by
  rw [List.getD_eq_getElem?_getD,J3 b];exact Er (d x (List.mem_of_getElem? b)).len
 rw [j,n,p];have:((x.t.toNat:Nat):Int)=x.t:=by have:=c.2;omega
 rw [this]
theorem tL (d:bQ l) (a:bW l):ff (putL lb e s l++rest) l.length=l:=by
 apply List.ext_getElem?;intro i;unfold ff;rw [List.getElem?_map];by_cases b:i<l.length
 ·obtain ⟨x,c⟩:∃ x,l[i]?=some x:=⟨_,List.getElem?_eq_getElem b⟩
  rw [List.getElem?_range b,c];show some (Ct _ i)=some x;rw [G5 d a c]
 ·rw [List.getElem?_eq_none (by simp;omega),List.getElem?_eq_none Ha];rfl
theorem Es:(putL lb e s l++rest).take (1+l.length)=putL lb e s l:=by rw [<- bG lb e s l];exact List.take_left
theorem tM {lb':Int} {b s':Nat} (a:bQ l) (c:bW l) (i:e<4294967296) (d:b<4294967296) (j:s<4294967296) (f:s'<4294967296):ge lb' b s' (putL lb e s l++rest)↔lb'=lb/\b=e/\s'=s:=by
 unfold ge;rw [qr a,tL a c,Es];constructor
 ·rintro ⟨_,_,h⟩;unfold putL at h;injection h with k _
  have g:=xu (qZ a) (qZ a) (by rw [cH,cH]) k;unfold bO at g;exact CC d i f j (List.append_inj g (by rw [gR,gR])).1
 ·rintro ⟨rfl,rfl,rfl⟩;exact ⟨G4 a,a,rfl⟩
theorem CD (b:bQ l) (a:bW l) (c:e<4294967296) (d:s<4294967296):kT lb e s (putL lb e s l++rest)=l/\nR lb e s (putL lb e s l++rest)=1+l.length:=by
 have h:=(tM (lb':=lb) (rest:=rest) b a c c d d).2 ⟨rfl,rfl,rfl⟩;unfold kT nR;rw [if_pos h,if_pos h,qr b,tL b a];exact ⟨rfl,rfl⟩
end
theorem q8 {lb:Int} {e:Nat} (b:e<4294967296):Bb (bg lb e)=e:=by
 unfold Bb bg df de;have:∀ a:List Int,(([65,78,lb]++be e 4++a).drop 3).take 4=be e 4:=fun a=>rfl;rw [List.append_assoc ([65,78,lb]++be e 4),this];exact nD 4 e Ha
theorem mE {lb lb':Int} {e:Nat} (b:e<4294967296):fD lb' (bg lb e)↔lb'=lb/\e≠4294967295:=by
 unfold fD;rw [q8 b];constructor
 ·rintro ⟨_,a,c⟩;refine ⟨?_,a⟩;have d:=xu (by simp [au]) (by simp [au]) (by simp [au]) c;have:=congrArg (fun z:List Int=>z.getD 2 0) d;exact this
 ·rintro ⟨rfl,a⟩;exact ⟨cm _ _,a,rfl⟩
theorem Et {lb:Int} {e s:Nat} {l:List Wr} (h:bQ l):mr lb e s l=putL lb e s l:=by unfold mr;rw [if_pos h]
end Go.Proofs.YtegjelaejbacnaaGreat
