/- For FileForms: contracts and facts, part 7. -/
import Derived.Laws.BitsAllLaws
import Derived.Deep.QuietTactic
import Derived.Deep.DeepCutAuto
import Derived.StillTailTactics
import Derived.Test.YtegjelaejbacnaaGreatW02
import Derived.Test.YtegjelaejbacnaaGreatW06
set_option maxRecDepth 100000
set_option maxHeartbeats 25600000
set_option linter.unusedVariables false
open Go.ChangeShapes Go.WideShapes Go.ChangeAt Go.RowKit
namespace Go.Proofs.YtegjelaejbacnaaGreat
structure Wr where
 (t k:Int) (bs:List Int)
structure Wr.Ok (x:Wr):Prop where
 t:i64 x.t
 k:i64 x.k
 len:x.bs.length=56
 b:ax x.bs
def bS (l:List Wr):Prop:=∀ x∈l,x.Ok
def wrL (x:Wr):List Value:=.int .i64 x.t :: blkL x.k x.bs
def cI (x:Wr):Array Value:=(wrL x).toArray
theorem bw {x:Wr} (h:x.bs.length=56):(wrL x).length=58:=by unfold wrL blkL;simp [ar,h]
theorem cQ {x:Wr} (h:x.bs.length=56):(cI x).size=58:=by unfold cI;simp [bw h]
theorem jO (x:Wr):(cI x).toList=wrL x:=by unfold cI;simp
theorem mV (x:Wr):∀ v∈wrL x,v.oneCell'=true:=by
 intro v hv;unfold wrL blkL at hv;simp only [List.mem_cons] at hv;rcases hv with rfl | rfl | hv
 ·rfl
 ·rfl
 ·exact gQ x.bs v hv
theorem zx (x:Wr):(cI x).all (·.oneCell')=true:=Array.all_eq_true_iff_forall_mem.2 fun v hv=>mV x v (by unfold cI at hv;simpa using hv)
def mh (w:World) (p:Addr) (x:Wr):Prop:=∀ j v,(wrL x)[j]?=some v->w.cell? (p.add j)=some v
def EZ (w:World) (A:Option Addr) (l:List Wr):Prop:=∀ i x,l[i]?=some x->∃ a,A=some a/\mh w (a.add (i*58)) x
theorem mh.keep {w w':World} {p:Addr} {x:Wr} (h:mh w p x) (hb:Below w.heap.size w w'):mh w' p x:=fun j v hj=>cF hb (h j v hj)
theorem EZ.keep {w w':World} {A:Option Addr} {l:List Wr} (h:EZ w A l) (hb:Below w.heap.size w w'):EZ w' A l:=fun i x hi =>
 let ⟨a,e,hs⟩:=h i x hi;⟨a,e,hs.keep hb⟩
def bM (l:List Wr):Prop:=(1<=l.length/\l.length<=12)/\(∀ x∈l,mf x.k x.t)/\(l.map (·.t)).Nodup
instance (l:List Wr):Decidable (bM l):=by unfold bM;infer_instance
def cR (xs:List Int):List Int:=xs++List.replicate (60-xs.length) 0
def cS (xs:List Int):List Int:=cR xs++be (nV (cR xs)) 4
theorem j6 {xs:List Int} (h:xs.length<=60):(cR xs).length=60:=by unfold cR;simp;omega
theorem fc {xs:List Int} (h:xs.length<=60):(cS xs).length=64:=by unfold cS;rw [List.length_append,j6 h,av]
theorem pR {xs:List Int} (h:ax xs):ax (cR xs):=ax.append h fun x hx=>by rw [List.eq_of_mem_replicate hx];omega
theorem nZ {xs:List Int} (h:ax xs):ax (cS xs):=ax.append (pR h) (cm _ _)
def told:List Wr->List Int
 | []=>[]
 | x :: l=>(be x.t.toNat 2++[x.k])++told l
theorem oI:∀ (l m:List Wr),told (l++m)=told l++told m
 | [],_=>rfl
 | x :: l,m=>by show _++told (l++m)=_;rw [oI l m,<- List.append_assoc];rfl
theorem kC:∀ (l:List Wr),(told l).length=3*l.length
 | []=>rfl
 | x :: l=>by
   show ((be x.t.toNat 2++[x.k])++told l).length=_;rw [List.length_append,kC l];simp [av];omega
theorem ss:∀ {l:List Wr},(∀ x∈l,mf x.k x.t)->ax (told l)
 | [],_=>fun x hx=>by cases hx
 | x :: l,h=>ax.append (ax.append (cm _ _) (fun y hy=>by
    simp only [List.mem_cons,List.not_mem_nil,or_false] at hy;subst hy;have:=(h x Hb).1;omega)) (ss fun y hy=>h y (by simp [hy]))
def jP (lb:Int) (e s:Nat) (n:Nat):List Int:=[72,lb]++be e 4++be s 4++[(n:Int)]
theorem gy (lb:Int) (e s n:Nat):(jP lb e s n).length=11:=by unfold jP;simp [av]
def bK (lb:Int) (e s:Nat) (l:List Wr):List Int:=jP lb e s l.length++told l
theorem ct (lb:Int) (e s:Nat) (l:List Wr):(bK lb e s l).length=11+3*l.length:=by unfold bK;rw [List.length_append,gy,kC]
theorem xU {lb:Int} (e s:Nat) {n:Nat} (hl:0<=lb/\lb<=255) (hn:n<=12):ax (jP lb e s n):=by
 unfold jP;refine ax.append (ax.append (ax.append (fun x hx=>?_) (cm _ _)) (cm _ _)) (fun x hx=>?_)
 ·simp only [List.mem_cons,List.not_mem_nil,or_false] at hx;rcases hx with rfl | rfl <;> omega
 ·simp only [List.mem_cons,List.not_mem_nil,or_false] at hx;subst hx;omega
theorem pS {lb:Int} (e s:Nat) {l:List Wr} (hl:0<=lb/\lb<=255) (hm:bM l):ax (bK lb e s l):=ax.append (xU e s hl hm.1.2) (ss hm.2.1)
def fM (e s:Nat) (bs:List Int):List Int:=bs++be e 2++be s 2
theorem gz {e s:Nat} {bs:List Int} (h:bs.length=56):(fM e s bs).length=60:=by unfold fM;simp [av,h]
theorem pU {e s:Nat} {bs:List Int} (h:ax bs):ax (fM e s bs):=ax.append (ax.append h (cm _ _)) (cm _ _)
def putL (lb:Int) (e s:Nat) (l:List Wr):List (List Int):=cS (bK lb e s l) :: l.map fun x=>cS (fM e s x.bs)
theorem bE (lb:Int) (e s:Nat) (l:List Wr):(putL lb e s l).length=1+l.length:=by unfold putL;simp;omega
def ba (lb:Int) (e:Nat):List Int:=cS ([65,78,lb]++be e 4)
theorem bY (lb:Int) (e:Nat):(ba lb e).length=64:=fc (by simp [av])
theorem j7 {lb:Int} (e:Nat) (h:0<=lb/\lb<=255):ax (ba lb e):=nZ (ax.append (fun x hx=>by
 simp only [List.mem_cons,List.not_mem_nil,or_false] at hx;rcases hx with rfl | rfl | rfl <;> omega) (cm _ _))
def oJ (log:List (List Int)):Nat:=((log.headD []).getD 10 0).toNat
def mW (b:List Int):List Int:=b.take 56++List.replicate (56-b.length) 0
theorem kD (b:List Int):(mW b).length=56:=by unfold mW;simp;omega
theorem AR {b:List Int} (h:ax b):ax (mW b):=ax.append (fun x hx=>h x (List.mem_of_mem_take hx)) fun x hx=>by rw [List.eq_of_mem_replicate hx];omega
def AS (log:List (List Int)) (i:Nat):Wr:=⟨aB (((log.headD []).drop (11+3*i)).take 2),(log.headD []).getD (13+3*i) 0,mW (log.getD (1+i) [])⟩
def dO (log:List (List Int)) (n:Nat):List Wr:=(List.range n).map (AS log)
theorem bT (log:List (List Int)) (n:Nat):(dO log n).length=n:=by unfold dO;simp
theorem xV (log:List (List Int)) (n:Nat):dO log (n+1)=dO log n++[AS log n]:=by unfold dO;rw [List.range_succ,List.map_append];rfl
def fF (log:List (List Int)):Prop:=(log.headD []).length=64/\oJ log<=12/\oJ log<log.length
instance (log:List (List Int)):Decidable (fF log):=by unfold fF;infer_instance
def fN (lb:Int) (e s:Nat) (log:List (List Int)):Prop:=fF log/\bM (dO log (oJ log))/\putL lb e s (dO log (oJ log))=log.take (1+oJ log)
instance (lb:Int) (e s:Nat) (log:List (List Int)):Decidable (fN lb e s log):=by unfold fN;infer_instance
def kr (lb:Int) (e s:Nat) (log:List (List Int)):List Wr:=if fN lb e s log then dO log (oJ log) else []
def mX (lb:Int) (e s:Nat) (log:List (List Int)):Nat:=if fN lb e s log then 1+oJ log else 0
def rL (ls:List (List Int)):Prop:=∀ b∈ls,ax b
theorem CS {log:List (List Int)} (h:rL log) (i:Nat):(AS log i).Ok:=by
 have hf:ax (log.headD []):=by
  cases log with
  | nil=>exact fun x hx=>by cases hx
  | cons b l=>exact h b Hb
 refine ⟨?_,?_,kD _,AR ?_⟩
 ·have h1:aB (((log.headD []).drop (11+3*i)).take 2)<256 ^ (((log.headD []).drop (11+3*i)).take 2).length:=iG _ _ rfl (fun x hx=>hf x (List.mem_of_mem_drop (List.mem_of_mem_take hx)));have h2:256 ^ (((log.headD []).drop (11+3*i)).take 2).length<=256 ^ 2:=Nat.pow_le_pow_right Ha (List.length_take_le _ _);unfold AS;simp only;constructor <;> omega
 ·show i64 ((log.headD []).getD (13+3*i) 0);rw [List.getD];cases hx:(log.headD [])[13+3*i]? with
  | none=>simp;constructor <;> omega
  | some x=>have:=hf x (List.mem_of_getElem? hx);simp;constructor <;> omega
 ·rw [List.getD];cases hx:log[1+i]? with
  | none=>exact fun x hx=>by cases hx
  | some b=>exact h b (List.mem_of_getElem? hx)
theorem pV {log:List (List Int)} (h:rL log) (n:Nat):bS (dO log n):=fun x hx=>by
 unfold dO at hx;obtain ⟨i,_,rfl⟩:=List.mem_map.1 hx;exact CS h i
theorem CT {lb:Int} {e s:Nat} {log:List (List Int)} (h:rL log):bS (kr lb e s log):=by
 unfold kr;split
 ·exact pV h _
 ·exact fun x hx=>by cases hx
def Tx (w:World) (A:Option Addr) (ls:List (List Int)):Prop:=∀ i b,ls[i]?=some b->∃ a B d,A=some a/\w.cell? (a.add i)=some (.slice B b.length d)/\b.length<=d/\d<=9223372036854775807/\dD w B b
theorem Tx.keep {w w':World} {A:Option Addr} {ls:List (List Int)} (h:Tx w A ls) (hb:Below w.heap.size w w'):Tx w' A ls:=fun i b hi =>
 let ⟨a,B,d,e,hc,h1,h2,hy⟩:=h i b hi;⟨a,B,d,e,cF hb hc,h1,h2,hy.keep hb⟩
theorem Tx.take {w:World} {A:Option Addr} {ls:List (List Int)} (h:Tx w A ls) (k:Nat):Tx w A (ls.take k):=fun i x hi=>h i x (by
 rw [List.getElem?_take] at hi;split at hi;exact hi;cases hi)
def bZ (w:World) (base:Nat) (v:Value) (ls:List (List Int)):Prop :=
 ∃ xs:List Value,w.ownsRow base 22 1 v ls.length xs/\∀ (i:Nat) (b:List Int),ls[i]?=some b->∃ u,xs[i]?=some u/\w.ownsRow base 5 1 u b.length (Bs b)
theorem bZ.mono {w:World} {b b':Nat} {v:Value} {ls:List (List Int)} (h:bZ w b v ls) (hb:b'<=b):bZ w b' v ls:=by
 obtain ⟨xs,h1,h2⟩:=h;exact ⟨xs,h1.mono hb,fun i b hi=>let ⟨u,e,h3⟩:=h2 i b hi;⟨u,e,h3.mono hb⟩⟩
theorem bZ.keep {w w':World} {base:Nat} {v:Value} {ls:List (List Int)} (h:bZ w base v ls) (hb:Below w.heap.size w w'):bZ w' base v ls:=by
 obtain ⟨xs,h1,h2⟩:=h;exact ⟨xs,hU h1 hb,fun i b hi=>let ⟨u,e,h3⟩:=h2 i b hi;⟨u,e,hU h3 hb⟩⟩
theorem bZ.nil (w:World) (base:Nat):bZ w base (.slice none 0 0) []:=⟨[],World.ownsRow_nil _ _ _ _,fun i b hi=>by cases hi⟩
theorem bZ.tx {w:World} {base:Nat} {v:Value} {ls:List (List Int)} (h:bZ w base v ls):∃ A d,v=.slice A ls.length d/\ls.length<=d/\d<=9223372036854775807/\Tx w A ls:=by
 obtain ⟨xs,h1,h2⟩:=h;have key:∀ i b,ls[i]?=some b->∃ B d,xs[i]?=some (Value.slice B b.length d)/\b.length<=d/\d<=9223372036854775807/\dD w B b:=fun i b hi=>by
  obtain ⟨u,e,h3⟩:=h2 i b hi;obtain ⟨B,d,rfl,h4,h5,h6⟩:=bN h3 rfl;exact ⟨B,d,e,h4,h5,h6⟩
 rcases h1.2 with ⟨rfl,h0⟩ | ⟨g,cap,cur,rfl,hb,hg,hn',hm,hs,ht⟩
 ·refine ⟨none,0,by rw [h0],Ha,Ha,fun i b hi=>?_⟩;rw [List.length_eq_zero_iff.1 h0] at hi;cases hi
 ·refine ⟨some ⟨g,0,none⟩,cap,rfl,hn',by simp only [maxLen] at hm;omega,fun i b hi=>?_⟩;obtain ⟨B,d,e,h4,h5,h6⟩:=key i b hi;exact ⟨_,B,d,rfl,h1.cells (g:=g) rfl _ _ e,h4,h5,h6⟩
theorem CV:(22:TypeId)≠5:=Hd
theorem E3 {w:World} {b b':Nat} {t t':TypeId} {sz sz' n n':Nat} {v v':Value} {xs xs':List Value} (hne:t≠t') (h:w.ownsRow b t sz v n xs) (h':w.ownsRow b' t' sz' v' n' xs'):v'.ownBlock=none\/v'.ownBlock≠v.ownBlock:=by
 rcases h'.2 with ⟨rfl,_⟩ | ⟨g',cap',cur',rfl,_,hg',_⟩
 ·exact Or.inl rfl
 ·right;rcases h.2 with ⟨rfl,_⟩ | ⟨g,cap,cur,rfl,_,hg,_⟩
  ·simp [Value.ownBlock]
  ·intro e;simp [Value.ownBlock] at e;subst e;rw [hg] at hg';injection hg' with hg'
   injection hg' with e1 e2
   exact hne e2
def j8 (w:World) (R:Option Nat) (v:Value):Prop:=v.ownBlock=R\/∀ k,v.ownBlock=some k->w.heap.size<=k
theorem j8.step {w W:World} {R:Option Nat} {v v':Value} (h:j8 w R v) (hw:w.heap.size<=W.heap.size) (h':j8 W v.ownBlock v'):j8 w R v':=by
 rcases h' with e | e
 ·rcases h with h | h
  ·exact Or.inl (e.trans h)
  ·exact Or.inr fun k hk=>h k (by rw [<- e];exact hk)
 ·exact Or.inr fun k hk=>Nat.le_trans hw (e k hk)
theorem xW {w W W':World} {R:Option Nat} {v:Value} (h:w.grownBy W R) (hv:j8 w R v) (h':W.grownBy W' v.ownBlock):w.grownBy W' R :=
 ⟨h'.os.trans h.os,h'.tape.trans h.tape,h'.output.trans h.output,Nat.le_trans h.size h'.size,fun k hk hr =>
   (h'.block k (Nat.lt_of_lt_of_le hk h.size) (fun e=>by
     rcases hv with hv | hv
     ·exact hr (by rw [e,hv])
     ·have:=hv k e.symm;omega)).trans (h.block k hk hr)⟩
theorem gh {w w':World} {R:Option Nat} {base:Nat} (h:w.grownBy w' R) (hb:base<=w.heap.size) (hR:∀ k,R=some k->base<=k):Below base w w':=(Below.refl _ _).grown h hb hR
theorem j8.at_alloc {W:World} {R:Option Nat} {v:Value} {o:Obj} (h:j8 (W.alloc o) R v):j8 W R v:=h.imp id fun h k hk=>by have:=h k hk;rw [ak] at this;omega
def Gs (w:World) (base:Nat) (v:Value) (n:Nat) (xs:List Int) (R:Option Nat):Prop :=
 (w.ownsRow base 5 1 v n (Bs xs)/\R=v.ownBlock)\/(R=none/\∃ g o,v=.slice (some ⟨g,o,none⟩) n n/\xs.length=n/\dD w (some ⟨g,o,none⟩) xs)
theorem Gs.alloc {w:World} {base:Nat} {v:Value} {n:Nat} {xs:List Int} {R:Option Nat} (h:Gs w base v n xs R) (o:Obj):Gs (w.alloc o) base v n xs R:=by
 rcases h with ⟨h,hR⟩ | ⟨hR,g,o',e,h1,h2⟩
 ·exact Or.inl ⟨h.alloc o,hR⟩
 ·exact Or.inr ⟨hR,g,o',e,h1,h2.alloc o⟩
theorem lm {w:World} {a:Addr} {xs:List Int} (h:dD w (some a) xs):∀ j u,(Bs xs)[j]?=some u->w.cell? (a.add j)=some u:=fun j u hj=>by
 unfold Bs at hj;rw [List.getElem?_map] at hj;obtain ⟨x,hx,rfl⟩:=Option.map_eq_some_iff.1 hj;obtain ⟨a',e,hc⟩:=h j x hx;injection e with e;subst e;exact hc
theorem rM (w:World) (ty:TypeId) (ga:Addr) (n:Nat) (xs:List Int) (hx:dD w (some ga) xs) (hn:xs.length=n) (A:Option Addr) (m c:Nat) (ys:List Int) (hy:dD w A ys) (hm:ys.length=m)
 (h0:0<m) (h63:n+m<=1000000) :
 ∃ v' w',(Builtin.append_ #[22,22] ty #[.slice (some ga) n n,.slice A m c]).run Tryz.prog w=.ok v' w'/\(∀ base,base<=w.heap.size->w'.ownsRow base 5 1 v' (n+m) (Bs (xs++ys)))/\w.grownBy w' none:=by
 obtain ⟨i0,hi,hz0,hz1,hz2⟩:=info_parts iT;have hA:∃ a,A=some a:=by
  cases ys with
  | nil=>simp at hm;omega
  | cons y l=>obtain ⟨a,e,_⟩:=hy 0 y rfl;exact ⟨a,e⟩
 obtain ⟨a,rfl⟩:=hA;have hge:=grownCap_ge w (n+m) n 5;have hcm:grownCap w (n+m) n 5<=maxLen:=grownCap_le_maxLen w (n+m) n _ (by simp only [maxLen];omega);have hr:=run_append_grow (P:=Tryz.prog) w 22 ty 5 i0 (.int .u8 0) Tryz.underlying22 hi hz0 ga n n (Bs xs) (by rw [ar,hz1];omega) (lm hx) a m c (Bs ys) (by rw [ar,hz1];omega) (lm hy) Ha Ha
  (by rw [hz2];have:=nextslicecap_le (show n<n+m by omega);omega)
 have hlen:(Bs (xs++ys)).length=(n+m)*1:=by rw [ar,List.length_append];omega
 refine ⟨_,_,hr,fun base hb=>⟨hlen,.inr ⟨w.heap.size,_,_,rfl,hb,heap_alloc_new w.drew _,hge,hcm,?_,?_⟩⟩,⟨rfl,rfl,rfl,Hb,fun k hk _=>heap_alloc_old w.drew _ hk⟩⟩
 ·simp only [Array.size_append,List.size_toArray,size_zeroCells,ar,hn,hm];show n+m+(_-(n+m))*1=_*1;omega
 ·simp only [Array.toList_append,List.append_assoc];rw [<- List.append_assoc,<- hlen,iP];exact List.take_left
theorem vB (w:World) (ty:TypeId) (base:Nat) (v:Value) (n:Nat) (xs:List Int) (R:Option Nat) (happ:Gs w base v n xs R) (A:Option Addr) (m c:Nat) (ys:List Int) (hy:dD w A ys) (hm:ys.length=m)
 (h0:0<m) (h63:n+m<=1000000) (hbase:base<=w.heap.size) :
 ∃ v' w',(Builtin.append_ #[22,22] ty #[v,.slice A m c]).run Tryz.prog w=.ok v' w'/\w'.ownsRow base 5 1 v' (n+m) (Bs (xs++ys))/\w.grownBy w' R/\j8 w R v':=by
 rcases happ with ⟨hown,hR⟩ | ⟨hR,g,o',rfl,hn,hxs⟩
 ·obtain ⟨v',w',hr,h2,h3,h4⟩:=ia w ty base v n xs hown A m c ys hy hm h63 hbase;refine ⟨v',w',hr,h2,by rw [hR];exact h3,?_⟩;rcases h4 with h4 | h4
  ·exact Or.inl (by rw [hR];exact h4)
  ·exact Or.inr fun k hk=>by rw [h4] at hk;injection hk with hk;omega
 ·obtain ⟨v',w',hr,h2,h3⟩:=rM w ty _ n xs hxs hn A m c ys hy hm h0 h63;refine ⟨v',w',hr,h2 base hbase,by rw [hR];exact h3,?_⟩;exact Or.inr fun k hk=>((h2 w.heap.size (Nat.le_refl _)).lt k hk).1
theorem gA (w:World) {ops:Array Oper} {rest:List Oper} {o:Oper} {a:Act} {Q:Exit->Act->World->Prop} (hgd:o.guard=none) (s x:Operand)
 (ho:o.op=.call { callee:=.builtin .append,args:=#[s,x],argTypes:=#[22,22] })
 (base:Nat) (v:Value) (n:Nat) (xs:List Int) (R:Option Nat) (hs:a.eval s=v) (happ:Gs w base v n xs R) (A:Option Addr) (m c:Nat) (ys:List Int) (hx:a.eval x=.slice A m c) (hy:dD w A ys) (hm:ys.length=m)
 (h0:0<m) (h63:n+m<=1000000) (hbase:base<=w.heap.size)
 (h:∀ v' w',w'.ownsRow base 5 1 v' (n+m) (Bs (xs++ys))->w.grownBy w' R->j8 w R v'->wpList Tryz.prog ops Q rest (a.put o.dst v') w'):wpList Tryz.prog ops Q (o :: rest) a w:=by
 refine wpList_plain hgd fun _ hK=>?_;obtain ⟨v',w',hr,h2,h3,h4⟩:=vB w o.type base v n xs R happ A m c ys hy hm h0 h63 hbase;unfold Oper.wp execOp;simp only [ho,resolve,invoke,builtin,Sem.run_bind,Sem.run_pure,Result.andThen_ok,List.map_toArray,List.map_cons,List.map_nil,hs,hx,hr];exact hK _ _ (h v' w' h2 h3 h4)
theorem zy (w:World) (base:Nat) (v:Value) (m:Nat) (xs:List Int) (R:Option Nat) (n s:Nat) (hown:Gs w base v m xs R) (hbase:base<=w.heap.size) (hm:m<=900000) (hs:s<=4) (hs0:0<s) (hn:n<4294967296) :
 Calls Tryz.prog 192 #[v,.int .u32 n,.int .i64 s] w fun e w'=>∃ v',e=.returned v'/\w'.ownsRow base 5 1 v' (m+s) (Bs (xs++be n s))/\w.grownBy w' R/\j8 w R v':=by
 have HO:=He hown;clear hown;go_enter Tryz.func192,Tryz.ntmps192;go_wp2;refine aV (fun a' w'=>∃ (k:Nat) (v1:Value) (ys:List Int) (R1:Option Nat),k<=s/\Hid (Gs w' base v1 (m+(s-k)) (xs++ys) R1/\(k<s->w'.ownsRow base 5 1 v1 (m+(s-k)) (Bs (xs++ys))/\R1=v1.ownBlock/\j8 w R v1)/\(k=s->R1=R)/\ys++be n k=be n s/\w.grownBy w' R)/\∃ u7 u8 u9 u10 u11 u12 u13 u14 u15 u16 u17 u18 u19:Value,a'={ tmps:=#[v1,.int .u32 n,.int .i64 k,undef,undef,undef,.slice none 0 0,u7,u8,u9,u10,u11,u12,u13,u14,u15,u16,u17,u18,u19],defers:=[] })
  (fun a' _=>(intOf (a'.tmps.getD 2 undef)).toNat) rfl ?_ ?_
 ·intro HF;go_wp2;go_step3;rename_i hK;exact hK _ _ (HF _ _ ⟨s,v,[],R,Nat.le_refl _,⟨by simpa using HO.out,fun h=>absurd h (Nat.lt_irrefl _),fun _=>rfl,rfl,World.grownBy.refl _ _⟩,_,_,_,_,_,_,_,_,_,_,_,_,_,rfl⟩)
 ·rintro a' W ⟨k,v1,ys,R1,hk,HH,u7,u8,u9,u10,u11,u12,u13,u14,u15,u16,u17,u18,u19,rfl⟩;by_cases hk0:k=0
  ·subst hk0;go_wp2;simp only [Exit.jump];go_ret;obtain ⟨_,h1,_,h2,h3⟩:=HH.out;obtain ⟨h1,_,h4⟩:=h1 hs0;exact ⟨_,rfl,by rw [<- h2];simpa [be] using h1,h3,h4⟩
  ·obtain ⟨j,rfl⟩:∃ j,k=j+1:=⟨k-1,Ha⟩
   have hq:(((j+1:Nat):Int)==0)=false:=by simp;omega
   have hj:j<4:=Ha;have hsz:base<=W.heap.size:=Nat.le_trans hbase HH.out.2.2.2.2.size;have hstep:∀ x:Int,x=((n/256 ^ j%256:Nat):Int)->∀ (W':World) (v':Value),W'.ownsRow base 5 1 v' (m+(s-(j+1))+1) (Bs ((xs++ys)++[x]))->W.grownBy W' R1->j8 W R1 v'->∀ R2,R2=v'.ownBlock->Gs W' base v' (m+(s-j)) (xs++(ys++[x])) R2/\(j<s->W'.ownsRow base 5 1 v' (m+(s-j)) (Bs (xs++(ys++[x])))/\R2=v'.ownBlock/\j8 w R v')/\(j=s->R2=R)/\(ys++[x])++be n j=be n s/\w.grownBy W' R:=by
    intro x hx W' v' h1 h2 h4 R2 hR2;have h3:W'.ownsRow base 5 1 v' (m+(s-j)) (Bs (xs++(ys++[x]))):=by
     rw [show m+(s-j)=m+(s-(j+1))+1 by omega,<- List.append_assoc];exact h1
    have key:j8 w R v'/\w.grownBy W' R:=by
     by_cases hjs:j+1=s
     ·have e:=HH.out.2.2.1 hjs;subst e;have hg:=HH.out.2.2.2.2;exact ⟨h4.imp id fun h k hk=>Nat.le_trans hg.size (h k hk),hg.trans h2⟩
     ·obtain ⟨_,e,hnr⟩:=HH.out.2.1 Ha;subst e;have hg:=HH.out.2.2.2.2;exact ⟨hnr.step hg.size h4,xW hg hnr h2⟩
    refine ⟨Or.inl ⟨h3,hR2⟩,fun _=>⟨h3,hR2,key.1⟩,fun e=>Ha,?_,key.2⟩;rw [<- HH.out.2.2.2.1,hx,List.append_assoc];rfl
   have HS:=He hstep;clear hstep;have hsj:((j+1:Nat):Int)-1=j:=Ha;have HL:Hid (m+(s-(j+1))+1<=1000000):=by unfold Hid;omega
   rcases (show j=0\/j=1\/j=2\/j=3 by omega) with rfl | rfl | rfl | rfl
   all_goals
    go_wp2_with (first
     | (at_builtin
        refine gA _ rfl (.tmp 12) (.tmp 18) rfl base v1 (m+(s-_)) (xs++ys) R1 rfl (HH.out.1.alloc _) (some ⟨W.heap.size,0,none⟩) 1 1 [_] rfl (dS (heap_alloc_new _ _) rfl) rfl Ha HL.out (by rw [ak];omega) ?_;intro v2 w2 h2 hg2 hn2;have hB2:W.grownBy w2 R1:=(World.grownBy_alloc W _ R1).trans hg2;have hN2:j8 W R1 v2:=hn2.at_alloc;have H2:=He h2;clear h2 hg2 hn2))
    go_step3;refine ⟨rfl,⟨_,v2,ys++[_],_,Ha,HS.out _ ?_ _ _ H2.out hB2 hN2 _ rfl,_,_,_,_,_,_,_,_,_,_,_,_,_,rfl⟩,?_⟩
    ·first
      | (rw [Int.natCast_emod,Int.natCast_ediv];rfl)
      | (simp;done)
      | (simp;omega)
    ·simp [intOf]
theorem lq (w:World) (base:Nat) (v:Value) (m:Nat) (xs:List Int) (n s:Nat) (hown:w.ownsRow base 5 1 v m (Bs xs)) (hbase:base<=w.heap.size) (hm:m<=900000) (hs:s<=4) (hs0:0<s) (hn:n<4294967296) :
 Calls Tryz.prog 192 #[v,.int .u32 n,.int .i64 s] w fun e w'=>∃ v',e=.returned v'/\w'.ownsRow base 5 1 v' (m+s) (Bs (xs++be n s))/\Below base w w'/\w.grownBy w' v.ownBlock/\j8 w v.ownBlock v' :=
 (zy w base v m xs _ n s (Or.inl ⟨hown,rfl⟩) hbase hm hs hs0 hn).mono fun e w' ⟨v',h1,h2,h3,h4⟩=>⟨v',h1,h2,gh h3 hbase (fun k hk=>(hown.lt k hk).1),h3,h4⟩
theorem su (A:Option Addr) (xs:List Int) (n d:Nat) (w:World) (hn:xs.length=n) (hl:n<=4) (hB:ax xs) (hy:dD w A xs) :
 Calls Tryz.prog 193 #[.slice A n d] w fun e w'=>e=.returned (.int .u32 (aB xs))/\w=w':=by
 have HY:=He hy;have HN:=He hn;have HB:=He hB;clear hn hB hy;go_enter Tryz.func193,Tryz.ntmps193;go_wp2
 go_loop [3,8] (fun z i=>∃ k:Nat,k<=n/\i=.int .i64 k/\z=.int .u32 (aB (xs.take k):Nat)) (fun _ i=>n-(intOf i).toNat)
 case atStart=>exact ⟨0,Nat.zero_le _,rfl,rfl⟩
 case round =>
  obtain ⟨k,hk,rfl,rfl⟩:=hrel;by_cases hlt:k<n
  ·obtain ⟨x,hx⟩:∃ x,xs[k]?=some x:=⟨_,List.getElem?_eq_getElem (by rw [HN.out];exact hlt)⟩
   obtain ⟨ad,rfl,hc0⟩:=HY.out k x hx;have hxb:=HB.out x (List.mem_of_getElem? hx);obtain ⟨y,rfl⟩:∃ y:Nat,x=(y:Int):=⟨x.toNat,Ha⟩
   have hyb:y<256:=Ha;have HS:Hid (aB (xs.take (k+1))=aB (xs.take k)*256+y):=by
    unfold Hid;rw [au hx,jJ,Int.toNat_natCast]
   have hv:=iG k (xs.take k) (by rw [List.length_take,HN.out];omega) (fun z hz=>HB.out z (List.mem_of_mem_take hz));have hv2:256 ^ k<=256 ^ 3:=Nat.pow_le_pow_right Ha Ha;have hv3:aB (xs.take k)<16777216:=Ha;clear hx hxb hv hv2;generalize aB (xs.take k)=a at *;have wy:IntKind.u32.wrap (y:Int)=y:=IntWalk.u32_in _ Ha;go_wp2
   go_round
   case rel=>exact ⟨k+1,Ha,by go_num,by rw [HS.out,zh a y hv3 hyb]⟩
   case measure=>simp [intOf];omega
  ·have e:xs.take k=xs:=List.take_of_length_le (by rw [HN.out];omega);rw [e];go_wp2;go_ret;exact ⟨rfl,rfl⟩
theorem pj (n:Nat):(madeCells (Value.int .u8 0).cells n).toList=Bs (List.replicate n 0):=by
 unfold madeCells Bs;apply List.ext_getElem?;intro i;simp [List.getElem?_replicate,Value.cells];by_cases h:i<n <;> simp [h,Nat.mod_one]
theorem mi (A:Option Addr) (xs:List Int) (n d:Nat) (w:World) (hn:xs.length=n) (hl:n<=60) (hB:ax xs) (hy:dD w A xs) :
 Calls Tryz.prog 191 #[.slice A n d] w fun e w'=>∃ v,e=.returned v/\w'.ownsRow w.heap.size 5 1 v 64 (Bs (cS xs))/\Below w.heap.size w w':=by
 obtain ⟨i0,hi,hz0,hz1,hz2⟩:=info_parts iT;have hmk:=fun w:World=>run_make (P:=Tryz.prog) w 22 5 i0 _ Tryz.underlying22 hi hz0 .i64 .i64 60 64 Ha Ha (by rw [hz2];omega) Ha;have hM0:(madeCells (Value.int .u8 0).cells (64*i0.size)).toList=Bs (List.replicate 64 0):=by
  rw [hz1,Nat.mul_one];exact pj 64
 generalize hM:madeCells (Value.int .u8 0).cells ((64:Int).toNat*i0.size)=M at hmk;rw [show ((64:Int)).toNat=64 by omega,show ((60:Int)).toNat=60 by omega] at hmk;have HM:Hid (M.toList=Bs (List.replicate 64 0)):=by unfold Hid;rw [<- hM];exact hM0
 have HY:=He hy;have HN:=He hn;have HB:=He hB;have HZ:Hid ((Tryz.prog.info? 5).map (·.size)=some 1):=by unfold Hid;rw [hi];simp [hz1]
 clear hM hM0 hi hz0 hz1 hz2 hy hn hB;go_enter Tryz.func191,Tryz.ntmps191;go_upto_region 2 with fail
 have HG0:=He (heap_alloc_new w (Obj.cells M 5));have HB0:Hid (Below w.heap.size w (w.alloc (Obj.cells M 5))):=(Below.refl _ _).alloc (Nat.le_refl _) _;clear hmk;have HSZ:Hid (w.heap.size=w.heap.size):=rfl;generalize w.alloc (Obj.cells M 5)=W0 at *;have hml:(Bs (List.replicate 64 0)).length=64:=by rw [ar];simp
 go_upto_region 3 with (first
  | (refine wpList_copy_splice rfl (.tmp 5) (.tmp 6) 22 22 rfl 5 Tryz.underlying22 HZ.out (some ⟨w.heap.size,0,none⟩) A 60 64 n d rfl rfl w.heap.size 0 (Bs (List.replicate 64 0)) 5 (by rw [<- HM.out,Array.toArray_toList];exact HG0.out) (Bs xs) (by rw [ar,HN.out];show n=min n 60;omega) ?_ (by rw [ar,HN.out,hml];omega) (gQ xs) w.heap.size w HB0.out (Nat.le_refl _) ?_
     ·intro h0;refine ⟨rfl,?_⟩;have hx0:0<xs.length:=by rw [ar] at h0;exact h0
      obtain ⟨ad,e,_⟩:=HY.out 0 _ (List.getElem?_eq_getElem hx0);subst e;exact ⟨ad,rfl,lm (HY.out.keep HB0.out)⟩
     intro W1 HG1 hB1))
 have hsp:splice (Bs (List.replicate 64 0)) 0 (Bs xs)=Bs (cR xs++List.replicate 4 0):=by
  unfold splice cR;rw [ar,HN.out,List.take_zero,List.nil_append,Nat.zero_add];unfold Bs;rw [<- List.map_drop,<- List.map_append,List.drop_replicate,List.append_assoc,List.replicate_append_replicate]
  congr 3
  omega
 have HG2:Hid (W1.heap[w.heap.size]?=some (.cells (Bs (cR xs++List.replicate 4 0)).toArray 5 (0,0))):=by
  unfold Hid;rw [<- hsp];exact HG1.out
 have HF:=He (j6 (xs:=xs) (by rw [HN.out];exact hl));have own1:W1.ownsRow w.heap.size 5 1 (.slice (some ⟨w.heap.size,0,none⟩) 60 64) 60 (Bs (cR xs)):=by
  refine ⟨by rw [ar,HF.out],Or.inr ⟨w.heap.size,64,_,rfl,Nat.le_refl _,HG2.out,Ha,by simp only [maxLen];omega,?_,?_⟩⟩
  ·simp [ar,HF.out]
  ·rw [iP];have:(Bs (cR xs)).length=60*1:=by rw [ar,HF.out]
   rw [<- this];exact List.take_left
 have HO1:=He own1;have hy1:dD W1 (some ⟨w.heap.size,0,none⟩) (cR xs):=by
  obtain ⟨A',d',e,_,_,h⟩:=bN own1 HF.out;injection e with e;rw [<- e] at h;exact h
 have hfB:=pR HB.out;have HSV:=He (zv (cR xs));have HSE:Hid (cS xs=cR xs++be (nV (cR xs)) 4):=He rfl;clear HG1 HG2 hsp own1 hml HG0 HM;go_wp2_with fail
 refine (zw (some ⟨w.heap.size,0,none⟩) (cR xs) 60 64 W1 HF.out Ha hfB hy1).mono ?_;rintro e W2 ⟨rfl,rfl⟩;clear hfB hy1;generalize nV (cR xs)=sv at *;go_wp2_with fail
 refine (lq W1 w.heap.size _ 60 (cR xs) sv 4 HO1.out hB1.size Ha Ha Ha HSV.out).mono ?_;rintro e W4 ⟨v4,rfl,own4,hb4,_⟩;go_wp2_with fail
 go_ret;exact ⟨v4,rfl,by rw [HSE.out];exact own4,hB1.trans hb4⟩
def zW:Wr:=⟨0,0,ay⟩
theorem iA:zW.bs.length=56:=al
theorem lR:(Tryz.prog.info? 52).map (fun i=>(i.zero,i.size,i.bytes))=some (some (.agg (cI zW)),58,72):=Hc
theorem pW:(Tryz.prog.info? 52).map (·.size)=some 58:=Hc
theorem pX {P:Program} (w:World) (p:Addr) (ty:TypeId) (cs:List Value) (d:TypeDesc) (hc:∀ j v,cs[j]?=some v->w.cell? (p.add j)=some v)
 (hu:P.underlying ty=some d) (hd:d.isRow=true) (hi:(P.info? ty).map (·.size)=some cs.length) :
 (loadVar ty p).run P w=.ok (.agg cs.toArray) w:=by
 have hl:(loadCells p cs.length).run P w=.ok cs.toArray w:=run_loadCells_list (P:=P) w p cs hc;cases hq:P.info? ty with
 | none=>simp [hq] at hi
 | some i =>
   have hs:i.size=cs.length:=by simpa [hq] using hi
   have hagg:(isAgg ty).run P w=.ok true w:=by
    unfold isAgg;rw [Sem.run_bind,run_underlying hu w];cases d <;> simp_all
   simp [loadVar,Sem.run_bind,hagg,sizeOf,typeInfo,hq,hs,hl]
theorem AT (w:World) (p:Addr) (x:Wr) (h56:x.bs.length=56) (hx:mh w p x) :
 (Instr.loadAt 52 (.pointer (some p))).run Tryz.prog w=.ok (.agg (cI x)) w:=by
 simp only [Instr.loadAt,Instr.sureAddr,Sem.run_bind,Sem.run_pure,Result.andThen_ok];rw [pX w p 52 (wrL x) _ hx Tryz.underlying52 rfl (by rw [bw h56];exact pW)];rfl
theorem gC {w:World} {g:Nat} {x:Wr} {t:TypeId} {fr:Nat × Nat} (h:w.heap[g]?=some (.cells (cI x) t fr)):mh w ⟨g,0,none⟩ x:=fun j v hj=>by
 rw [fP,cell_of_row _ _ _ _ _ _ h,<- Array.getElem?_toList,jO];exact hj
theorem mh.c0 {w:World} {p:Addr} {x:Wr} (h:mh w p x):w.cell? p=some (.int .i64 x.t):=by
 have:=h 0 _ rfl
 rwa [show p.add 0=p by unfold Addr.add;simp] at this
theorem mh.c1 {w:World} {p:Addr} {x:Wr} (h:mh w p x):w.cell? ⟨p.block,p.off+1,none⟩=some (.int .i64 x.k):=by
 have:=h 1 _ rfl
 rwa [kY p 0] at this
theorem mh.body {w:World} {p:Addr} {x:Wr} (h:mh w p x):dD w (some ⟨p.block,p.off+2,none⟩) x.bs:=fun i v hi=>by
 refine ⟨_,rfl,?_⟩;have:=h (i+2) (.int .u8 v) (by unfold wrL blkL;simp;exact ku hi);rw [kY p (i+1)] at this;rw [dp,show p.off+2+i=p.off+(i+1+1) by omega];exact this
section
variable {ops:Array Oper} {rest:List Oper} {o:Oper} {a:Act} {w:World} {Q:Exit->Act->World->Prop}
theorem g0 (hgd:o.guard=none) (x:Operand) (ho:o.op=.load 52 x) (p:Addr) (hx:a.eval x=.pointer (some p)) (y:Wr) (h56:y.bs.length=56) (hy:mh w p y)
 (h:wpList Tryz.prog ops Q rest (a.put o.dst (.agg (cI y))) w):wpList Tryz.prog ops Q (o :: rest) a w :=
 wpList_plain hgd fun _ hK=>ju (by
  unfold execOp;simp only [ho,hx,Sem.run_bind,AT w p y h56 hy,Result.andThen_ok,Sem.run_pure]) (hK _ _ h)
theorem cW (hgd:o.guard=none) (ho:o.op=.alloc 52)
 (h:wpList Tryz.prog ops Q rest (a.put o.dst (.pointer (some ⟨w.heap.size,0,none⟩))) (w.alloc (.cells (cI zW) 52))):wpList Tryz.prog ops Q (o :: rest) a w:=by
 obtain ⟨i0,hi,hz0,hz1,hz2⟩:=info_parts lR;exact wpList_plain hgd fun _ hK=>bV 52 ho i0 _ hi hz0 (hK _ _ h)
theorem mY (hgd:o.guard=none) (x:Operand) (ho:o.op=.load 52 x) (g:Nat) (hx:a.eval x=.pointer (some ⟨g,0,none⟩)) (y:Wr) (h56:y.bs.length=56) (hg:w.heap[g]?=some (.cells (cI y) 52 (0,0)))
 (h:wpList Tryz.prog ops Q rest (a.put o.dst (.agg (cI y))) w):wpList Tryz.prog ops Q (o :: rest) a w :=
 wpList_load_row hgd 52 x ho g hx _ _ _ _ hg Tryz.underlying52 rfl (by rw [cQ h56];exact pW) h
theorem cX (hgd:o.guard=none) (x y:Operand) (ho:o.op=.store 52 x y) (g:Nat) (hx:a.eval x=.pointer (some ⟨g,0,none⟩)) (u v:Wr) (hy:a.eval y=.agg (cI u)) (h56:u.bs.length=56) (h56':v.bs.length=56) (hg:w.heap[g]?=some (.cells (cI v) 52 (0,0)))
 (h:wpList Tryz.prog ops Q rest (a.put o.dst undef) (w.setRow g (cI u))):wpList Tryz.prog ops Q (o :: rest) a w :=
 wpList_store_row hgd 52 x y ho g _ hx hy _ _ hg (by rw [cQ h56];exact pW) (by rw [cQ h56,cQ h56']) (zx _) h
end
theorem n4 (w:World) (x:Wr):((w.alloc (.cells (cI zW) 52)).setRow w.heap.size (cI x)).heap[w.heap.size]?=some (.cells (cI x) 52 (0,0)) :=
 setRow_heap _ _ _ _ _ _ (heap_alloc_new w _)
theorem fG (w:World) (x:Wr):Below w.heap.size w ((w.alloc (.cells (cI zW) 52)).setRow w.heap.size (cI x)) :=
 below_setRow ((Below.refl _ _).alloc (Nat.le_refl _) _) (Nat.le_refl _) _
def jQ (s:List Wr):List Value:=(List.range 200).map fun (j:Nat)=>.bool (decide (∃ x∈s,x.t=(j:Int)))
theorem iJ (s:List Wr):(jQ s).length=200:=by unfold jQ;simp
theorem mZ (s:List Wr) {m:Nat} (h:m<200):(jQ s)[m]?=some (.bool (decide (∃ x∈s,x.t=(m:Int)))):=by unfold jQ;simp [h]
theorem AU:jQ []=List.replicate 200 (.bool false):=by
 apply List.ext_getElem?;intro j;by_cases hj:j<200
 ·rw [mZ _ hj,List.getElem?_replicate,if_pos hj];simp
 ·rw [List.getElem?_eq_none (by rw [iJ];omega),List.getElem?_eq_none (by rw [List.length_replicate];omega)]
theorem AV (s:List Wr) {x:Wr} {m:Nat} (hx:x.t=(m:Int)):(jQ s).set m (.bool true)=jQ (s++[x]):=by
 apply List.ext_getElem?;intro j;by_cases hj:j<200
 ·rw [mZ _ hj,List.getElem?_set,iJ];by_cases e:m=j
  ·subst e;rw [if_pos rfl,if_pos hj,decide_eq_true ⟨x,Hb,hx⟩]
  ·rw [if_neg e,mZ _ hj]
   congr 2
   rw [decide_eq_decide];constructor
   ·rintro ⟨y,h1,h2⟩;exact ⟨y,by simp [h1],h2⟩
   ·rintro ⟨y,h1,h2⟩;rcases List.mem_append.1 h1 with h1 | h1
    ·exact ⟨y,h1,h2⟩
    ·simp only [List.mem_cons,List.not_mem_nil,or_false] at h1;subst h1;omega
 ·rw [List.getElem?_eq_none (by rw [List.length_set,iJ];omega),List.getElem?_eq_none (by rw [iJ];omega)]
theorem Jt:(Tryz.prog.info? 195).map (fun i=>(i.zero,i.size,i.bytes))=some (some (.agg (jQ []).toArray),200,200):=by rw [AU];kernel_rfl
theorem rN {ops:Array Oper} {rest:List Oper} {o:Oper} {a:Act} {w:World} {Q:Exit->Act->World->Prop} (hgd:o.guard=none) (ho:o.op=.alloc 195)
 (h:wpList Tryz.prog ops Q rest (a.put o.dst (.pointer (some ⟨w.heap.size,0,none⟩))) (w.alloc (.cells (jQ []).toArray 195))):wpList Tryz.prog ops Q (o :: rest) a w:=by
 obtain ⟨i0,hi,hz0,hz1,hz2⟩:=info_parts Jt;exact wpList_plain hgd fun _ hK=>bV 195 ho i0 _ hi hz0 (hK _ _ h)
structure t6 (l:List Wr) (k:Nat):Prop where
 may:∀ x∈l.take k,mf x.k x.t
 nd:((l.take k).map (·.t)).Nodup
theorem t6.none (l:List Wr):t6 l 0:=⟨fun x hx=>by simp at hx,Hb⟩
theorem t6.next {l:List Wr} {k:Nat} {x:Wr} (h:t6 l k) (hx:l[k]?=some x) (hm:mf x.k x.t) (hn:¬ ∃ y∈l.take k,y.t=x.t):t6 l (k+1):=by
 refine ⟨fun y hy=>?_,?_⟩
 ·rw [au hx] at hy;rcases List.mem_append.1 hy with h1 | h1
  ·exact h.may y h1
  ·simp only [List.mem_cons,List.not_mem_nil,or_false] at h1;subst h1;exact hm
 ·rw [au hx,List.map_append,List.nodup_append];refine ⟨h.nd,Hb,fun a ha b hb=>?_⟩;obtain ⟨y,hy,rfl⟩:=List.mem_map.1 ha;simp only [List.map_cons,List.map_nil,List.mem_cons,List.not_mem_nil,or_false] at hb;subst hb;exact fun e=>hn ⟨y,hy,e⟩
theorem t6.all {l:List Wr} {k:Nat} (h:t6 l k) (hk:l.length<=k) (hn:1<=l.length/\l.length<=12):bM l:=by
 have e:l.take k=l:=List.take_of_length_le hk;exact ⟨hn,by have:=h.may;rwa [e] at this,by have:=h.nd;rwa [e] at this⟩
theorem iK {l:List Wr} {k:Nat} {x:Wr} (hx:l[k]?=some x) (hm:¬ mf x.k x.t):¬ bM l:=fun h=>hm (h.2.1 x (List.mem_of_getElem? hx))
theorem t7 {l:List Wr} {k:Nat} {x:Wr} (hx:l[k]?=some x) (hn:∃ y∈l.take k,y.t=x.t):¬ bM l:=fun h=>by
 obtain ⟨y,hy,e⟩:=hn;have h1:((l.take (k+1)).map (·.t)).Nodup:=h.2.2.sublist ((List.take_sublist _ _).map _);rw [au hx,List.map_append,List.nodup_append] at h1;exact h1.2.2 _ (List.mem_map.2 ⟨y,hy,rfl⟩) _ Hb e
theorem E4 (A:Option Addr) (l:List Wr) (n d:Nat) (w:World) (hn:l.length=n) (hl:n<=d) (hd:d<=9223372036854775807) (hok:bS l) (hy:EZ w A l) :
 Calls Tryz.prog 162 #[.slice A n d] w fun e w'=>e=.returned (.bool (decide (bM l)))/\Below w.heap.size w w':=by
 have HY:=He hy;have HN:=He hn;have HO:=He hok;clear hn hok hy;by_cases h1:n<1
 ·have hno:¬ bM l:=fun h=>by have:=h.1.1;rw [HN.out] at this;omega
  rw [decide_eq_false hno];have hd1:decide ((n:Int)<1)=true:=decide_eq_true Ha;clear hno;go_enter Tryz.func162,Tryz.ntmps162;go_wp2;go_ret;exact ⟨rfl,Below.refl _ _⟩
 have hd1:decide ((n:Int)<1)=false:=decide_eq_false Ha;by_cases h2:12<n
 ·have hno:¬ bM l:=fun h=>by have:=h.1.2;rw [HN.out] at this;omega
  rw [decide_eq_false hno];have hd2:decide (12<(n:Int))=true:=decide_eq_true Ha;clear hno;go_enter Tryz.func162,Tryz.ntmps162;go_wp2;go_ret;exact ⟨rfl,Below.refl _ _⟩
 have hd2:decide (12<(n:Int))=false:=decide_eq_false Ha;have hbel0:Below w.heap.size w (w.alloc (Obj.cells (jQ []).toArray 195)):=(Below.refl _ _).alloc (Nat.le_refl _) _;have hblk0:=heap_alloc_new w (Obj.cells (jQ []).toArray 195);go_enter Tryz.func162,Tryz.ntmps162;go_wp2_with (first
  | (refine rN rfl rfl ?_))
 generalize w.alloc (Obj.cells (jQ []).toArray 195)=W0 at *;have HS:Hid (w.heap.size=w.heap.size):=rfl
 go_loopw [16] (fun i wr=>∃ k:Nat,i=.int .i64 k/\k<=n/\wr.heap[w.heap.size]?=some (.cells (jQ (l.take k)).toArray 195 (0,0))/\t6 l k/\Below w.heap.size w wr) (fun i _=>n-(intOf i).toNat)
 case atStart=>exact ⟨0,rfl,Nat.zero_le _,hblk0,t6.none l,hbel0⟩
 case round =>
  obtain ⟨k,rfl,hk,hblk,hpart,hbel⟩:=hrel;have HBK:=He hblk;have HP:=He hpart;clear hblk hpart hblk0 hbel0;by_cases hlt:k<n
  ·obtain ⟨x,hx⟩:∃ x,l[k]?=some x:=⟨_,List.getElem?_eq_getElem (by rw [HN.out];exact hlt)⟩
   have hxo:=HO.out x (List.mem_of_getElem? hx);obtain ⟨ad,rfl,hat⟩:=HY.out.keep hbel k x hx;have HX:=He hx;have H56:=He hxo.len;have HAT:=He hat;have hxt:=hxo.t;have hxk:=hxo.k;clear hx hat hxo;go_upto_region 7 with (first
    | (refine g0 rfl (.tmp 18) rfl (ad.add (k*58)) rfl x H56.out HAT.out ?_)
    | (refine cW rfl rfl ?_)
    | (refine cX rfl (.tmp 5) (.tmp 19) rfl wr.heap.size rfl x zW rfl H56.out iA (heap_alloc_new wr _) ?_))
   have hnew:=n4 wr x;have hbn:=fG wr x;have hlt2:=ai HBK.out;have hbl2:((wr.alloc (.cells (cI zW) 52)).setRow wr.heap.size (cI x)).heap[w.heap.size]?=_:=(hbn.block _ hlt2).trans HBK.out;have hbel2:=aP hbel hbn;generalize (wr.alloc (.cells (cI zW) 52)).setRow wr.heap.size (cI x)=W2 at *;generalize wr.heap.size=g5 at *;have c0:W2.cell? ⟨g5,0,none⟩=_:=(gC hnew).c0;have c1:W2.cell? ⟨g5,1,none⟩=_:=(gC hnew).c1;have HBK2:=He hbl2;clear hnew hbn hbl2 HBK hbel HAT;by_cases q1:x.k<0
   ·have hno:¬ bM l:=iK HX.out (fun h=>by have:=h.1;omega);have e1:decide (x.k<0)=true:=decide_eq_true q1;have HNO:=He hno;clear hno;go_wp2;go_ret;exact ⟨aj (decide_eq_false HNO.out).symm,hbel2⟩
   have e1:decide (x.k<0)=false:=decide_eq_false q1;by_cases q2:7<x.k
   ·have hno:¬ bM l:=iK HX.out (fun h=>by have:=h.1;omega);have e2:decide (7<x.k)=true:=decide_eq_true q2;have HNO:=He hno;clear hno;go_wp2;go_ret;exact ⟨aj (decide_eq_false HNO.out).symm,hbel2⟩
   have e2:decide (7<x.k)=false:=decide_eq_false q2;by_cases q3:x.t<0
   ·have hno:¬ bM l:=iK HX.out (fun h=>by have:=h.2;omega);have e3:decide (x.t<0)=true:=decide_eq_true q3;have HNO:=He hno;clear hno;go_wp2;go_ret;exact ⟨aj (decide_eq_false HNO.out).symm,hbel2⟩
   have e3:decide (x.t<0)=false:=decide_eq_false q3;by_cases q4:200<=x.t
   ·have hno:¬ bM l:=iK HX.out (fun h=>by have:=h.2;omega);have e4:decide (200<=x.t)=true:=decide_eq_true q4;have HNO:=He hno;clear hno;go_wp2;go_ret;exact ⟨aj (decide_eq_false HNO.out).symm,hbel2⟩
   obtain ⟨m,hm⟩:∃ m:Nat,x.t=(m:Int):=⟨x.t.toNat,Ha⟩
   have HM:=He hm;rw [hm] at c0 e3 q4;have e4:decide (200<=(m:Int))=false:=decide_eq_false q4;have hm200:m<200:=Ha;have cs:W2.cell? ⟨w.heap.size,m,none⟩=some (.bool (decide (∃ y∈l.take k,y.t=(m:Int)))):=by
    rw [af HBK2.out,List.getElem?_toArray];exact mZ _ hm200
   have fs:W2.frozen? ⟨w.heap.size,m,none⟩=false:=az HBK2.out m;have hmay:mf x.k x.t:=⟨Ha,Ha⟩
   have HMAY:=He hmay;clear hmay hm q4 q3 hxt;by_cases q5:∃ y∈l.take k,y.t=(m:Int)
   ·have hno:¬ bM l:=t7 HX.out (by rw [HM.out];exact q5);rw [decide_eq_true q5] at cs;have HNO:=He hno;clear hno q5;go_wp2;go_ret;exact ⟨aj (decide_eq_false HNO.out).symm,hbel2⟩
   ·have HQ:=He q5;rw [decide_eq_false q5] at cs;clear q5;go_wp2
    go_roundw
    case rel =>
     refine ⟨k+1,by go_num,Ha,?_,HP.out.next HX.out HMAY.out (by rw [HM.out];exact HQ.out),hbel2.setCell (Nat.le_refl _) _⟩;rw [ah HBK2.out,au HX.out,<- AV _ HM.out];simp
    case measure=>simp [intOf];omega
  ·have hyes:bM l:=HP.out.all (by rw [HN.out];omega) (by rw [HN.out];omega);have HYES:=He hyes;clear hyes;go_wp2;go_ret;exact ⟨aj (decide_eq_true HYES.out).symm,hbel⟩
theorem AW {l:List Wr} {k:Nat} {x:Wr} {m:Nat} (hx:l[k]?=some x) (hm:x.t=(m:Int)):told (l.take (k+1))=(told (l.take k)++be m 2)++[x.k]:=by
 rw [au hx,oI];show _++((be x.t.toNat 2++[x.k])++[])=_;rw [hm,Int.toNat_natCast,List.append_nil,List.append_assoc]
theorem CW (lb:Int) (e s:Nat) (A:Option Addr) (l:List Wr) (n d:Nat) (w:World) (hlb:0<=lb/\lb<=255) (he:e<4294967296) (hs:s<4294967296) (hn:l.length=n) (hl:n<=d) (hd:d<=9223372036854775807) (hok:bS l) (hy:EZ w A l) (hmay:bM l) :
 Calls Tryz.prog 163 #[.int .u8 lb,.int .u32 e,.int .u32 s,.slice A n d] w fun en w'=>∃ v,en=.returned v/\w'.ownsRow w.heap.size 5 1 v 64 (Bs (cS (bK lb e s l)))/\Below w.heap.size w w':=by
 have hn12:n<=12:=by have:=hmay.1.2;omega
 have HY:=He hy;have HN:=He hn;have HO:=He hok;have HMAY:=He hmay;have HHB:=He (pS e s hlb hmay);have HHL:=He (ct lb e s l);clear hn hok hy hmay;have hwn:IntKind.u8.wrap (n:Int)=n:=IntWalk.u8_in _ Ha;have own0:=EE w w.heap.size 5 2 #[.int .u8 72,.int .u8 lb] (Bs [72,lb]) (Nat.le_refl _) rfl Hd rfl;have B0:Below w.heap.size w (w.alloc (Obj.cells #[.int .u8 72,.int .u8 lb] 5)):=(Below.refl _ _).alloc (Nat.le_refl _) _;go_enter Tryz.func163,Tryz.ntmps163;go_upto_region 2 with fail
 generalize w.alloc (Obj.cells #[.int .u8 72,.int .u8 lb] 5)=W0 at *;go_wp2_with fail
 refine (lq W0 w.heap.size _ 2 [72,lb] e 4 own0 B0.size Ha Ha Ha he).mono ?_;rintro en w1 ⟨v1,rfl,own1,hb1,_⟩;have B1:=B0.trans hb1;clear own0 B0 hb1;go_wp2_with fail
 refine (lq w1 w.heap.size v1 6 _ s 4 own1 B1.size Ha Ha Ha hs).mono ?_;rintro en w2 ⟨v2,rfl,own2,hb2,_⟩;have B2:=B1.trans hb2;clear own1 B1 hb2;go_wp2_with (first
  | (at_builtin
     refine gA _ rfl (.tmp 20) (.tmp 24) rfl w.heap.size v2 10 _ _ rfl (Or.inl ⟨own2.alloc _,rfl⟩) (some ⟨w2.heap.size,0,none⟩) 1 1 [(n:Int)] rfl (dS (heap_alloc_new _ _) rfl) rfl Ha Ha (by rw [ak];have:=B2.size;omega) ?_;intro v3 w3 h3 hb3 _;have B3:Below w.heap.size w w3:=(B2.alloc B2.size _).trans (gh hb3 (by rw [ak];have:=B2.size;omega) (fun k hk=>(own2.lt k hk).1));have own3:w3.ownsRow w.heap.size 5 1 v3 11 (Bs (jP lb e s n++told (l.take 0))):=by
      rw [show told (l.take 0)=[] from rfl,List.append_nil];exact h3
     clear h3 hb3 own2 B2))
 go_loopw [9,28] (fun v i wr=>∃ k:Nat,i=.int .i64 k/\k<=n/\wr.ownsRow w.heap.size 5 1 v (11+3*k) (Bs (jP lb e s n++told (l.take k)))/\Below w.heap.size w wr) (fun _ i _=>n-(intOf i).toNat)
 case atStart=>exact ⟨0,rfl,Nat.zero_le _,own3,B3⟩
 case round =>
  obtain ⟨v,rfl⟩:∃ v,v=u9:=⟨u9,rfl⟩
  obtain ⟨k,rfl,hk,own,hbel⟩:=hrel;clear own3 B3;by_cases hlt:k<n
  ·obtain ⟨x,hx⟩:∃ x,l[k]?=some x:=⟨_,List.getElem?_eq_getElem (by rw [HN.out];exact hlt)⟩
   have hxo:=HO.out x (List.mem_of_getElem? hx);have hxm:=HMAY.out.2.1 x (List.mem_of_getElem? hx);obtain ⟨m,hm⟩:∃ m:Nat,x.t=(m:Int):=⟨x.t.toNat,by have:=hxm.2;omega⟩
   have hm200:m<200:=by have:=hxm.2;omega
   have hk7:=hxm.1;obtain ⟨ad,rfl,hat⟩:=HY.out.keep hbel k x hx;have H56:=He hxo.len;have HAT:=He hat;have HT:=He (AW hx hm);have HM:=He hm;have wm:IntKind.u32.wrap (m:Int)=m:=IntWalk.u32_in _ Ha;have wk:IntKind.u8.wrap x.k=x.k:=IntWalk.u8_in _ Ha;have hnew:=n4 wr x;have hbn:=fG wr x;clear hx hat hxo hxm;go_upto_region 8 with (first
    | (refine g0 rfl (.tmp 30) rfl (ad.add (k*58)) rfl x H56.out HAT.out ?_)
    | (refine cW rfl rfl ?_)
    | (refine cX rfl (.tmp 11) (.tmp 31) rfl wr.heap.size rfl x zW rfl H56.out iA (heap_alloc_new wr _) ?_))
   have own4:=hU own hbn;have HV:=He own;have B4:=aP hbel hbn;have c0:((wr.alloc (.cells (cI zW) 52)).setRow wr.heap.size (cI x)).cell? ⟨wr.heap.size,0,none⟩=_:=(gC hnew).c0;have c1:((wr.alloc (.cells (cI zW) 52)).setRow wr.heap.size (cI x)).cell? ⟨wr.heap.size,1,none⟩=_:=(gC hnew).c1;have hg5:w.heap.size<=wr.heap.size:=hbel.size;have hlt5:=ai hnew;generalize (wr.alloc (.cells (cI zW) 52)).setRow wr.heap.size (cI x)=W4 at *;have hVlt:v.ownBlock≠some wr.heap.size:=fun h=>Nat.lt_irrefl _ (HV.out.lt _ h).2;generalize wr.heap.size=g5 at *;have HNE:=He hVlt;clear hVlt HV;rw [hm] at c0;clear hnew hbn own hbel hm;go_wp2_with fail
   refine (lq W4 w.heap.size v (11+3*k) _ m 2 own4 B4.size Ha Ha Ha Ha).mono ?_;rintro en w5 ⟨v5,rfl,own5,hb5,hg5',hn5⟩;have c1':w5.cell? ⟨g5,1,none⟩=_:=(World.cell?_of_block (hg5'.block g5 hlt5 (fun h=>HNE.out h.symm))).trans c1;have B5:=B4.trans hb5;clear own4 B4 hb5 hg5' hn5 c0 c1;go_wp2_with (first
    | (at_builtin
       refine gA _ rfl (.tmp 37) (.tmp 42) rfl w.heap.size v5 (11+3*k+2) _ _ rfl (Or.inl ⟨own5.alloc _,rfl⟩) (some ⟨w5.heap.size,0,none⟩) 1 1 [x.k] rfl (dS (heap_alloc_new _ _) rfl) rfl Ha Ha (by rw [ak];have:=B5.size;omega) ?_;intro v6 w6 h6 hb6 _;have B6:Below w.heap.size w w6:=(B5.alloc B5.size _).trans (gh hb6 (by rw [ak];have:=B5.size;omega) (fun k hk=>(own5.lt k hk).1));have H6:w6.ownsRow w.heap.size 5 1 v6 (11+3*(k+1)) (Bs (jP lb e s n++told (l.take (k+1)))):=by
        rw [HT.out,show 11+3*(k+1)=11+3*k+2+1 by omega,<- List.append_assoc,<- List.append_assoc];exact h6
       clear h6 hb6 own5 B5))
   go_roundw
   case rel=>exact ⟨k+1,by go_num,Ha,H6,B6⟩
   case measure=>simp [intOf];omega
  ·obtain rfl:k=n:=Ha;have e0:l.take k=l:=List.take_of_length_le (by rw [HN.out];omega);have eH:bK lb e s l=jP lb e s k++told l:=by unfold bK;rw [HN.out]
   rw [e0,<- eH] at own;have HE:=He own;have HL:Hid ((bK lb e s l).length=11+3*k):=by unfold Hid;rw [HHL.out,HN.out]
   obtain ⟨A3,d3,rfl,hle3,hd3,hy3⟩:=bN own HL.out;rw [HL.out] at HE ⊢;have HY3:=He hy3;clear own e0 eH hy3 hle3;go_wp2_with fail
   refine (mi A3 (bK lb e s l) (11+3*k) d3 wr HL.out Ha HHB.out HY3.out).mono ?_;rintro en w5 ⟨v5,rfl,own5,hb5⟩;go_wp2_with fail
   go_ret;exact ⟨v5,rfl,own5.mono hbel.size,aP hbel hb5⟩
theorem xX (e s:Nat) (x:Wr) (w:World) (he:e<4294967296) (hs:s<4294967296) (hok:x.Ok) :
 Calls Tryz.prog 164 #[.int .u32 e,.int .u32 s,.agg (cI x)] w fun en w'=>∃ v,en=.returned v/\w'.ownsRow w.heap.size 5 1 v 64 (Bs (cS (fM e s x.bs)))/\Below w.heap.size w w':=by
 have H56:=He hok.len;have HB:=He hok.b;have hblk:=heap_alloc_new w (Obj.cells (cI x) 52);have hby:dD (w.alloc (Obj.cells (cI x) 52)) (some ⟨w.heap.size,2,none⟩) x.bs:=(gC hblk).body;have hbel:Below w.heap.size w (w.alloc (Obj.cells (cI x) 52)):=(Below.refl _ _).alloc (Nat.le_refl _) _;have HBY:=He hby
 have HBB:=He (pU (e:=e) (s:=s) hok.b);have HBL:=He (gz (e:=e) (s:=s) hok.len);clear hblk hby hok;go_enter Tryz.func164,Tryz.ntmps164;go_wp2_with fail
 generalize w.alloc (Obj.cells (cI x) 52)=W0 at *;refine (zy W0 w.heap.size _ 56 x.bs none e 2 (Or.inr ⟨rfl,w.heap.size,2,rfl,H56.out,HBY.out⟩) hbel.size Ha Ha Ha he).mono ?_;rintro en w1 ⟨v1,rfl,own1,hg1,_⟩;have B1:=hbel.grown hg1 hbel.size (fun k hk=>by cases hk);clear hg1 hbel HBY;go_wp2_with fail
 refine (lq w1 w.heap.size v1 58 _ s 2 own1 B1.size Ha Ha Ha hs).mono ?_;rintro en w2 ⟨v2,rfl,own2,hb2,_⟩;have B2:=B1.trans hb2;have own2':w2.ownsRow w.heap.size 5 1 v2 60 (Bs (fM e s x.bs)):=own2;obtain ⟨A3,d3,rfl,hle3,hd3,hy3⟩:=bN own2' HBL.out;rw [HBL.out];have HY3:=He hy3;clear own1 own2 own2' B1 hb2 hy3 hle3;go_wp2_with fail
 refine (mi A3 (fM e s x.bs) 60 d3 w2 HBL.out Ha HBB.out HY3.out).mono ?_;rintro en w5 ⟨v5,rfl,own5,hb5⟩;go_wp2_with fail
 go_ret;exact ⟨v5,rfl,own5.mono B2.size,aP B2 hb5⟩
theorem Gt:(Tryz.prog.info? 22).map (fun i=>(i.zero,i.size,i.bytes))=some (some (.slice none 0 0),1,24):=Hc
def vC (w:World) (base:Nat) (ys:List Value) (ls:List (List Int)):Prop:=ys.length=ls.length/\∀ (i:Nat) (b:List Int),ls[i]?=some b->∃ u,ys[i]?=some u/\w.ownsRow base 5 1 u b.length (Bs b)
theorem E6 {w:World} {base:Nat} {t:TypeId} {sz n:Nat} {v:Value} {xs:List Value} (h:w.ownsRow base t sz v n xs):v.oneCell'=true:=by
 rcases h.2 with ⟨rfl,_⟩ | ⟨g,cap,cur,rfl,_⟩ <;> rfl
theorem vC.one {w:World} {base:Nat} {ys:List Value} {ls:List (List Int)} (h:vC w base ys ls):∀ u∈ys,u.oneCell'=true:=fun u hu=>by
 obtain ⟨i,hi⟩:=List.mem_iff_getElem?.1 hu;have hlt:=(List.getElem?_eq_some_iff.1 hi).1;obtain ⟨u',h1,h2⟩:=h.2 i _ (List.getElem?_eq_getElem (by rw [<- h.1];exact hlt));rw [hi] at h1;injection h1 with h1
 subst h1;exact E6 h2
theorem vD (w:World) (ty:TypeId) (base:Nat) (v:Value) (ls:List (List Int)) (hown:bZ w base v ls) (ad:Addr) (m c:Nat) (ys:List Value) (ms:List (List Int)) (hm:ms.length=m) (hys:vC w base ys ms) (hc:∀ j u,ys[j]?=some u->w.cell? (ad.add j)=some u)
 (h63:ls.length+m<=1000000) (hbase:base<=w.heap.size) :
 ∃ v' w',(Builtin.append_ #[186,186] ty #[v,.slice (some ad) m c]).run Tryz.prog w=.ok v' w'/\bZ w' base v' (ls++ms)/\w.grownBy w' v.ownBlock/\j8 w v.ownBlock v':=by
 obtain ⟨i0,hi,hz0,hz1,hz2⟩:=info_parts Gt;obtain ⟨xs,h1,h2⟩:=hown;obtain ⟨v',w',hr,h3,h4,h5,h6⟩:=run_append_own_at (P:=Tryz.prog) w base 186 ty 22 i0 (.slice none 0 0) 1 24 Tryz.underlying186 hi hz0 hz1 hz2 rfl Hd v ls.length xs h1 ad m c ys (by rw [hys.1];omega) hc hys.one (by simp only [maxLen];omega) Ha hbase;have kept:∀ {u:Value} {b:List Int},w.ownsRow base 5 1 u b.length (Bs b)->w'.ownsRow base 5 1 u b.length (Bs b):=fun h=>h.kept h4 (E3 CV h1 h);refine ⟨v',w',hr,⟨xs++ys,by rw [List.length_append,hm];exact h3,fun i b hb=>?_⟩,h4,?_⟩
 ·have hxl:xs.length=ls.length:=by have:=h1.1;omega
  by_cases hlt:i<ls.length
  ·rw [List.getElem?_append_left hlt] at hb;obtain ⟨u,e,h7⟩:=h2 i b hb;exact ⟨u,by rw [List.getElem?_append_left Ha];exact e,kept h7⟩
  ·rw [List.getElem?_append_right Ha] at hb;obtain ⟨u,e,h7⟩:=hys.2 _ b hb;exact ⟨u,by rw [List.getElem?_append_right Ha,hxl];exact e,kept h7⟩
 ·rcases h6 with h6 | h6
  ·exact Or.inl h6
  ·exact Or.inr fun k hk=>by rw [h6] at hk;injection hk with hk;omega
theorem kE (w:World) {ops:Array Oper} {rest:List Oper} {o:Oper} {a:Act} {Q:Exit->Act->World->Prop} (hgd:o.guard=none) (s x:Operand)
 (ho:o.op=.call { callee:=.builtin .append,args:=#[s,x],argTypes:=#[186,186] })
 (base:Nat) (v:Value) (ls:List (List Int)) (hs:a.eval s=v) (hown:bZ w base v ls) (ad:Addr) (m c:Nat) (hx:a.eval x=.slice (some ad) m c) (ys:List Value) (ms:List (List Int)) (hm:ms.length=m) (hys:vC w base ys ms) (hc:∀ j u,ys[j]?=some u->w.cell? (ad.add j)=some u)
 (h63:ls.length+m<=1000000) (hbase:base<=w.heap.size)
 (h:∀ v' w',bZ w' base v' (ls++ms)->w.grownBy w' v.ownBlock->j8 w v.ownBlock v'->wpList Tryz.prog ops Q rest (a.put o.dst v') w'):wpList Tryz.prog ops Q (o :: rest) a w:=by
 refine wpList_plain hgd fun _ hK=>?_;obtain ⟨v',w',hr,h2,h3,h4⟩:=vD w o.type base v ls hown ad m c ys ms hm hys hc h63 hbase;unfold Oper.wp execOp;simp only [ho,resolve,invoke,builtin,Sem.run_bind,Sem.run_pure,Result.andThen_ok,List.map_toArray,List.map_cons,List.map_nil,hs,hx,hr];exact hK _ _ (h v' w' h2 h3 h4)
theorem bZ.low {w:World} {base:Nat} {v:Value} {ls:List (List Int)} (h:bZ w base v ls):∀ k,v.ownBlock=some k->base<=k:=fun k hk=>by
 obtain ⟨xs,h1,_⟩:=h;exact (h1.lt k hk).1
theorem bZ.alloc {w:World} {base:Nat} {v:Value} {ls:List (List Int)} (h:bZ w base v ls) (o:Obj):bZ (w.alloc o) base v ls:=by
 obtain ⟨xs,h1,h2⟩:=h;exact ⟨xs,h1.alloc o,fun i b hi=>let ⟨u,e,h3⟩:=h2 i b hi;⟨u,e,h3.alloc o⟩⟩
theorem sw {w:World} {base:Nat} {u:Value} {b:List Int} (h:w.ownsRow base 5 1 u b.length (Bs b)):vC w base [u] [b]:=⟨rfl,fun i b' hi=>by
 cases i with
 | zero=>injection hi with hi;subst hi;exact ⟨u,rfl,h⟩
 | succ i=>cases hi⟩
theorem CX (w:World) (base:Nat) (C:Array Value) (cap:Nat) (hb:base<=w.heap.size) (hm:cap<=maxLen) (hs:C.size=cap):bZ (w.alloc (.cells C 22)) base (.slice (some ⟨w.heap.size,0,none⟩) 0 cap) [] :=
 ⟨[],World.ownsRow_made w C cap hb hm Ha,fun i b hi=>by cases hi⟩
def lH (lb:Int) (e s:Nat) (l:List Wr):List (List Int):=if bM l then putL lb e s l else []
def pY (lb:Int) (e s:Nat) (l:List Wr) (k:Nat):List (List Int):=cS (bK lb e s l) :: (l.take k).map fun x=>cS (fM e s x.bs)
theorem AX {lb:Int} {e s:Nat} {l:List Wr} {k:Nat} {x:Wr} (hx:l[k]?=some x):pY lb e s l (k+1)=pY lb e s l k++[cS (fM e s x.bs)]:=by
 unfold pY;rw [au hx,List.map_append];rfl
theorem vE {lb:Int} {e s:Nat} {l:List Wr} {k:Nat} (h:k<=l.length):(pY lb e s l k).length=1+k:=by unfold pY;simp;omega
theorem CY {lb:Int} {e s:Nat} {l:List Wr} {k:Nat} (h:l.length<=k):pY lb e s l k=putL lb e s l:=by unfold pY putL;rw [List.take_of_length_le h]
theorem zz (lb:Int) (e s:Nat) (A:Option Addr) (l:List Wr) (n d:Nat) (w:World) (hlb:0<=lb/\lb<=255) (he:e<4294967296) (hs:s<4294967296) (hn:l.length=n) (hl:n<=d) (hd:d<=9223372036854775807) (hok:bS l) (hy:EZ w A l) :
 Calls Tryz.prog 102 #[.int .u8 lb,.int .u32 e,.int .u32 s,.slice A n d] w fun en w'=>∃ v,en=.returned (.tuple #[v,.bool (decide (bM l))])/\bZ w' w.heap.size v (lH lb e s l)/\Below w.heap.size w w':=by
 have HY:=He hy;have HN:=He hn;have HO:=He hok;have HC:=He (E4 A l n d w hn hl hd hok hy);clear hn hok hy;by_cases hmay:bM l
 ·have hn12:n<=12:=by rw [<- HN.out];exact hmay.1.2
  have HMAY:=He hmay;have HX:Hid (lH lb e s l=putL lb e s l):=by unfold Hid lH;rw [if_pos hmay]
  obtain ⟨i0,hi,hz0,hz1,hz2⟩:=info_parts Gt;have hmk:=fun w:World=>run_make (P:=Tryz.prog) w 186 22 i0 _ Tryz.underlying186 hi hz0 .i64 .i64 0 (1+(n:Int)) Ha Ha (by rw [hz2];omega) Ha;generalize hM:madeCells (Value.slice none 0 0).cells ((1+(n:Int)).toNat*i0.size)=M at hmk;have HM:Hid (M.size=1+n):=by unfold Hid;rw [<- hM,size_madeCells,hz1];omega
  rw [show (1+(n:Int)).toNat=1+n by omega,show ((0:Int)).toNat=0 by omega] at hmk;rw [decide_eq_true hmay] at HC ⊢;clear hM hi hz0 hz1 hz2 hmay;go_enter Tryz.func102,Tryz.ntmps102;go_wp2_with fail
  refine HC.out.mono ?_;rintro en w1 ⟨rfl,hb1⟩;have HY1:=He (HY.out.keep hb1);clear HC;go_upto_region 4 with fail
  have own2:=CX w1 w.heap.size M (1+n) hb1.size (by simp only [maxLen];omega) HM.out;have B2:Below w.heap.size w (w1.alloc (Obj.cells M 22)):=hb1.alloc hb1.size _;have HY2:=He (HY1.out.keep ((Below.refl w1.heap.size w1).alloc (Nat.le_refl _) (Obj.cells M 22)));generalize w1.alloc (Obj.cells M 22)=W2 at *;clear hmk HY1 hb1;go_wp2_with fail
  refine (CW lb e s A l n d W2 hlb he hs HN.out hl hd HO.out HY2.out HMAY.out).mono ?_;rintro en w3 ⟨u3,rfl,own3,hb3⟩;have OT3:=own2.keep hb3;have B3:=aP B2 hb3;have own3':=own3.mono B2.size;clear own2 own3 B2;have hsl:(cS (bK lb e s l)).length=64:=fc (by rw [ct,HN.out];omega);obtain ⟨A3,d3,rfl,_,_,_⟩:=bN own3' hsl;rw [hsl] at own3' ⊢;go_wp2_with (first
   | (at_builtin
      refine kE _ rfl (.tmp 20) (.tmp 26) rfl w.heap.size _ [] rfl (OT3.alloc _) ⟨w3.heap.size,0,none⟩ 1 1 rfl [_] [cS (bK lb e s l)] rfl (sw (by rw [hsl];exact own3'.alloc _)) (cell_one_new _ _ _) Hb (by rw [ak];have:=B3.size;omega) ?_;intro v4 w4 OT4 hg4 _;have B4:Below w.heap.size w w4:=(B3.alloc B3.size _).trans (gh hg4 (by rw [ak];have:=B3.size;omega) OT3.low);have OT4':bZ w4 w.heap.size v4 (pY lb e s l 0):=OT4;clear OT4 OT3 own3' B3 hg4))
  clear hsl
  go_loopw [10,30] (fun v i wr=>∃ k:Nat,i=.int .i64 k/\k<=n/\bZ wr w.heap.size v (pY lb e s l k)/\Below w.heap.size w wr) (fun _ i _=>n-(intOf i).toNat)
  case atStart=>exact ⟨0,rfl,Nat.zero_le _,OT4',B4⟩
  case round =>
   obtain ⟨v,rfl⟩:∃ v,v=u10:=⟨u10,rfl⟩
   obtain ⟨k,rfl,hk,OT,hbel⟩:=hrel;clear OT4' B4;by_cases hlt:k<n
   ·obtain ⟨x,hx⟩:∃ x,l[k]?=some x:=⟨_,List.getElem?_eq_getElem (by rw [HN.out];exact hlt)⟩
    have hxo:=HO.out x (List.mem_of_getElem? hx);obtain ⟨ad,rfl,hat⟩:=HY.out.keep hbel k x hx;have H56:=He hxo.len;have HXO:=He hxo;have HAT:=He hat;have HK:=He (AX (lb:=lb) (e:=e) (s:=s) hx);have hpl:(pY lb e s l k).length=1+k:=vE (by rw [HN.out];omega);have hnew:=n4 wr x;have hbn:=fG wr x;clear hx hat hxo;go_upto_region 8 with (first
     | (refine g0 rfl (.tmp 32) rfl (ad.add (k*58)) rfl x H56.out HAT.out ?_)
     | (refine cW rfl rfl ?_)
     | (refine cX rfl (.tmp 12) (.tmp 33) rfl wr.heap.size rfl x zW rfl H56.out iA (heap_alloc_new wr _) ?_))
    have OT5:=OT.keep hbn;have B5:=aP hbel hbn;have HNW:=He hnew;clear hnew hbn OT hbel;generalize (wr.alloc (.cells (cI zW) 52)).setRow wr.heap.size (cI x)=W5 at *;generalize wr.heap.size=g5 at *;go_wp2_with (first
     | (refine mY rfl (.tmp 12) rfl g5 rfl x H56.out HNW.out ?_))
    refine (xX e s x W5 he hs HXO.out).mono ?_;rintro en w6 ⟨u6,rfl,own6,hb6⟩;have OT6:=OT5.keep hb6;have B6:=aP B5 hb6;have own6':=own6.mono B5.size;have hsl:(cS (fM e s x.bs)).length=64:=fc (by rw [gz H56.out];omega);obtain ⟨A6,d6,rfl,_,_,_⟩:=bN own6' hsl;rw [hsl] at own6' ⊢;clear OT5 B5 own6 hb6;go_wp2_with (first
     | (at_builtin
        refine kE _ rfl (.tmp 34) (.tmp 39) rfl w.heap.size _ _ rfl (OT6.alloc _) ⟨w6.heap.size,0,none⟩ 1 1 rfl [_] [cS (fM e s x.bs)] rfl (sw (by rw [hsl];exact own6'.alloc _)) (cell_one_new _ _ _) (by rw [hpl];omega) (by rw [ak];have:=B6.size;omega) ?_;intro v7 w7 OT7 hg7 _;have B7:Below w.heap.size w w7:=(B6.alloc B6.size _).trans (gh hg7 (by rw [ak];have:=B6.size;omega) OT6.low);have OT7':bZ w7 w.heap.size v7 (pY lb e s l (k+1)):=by rw [HK.out];exact OT7
        clear OT7 OT6 own6' B6 hg7))
    go_roundw
    case rel=>exact ⟨k+1,by go_num,Ha,OT7',B7⟩
    case measure=>simp [intOf];omega
   ·obtain rfl:k=n:=Ha;have HE:=He (CY (lb:=lb) (e:=e) (s:=s) (l:=l) (k:=k) (by rw [HN.out];omega));go_wp2_with fail
    go_ret2
    exact ⟨v,rfl,by rw [HX.out,<- HE.out];exact OT,hbel⟩
 ·have HX:Hid (lH lb e s l=[]):=by unfold Hid lH;rw [if_neg hmay]
  rw [decide_eq_false hmay] at HC ⊢;clear hmay;go_enter Tryz.func102,Tryz.ntmps102;go_wp2_with fail
  refine HC.out.mono ?_;rintro en w1 ⟨rfl,hb1⟩;go_wp2_with fail
  go_ret2
  exact ⟨.slice none 0 0,rfl,by rw [HX.out];exact bZ.nil _ _,hb1⟩
theorem E7 (x:Int):Tryz.prog.built 52 [(0,.int .i64 x)]=some (cI ⟨x,0,ay⟩):=Hc
theorem pZ {ops:Array Oper} {rest:List Oper} {o:Oper} {a:Act} {w:World} {Q:Exit->Act->World->Prop} (hgd:o.guard=none) (x:Operand) (k:Int) (ho:o.op=.build 52 #[(0,x)]) (hx:a.eval x=.int .i64 k)
 (h:wpList Tryz.prog ops Q rest (a.put o.dst (.agg (cI ⟨k,0,ay⟩))) w):wpList Tryz.prog ops Q (o :: rest) a w :=
 wpList_plain hgd fun _ hK=>by
  unfold Oper.wp execOp;have hb:=run_build (P:=Tryz.prog) w 52 #[(0,.int .i64 k)] _ (E7 k);simp only [ho,List.map_toArray,List.map_cons,List.map_nil,hx,Sem.run_bind,hb,Result.andThen_ok];exact hK _ _ h
theorem CZ (t k k':Int) (bs:List Int):(cI ⟨t,k,bs⟩).setIfInBounds 1 (.int .i64 k')=cI ⟨t,k',bs⟩:=by unfold cI wrL blkL;simp
theorem xY (t k:Int) (b:List Int):splice (wrL ⟨t,k,ay⟩) 2 (Bs (b.take 56))=wrL ⟨t,k,mW b⟩:=by
 unfold splice wrL blkL mW;rw [ar,List.length_take];have e:(Bs ay).drop (min 56 b.length)=Bs (List.replicate (56-b.length) 0):=by
  unfold Bs ay;rw [<- List.map_drop,List.drop_replicate];congr 2;omega
 have e2:(Value.int .i64 t :: Value.int .i64 k :: Bs ay).drop (2+min 56 b.length)=(Bs ay).drop (min 56 b.length):=by
  rw [show 2+min 56 b.length=min 56 b.length+1+1 by omega];rfl
 rw [e2,e];unfold Bs;rw [List.map_append];rfl
theorem vF (A B:Option Addr) (xs b:List Int) (n c m d:Nat) (y:Int) (w:World) (hn:xs.length=n) (h3:3<=n) (hnc:n<=c) (hc:c<=9223372036854775807) (hm:b.length=m) (hX:ax xs) (hy2:xs[2]?=some y) (bx:dD w A xs) (bb:dD w B b) :
 Calls Tryz.prog 212 #[.slice A n c,.slice B m d] w fun e w'=>e=.returned (.agg (cI ⟨aB (xs.take 2),y,mW b⟩))/\Below w.heap.size w w':=by
 have HX:=He bx;have HB:=He bb;have HN:=He hn;have HM:=He hm;have HXB:=He hX;have hyb:=hX y (List.mem_of_getElem? hy2);have HY2:=He hy2;have hp:dD w A (xs.take 2):=bx.take 2;have hv:=iG 2 (xs.take 2) (by rw [List.length_take];omega) (fun x hx=>hX x (List.mem_of_mem_take hx));clear bx bb hn hm hX hy2;obtain ⟨ad,rfl,hc2⟩:=HX.out 2 y HY2.out;have HZ:Hid ((Tryz.prog.info? 5).map (·.size)=some 1):=by
  obtain ⟨i0,hi,hz0,hz1,hz2⟩:=info_parts iT;unfold Hid;rw [hi];simp [hz1]
 have hm0:=heap_alloc_new w (Obj.cells (cI zW) 52);have hbel0:Below w.heap.size w (w.alloc (Obj.cells (cI zW) 52)):=(Below.refl _ _).alloc (Nat.le_refl _) _;go_enter Tryz.func212,Tryz.ntmps212;go_upto_region 1 with (first
  | (refine cW rfl rfl ?_))
 have HM0:=He hm0;have HP1:=He (hp.keep hbel0);have hszW:=ak w (Obj.cells (cI zW) 52);generalize w.alloc (Obj.cells (cI zW) 52)=W1 at *;have HZW1:Hid (W1.heap.size=w.heap.size+1):=hszW;clear hm0 hp hszW;go_wp2_with fail
 refine (su (some ad) (xs.take 2) 2 c W1 (by rw [List.length_take,HN.out];omega) Ha (fun x hx=>HXB.out x (List.mem_of_mem_take hx)) HP1.out).mono ?_;rintro e w2 ⟨rfl,rfl⟩;generalize hq:aB (xs.take 2)=v at *;have HQ:=He hq;clear hq;have wv:IntKind.i64.wrap (v:Int)=v:=IntWalk.i64_in _ Ha;have HM2:=He (heap_alloc_new W1 (Obj.cells (cI zW) 52));go_upto_region 2 with (first
  | (refine pZ rfl (.tmp 9) (v:Int) rfl rfl ?_)
  | (refine cW rfl rfl ?_)
  | (refine cX rfl (.tmp 5) (.tmp 10) rfl W1.heap.size rfl ⟨(v:Int),0,ay⟩ zW rfl al iA HM2.out ?_))
 have hnew:=n4 W1 ⟨(v:Int),0,ay⟩;have hbn:=fG W1 ⟨(v:Int),0,ay⟩;have HM3:=He (kb hbn HM0.out);have HBL3:=He (aP hbel0 hbn);clear HM2 HM0 hbel0 hbn;generalize (W1.alloc (.cells (cI zW) 52)).setRow W1.heap.size (cI ⟨(v:Int),0,ay⟩)=W3 at *;have hg5:w.heap.size<W1.heap.size:=by rw [HZW1.out];omega
 clear HZW1;generalize W1.heap.size=g5 at *;have c1:W3.cell? ⟨g5,1,none⟩=some (.int .i64 0):=(gC hnew).c1;have f1:W3.frozen? ⟨g5,1,none⟩=false:=az hnew 1;have cc2:W3.cell? ⟨ad.block,ad.off+2,none⟩=some (.int .u8 y):=by
  have:=cF HBL3.out hc2
  rwa [show (2:Nat)=1+1 from rfl,kY ad 1] at this
 have HNW:=He hnew;have hn2:(2:Int)<n:=Ha;clear hnew hc2;go_upto_region 3 with fail
 have HNW4:Hid ((W3.setCell ⟨g5,1,none⟩ (.int .i64 y)).heap[g5]?=some (.cells (cI ⟨(v:Int),y,ay⟩) 52 (0,0))):=by
  unfold Hid;rw [ah HNW.out,CZ]
 have HM4:Hid ((W3.setCell ⟨g5,1,none⟩ (.int .i64 y)).heap[w.heap.size]?=some (.cells (cI zW) 52 (0,0))):=by
  unfold Hid;rw [heap_setCell_other _ _ _ _ (by show w.heap.size≠g5;omega)];exact HM3.out
 have HBL4:Hid (Below w.heap.size w (W3.setCell ⟨g5,1,none⟩ (.int .i64 y))):=HBL3.out.setCell (by show w.heap.size<=g5;omega) _;clear HNW HM3 HBL3 c1 f1 cc2;generalize W3.setCell ⟨g5,1,none⟩ (.int .i64 y)=W4 at *;have hwl:(wrL ⟨(v:Int),y,ay⟩).length=58:=bw al;have hbl:(Bs (b.take 56)).length=min m 56:=by rw [ar,List.length_take,HM.out,Nat.min_comm]
 go_upto_region 4 with (first
  | (refine wpList_copy_splice rfl (.tmp 19) (.tmp 20) 22 22 rfl 5 Tryz.underlying22 HZ.out (some ⟨g5,2,none⟩) B 56 56 m d rfl rfl g5 2 (wrL ⟨(v:Int),y,ay⟩) 52 HNW4.out (Bs (b.take 56)) hbl ?_ (by rw [hbl,hwl];omega) (gQ _) (w.heap.size+1) W4 (Below.refl _ _) Ha ?_
     ·intro h0;refine ⟨rfl,?_⟩;have hx0:0<b.length:=by rw [hbl] at h0;rw [HM.out];omega
      obtain ⟨ad',e,_⟩:=HB.out 0 _ (List.getElem?_eq_getElem hx0);subst e;exact ⟨ad',rfl,lm ((HB.out.keep HBL4.out).take 56)⟩
     intro W5 HG5 hB5))
 have HNW5:Hid (W5.heap[g5]?=some (.cells (cI ⟨(v:Int),y,mW b⟩) 52 (0,0))):=by
  unfold Hid cI;rw [<- xY];exact HG5.out
 have HM5:Hid (W5.heap[w.heap.size]?=some (.cells (cI zW) 52 (0,0))):=by
  unfold Hid;rw [hB5.block _ Ha];exact HM4.out
 have HBL5:Hid (Below w.heap.size w W5):=HBL4.out.trans (hB5.mono Ha);clear HG5 hB5 HNW4 HM4 HBL4 hwl hbl;have hpl:=kD b;go_wp2_with (first
  | (refine mY rfl (.tmp 5) rfl g5 rfl ⟨(v:Int),y,mW b⟩ hpl HNW5.out ?_)
  | (refine cX rfl (.tmp 4) (.tmp 22) rfl w.heap.size rfl ⟨(v:Int),y,mW b⟩ zW rfl hpl iA HM5.out ?_))
 refine bodyPost_ret (results_cell_row rfl _ _ w.heap.size _ _ _ _ rfl (setRow_heap _ _ _ _ _ _ HM5.out) Tryz.underlying52 rfl (by rw [cQ hpl];exact pW)) rfl ?_;exact ⟨by rw [HQ.out],below_setRow HBL5.out (Nat.le_refl _) _⟩
theorem xZ (A B:Option Addr) (ls ms:List (List Int)) (n m c d:Nat) (w:World) (hn:ls.length=n) (hm:ms.length=m) (hnc:n<=9223372036854775807) (hA:rL ls) (hB:rL ms) (hx:Tx w A ls) (hy:Tx w B ms) :
 Calls Tryz.prog 196 #[.slice A n c,.slice B m d,.func (.func 194) #[] #[]] w fun e w'=>e=.returned (.bool (decide (ls=ms)))/\w=w':=by
 have HX:=He hx;have HY:=He hy;have HN:=He hn;have HM:=He hm;have HA:=He hA;have HB:=He hB;clear hn hm hA hB hx hy;go_enter Tryz.func196,Tryz.ntmps196;by_cases hl:n=m
 ·subst hl;go_wp2
  go_loop [17] (fun i=>∃ k:Nat,i=.int .i64 k/\k<=n/\ls.take k=ms.take k) (fun i=>n-(intOf i).toNat)
  case atStart=>exact ⟨0,rfl,Nat.zero_le _,rfl⟩
  case round =>
   obtain ⟨k,rfl,hk,hpre⟩:=hrel;have HP:=He hpre;clear hpre;by_cases hlt:k<n
   ·obtain ⟨x,hx⟩:∃ x,ls[k]?=some x:=⟨_,List.getElem?_eq_getElem (by rw [HN.out];exact hlt)⟩
    obtain ⟨y,hy⟩:∃ y,ms[k]?=some y:=⟨_,List.getElem?_eq_getElem (by rw [HM.out];exact hlt)⟩
    obtain ⟨a,B1,d1,rfl,hc1,_,_,by1⟩:=HX.out k x hx;obtain ⟨b,B2,d2,rfl,hc2,_,_,by2⟩:=HY.out k y hy;have HE:=He (nW B1 B2 x y x.length y.length d1 d2 w rfl rfl (HA.out x (List.mem_of_getElem? hx)) (HB.out y (List.mem_of_getElem? hy)) by1 by2);have H1:=He hx;have H2:=He hy;generalize x.length=xl at *;generalize y.length=yl at *;clear hx hy by1 by2;by_cases hq:x=y
    ·rw [decide_eq_true hq] at HE;have HQ:=He hq;clear hq;go_wp2_with fail
     refine HE.out.mono ?_;rintro e w' ⟨rfl,rfl⟩;go_wp2_with fail
     go_round
     case rel=>exact ⟨k+1,by go_num,Ha,by rw [au H1.out,au H2.out,HP.out,HQ.out]⟩
     case measure=>simp [intOf];omega
    ·rw [decide_eq_false hq] at HE;have HNO:Hid (¬ ls=ms):=fun e=>hq (by have h1:=H1.out;rw [e,H2.out] at h1;injection h1 with h1;exact h1.symm);clear hq;go_wp2_with fail
     refine HE.out.mono ?_;rintro e w' ⟨rfl,rfl⟩;go_wp2_with fail
     go_ret;exact ⟨aj (decide_eq_false HNO.out).symm,rfl⟩
   ·have HYES:Hid (ls=ms):=by
     have h:=HP.out;rw [List.take_of_length_le (by rw [HN.out];omega),List.take_of_length_le (by rw [HM.out];omega)] at h;exact h
    go_wp2;go_ret;exact ⟨aj (decide_eq_true HYES.out).symm,rfl⟩
 ·have HNO:Hid (¬ ls=ms):=fun e=>hl (by rw [<- HN.out,<- HM.out,e]);go_wp2;go_ret;exact ⟨aj (decide_eq_false HNO.out).symm,rfl⟩
def rO:List Wr->List Value
 | []=>[]
 | x :: l=>wrL x++rO l
def vG (l:List Wr):Prop:=∀ x∈l,x.bs.length=56
theorem bS.len {l:List Wr} (h:bS l):vG l:=fun x hx=>(h x hx).len
theorem oK:∀ (l m:List Wr),rO (l++m)=rO l++rO m
 | [],_=>rfl
 | x :: l,m=>by show wrL x++rO (l++m)=_;rw [oK l m,<- List.append_assoc];rfl
theorem zA:∀ {l:List Wr},vG l->∀ {i:Nat} {x:Wr},l[i]?=some x->∀ {j:Nat} {v:Value},(wrL x)[j]?=some v->(rO l)[i*58+j]?=some v
 | [],_,i,x,h,_,_,_=>by cases h
 | y :: l,hl,0,x,h,j,v,hj=>by
   injection h with h;subst h
   show (wrL y++rO l)[0*58+j]?=some v;rw [Nat.zero_mul,Nat.zero_add,List.getElem?_append_left (List.getElem?_eq_some_iff.1 hj).1];exact hj
 | y :: l,hl,i+1,x,h,j,v,hj=>by
   have h1:=zA (l:=l) (fun z hz=>hl z (by simp [hz])) (i:=i) h hj;show (wrL y++rO l)[(i+1)*58+j]?=some v;rw [List.getElem?_append_right (by rw [bw (hl y Hb)];omega),bw (hl y Hb),show (i+1)*58+j-58=i*58+j by omega];exact h1
def fQ (w:World) (base:Nat) (v:Value) (l:List Wr):Prop:=w.ownsRow base 52 58 v l.length (rO l)
theorem fQ.nil (w:World) (base:Nat):fQ w base (.slice none 0 0) []:=World.ownsRow_nil _ _ _ _
theorem fQ.wrs {w:World} {base:Nat} {v:Value} {l:List Wr} (h:fQ w base v l) (h56:vG l):∃ A d,v=.slice A l.length d/\l.length<=d/\d<=9223372036854775807/\EZ w A l:=by
 rcases h.2 with ⟨rfl,h0⟩ | ⟨g,cap,cur,rfl,hb,hg,hn',hm,hs,ht⟩
 ·refine ⟨none,0,by rw [h0],Ha,Ha,fun i x hi=>?_⟩;rw [List.length_eq_zero_iff.1 h0] at hi;cases hi
 ·refine ⟨some ⟨g,0,none⟩,cap,rfl,hn',by simp only [maxLen] at hm;omega,fun i x hi=>⟨_,rfl,fun j v hj=>?_⟩⟩;have:=h.cells (g:=g) rfl _ _ (zA h56 hi hj);rw [iS];exact this
def m4:Value->Nat
 | .slice _ n _=>n
 | _=>0
def oL (w:World) (a':Act) (w':World):Prop:=Below w.heap.size w w'/\∃ u0 u1 u2 u3 u4 u5 u6 u7 u8 u9 u10 u11 u12 u13 u14 u15 u16 u17 u18 u19 u20 u21 u22 u23 u24 u25 u26 u27 u28 u29 u30 u31 u32 u33 u34 u35 u36 u37 u38 u39 u40 u41 u42 u43 u44 u45 u46 u47 u48 u49 u50 u51 u52:Value,a'={ tmps:=#[u0,u1,u2,u3,u4,u5,u6,u7,u8,u9,u10,u11,u12,u13,u14,u15,u16,u17,u18,u19,u20,u21,u22,u23,u24,u25,u26,u27,u28,u29,u30,u31,u32,u33,u34,u35,u36,u37,u38,u39,u40,u41,u42,u43,u44,u45,u46,u47,u48,u49,u50,u51,u52],defers:=[] }
def G6 (w:World) (A:Option Addr) (n c:Nat) (fa:Addr) (fd cn:Nat) (log:List (List Int)) (a':Act) (w':World):Prop:=∃ (k:Nat) (v:Value),k<=cn/\fQ w' w.heap.size v (dO log k)/\Below w.heap.size w w'/\m4 v=k/\∃ u1 u7 u8 u9 u10 u11 u12 u13 u14 u15 u16 u17 u18 u19 u20 u21 u22 u23 u24 u25 u26 u27 u28 u29 u30 u31 u32 u33 u34 u35 u36 u37 u38 u39 u40 u41 u42 u43 u44 u45 u46 u47 u48 u49 u50 u51 u52:Value,a'={ tmps:=#[.slice A n c,u1,.slice none 0 0,.bool false,v,.slice (some fa) 64 fd,.int .i64 cn,u7,u8,u9,u10,u11,u12,u13,u14,u15,u16,u17,u18,u19,u20,u21,u22,u23,u24,u25,u26,u27,u28,u29,u30,u31,u32,u33,u34,u35,u36,u37,u38,u39,u40,u41,u42,u43,u44,u45,u46,u47,u48,u49,u50,u51,u52],defers:=[] }
theorem zC {w:World} {base:Nat} {v:Value} {l:List Wr} (h:fQ w base v l):m4 v=l.length:=by
 rcases h.2 with ⟨rfl,h0⟩ | ⟨g,cap,cur,rfl,_⟩
 ·rw [h0];rfl
 ·rfl
structure KR (base:Nat) (w:World) (lv:Value) (l:List Wr) (W:World):Prop where
 bel:Below base w W
 row:fQ W base lv l
def Ju (base:Nat) (ad fa:Addr) (n c fd k p q d bl:Nat) (B Av:Option Addr) (dv:Nat) (y:Wr) (l:List Wr) (i:Nat) (v:Value) (w:World):Prop :=
 match i with
 | 0 | 2 | 8=>v=.slice Av k dv
 | 1=>v=.slice (some fa) 64 fd
 | 3 | 9=>v=.int .i64 k
 | 4=>v=.int .i64 (3*(k:Int))
 | 5=>v=.int .i64 (q:Nat)
 | 6=>v=.slice (some (fa.add q)) (64-q) (fd-q)
 | 7=>v=.slice (some ad) n c
 | 10=>v=.int .i64 (p:Nat)
 | 11=>v=.pointer (some (ad.add p))
 | 12=>v=.slice B bl d
 | 13=>v=.agg (cI y)
 | 14=>∃ g,v=.slice (some ⟨g,0,none⟩) 1 1/\w.heap[g]?=some (.cells (cI y) 52 (0,0))/\(Value.slice Av k dv).ownBlock≠some g
 | 15=>fQ w base v (l++[y])
 | _=>True
def Kj (lv:Value) (i:Nat) (w w':World):Prop:=w.grownBy w' (if i=15 then lv.ownBlock else none)
theorem Ju.on {base:Nat} {ad fa:Addr} {n c fd k p q d bl:Nat} {B Av:Option Addr} {dv:Nat} {y:Wr} {l:List Wr} {i j:Nat} {v:Value} {w w':World} (hij:i≠j) (h:Ju base ad fa n c fd k p q d bl B Av dv y l j v w) (hs:Kj (.slice Av k dv) i w w'):Ju base ad fa n c fd k p q d bl B Av dv y l j v w':=by
 unfold Kj at hs;unfold Ju at *;split <;> try exact h
 ·obtain ⟨g,h1,h2,h3⟩:=h;refine ⟨g,h1,?_,h3⟩;rw [hs.block g (ai h2) (by split;exact fun e=>h3 e.symm;simp)];exact h2
 ·rw [if_neg hij] at hs;exact World.ownsRow.kept h hs (by cases v.ownBlock <;> simp)
 ·trivial
theorem AY {w:World} {o:Oper} {a:Act} {K:Act->World->Prop} {Q:Exit->Act->World->Prop} (s x:Operand)
 (ho:o.op=.call { callee:=.builtin .append,args:=#[s,x],argTypes:=#[49,49] })
 (base:Nat) (v:Value) (l:List Wr) (hs:a.eval s=v) (hown:fQ w base v l) (g:Nat) (y:Wr) (h56:y.bs.length=56) (hx:a.eval x=.slice (some ⟨g,0,none⟩) 1 1) (hg:mh w ⟨g,0,none⟩ y) (h63:l.length<=1000) (hbase:base<=w.heap.size)
 (h:∀ v' w',fQ w' base v' (l++[y])->w.grownBy w' v.ownBlock->fQ w' base v l->K (a.put o.dst v') w'):o.wp Tryz.prog a w K Q:=by
 obtain ⟨i0,hi,hz0,hz1,hz2⟩:=info_parts lR;have hzs:(Value.agg (cI zW)).cells.size=58:=by show (cI zW).size=58;exact cQ iA
 obtain ⟨v',w',hr,h2,h3,_,_⟩:=run_append_own_at (P:=Tryz.prog) w base 49 o.type 52 i0 _ 58 72 Tryz.underlying49 hi hz0 hz1 hz2 hzs Hd v l.length _ hown ⟨g,0,none⟩ 1 1 (wrL y) (by rw [bw h56]) hg (mV y) (by simp only [maxLen];omega) Ha hbase;have h4:=iV (w:=w) (w':=w') 49 o.type 52 i0 _ 58 72 Tryz.underlying49 hi hz0 hz1 hz2 hzs Hd v l.length _ (hown.mono (Nat.zero_le _)) ⟨g,0,none⟩ 1 1 (wrL y) (by rw [bw h56]) hg (mV y) (by simp only [maxLen];omega) Ha hr;have h5:fQ w' base v l:=by
  refine ⟨h4.1,?_⟩;rcases h4.2 with h6 | ⟨g',cap,cur,e,_,h7⟩
  ·exact Or.inl h6
  ·exact Or.inr ⟨g',cap,cur,e,(hown.lt g' (by rw [e];rfl)).1,h7⟩
 unfold Oper.wp execOp;simp only [ho,resolve,invoke,builtin,Sem.run_bind,Sem.run_pure,Result.andThen_ok,List.map_toArray,List.map_cons,List.map_nil,hs,hx,hr];refine h v' w' ?_ h3 h5;unfold fQ;rw [oK,List.length_append];simpa [rO] using h2
def qa (log:List (List Int)):List Wr:=if fF log then dO log (oJ log) else []
theorem C1 (A:Option Addr) (log:List (List Int)) (n c:Nat) (w:World) (hn:log.length=n) (hl:n<=c) (hc:c<=9223372036854775807) (hok:rL log) (hy:Tx w A log) :
 Calls Tryz.prog 195 #[.slice A n c] w fun e w'=>∃ v,e=.returned (.tuple #[v,.bool (decide (fF log))])/\fQ w' w.heap.size v (qa log)/\Below w.heap.size w w':=by
 have HY:=He hy;have HN:=He hn;have HO:=He hok;clear hn hok hy;have hno:¬ fF log->qa log=[]:=fun h=>by unfold qa;rw [if_neg h]
 have HNO:=He hno;clear hno;go_enter Tryz.func195,Tryz.ntmps195;go_wp2;by_cases h0:n=0
 ·subst h0;have HF:Hid (¬ fF log):=fun h=>by have:=h.2.2;rw [HN.out] at this;omega
  refine iR (oL w) (fun _ _=>False) (fun _ _=>0) rfl rfl ?_ (fun _ _ h=>h.elim) ?_
  ·intro _;go_wp2;go_step3;exact (show oL _ _ _ from ⟨Below.refl _ _,_,_,_,_,_,_,_,_,_,_,_,_,_,_,_,_,_,_,_,_,_,_,_,_,_,_,_,_,_,_,_,_,_,_,_,_,_,_,_,_,_,_,_,_,_,_,_,_,_,_,_,_,_, rfl⟩)
  ·rintro a' W ⟨hbel,u0,u1,u2,u3,u4,u5,u6,u7,u8,u9,u10,u11,u12,u13,u14,u15,u16,u17,u18,u19,u20,u21,u22,u23,u24,u25,u26,u27,u28,u29,u30,u31,u32,u33,u34,u35,u36,u37,u38,u39,u40,u41,u42,u43,u44,u45,u46,u47,u48,u49,u50,u51,u52,rfl⟩;go_wp2
   try simp only [cB]
   go_ret2
   exact ⟨.slice none 0 0,by rw [decide_eq_false HF.out];rfl,by rw [HNO.out HF.out];exact fQ.nil _ _,hbel⟩
 ·obtain ⟨b0,hb0⟩:∃ b0,log[0]?=some b0:=⟨_,List.getElem?_eq_getElem (by rw [HN.out];omega)⟩
  have hhd:log.headD []=b0:=by
   cases log with
   | nil=>cases hb0
   | cons y l=>injection hb0
  obtain ⟨ad,F,fd,rfl,hc0,hfl,hfd,hby⟩:=HY.out 0 b0 hb0;have ea:ad.add 0=ad:=by unfold Addr.add;simp
  rw [ea] at hc0;have HB0:=He (HO.out b0 (List.mem_of_getElem? hb0));have HHD:=He hhd;have HBY:=He hby
  clear ea hby hhd hb0;by_cases h64:b0.length=64
  ·have HL64:=He h64;rw [h64] at hc0 hfl;obtain ⟨x10,hx10⟩:∃ x10,b0[10]?=some x10:=⟨_,List.getElem?_eq_getElem (by rw [h64];omega)⟩
   obtain ⟨fa,rfl,hc10⟩:=HBY.out 10 x10 hx10;have hxb:=HB0.out x10 (List.mem_of_getElem? hx10);obtain ⟨cn,rfl⟩:∃ cn:Nat,x10=(cn:Int):=⟨x10.toNat,Ha⟩
   have HCN:Hid (oJ log=cn):=by unfold Hid oJ;rw [HHD.out,List.getD,hx10];simp
   rw [show (10:Nat)=9+1 from rfl,kY fa 9] at hc10;clear hx10 h64;by_cases h12:12<cn
   ·have HF:Hid (¬ fF log):=fun h=>by have:=h.2.1;rw [HCN.out] at this;omega
    have hd1:decide (12<(cn:Int))=true:=decide_eq_true Ha;refine iR (oL w) (fun _ _=>False) (fun _ _=>0) rfl rfl ?_ (fun _ _ h=>h.elim) ?_
    ·intro _;go_wp2;go_step3;exact (show oL _ _ _ from ⟨Below.refl _ _,_,_,_,_,_,_,_,_,_,_,_,_,_,_,_,_,_,_,_,_,_,_,_,_,_,_,_,_,_,_,_,_,_,_,_,_,_,_,_,_,_,_,_,_,_,_,_,_,_,_,_,_,_, rfl⟩)
    ·rintro a' W ⟨hbel,u0,u1,u2,u3,u4,u5,u6,u7,u8,u9,u10,u11,u12,u13,u14,u15,u16,u17,u18,u19,u20,u21,u22,u23,u24,u25,u26,u27,u28,u29,u30,u31,u32,u33,u34,u35,u36,u37,u38,u39,u40,u41,u42,u43,u44,u45,u46,u47,u48,u49,u50,u51,u52,rfl⟩;go_wp2
     try simp only [cB]
     go_ret2
     exact ⟨.slice none 0 0,by rw [decide_eq_false HF.out];rfl,by rw [HNO.out HF.out];exact fQ.nil _ _,hbel⟩
   have hd1:decide (12<(cn:Int))=false:=decide_eq_false Ha;by_cases hcn:n<=cn
   ·have HF:Hid (¬ fF log):=fun h=>by have:=h.2.2;rw [HCN.out,HN.out] at this;omega
    have hd2:decide ((n:Int)<=cn)=true:=decide_eq_true Ha;refine iR (oL w) (fun _ _=>False) (fun _ _=>0) rfl rfl ?_ (fun _ _ h=>h.elim) ?_
    ·intro _;go_wp2;go_step3;exact (show oL _ _ _ from ⟨Below.refl _ _,_,_,_,_,_,_,_,_,_,_,_,_,_,_,_,_,_,_,_,_,_,_,_,_,_,_,_,_,_,_,_,_,_,_,_,_,_,_,_,_,_,_,_,_,_,_,_,_,_,_,_,_,_, rfl⟩)
    ·rintro a' W ⟨hbel,u0,u1,u2,u3,u4,u5,u6,u7,u8,u9,u10,u11,u12,u13,u14,u15,u16,u17,u18,u19,u20,u21,u22,u23,u24,u25,u26,u27,u28,u29,u30,u31,u32,u33,u34,u35,u36,u37,u38,u39,u40,u41,u42,u43,u44,u45,u46,u47,u48,u49,u50,u51,u52,rfl⟩;go_wp2
     try simp only [cB]
     go_ret2
     exact ⟨.slice none 0 0,by rw [decide_eq_false HF.out];rfl,by rw [HNO.out HF.out];exact fQ.nil _ _,hbel⟩
   have hd2:decide ((n:Int)<=cn)=false:=decide_eq_false Ha;have HT:Hid (fF log):=⟨by rw [HHD.out];exact HL64.out,by rw [HCN.out];omega,by rw [HCN.out,HN.out];omega⟩
   have HRX:Hid (qa log=dO log cn):=by unfold Hid qa;rw [if_pos HT.out,HCN.out]
   refine iR (fun _ _=>False) (G6 w (some ad) n c fa fd cn log) (fun a' _=>cn-m4 (a'.tmps.getD 4 undef)) rfl rfl ?_ ?_ (fun _ _ h=>h.elim)
   ·intro HF0;have HF:=He HF0;clear HF0;go_wp2;go_step3;rename_i hK;refine hK _ _ (HF.out _ _ ⟨0,.slice none 0 0,Nat.zero_le _,fQ.nil _ _,Below.refl _ _,rfl,_,_,_,_,_,_,_,_,_,_,_,_,_,_,_,_,_,_,_,_,_,_,_,_,_,_,_,_,_,_,_,_,_,_,_,_,_,_,_,_,_,_,_,_,_,_,_, rfl⟩)
   ·rintro a' W ⟨k,v,hk,own,hbel,hsl,u1,u7,u8,u9,u10,u11,u12,u13,u14,u15,u16,u17,u18,u19,u20,u21,u22,u23,u24,u25,u26,u27,u28,u29,u30,u31,u32,u33,u34,u35,u36,u37,u38,u39,u40,u41,u42,u43,u44,u45,u46,u47,u48,u49,u50,u51,u52,rfl⟩;have h56:=(pV HO.out k).len;obtain ⟨Av,dv,rfl,_,_,_⟩:=own.wrs h56;rw [bT];have HOW:=He own;rw [bT] at HOW;clear own h56 hsl;by_cases hkc:k=cn
    ·subst hkc;go_wp2
     try simp only [cB]
     go_ret2
     exact ⟨_,by rw [decide_eq_true HT.out];rfl,by rw [HRX.out];exact HOW.out,hbel⟩
    ·have hq:((k:Int)==cn)=false:=by simp;omega
     obtain ⟨bx,hbx⟩:∃ bx,log[1+k]?=some bx:=⟨_,List.getElem?_eq_getElem (by rw [HN.out];omega)⟩
     obtain ⟨a',B,d,e',hcx,hbl,hd',hbyx⟩:=HY.out (1+k) bx hbx;injection e' with e';subst e'
     obtain ⟨p,hp,HP⟩:∃ p:Nat,1+(k:Int)=p/\Hid (p=1+k):=⟨1+k,Ha,rfl⟩
     obtain ⟨q,hqq,HQ⟩:∃ q:Nat,11+3*(k:Int)=q/\Hid (q=11+3*k):=⟨11+3*k,Ha,rfl⟩
     have hpn:(p:Int)<n:=Ha;have hq64:q<=44:=Ha;have hq64':(q:Int)<=64:=Ha;have hfq:¬ fd=q:=Ha;have w3:IntKind.i64.wrap (3*(k:Int))=3*(k:Int):=IntWalk.i64_in _ Ha;have wq:IntKind.i64.wrap (q:Int)=q:=IntWalk.i64_in _ Ha;have wp:IntKind.i64.wrap (p:Int)=p:=IntWalk.i64_in _ Ha;have HC1:Hid (∀ W',Below w.heap.size w W'->W'.cell? (ad.add p)=some (.slice B bx.length d)):=fun W' hW=>by rw [HP.out];exact cF hW hcx
     have HBX:=He hbx;have hwat:AS log k=⟨aB ((b0.drop q).take 2),b0.getD (q+2) 0,mW bx⟩:=by
      unfold AS;rw [HHD.out,HQ.out,List.getD_eq_getElem?_getD (l:=log),hbx,show 11+3*k+2=13+3*k by omega];rfl
     obtain ⟨y2,hy2⟩:∃ y2,b0[q+2]?=some y2:=⟨_,List.getElem?_eq_getElem (by rw [HL64.out];omega)⟩
     have hyg:b0.getD (q+2) 0=y2:=by rw [List.getD,hy2];rfl
     rw [hyg] at hwat;have HW:Hid (∀ W',Below w.heap.size w W'->Calls Tryz.prog 212 #[.slice (some (fa.add q)) (64-q) (fd-q),.slice B bx.length d] W' fun e w'=>e=.returned (.agg (cI (AS log k)))/\Below W'.heap.size W' w'):=fun W' hW=>by
      rw [hwat];refine vF _ B (b0.drop q) bx (64-q) (fd-q) bx.length d y2 W' (by rw [List.length_drop,HL64.out]) Ha Ha Ha rfl (fun z hz=>HB0.out z (List.mem_of_mem_drop hz)) (by rw [List.getElem?_drop];exact hy2) ?_ (hbyx.keep hW);intro i z hz;rw [List.getElem?_drop] at hz;obtain ⟨a2,e2,h2⟩:=(HBY.out.keep hW) _ _ hz;injection e2 with e2;subst e2
      exact ⟨_,rfl,by rw [iS];exact h2⟩
     have HY56:Hid ((AS log k).bs.length=56):=(CS HO.out k).len;clear hcx hbx hbyx hwat hy2 hyg;go_upto_region 10 with fail
     have srefl:∀ (i:Nat) (W:World),Kj (.slice Av k dv) i W W:=fun i W=>World.grownBy.refl _ _;have hJ0:KR w.heap.size w (.slice Av k dv) (dO log k) W.drew:=⟨hbel.drew,HOW.out⟩
     refine aw (Ju w.heap.size ad fa n c fd k p q d bx.length B Av dv (AS log k) (dO log k)) (fun _ W=>KR w.heap.size w (.slice Av k dv) (dO log k) W) (Kj (.slice Av k dv)) Hc Hc (fun i j v' w' w'' hij hind h hg=>h.on hij hg) hJ0 ?_;clear hJ0;simp only [bW];refine ⟨?_,?_,?_,?_,?_,?_,?_,?_,?_,?_,?_,?_,?_,?_,?_,?_,?_⟩
     ·refine aa.of rfl fun T W L hag hL hJ hLs hd=>?_;have e4:=Hf hag 4;exact Hi
     ·refine aa.of rfl fun T W L hag hL hJ hLs hd=>?_;have e5:=Hf hag 5;exact Hi
     ·refine aa.of rfl fun T W L hag hL hJ hLs hd=>?_;have e4:=Hf hag 4;exact Hi
     ·refine aa.of rfl fun T W L hag hL hJ hLs hd=>?_;have d39:T.getD 39 undef=_:=Hg hd 2 rfl;exact Hi
     ·refine aa.of rfl fun T W L hag hL hJ hLs hd=>?_;have d40:T.getD 40 undef=_:=Hg hd 3 rfl;exact Hi
     ·refine aa.of rfl fun T W L hag hL hJ hLs hd=>?_;have d41:T.getD 41 undef=_:=Hg hd 4 rfl;exact Hi
     ·refine aa.of rfl fun T W L hag hL hJ hLs hd=>?_;have d38:T.getD 38 undef=_:=Hg hd 1 rfl;have d42:T.getD 42 undef=_:=Hg hd 5 rfl;exact Hi
     ·refine aa.of rfl fun T W L hag hL hJ hLs hd=>?_;have e0:=Hf hag 0;exact Hi
     ·refine aa.of rfl fun T W L hag hL hJ hLs hd=>?_;have e4:=Hf hag 4;exact Hi
     ·refine aa.of rfl fun T W L hag hL hJ hLs hd=>?_;have d45:T.getD 45 undef=_:=Hg hd 8 rfl;exact Hi
     ·refine aa.of rfl fun T W L hag hL hJ hLs hd=>?_;have d46:T.getD 46 undef=_:=Hg hd 9 rfl;exact Hi
     ·refine aa.of rfl fun T W L hag hL hJ hLs hd=>?_;have d44:T.getD 44 undef=_:=Hg hd 7 rfl;have d47:T.getD 47 undef=_:=Hg hd 10 rfl;exact Hi
     ·refine aa.of rfl fun T W L hag hL hJ hLs hd=>?_;have d48:T.getD 48 undef=_:=Hg hd 11 rfl;have fct0:=HC1.out W hJ.bel;exact Hi
     ·refine aa.of rfl fun T W L hag hL hJ hLs hd=>?_;have d43:T.getD 43 undef=_:=Hg hd 6 rfl;have d49:T.getD 49 undef=_:=Hg hd 12 rfl;clear hag hd;go_simp;refine (HW.out W hJ.bel).mono ?_;rintro en w' ⟨rfl,hb⟩;exact ⟨_,rfl,rfl,⟨hJ.bel.trans (hb.mono hJ.bel.size),hU hJ.row hb⟩,dM hb⟩
     ·refine aa.of rfl fun T W L hag hL hJ hLs hd=>?_;have d50:T.getD 50 undef=_:=Hg hd 13 rfl;clear hag hd;obtain ⟨i0,hi,hz0,hz1,hz2⟩:=info_parts lR;refine gf 49 (.tmp 50) rfl 52 i0 _ 58 Tryz.underlying49 hi hz0 hz1 Hd Hd _ d50 (by show (cI _).size=58;exact cQ HY56.out) ?_;exact ⟨_,rfl,⟨W.heap.size,rfl,heap_alloc_new W _,fun e=>Nat.lt_irrefl _ (hJ.row.lt _ e).2⟩,⟨hJ.bel.alloc hJ.bel.size _,hJ.row.alloc _⟩,World.grownBy_alloc W _ _⟩
     ·refine aa.of rfl fun T W L hag hL hJ hLs hd=>?_;have d37:T.getD 37 undef=_:=Hg hd 0 rfl;obtain ⟨g,(e51:T.getD 51 undef=_),hg,hne⟩:=Hg hd 14 rfl;refine AY (.tmp 37) (.tmp 51) rfl w.heap.size _ _ d37 hJ.row g _ HY56.out e51 (gC hg) (by rw [bT];omega) hJ.bel.size ?_;intro v' w' h1 h2 h3;exact ⟨_,rfl,h1,⟨hJ.bel.trans (gh h2 hJ.bel.size (fun k hk=>(hJ.row.lt k hk).1)),h3⟩,h2⟩
     ·refine bg.of rfl fun T W L hag hLs hL hJ hd=>?_;have x52:fQ W w.heap.size (T.getD 52 undef) (dO log k++[AS log k]):=hd 15 _ Hb rfl;obtain ⟨f,hf,hT⟩:=aH hag;have h52:=hf 52;rw [<- h52] at x52;have HX:=He x52;have HJ:=He hJ.bel;clear hag hd x52 h52 hJ hf;rw [hT];clear hT;simp only [List.pop_toArray,List.dropLast_cons_cons,List.dropLast_singleton,List.filterMap_cons,List.filterMap_nil,List.foldl_cons,List.foldl_nil,List.setIfInBounds_toArray,List.set_cons_succ,List.set_cons_zero];go_wp2_with fail
      go_step3;exact ⟨⟨k+1,_,Ha,by rw [xV];exact HX.out,HJ.out,by rw [zC HX.out];simp [bT],_,_,_,_,_,_,_,_,_,_,_,_,_,_,_,_,_,_,_,_,_,_,_,_,_,_,_,_,_,_,_,_,_,_,_,_,_,_,_,_,_,_,_,_,_,_,_, rfl⟩,by have:=zC HX.out;simp [m4,bT] at this ⊢;omega⟩
  ·have HF:Hid (¬ fF log):=fun h=>h64 (by have:=h.1;rwa [HHD.out] at this);generalize b0.length=bl at *;have hq0:((n:Int)==0)=false:=by simp;omega
   have hq1:((bl:Int) != 64)=true:=by simp;omega
   refine iR (oL w) (fun _ _=>False) (fun _ _=>0) rfl rfl ?_ (fun _ _ h=>h.elim) ?_
   ·intro _;go_wp2;go_step3;exact (show oL _ _ _ from ⟨Below.refl _ _,_,_,_,_,_,_,_,_,_,_,_,_,_,_,_,_,_,_,_,_,_,_,_,_,_,_,_,_,_,_,_,_,_,_,_,_,_,_,_,_,_,_,_,_,_,_,_,_,_,_,_,_,_, rfl⟩)
   ·rintro a' W ⟨hbel,u0,u1,u2,u3,u4,u5,u6,u7,u8,u9,u10,u11,u12,u13,u14,u15,u16,u17,u18,u19,u20,u21,u22,u23,u24,u25,u26,u27,u28,u29,u30,u31,u32,u33,u34,u35,u36,u37,u38,u39,u40,u41,u42,u43,u44,u45,u46,u47,u48,u49,u50,u51,u52,rfl⟩;go_wp2
    try simp only [cB]
    go_ret2
    exact ⟨.slice none 0 0,by rw [decide_eq_false HF.out];rfl,by rw [HNO.out HF.out];exact fQ.nil _ _,hbel⟩
theorem vH {lb:Int} {e s:Nat} {log:List (List Int)} (h:¬ fN lb e s log):kr lb e s log=[]/\mX lb e s log=0:=by
 unfold kr mX;rw [if_neg h,if_neg h];exact ⟨rfl,rfl⟩
theorem AZ {lb:Int} {e s:Nat} {log:List (List Int)} (h:fN lb e s log):kr lb e s log=dO log (oJ log)/\mX lb e s log=1+oJ log:=by
 unfold kr mX;rw [if_pos h,if_pos h];exact ⟨rfl,rfl⟩
theorem sx {lb:Int} (e s:Nat) {l:List Wr} (hlb:0<=lb/\lb<=255) (hm:bM l) (hok:bS l):rL (putL lb e s l):=fun b hb=>by
 unfold putL at hb;rcases List.mem_cons.1 hb with rfl | hb
 ·exact nZ (pS e s hlb hm)
 ·obtain ⟨x,hx,rfl⟩:=List.mem_map.1 hb;exact nZ (pU (hok x hx).b)
theorem C2 (lb:Int) (e s:Nat) (A:Option Addr) (log:List (List Int)) (n c:Nat) (w:World) (hlb:0<=lb/\lb<=255) (he:e<4294967296) (hs:s<4294967296) (hn:log.length=n) (hl:n<=c) (hc:c<=9223372036854775807) (hok:rL log) (hy:Tx w A log) :
 Calls Tryz.prog 160 #[.int .u8 lb,.int .u32 e,.int .u32 s,.slice A n c] w fun en w'=>∃ v,en=.returned (.tuple #[v,.int .i64 (mX lb e s log),.bool (decide (fN lb e s log))])/\fQ w' w.heap.size v (kr lb e s log)/\Below w.heap.size w w':=by
 have HY:=He hy;have HN:=He hn;have HO:=He hok;have HRD:=He (C1 A log n c w hn hl hc hok hy);have HNO:Hid (¬ fN lb e s log->kr lb e s log=[]/\mX lb e s log=0/\decide (fN lb e s log)=false):=fun h=>⟨(vH h).1,(vH h).2,decide_eq_false h⟩
 clear hn hok hy;go_enter Tryz.func160,Tryz.ntmps160;go_wp2;refine aV (fun a' w'=>Hid (Below w.heap.size w w'/\¬ fN lb e s log)/\∃ u0 u1 u2 u3 u4 u5 u6 u7 u8 u9 u10 u11 u12 u13 u14 u15 u16 u17 u18 u19 u20 u21 u22 u23 u24 u25 u26 u27 u28 u29 u30 u31 u32 u33 u34 u35 u36 u37 u38 u39:Value,a'={ tmps:=#[u0,u1,u2,u3,u4,u5,u6,u7,u8,u9,u10,u11,u12,u13,u14,u15,u16,u17,u18,u19,u20,u21,u22,u23,u24,u25,u26,u27,u28,u29,u30,u31,u32,u33,u34,u35,u36,u37,u38,u39],defers:=[] }) (fun _ _=>0) rfl ?_ ?_
 ·intro _;by_cases hcr:fF log
  ·have HRX:Hid (qa log=dO log (oJ log)):=by unfold Hid qa;rw [if_pos hcr]
   have hcn:oJ log<n:=by rw [<- HN.out];exact hcr.2.2
   have hcn12:oJ log<=12:=hcr.2.1;have HCR:=He hcr;rw [decide_eq_true hcr] at HRD;clear hcr;go_wp2_with fail
   refine HRD.out.mono ?_;rintro en w1 ⟨v,rfl,own,hb1⟩;rw [HRX.out] at own;have hok1:=pV HO.out (oJ log);obtain ⟨Av,dv,rfl,hdv,hdv2,hwv⟩:=own.wrs hok1.len;rw [bT] at hdv ⊢;have HOW:=He own;rw [bT] at HOW;have HOK1:=He hok1;have HP:=He (zz lb e s Av (dO log (oJ log)) (oJ log) dv w1 hlb he hs (bT _ _) hdv hdv2 hok1 hwv);have HY1:=He (HY.out.keep hb1);have HRL:=He (bT log (oJ log));clear HRD own hok1 hwv;generalize hlv:dO log (oJ log)=lv at *;have HLV:=He hlv;clear hlv;generalize hcc:oJ log=cn at *;have HCC:=He hcc;clear hcc;obtain ⟨p,hp,HPP⟩:∃ p:Nat,1+(cn:Int)=p/\Hid (p=1+cn):=⟨1+cn,Ha,rfl⟩
   have w1c:IntKind.i64.wrap (p:Int)=p:=IntWalk.i64_in _ Ha;by_cases hmay:bM lv
   ·have HPX:Hid (lH lb e s lv=putL lb e s lv):=by unfold Hid lH;rw [if_pos hmay]
    have HMAY:=He hmay;rw [decide_eq_true hmay] at HP;have HTX:=He (sx e s hlb hmay HOK1.out);clear hmay;go_wp2_with fail
    refine HP.out.mono ?_;rintro en w2 ⟨v2,rfl,ot2,hb2⟩;rw [HPX.out] at ot2;obtain ⟨A2,d2,rfl,hd2,hd22,htx2⟩:=ot2.tx;rw [bE,HRL.out,<- HPP.out] at hd2 ⊢;have HY2:=He (HY1.out.keep hb2);have HEQ:=He (xZ A2 A (putL lb e s lv) (log.take p) p p d2 c w2 (by rw [bE,HRL.out,<- HPP.out]) (by rw [List.length_take,HN.out];omega) Ha HTX.out (fun b hb=>HO.out b (List.mem_of_mem_take hb)) htx2 (HY2.out.take _));have HOW2:=He (show fQ w2 w.heap.size (.slice Av cn dv) lv from hU HOW.out hb2);have HBL2:=He (aP hb1 hb2);clear ot2 htx2 hb1 hb2 hd2 HP;by_cases hq:putL lb e s lv=log.take p
    ·have hT:fN lb e s log:=⟨HCR.out,by rw [HCC.out,HLV.out];exact HMAY.out,by rw [HCC.out,HLV.out,<- HPP.out];exact hq⟩
     have HTV:=He (AZ hT);have HT:=He hT;rw [decide_eq_true hq] at HEQ;clear hq hT;go_wp2_with fail
     refine HEQ.out.mono ?_;rintro en w3 ⟨rfl,rfl⟩;go_wp2_with fail
     try simp only [Exit.jump]
     go_ret3
     exact ⟨_,by rw [HTV.out.2,decide_eq_true HT.out,HCC.out,<- HPP.out];rfl,by rw [HTV.out.1,HCC.out,HLV.out];exact HOW2.out,HBL2.out⟩
    ·have HNT:Hid (¬ fN lb e s log):=fun h=>hq (by have:=h.2.2;rwa [HCC.out,HLV.out,<- HPP.out] at this);rw [decide_eq_false hq] at HEQ;clear hq;go_wp2_with fail
     refine HEQ.out.mono ?_;rintro en w3 ⟨rfl,rfl⟩;go_wp2_with fail
     go_step3;exact ⟨rfl,⟨HBL2.out,HNT.out⟩,_,_,_,_,_,_,_,_,_,_,_,_,_,_,_,_,_,_,_,_,_,_,_,_,_,_,_,_,_,_,_,_,_,_,_,_,_,_,_,_,rfl⟩
   ·have HNT:Hid (¬ fN lb e s log):=fun h=>hmay (by have:=h.2.1;rwa [HCC.out,HLV.out] at this);rw [decide_eq_false hmay] at HP;clear hmay;go_wp2_with fail
    refine HP.out.mono ?_;rintro en w2 ⟨v2,rfl,ot2,hb2⟩;have HBL2:=He (aP hb1 hb2);go_wp2_with fail
    go_step3;exact ⟨rfl,⟨HBL2.out,HNT.out⟩,_,_,_,_,_,_,_,_,_,_,_,_,_,_,_,_,_,_,_,_,_,_,_,_,_,_,_,_,_,_,_,_,_,_,_,_,_,_,_,_,rfl⟩
  ·have HNT:Hid (¬ fN lb e s log):=fun h=>hcr h.1;rw [decide_eq_false hcr] at HRD;clear hcr;go_wp2_with fail
   refine HRD.out.mono ?_;rintro en w1 ⟨v,rfl,own,hb1⟩;go_wp2_with fail
   go_step3;exact ⟨rfl,⟨hb1,HNT.out⟩,_,_,_,_,_,_,_,_,_,_,_,_,_,_,_,_,_,_,_,_,_,_,_,_,_,_,_,_,_,_,_,_,_,_,_,_,_,_,_,_,rfl⟩
 ·rintro a' W ⟨HH,u0,u1,u2,u3,u4,u5,u6,u7,u8,u9,u10,u11,u12,u13,u14,u15,u16,u17,u18,u19,u20,u21,u22,u23,u24,u25,u26,u27,u28,u29,u30,u31,u32,u33,u34,u35,u36,u37,u38,u39,rfl⟩;go_wp2
  try simp only [Exit.jump]
  go_ret3
  obtain ⟨h1,h2,h3⟩:=HNO.out HH.out.2;exact ⟨.slice none 0 0,by rw [h2,h3];rfl,by rw [h1];exact fQ.nil _ _,HH.out.1⟩
structure J2 (w w5 W:World):Prop where
 bel:Below w.heap.size w W
 bel5:Below w5.heap.size w5 W
theorem qb (lb:Int) (e:Nat) (w:World) (hlb:0<=lb/\lb<=255) (he:e<4294967296) :
 Calls Tryz.prog 157 #[.int .u8 lb,.int .u32 e] w fun en w'=>∃ v,en=.returned v/\w'.ownsRow w.heap.size 5 1 v 64 (Bs (ba lb e))/\Below w.heap.size w w':=by
 have kc:=fun (w:World) (C:Array Value) (n c:Nat)=>Lib.run_convert_bytes_const (P:=Tryz.prog) w 22 5 C n c Tryz.underlying22 Tryz.underlying5;have HB:Hid (∀ o,Below w.heap.size w (w.alloc o)):=fun o=>(Below.refl _ _).alloc (Nat.le_refl _) _;go_enter Tryz.func157,Tryz.ntmps157;go_upto_region 2 with (first
  | (at_builtin
     refine gA _ rfl (.tmp 7) (.tmp 9) rfl w.heap.size _ 2 [65,78] none rfl (Or.inr ⟨rfl,w.heap.size,0,rfl,rfl,(EX rfl).alloc _⟩) (some ⟨w.heap.size+1,0,none⟩) 1 1 [lb] rfl (dS (by rw [<- ak w];exact heap_alloc_new _ _) rfl) rfl Ha Ha (by rw [ak,ak];omega) ?_;intro v1 w1 h1 hg1 _;have B1:Below w.heap.size w w1:=((HB.out _).alloc (HB.out _).size _).grown hg1 ((HB.out _).alloc (HB.out _).size _).size (fun j hj=>by cases hj);have own1:w1.ownsRow w.heap.size 5 1 v1 3 (Bs [65,78,lb]):=h1;clear h1 hg1))
 go_wp2_with fail
 refine (lq w1 w.heap.size v1 3 _ e 4 own1 B1.size Ha Ha Ha he).mono ?_;rintro en w2 ⟨v2,rfl,own2,hb2,_⟩;have B2:=B1.trans hb2;have hl7:([65,78,lb]++be e 4).length=7:=by simp [av]
 obtain ⟨A2,d2,rfl,_,_,hy2⟩:=bN own2 hl7;rw [hl7];have HAB:Hid (ax ([65,78,lb]++be e 4)):=ax.append (fun x hx=>by
  simp only [List.mem_cons,List.not_mem_nil,or_false] at hx;rcases hx with rfl | rfl | rfl <;> omega) (cm _ _)
 clear own1 B1 hb2;go_wp2_with fail
 refine (mi A2 _ 7 d2 w2 hl7 Ha HAB.out hy2).mono ?_;rintro en w3 ⟨v3,rfl,own3,hb3⟩;go_wp2_with fail
 go_ret;exact ⟨v3,rfl,own3.mono B2.size,aP B2 hb3⟩
def zD (xs:List Int):Nat:=aB ((xs.drop 3).take 4)
def ff (lb:Int) (xs:List Int):Prop:=xs.length=64/\zD xs≠4294967295/\ba lb (zD xs)=xs
instance (lb:Int) (xs:List Int):Decidable (ff lb xs):=by unfold ff;infer_instance
def dw (lb:Int) (xs:List Int):Nat:=if ff lb xs then zD xs else 0
theorem G7 {xs:List Int} (h:ax xs) (hl:xs.length=64):zD xs<4294967296:=by
 have:=iG 4 ((xs.drop 3).take 4) (by rw [List.length_take,List.length_drop,hl];rfl) (fun x hx=>h x (List.mem_of_mem_drop (List.mem_of_mem_take hx)));unfold zD;omega
theorem E8 {w:World} {a:Addr} {xs:List Int} (h:dD w (some a) xs) (q m:Nat):dD w (some (a.add q)) ((xs.drop q).take m):=by
 intro i z hz;rw [List.getElem?_take] at hz;split at hz
 ·rw [List.getElem?_drop] at hz;obtain ⟨a2,e2,h2⟩:=h _ _ hz;injection e2 with e2;subst e2
  exact ⟨_,rfl,by rw [iS];exact h2⟩
 ·cases hz
theorem A0 (lb:Int) (A:Option Addr) (xs:List Int) (n c:Nat) (w:World) (hlb:0<=lb/\lb<=255) (hn:xs.length=n) (hl:n<=c) (hc:c<=9223372036854775807) (hB:ax xs) (hy:dD w A xs) :
 Calls Tryz.prog 158 #[.int .u8 lb,.slice A n c] w fun en w'=>en=.returned (.tuple #[.int .u32 (dw lb xs),.bool (decide (ff lb xs))])/\Below w.heap.size w w':=by
 have HY:=He hy;have HN:=He hn;have HB:=He hB;have HNO:Hid (¬ ff lb xs->dw lb xs=0/\decide (ff lb xs)=false):=fun h=>⟨by unfold dw;rw [if_neg h],decide_eq_false h⟩
 clear hn hB hy;go_enter Tryz.func158,Tryz.ntmps158;go_wp2;refine aV (fun a' w'=>Hid (Below w.heap.size w w'/\¬ ff lb xs)/\∃ u0 u1 u2 u3 u4 u5 u6 u7 u8 u9 u10 u11 u12 u13 u14 u15 u16 u17 u18 u19 u20 u21:Value,a'={ tmps:=#[u0,u1,u2,u3,u4,u5,u6,u7,u8,u9,u10,u11,u12,u13,u14,u15,u16,u17,u18,u19,u20,u21],defers:=[] }) (fun _ _=>0) rfl ?_ ?_
 ·intro _;by_cases h64:n=64
  ·subst h64;obtain ⟨x0,hx0⟩:∃ x0,xs[0]?=some x0:=⟨_,List.getElem?_eq_getElem (by rw [HN.out];omega)⟩
   obtain ⟨ad,rfl,_⟩:=HY.out 0 x0 hx0;have hlt:=G7 HB.out HN.out;have HNUM:=He (su (some (ad.add 3)) ((xs.drop 3).take 4) 4 (c-3) w (by rw [List.length_take,List.length_drop,HN.out];rfl) Ha (fun x hx=>HB.out x (List.mem_of_mem_drop (List.mem_of_mem_take hx))) (E8 HY.out 3 4));have HT:Hid (ff lb xs↔zD xs≠4294967295/\ba lb (zD xs)=xs):=⟨fun h=>h.2,fun h=>⟨HN.out,h⟩⟩
   have HTA:Hid (ff lb xs->dw lb xs=zD xs):=fun h=>by unfold dw;rw [if_pos h]
   change Hid (Calls _ _ _ _ (fun e w'=>e=.returned (.int .u32 (zD xs))/\w=w')) at HNUM;generalize zD xs=ev at *;have ha3:ad.add 3=⟨ad.block,ad.off+3,none⟩:=kY ad 2;rw [ha3] at HNUM;have hc3:¬ c=3:=Ha;clear hx0 ha3;by_cases hlast:ev=4294967295
   ·have HNT:Hid (¬ ff lb xs):=fun h=>(HT.out.1 h).1 hlast;have hq:((ev:Int)==4294967295)=true:=by simp;omega
    clear hlast;go_wp2_with fail
    refine HNUM.out.mono ?_;rintro en w1 ⟨rfl,rfl⟩;go_wp2_with fail
    go_step3;exact ⟨rfl,⟨Below.refl _ _,HNT.out⟩,_,_,_,_,_,_,_,_,_,_,_,_,_,_,_,_,_,_,_,_,_,_, rfl⟩
   ·have hq:((ev:Int)==4294967295)=false:=by simp;omega
    have HL:=He hlast;clear hlast;go_wp2_with fail
    refine HNUM.out.mono ?_;rintro en w1 ⟨rfl,rfl⟩;go_wp2_with fail
    refine (qb lb ev w hlb hlt).mono ?_;rintro en w2 ⟨v2,rfl,own2,hb2⟩;obtain ⟨A2,d2,rfl,_,_,hy2⟩:=bN own2 (bY lb ev);rw [bY];have HE:=He (nW A2 (some ad) (ba lb ev) xs 64 64 d2 c w2 (bY lb ev) HN.out (j7 ev hlb) HB.out hy2 (HY.out.keep hb2));clear own2 hy2;by_cases heq:ba lb ev=xs
    ·have HYES:Hid (ff lb xs):=HT.out.2 ⟨HL.out,heq⟩;rw [decide_eq_true heq] at HE;clear heq;go_wp2_with fail
     refine HE.out.mono ?_;rintro en w3 ⟨rfl,rfl⟩;go_wp2_with fail
     try simp only [Exit.jump]
     go_ret2
     exact ⟨by rw [HTA.out HYES.out,decide_eq_true HYES.out];rfl,hb2⟩
    ·have HNT:Hid (¬ ff lb xs):=fun h=>heq (HT.out.1 h).2;rw [decide_eq_false heq] at HE;clear heq;go_wp2_with fail
     refine HE.out.mono ?_;rintro en w3 ⟨rfl,rfl⟩;go_wp2_with fail
     go_step3;exact ⟨rfl,⟨hb2,HNT.out⟩,_,_,_,_,_,_,_,_,_,_,_,_,_,_,_,_,_,_,_,_,_,_, rfl⟩
  ·have HNT:Hid (¬ ff lb xs):=fun h=>h64 (by rw [<- HN.out];exact h.1);go_wp2;go_step3;exact ⟨rfl,⟨Below.refl _ _,HNT.out⟩,_,_,_,_,_,_,_,_,_,_,_,_,_,_,_,_,_,_,_,_,_,_, rfl⟩
 ·rintro a' W ⟨HH,u0,u1,u2,u3,u4,u5,u6,u7,u8,u9,u10,u11,u12,u13,u14,u15,u16,u17,u18,u19,u20,u21,rfl⟩;go_wp2
  try simp only [Exit.jump]
  go_ret2
  obtain ⟨h1,h2⟩:=HNO.out HH.out.2;exact ⟨by rw [h1,h2];rfl,HH.out.1⟩
instance:DecidableEq Wr:=fun x y =>
 if h:x.t=y.t/\x.k=y.k/\x.bs=y.bs then isTrue (by cases x;cases y;simp at h;obtain ⟨rfl,rfl,rfl⟩:=h;rfl) else isFalse (fun e=>h (by subst e;exact ⟨rfl,rfl,rfl⟩))
theorem jR {xs:List Int} (h:xs.length<=60):(cS xs).take 60=cR xs:=by unfold cS;rw [<- j6 h];exact List.take_left
theorem vI {xs ys:List Int} (h:xs.length<=60) (h':ys.length<=60) (hl:xs.length=ys.length) (e:cS xs=cS ys):xs=ys:=by
 have h1:=congrArg (List.take 60) e;rw [jR h,jR h'] at h1;have h2:=congrArg (List.take xs.length) h1;unfold cR at h2;rw [List.take_left,hl,List.take_left] at h2;exact h2
theorem A4 {lb lb':Int} {e e' s s' n n':Nat} (he:e<4294967296) (he':e'<4294967296) (hs:s<4294967296) (hs':s'<4294967296) (h:jP lb e s n=jP lb' e' s' n'):lb=lb'/\e=e'/\s=s':=by
 refine ⟨?_,?_,?_⟩
 ·have:=congrArg (fun z:List Int=>z.getD 1 0) h;exact this
 ·exact tP he he' (by have:=congrArg (fun z:List Int=>(z.drop 2).take 4) h;exact this)
 ·exact tP hs hs' (by have:=congrArg (fun z:List Int=>(z.drop 6).take 4) h;exact this)
theorem sy:∀ {l:List Wr} {i:Nat} {x:Wr},l[i]?=some x->(told l).drop (3*i)=be x.t.toNat 2++[x.k]++told (l.drop (i+1))
 | [],i,x,h=>by cases h
 | y :: l,0,x,h=>by injection h with h;subst h;rfl
 | y :: l,i+1,x,h=>by
   have h1:=sy (l:=l) (i:=i) h;show ((be y.t.toNat 2++[y.k])++told l).drop (3*(i+1))=_;rw [List.drop_append,List.drop_of_length_le (by simp [av];omega),List.nil_append];rw [show 3*(i+1)-(be y.t.toNat 2++[y.k]).length=3*i by simp [av];omega];exact h1
section
variable {lb:Int} {e s:Nat} {l:List Wr} {rest:List (List Int)}
theorem qc (hm:bM l):(putL lb e s l++rest).headD []=cS (bK lb e s l):=rfl
theorem qd (hm:bM l):(bK lb e s l).length<=60:=by rw [ct];have:=hm.1.2;omega
theorem zE (hm:bM l) {j:Nat} (hj:j<11+3*l.length):(cS (bK lb e s l))[j]?=(bK lb e s l)[j]?:=by
 unfold cS cR;rw [List.append_assoc,List.getElem?_append_left (by rw [ct];exact hj)]
theorem pm (hm:bM l):oJ (putL lb e s l++rest)=l.length:=by
 unfold oJ;rw [qc hm,List.getD_eq_getElem?_getD,zE hm Ha];unfold bK;rw [List.getElem?_append_left (by rw [gy];omega)];show ((jP lb e s l.length)[10]?.getD 0).toNat=_;show ((l.length:Int)).toNat=_;simp
theorem E9 (hm:bM l):fF (putL lb e s l++rest) :=
 ⟨by rw [qc hm];exact fc (qd hm),by rw [pm hm];exact hm.1.2,by rw [pm hm,List.length_append,bE];omega⟩
theorem G8 {i:Nat} {x:Wr} (hx:l[i]?=some x):(putL lb e s l++rest)[1+i]?=some (cS (fM e s x.bs)):=by
 have hlt:=(List.getElem?_eq_some_iff.1 hx).1;rw [List.getElem?_append_left (by rw [bE];omega)];unfold putL;rw [Nat.add_comm,List.getElem?_cons_succ,List.getElem?_map,hx];rfl
theorem C3 {bs:List Int} (h:bs.length=56):mW (cS (fM e s bs))=bs:=by
 have hl:(fM e s bs).length=60:=gz h;unfold mW;rw [fc Ha];have h1:(cS (fM e s bs)).take 56=bs:=by
  have:(cS (fM e s bs)).take 56=((cS (fM e s bs)).take 60).take 56:=by rw [List.take_take];rfl
  rw [this,jR Ha];unfold cR fM;rw [List.append_assoc,List.append_assoc,<- h];exact List.take_left
 rw [h1];simp
theorem Fa (hm:bM l) (hok:bS l) {i:Nat} {x:Wr} (hx:l[i]?=some x):AS (putL lb e s l++rest) i=x:=by
 have hlt:=(List.getElem?_eq_some_iff.1 hx).1;have hxm:=hm.2.1 x (List.mem_of_getElem? hx);have hd:(cS (bK lb e s l)).drop (11+3*i)=be x.t.toNat 2++[x.k]++(told (l.drop (i+1))++(List.replicate (60-(bK lb e s l).length) 0++be (nV (cR (bK lb e s l))) 4)):=by
  unfold cS cR;rw [List.append_assoc];have h0:∀ tl:List Int,(bK lb e s l++tl).drop (11+3*i)=be x.t.toNat 2++[x.k]++told (l.drop (i+1))++tl:=fun tl=>by
   unfold bK;rw [<- sy hx,List.append_assoc,<- List.drop_drop,<- gy lb e s l.length,List.drop_left,List.drop_append_of_le_length (by rw [kC];omega)]
  rw [h0,List.append_assoc]
 unfold AS;rw [qc hm,hd];have e1:aB ((be x.t.toNat 2++[x.k]++(told (l.drop (i+1))++(List.replicate (60-(bK lb e s l).length) 0++be (nV (cR (bK lb e s l))) 4))).take 2)=x.t.toNat:=by
  rw [List.append_assoc];have:∀ tl:List Int,(be x.t.toNat 2++tl).take 2=be x.t.toNat 2:=fun tl=>by
   have h2:=av x.t.toNat 2;rw [<- h2];simp [av]
  rw [this];exact tQ 2 _ (by have:=hxm.2;omega)
 have e2:(cS (bK lb e s l)).getD (13+3*i) 0=x.k:=by
  have h3:(cS (bK lb e s l))[11+3*i+2]?=some x.k:=by
   rw [<- List.getElem?_drop,hd];rfl
  rw [List.getD,show 13+3*i=11+3*i+2 by omega,h3];rfl
 have e3:mW ((putL lb e s l++rest).getD (1+i) [])=x.bs:=by
  rw [List.getD_eq_getElem?_getD,G8 hx];exact C3 (hok x (List.mem_of_getElem? hx)).len
 rw [e1,e2,e3];have:((x.t.toNat:Nat):Int)=x.t:=by have:=hxm.2;omega
 rw [this]
theorem sA (hm:bM l) (hok:bS l):dO (putL lb e s l++rest) l.length=l:=by
 apply List.ext_getElem?;intro i;unfold dO;rw [List.getElem?_map];by_cases hi:i<l.length
 ·obtain ⟨x,hx⟩:∃ x,l[i]?=some x:=⟨_,List.getElem?_eq_getElem hi⟩
  rw [List.getElem?_range hi,hx];show some (AS _ i)=some x;rw [Fa hm hok hx]
 ·rw [List.getElem?_eq_none (by simp;omega),List.getElem?_eq_none Ha];rfl
theorem C4:(putL lb e s l++rest).take (1+l.length)=putL lb e s l:=by rw [<- bE lb e s l];exact List.take_left
theorem sC {lb':Int} {e' s':Nat} (hm:bM l) (hok:bS l) (he:e<4294967296) (he':e'<4294967296) (hs:s<4294967296) (hs':s'<4294967296):fN lb' e' s' (putL lb e s l++rest)↔lb'=lb/\e'=e/\s'=s:=by
 unfold fN;rw [pm hm,sA hm hok,C4];constructor
 ·rintro ⟨_,_,h⟩;unfold putL at h;injection h with h1 _
  have h2:=vI (qd hm) (qd hm) (by rw [ct,ct]) h1;unfold bK at h2;exact A4 he' he hs' hs (List.append_inj h2 (by rw [gy,gy])).1
 ·rintro ⟨rfl,rfl,rfl⟩;exact ⟨E9 hm,hm,rfl⟩
theorem A9 (hm:bM l) (hok:bS l) (he:e<4294967296) (hs:s<4294967296):kr lb e s (putL lb e s l++rest)=l/\mX lb e s (putL lb e s l++rest)=1+l.length:=by
 have h:=(sC (lb':=lb) (rest:=rest) hm hok he he hs hs).2 ⟨rfl,rfl,rfl⟩;unfold kr mX;rw [if_pos h,if_pos h,pm hm,sA hm hok];exact ⟨rfl,rfl⟩
end
theorem qe {lb:Int} {e:Nat} (he:e<4294967296):zD (ba lb e)=e:=by
 unfold zD ba cS cR;have:∀ tl:List Int,(([65,78,lb]++be e 4++tl).drop 3).take 4=be e 4:=fun tl=>rfl;rw [List.append_assoc ([65,78,lb]++be e 4),this];exact tQ 4 e Ha
theorem lS {lb lb':Int} {e:Nat} (he:e<4294967296):ff lb' (ba lb e)↔lb'=lb/\e≠4294967295:=by
 unfold ff;rw [qe he];constructor
 ·rintro ⟨_,h1,h2⟩;refine ⟨?_,h1⟩;have h3:=vI (by simp [av]) (by simp [av]) (by simp [av]) h2;have:=congrArg (fun z:List Int=>z.getD 2 0) h3;exact this
 ·rintro ⟨rfl,h1⟩;exact ⟨bY _ _,h1,rfl⟩
theorem C5 {lb:Int} {e s:Nat} {l:List Wr} (h:bM l):lH lb e s l=putL lb e s l:=by unfold lH;rw [if_pos h]
end Go.Proofs.YtegjelaejbacnaaGreat
