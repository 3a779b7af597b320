/- For FileLong: contracts and facts, part 22. -/
import Derived.Deep.Slices
import Derived.Deep.Fields
import Derived.ChangeSame
import Derived.OpenShut
import Derived.Test.YtegjelaejbacnaaGreatL02
import Derived.Test.YtegjelaejbacnaaGreatL06
import Derived.Test.YtegjelaejbacnaaGreatL12
import Derived.Test.YtegjelaejbacnaaGreatL21
set_option maxRecDepth 100000
set_option maxHeartbeats 25600000
set_option linter.unusedVariables false
open Go.ChangeShapes Go.WideShapes Go.ChangeAt Go.RowKit Go.Deep
namespace Go.Proofs.YtegjelaejbacnaaGreat
theorem AB {w:World} {g:Nat} {x:Wr} {t:TypeId} (h:w.heap[g]?=some (.cells (cS x) t (0,0))):w.rangeAt g 0 (wrL x):=fun j v hj=>by
 rw [Nat.zero_add,af h,<- Array.getElem?_toList,ki];exact hj
theorem AC {α:Type} (enc:α->List Value) (x:α) (l:List α):rowL enc (x :: l)=enc x++rowL enc l:=rfl
theorem IL {W:World} {B e sz n:Nat} {v:Value} {xs:List Value} (h:W.ownsRow B e sz v n xs):∃ A n c,v=.slice A n c:=by
 rcases h.2 with ⟨a,_⟩ | ⟨g,b,d,a,_⟩
 ·exact ⟨_,_,_,a⟩
 ·exact ⟨_,_,_,a⟩
theorem wh {w w':World} {r:Option Nat} (h:w.grownBy w' none):w.grownBy w' r:=⟨h.os,h.tape,h.output,h.size,fun k a _=>h.block k a Hb⟩
theorem FM {w w':World} {g:Nat} (h:w.grownBy w' none):w.grownBy w' (some g):=wh h
theorem BJ (t k:Int) (bs:List Int) (e:bs.length=56):Tryz.prog.built 52 [(0,.int .i64 t),(1,.agg (ab k bs))]=some (cS ⟨t,k,bs⟩):=by
 have g:Tryz.prog.underlying 52=some (.struct (Tryz.prog.fieldsOf 52)):=Hc;obtain ⟨o,h,b,j,l⟩:=info_parts mD;have c:(Tryz.prog.fieldsOf 52).toList.mapM (fun f=>(Tryz.prog.info? f.type).map fun i=>(f.offset,i.size))=some [(0,1),(1,57)]:=Hc;have m:(wrL zW).length=58:=bA iX;have n:(blkL k bs).length=57:=bf e;have a:splice (wrL zW) 0 [.int .i64 t]=.int .i64 t :: blkL 0 az:=rfl;have d:splice (Value.int .i64 t :: blkL 0 az) 1 (blkL k bs)=wrL ⟨t,k,bs⟩:=by
  unfold splice wrL;rw [n,List.drop_of_length_le (by simp [bf ak])];simp
 unfold Program.built;rw [h,g];dsimp only;rw [b,c];dsimp only;rw [gG (off:=0) (size:=1) rfl rfl (by show 0+1<=(cS zW).size;rw [dd iX];decide)];rw [gG (off:=1) (size:=57) rfl (by show (ab k bs).size=57;exact aP e) (by
  simp only [List.size_toArray];show 1+57<=(splice (cS zW).toList 0 [Value.int .i64 t]).length;rw [ki,a];simp [bf ak])]
 unfold Instr.fill
 congr 1
 show (splice (splice (cS zW).toList 0 [Value.int .i64 t]).toArray.toList 1 (ab k bs).toList).toArray=_;rw [ki,a,bu,List.toList_toArray,d];rfl
theorem si {ops:Array Oper} {rest:List Oper} {o:Oper} {a:Act} {w:World} {Q:Exit->Act->World->Prop} (b:o.guard=none) (x y:Operand) (t k:Int) (bs:List Int) (c:bs.length=56) (d:o.op=.build 52 #[(0,x),(1,y)]) (e:a.eval x=.int .i64 t) (f:a.eval y=.agg (ab k bs))
 (h:wpList Tryz.prog ops Q rest (a.put o.dst (.agg (cS ⟨t,k,bs⟩))) w):wpList Tryz.prog ops Q (o :: rest) a w :=
 wpList_plain b fun _ g=>by
  unfold Oper.wp execOp;have c:=run_build (P:=Tryz.prog) w 52 #[(0,.int .i64 t),(1,.agg (ab k bs))] _ (BJ t k bs c);simp only [d,List.map_toArray,List.map_cons,List.map_nil,e,f,Sem.run_bind,c,Result.andThen_ok];exact g _ _ h
theorem yB {W:World} {pv:Value} {n i sb:Nat} {xs ys:List Value} {C:Array Value} {tS:TypeId} (a:W.ownsRow 0 52 58 pv n xs) (w:i<=n) (m:n<=200) (r:∀ x∈xs,x.oneCell'=true) (o:W.heap[sb]?=some (.cells C tS (0,0))) (p:C.toList=ys) (q:ys.length=58) (d:∀ y∈ys,y.oneCell'=true) (f:∀ k,pv.ownBlock=some k->sb≠k) :
 Calls Tryz.prog 52 #[pv,.int .i64 i,.slice (some ⟨sb,0,none⟩) 1 1] W fun e w'=>∃ v,e=.returned v/\w'.ownsRow 0 52 58 v (n+1) (xs.take (i*58)++ys++xs.drop (i*58))/\W.grownBy w' pv.ownBlock/\(v.ownBlock=pv.ownBlock\/∃ k,v.ownBlock=some k/\W.heap.size<=k):=by
 by_cases s:i=n
 ·subst s;refine (FL a m o p q d).mono ?_;rintro e w' ⟨v,rfl,h,j,t⟩;refine ⟨v,rfl,?_,j,t.imp id fun g=>⟨_,g,Nat.le_refl _⟩⟩;rw [<- a.1,List.take_length,List.drop_length,List.append_nil];exact h
 ·have l:∃ g b,pv=.slice (some ⟨g,0,none⟩) n b:=by
   rcases a.2 with ⟨_,z⟩ | ⟨g,b,u,e,_⟩
   ·omega
   ·exact ⟨g,b,e⟩
  obtain ⟨g,b,rfl⟩:=l;by_cases c:n+1<=b
  ·refine (AA a Ha c m r o p q d (f g rfl)).mono ?_;rintro e w' ⟨rfl,h,j⟩;exact ⟨_,rfl,h,j,.inl rfl⟩
  ·refine (Ds a Ha c m r o p q d (f g rfl)).mono ?_;rintro e w' ⟨G,rfl,h,j⟩;exact ⟨_,rfl,h,wh (dZ j),.inr ⟨_,rfl,Nat.le_refl _⟩⟩
structure BK (W w':World) (tb:Nat) (ob:Option Nat):Prop where
 os:w'.os=W.os
 tape:w'.tape=W.tape
 output:w'.output=W.output
 size:W.heap.size<=w'.heap.size
 block:∀ k,k<W.heap.size->k≠tb->some k≠ob->w'.heap[k]?=W.heap[k]?
section
variable {W W':World} {tb hp kb q rb:Nat} {pv pv':Value} {P:List Wr} {T:List Bool} {v:VM}
theorem KS.puts (h:KS W tb hp kb q rb pv P T v) {y:Wr} (c:y.Ok) (d:0<=y.t) (e:y.t<v.n) (b:P.length<200) (hd:W'.heap[tb]?=some (.cells #[.pointer (some ⟨hp,0,none⟩),pv',.pointer (some ⟨kb,0,none⟩)] 107 (0,0)))
 (f:W'.ownsRow 0 52 58 pv' (fL P y).length (rowL wrL (fL P y))) (g:W'.heap[hp]?=W.heap[hp]?) (i:W'.heap[rb]?=W.heap[rb]?) (j:W'.heap[kb]?=W.heap[kb]?):KS W' tb hp kb q rb pv' (fL P y) T v:=by
 have k:=yx P y;refine ⟨⟨hd,f,fun x a=>?_,jR h.tx.srt y,Ha,⟨h.tx.bits.len,j.trans h.tx.bits.hp⟩⟩,h.vol.keep g i,fun x a=>?_⟩
 ·rcases lG a with rfl | a
  ·exact c
  ·exact h.tx.ok x a
 ·rcases lG a with rfl | a
  ·exact ⟨d,e⟩
  ·exact h.inn x a
end
theorem sj {p:Bk->Prop}:∀ (P:List Wr) (S:List Bk),(∀ y∈S,p y)->(∀ x∈P,p ⟨x.k,x.bs⟩)->∀ y∈applyW S P,p y
 | [],S,h,_=>h
 | x :: P,S,h,b=>by
   rw [jQ];refine sj P _ ?_ (fun z c=>b z (List.mem_cons_of_mem _ c));split
   ·intro y a;rcases List.mem_or_eq_of_mem_set a with a | rfl
    ·exact h y a
    ·exact b x (List.mem_cons_self ..)
   ·exact h
theorem KS.wk {W:World} {tb hp kb q rb:Nat} {pv:Value} {P:List Wr} {T:List Bool} {v:VM} (h:KS W tb hp kb q rb pv P T v):∀ y∈applyW (jf v) P,i64 y.k/\y.bs.length=56/\ay y.bs :=
 sj (p:=fun y=>i64 y.k/\y.bs.length=56/\ay y.bs) P _ (fun y c=>by
  have a:=Ii h.vol.toOk y c;exact ⟨by have:=a.k;constructor <;> omega,a.len,a.b⟩) (fun x a=>⟨(h.tx.ok x a).k,(h.tx.ok x a).len,(h.tx.ok x a).b⟩)
structure gM (w0:World) (L4 L6 L7 L8:Bool) (W:World):Prop where
 a:L7=true->L6=true
 b:L8=true->L4=true/\L6=true/\L7=true
 c:L8=false->Below w0.heap.size w0 W
section
variable {w0 W:World} {L4 L6 L7 L8:Bool}
theorem gM.b8 (h:gM w0 L4 L6 L7 L8 W) (a:L8=false):Below w0.heap.size w0 W:=h.c a
theorem gM.b4 (h:gM w0 L4 L6 L7 L8 W) (a:L4=false):Below w0.heap.size w0 W:=h.c (by cases d:L8 with | false=>rfl | true=>have:=(h.b d).1;rw [a] at this;cases this)
theorem gM.b6 (h:gM w0 L4 L6 L7 L8 W) (a:L6=false):Below w0.heap.size w0 W:=h.c (by cases d:L8 with | false=>rfl | true=>have:=(h.b d).2.1;rw [a] at this;cases this)
theorem gM.b7 (h:gM w0 L4 L6 L7 L8 W) (a:L7=false):Below w0.heap.size w0 W:=h.c (by cases d:L8 with | false=>rfl | true=>have:=(h.b d).2.2;rw [a] at this;cases this)
theorem gM.l4 (h:gM w0 L4 L6 L7 L8 W):gM w0 true L6 L7 L8 W:=⟨h.a,fun e=>⟨rfl,(h.b e).2⟩,h.c⟩
theorem gM.l6 (h:gM w0 L4 L6 L7 L8 W):gM w0 L4 true L7 L8 W:=⟨fun _=>rfl,fun e=>⟨(h.b e).1,rfl,(h.b e).2.2⟩,h.c⟩
theorem gM.l7 {W':World} (h:gM w0 L4 L6 L7 L8 W) (d:L7=false) (a:L6=true) (c:Below w0.heap.size w0 W'):gM w0 L4 L6 true L8 W':=⟨fun _=>a,fun e=>⟨(h.b e).1,(h.b e).2.1,rfl⟩,fun _=>c⟩
theorem gM.l8 {W':World} (h:gM w0 L4 L6 L7 L8 W) (c:L4=true) (b:L7=true):gM w0 L4 L6 L7 true W':=⟨h.a,fun _=>⟨c,h.a b,b⟩,fun e=>by cases e⟩
end
def AD (ob:Option Nat) (i:Nat) (w w':World):Prop:=if i=7 then w.grownBy w' none else if i=8 then w.grownBy w' ob else w'=w
theorem AD.refl (ob:Option Nat) (i:Nat) (w:World):AD ob i w w:=by
 unfold AD;split
 ·exact World.grownBy.refl _ _
 ·split
  ·exact World.grownBy.refl _ _
  ·rfl
def JD (tb a m cap k:Nat) (y:Wr) (i:Nat) (v:Value) (W:World):Prop :=
 match i with
 | 0 | 1=>v=.pointer (some ⟨tb,0,none⟩)
 | 2=>v=.pointer (some ⟨tb,1,none⟩)
 | 3=>v=.slice (some ⟨a,0,none⟩) m cap
 | 4=>v=.int .i64 (k:Int)
 | 5=>v=.agg (cS y)
 | 6=>v=.pointer (some ⟨a,k*58,none⟩)
 | _=>True
def FN (w0:World) (tb k:Nat) (pv:Value) (P:List Wr) (y:Wr) (i:Nat) (v:Value) (W:World):Prop :=
 match i with
 | 0 | 1 | 2 | 9=>v=.pointer (some ⟨tb,0,none⟩)
 | 3 | 10=>v=.pointer (some ⟨tb,1,none⟩)
 | 4=>v=pv
 | 5=>v=.int .i64 (k:Int)
 | 6=>v=.agg (cS y)
 | 7=>(∃ b,v=.slice (some ⟨b,0,none⟩) 1 1/\w0.heap.size<=b/\W.heap[b]?=some (.cells (cS y) 52 (0,0)))
 | 8=>(W.ownsRow 0 52 58 v (fL P y).length (rowL wrL (fL P y))/\w0.grownBy W pv.ownBlock/\(v.ownBlock=pv.ownBlock\/∃ k,v.ownBlock=some k/\w0.heap.size<=k))
 | _=>True
theorem Dt {W:World} {tb hp kb q rb:Nat} {pv:Value} {P:List Wr} {T:List Bool} {v:VM} (h:KS W tb hp kb q rb pv P T v) (t:Int) (ht:i64 t) (x:Bk) (c3:i64 x.k) (cg:x.bs.length=56) (hB:ay x.bs) (a4:P.length<200) :
 Calls Tryz.prog 21 #[.pointer (some ⟨tb,0,none⟩),.int .i64 t,.agg (ab x.k x.bs)] W fun e w'=>e=.returned (.bool (decide (0<=t/\t<v.n)))/\∃ g,KS w' tb hp kb q rb g (if 0<=t/\t<v.n then fL P ⟨t,x.k,x.bs⟩ else P) T v/\BK W w' tb pv.ownBlock/\(g.ownBlock=pv.ownBlock\/∃ k,g.ownBlock=some k/\W.heap.size<=k):=by
 have e5:=heap_alloc_new W (.cells (ab x.k x.bs) 37);have K:=aM (w:=W) (.cells (ab x.k x.bs) 37);have a1:=He (ml (h.below K).tx (h.below K).vol h.inn t ht);have a8:=He K;have HK:=He h;have a9:=He cg;obtain ⟨p5,bb⟩:∃ p5,p5=W.heap.size:=⟨_,rfl⟩
 rw [<- bb] at e5;have c4:=He bb;have ch:Hid ((gB (applyW (jf v) P) t).bs.length=56):=(BI (fun y hy=>(h.wk y hy).2) t).1;clear h K cg;obtain ⟨r,hr⟩:∃ r,r=gB (applyW (jf v) P) t:=⟨_,rfl⟩
 rw [<- hr] at a1 ch;obtain ⟨ib,bi⟩:∃ ib,ib=decide (0<=t/\t<(v.n:Int)):=⟨_,rfl⟩
 rw [<- bi] at a1 ⊢;have bk:=He bi;obtain ⟨R,hR⟩:∃ R,R=(if 0<=t/\t<(v.n:Int) then fL P ⟨t,x.k,x.bs⟩ else P):=⟨_,rfl⟩
 rw [<- hR];have HR:=He hR;clear hr bb bi hR;go_enter Tryz.func21,Tryz.ntmps21;go_upto_region 1 with fail
 rw [<- c4.out];generalize W.alloc (.cells (ab x.k x.bs) 37)=W1 at *;go_wp2_with fail
 refine a1.out.mono ?_;rintro e w2 ⟨rfl,I⟩;have h7:=heap_alloc_new w2 (.cells (ab 0 az) 37);have bl:Below W1.heap.size W1 ((w2.alloc (.cells (ab 0 az) 37)).setRow w2.heap.size (ab r.k r.bs)):=I.trans ((below_setRow (aM _) (Nat.le_refl _) _).mono I.size);have z:=He (a8.out.trans (bl.mono a8.out.size));have E5:=He (Go.Proofs.YtegjelaejbacnaaGreat.kb bl e5);clear bl I e5 a1 a8;go_upto_region 2 with (first | (refine aq rfl rfl ?_) | (refine ap rfl (.tmp 7) (.tmp 16) rfl w2.heap.size rfl r.k 0 r.bs az rfl ch.out ak h7 ?_))
 clear h7;generalize (w2.alloc (.cells (ab 0 az) 37)).setRow w2.heap.size (ab r.k r.bs)=W3 at *;generalize w2.heap.size=p7 at *;cases ib with
 | false =>
   have hn:¬ (0<=t/\t<(v.n:Int)):=fun hh=>by have:=bk.out;rw [decide_eq_true hh] at this;cases this
   have a2:Hid (R=P):=by unfold Hid;rw [HR.out,if_neg hn]
   clear hn HR;go_wp2_with fail
   go_ret;rw [a2.out];exact ⟨rfl,pv,HK.out.below z.out,⟨z.out.os,z.out.tape,z.out.output,z.out.size,fun k c _ _=>z.out.block k c⟩,.inl rfl⟩
 | true =>
   have hn:0<=t/\t<(v.n:Int):=of_decide_eq_true bk.out.symm;have bn:R=fL P ⟨t,x.k,x.bs⟩:=by rw [HR.out,if_pos hn]
   have HN:=He hn;obtain ⟨y,hy⟩:∃ y:Wr,y=⟨t,x.k,x.bs⟩:=⟨_,rfl⟩
   rw [<- hy] at bn;have a2:=He bn;have bt:Hid y.Ok:=by rw [hy];exact ⟨ht,c3,a9.out,hB⟩
   have c6:=He hy;have HY:Hid (y.bs.length=56):=bt.out.len;have ci:y.t=t:=by rw [hy]
   have O:=He ci;clear hn hy bk ci bn HR;have h9:=heap_alloc_new W3 (.cells (cS zW) 52);go_upto_region 5 with (first
    | (refine aT rfl (.tmp 5) rfl p5 rfl x.k x.bs a9.out E5.out ?_)
    | (refine si rfl (.tmp 20) (.tmp 21) t x.k x.bs a9.out rfl rfl rfl ?_
       rw [<- c6.out])
    | (refine dk rfl rfl ?_)
    | (refine dm rfl (.tmp 9) (.tmp 22) rfl W3.heap.size rfl y zW rfl HY.out iX h9 ?_))
   have ck:=He (oT W3 y);have d9:Hid (W.heap.size<=W3.heap.size):=z.out.size;have d:=He (z.out.trans ((fU W3 y).mono z.out.size));clear h9 E5 z;generalize (W3.alloc (.cells (cS zW) 52)).setRow W3.heap.size (cS y)=l at *;generalize W3.heap.size=p9 at *;have B:=He (HK.out.below d.out);have HT:Hid (∀ W,Below l.heap.size l W->tg W tb hp kb pv P T):=fun W hb=>B.out.tx.below hb;have bx:=He (sa B.out.tx t ht);have b0:Hid (∀ k,pv.ownBlock=some k->k<l.heap.size):=fun k c=>by obtain ⟨C,hC⟩:=bU B.out.tx.own c;exact ah hC
   have S:=B.out.tx.hd;have M:∀ {p:Nat} {C:Array Value} {t:TypeId} {fr:Nat × Nat},l.heap[p]?=some (.cells C t fr)->t≠52->some p≠pv.ownBlock:=fun N b1 e=>by
    obtain ⟨C',b2⟩:=bU B.out.tx.own e.symm;exact bc N b2 b1 rfl
   have b3:∀ {p:Nat} {C:Array Value} {t:TypeId} {fr:Nat × Nat},l.heap[p]?=some (.cells C t fr)->t≠107->p≠tb:=fun N b1=>bc N S b1;have U:Hid (∀ s,l.grownBy s pv.ownBlock->s.heap[tb]?=some (.cells #[.pointer (some ⟨hp,0,none⟩),pv,.pointer (some ⟨kb,0,none⟩)] 107 (0,0))):=fun s H=>(H.block tb (ah S) (M S Hd)).trans S;have Y:Hid (∀ s,l.grownBy s pv.ownBlock->s.cell? ⟨tb,1,none⟩=some pv):=fun s H=>(af (U.out s H) 1).trans rfl;have cl:Hid (∀ s,l.grownBy s pv.ownBlock->s.ownsRow 0 52 58 pv (fL P y).length (rowL wrL (fL P y))->∃ pu,KS (s) tb hp kb q rb pu R T v/\BK W (s) tb pv.ownBlock/\(pu.ownBlock=pv.ownBlock\/∃ k,pu.ownBlock=some k/\W.heap.size<=k)):=fun s H ho=>by
    refine ⟨pv,?_,⟨H.os.trans d.out.os,H.tape.trans d.out.tape,H.output.trans d.out.output,Nat.le_trans d.out.size H.size,fun k c _ b5=>(H.block k (Nat.lt_of_lt_of_le c d.out.size) b5).trans (d.out.block k c)⟩,.inl rfl⟩;rw [a2.out];have c:=B.out;exact c.puts bt.out (by rw [O.out];exact HN.out.1) (by rw [O.out];exact HN.out.2) a4 (U.out s H) ho (H.block _ (ah c.vol.hd) (M c.vol.hd Hd)) (H.block _ (ah c.vol.row) (M c.vol.row Hd)) (H.block _ (ah c.tx.bits.hp) (M c.tx.bits.hp Hd))
   have cn:Hid (∀ (g:Value) (s:World),l.grownBy s pv.ownBlock->s.ownsRow 0 52 58 g (fL P y).length (rowL wrL (fL P y))->(g.ownBlock=pv.ownBlock\/∃ k,g.ownBlock=some k/\l.heap.size<=k)->∃ pu,KS (s.setCell ⟨tb,1,none⟩ g) tb hp kb q rb pu R T v/\BK W (s.setCell ⟨tb,1,none⟩ g) tb pv.ownBlock/\(pu.ownBlock=pv.ownBlock\/∃ k,pu.ownBlock=some k/\W.heap.size<=k)):=fun g s H ho c7=>by
    have h5:=U.out s H;refine ⟨g,?_,⟨H.os.trans d.out.os,H.tape.trans d.out.tape,H.output.trans d.out.output,Nat.le_trans d.out.size (Nat.le_trans H.size (bw s tb 1 g).size),fun k c c8 b5=>(heap_setCell_other _ _ _ _ c8).trans ((H.block k (Nat.lt_of_lt_of_le c d.out.size) b5).trans (d.out.block k c))⟩,?_⟩
    ·rw [a2.out];have c:=B.out;have Z:∀ {p:Nat} {C:Array Value} {t:TypeId} {fr:Nat × Nat},l.heap[p]?=some (.cells C t fr)->t≠52->t≠107->(s.setCell ⟨tb,1,none⟩ g).heap[p]?=l.heap[p]?:=fun N c9 da=>(heap_setCell_other _ _ _ _ (b3 N da)).trans (H.block _ (ah N) (M N c9));refine c.puts bt.out (by rw [O.out];exact HN.out.1) (by rw [O.out];exact HN.out.2) a4 (ai h5 _) (fh ho (fun k b9=>heap_setCell_other _ _ _ _ ?_)) (Z c.vol.hd Hd Hd) (Z c.vol.row Hd Hd) (Z c.tx.bits.hp Hd Hd);obtain ⟨C',b2⟩:=bU ho b9;exact bc b2 h5 Hd
    ·exact c7.imp id fun ⟨k,g1,g2⟩=>⟨k,g1,Nat.le_trans d.out.size g2⟩
   go_wp2_with fail
   refine bx.out.mono ?_;rintro e w5 ⟨rfl,rfl⟩;obtain ⟨k,c⟩:∃ k,k=fndI P t:=⟨_,rfl⟩
   rw [<- c];have ad:=vT P t;rw [<- c] at ad;cases V:mx P t with
   | true =>
     obtain ⟨x0,a3,cp⟩:=lF V;rw [<- c] at a3;have ca:Hid (fL P y=P.set k y):=by unfold Hid fL;rw [O.out,V,if_pos rfl,c]
     have HX:=He a3;have dc:=(List.getElem?_eq_some_iff.1 a3).1;obtain ⟨A,cq,cr,dg,ea,cu⟩:=B.out.tx.lit;obtain ⟨gl,rfl⟩:∃ gl,A=some ⟨gl,0,none⟩:=by
      rcases cu with ⟨_,h0,_⟩ | h
      ·omega
      ·exact h
     obtain ⟨m,hm⟩:∃ m,m=P.length:=⟨_,rfl⟩
     rw [<- hm] at cr dg dc;have HM:=He hm;subst cr;have ec:(k:Int)<m:=Ha;clear V a3 cp c ad cu hm M b3 S bx U Y cn B b0;go_upto_region 7 with fail
     have an:Below l.heap.size l l.drew:=(Below.refl _ _).drew;have srefl:∀ (W:World),W.grownBy W none:=fun W=>World.grownBy.refl _ _;refine ax (JD tb gl m cq k y) (fun _ W=>Below l.heap.size l W) (fun _ w w'=>w.grownBy w' none) Hc Hc (fun i j v w w' _ _ h X=>by unfold JD at *;exact h) an ?_;clear an;simp only [cf];refine ⟨?_,?_,?_,?_,?_,?_,?_,?_⟩
     ·refine aa.of rfl fun T W L hag u hJ a hd=>?_;have e0:=Hf hag 0;exact Hi
     ·refine aa.of rfl fun T W L hag u hJ a hd=>?_;have ed:T.getD 30 undef=_:=Hg hd 0 rfl;exact Hi
     ·refine aa.of rfl fun T W L hag u hJ a hd=>?_;have ee:T.getD 31 undef=_:=Hg hd 1 rfl;exact Hi
     ·refine aa.of rfl fun T W L hag u hJ a hd=>?_;have ef:T.getD 32 undef=_:=Hg hd 2 rfl;have cv:=(HT.out W hJ).c1;exact Hi
     ·refine aa.of rfl fun T W L hag u hJ a hd=>?_;have dl:=Hf hag 10;exact Hi
     ·refine aa.of rfl fun T W L hag u hJ a hd=>?_;have e9:=Hf hag 9;refine wp_load_mid 52 (.tmp 9) rfl p9 0 e9 (wrL y) _ (AB (Go.Proofs.YtegjelaejbacnaaGreat.kb hJ ck.out)) Tryz.underlying52 rfl (by rw [bA HY.out];exact qS) ?_;exact ⟨_,rfl,rfl,hJ,srefl _⟩
     ·refine aa.of rfl fun T W L hag u hJ a hd=>?_;have eg:T.getD 33 undef=_:=Hg hd 3 rfl;have eh:T.getD 34 undef=_:=Hg hd 4 rfl;exact Hi
     ·refine bm.of rfl fun T W L hag a u hJ hd=>?_;have cw:T.getD 36 undef=_:=hd 6 _ Hb rfl;have cx:T.getD 35 undef=_:=hd 5 _ Hb rfl;obtain ⟨f,V,hT⟩:=aJ hag;have dn:=(V 36).trans cw;have dv:=(V 35).trans cx;have HJ:=He hJ;clear hag hd cw cx hJ V;rw [hT];clear hT;simp only [List.pop_toArray,List.dropLast_cons_cons,List.dropLast_singleton,List.filterMap_cons,List.filterMap_nil,List.foldl_cons,List.foldl_nil,List.setIfInBounds_toArray,List.set_cons_succ,List.set_cons_zero,dn,dv];have cb:=He (HT.out W HJ.out);have ho:=cb.out.own;rw [<- HM.out] at ho;have HO:=He ho;clear HT ho;refine wp_store_mid 52 (.tmp 36) (.tmp 35) rfl gl (k*58) (cS y) rfl rfl (by rw [dd HY.out];exact tP HO.out (by have:(k+1)*58<=m*58:=Nat.mul_le_mul_right 58 Ha;omega)) (by rw [dd HY.out];exact qS) (AZ _) ?_;rw [ki];have dT:Hid ((W.setCells gl (k*58) (wrL y)).ownsRow 0 52 58 (.slice (some ⟨gl,0,none⟩) m cq) (fL P y).length (rowL wrL (fL P y))):=by
       have X:=mF HO.out (o:=k*58) (wrL y) (by rw [bA HY.out];have:(k+1)*58<=m*58:=Nat.mul_le_mul_right 58 Ha;omega);rw [ca.out,List.length_set,<- HM.out,<- iP (vY cb.out.ok) (j:=0) (cs:=wrL y) HX.out (by rw [bA HY.out];omega) (by rw [kJ _ _ (by rw [bA HY.out,bA (cb.out.ok _ (List.mem_of_getElem? HX.out)).len])])];exact X
      have d1:=He (cN gl (wrL y) (k*58) W);go_wp2_with fail
      go_ret;exact ⟨rfl,cl.out _ (ba (FM (dZ HJ.out)) d1.out) dT.out⟩
   | false =>
     have ca:Hid (fL P y=P.take k++y :: P.drop k):=by unfold Hid fL;rw [O.out,V,c];exact if_neg Hb
     have a5:Hid (∀ W b,Below l.heap.size l W->l.heap.size<=b->W.heap[b]?=some (.cells (cS y) 52 (0,0))->Calls Tryz.prog 52 #[pv,.int .i64 k,.slice (some ⟨b,0,none⟩) 1 1] W fun e w'=>∃ v,e=.returned v/\w'.ownsRow 0 52 58 v (fL P y).length (rowL wrL (fL P y))/\W.grownBy w' pv.ownBlock/\(v.ownBlock=pv.ownBlock\/∃ k,v.ownBlock=some k/\W.heap.size<=k)):=fun W b hb K I=>by
      have cz:=HT.out W hb;refine (yB cz.own ad Ha (xx nP P) I (ki y) (bA HY.out) (nP y) (fun k2 b9 e=>by have:=b0.out k2 b9;omega)).mono ?_;rintro e w' ⟨v',rfl,g1,g2,g3⟩;refine ⟨v',rfl,?_,g2,g3⟩;have a6:=vY cz.ok;rw [ca.out,List.length_append,List.length_cons,List.length_take,List.length_drop,show min k P.length+(P.length-k+1)=P.length+1 by omega,lx,AC,<- tN a6,<- tO a6,<- List.append_assoc];exact g1
     clear V c M b3 S bx B cl;go_upto_region 8 with fail
     have an:gM l false false false false l.drew:=⟨(fun e=>by cases e),(fun e=>by cases e),fun _=>(Below.refl _ _).drew⟩
     have srefl:=AD.refl pv.ownBlock;refine ax (FN l tb k pv P y) (fun L W=>gM l (L 4) (L 6) (L 7) (L 8) W) (AD pv.ownBlock) Hc Hc (fun i j v w w' cA hd h X=>?_) an ?_
     ·by_cases h7:j=7
      ·subst h7;unfold FN at *;unfold AD at X;rw [if_neg cA] at X;split at X
       ·obtain ⟨b,e1,e2,e3⟩:=h;exact ⟨b,e1,e2,(X.block b (ah e3) (fun e=>by have:=b0.out b e.symm;omega)).trans e3⟩
       ·rw [X];exact h
      ·by_cases h8:j=8
       ·subst h8;unfold AD at X;split at X
        ·rename_i h7;subst h7;exact absurd hd (Bool.eq_false_iff.1 Hc)
        ·first | rw [if_neg cA] at X | skip
         rw [X];exact h
       ·unfold FN at *;split at h <;> first | exact h | exact absurd rfl h7 | exact absurd rfl h8
     clear an;simp only [cf];refine ⟨?_,?_,?_,?_,?_,?_,?_,?_,?_,?_,?_,?_⟩
     ·refine aa.of rfl fun T W L hag u hJ a hd=>?_;have e0:=Hf hag 0;exact Hi
     ·refine aa.of rfl fun T W L hag u hJ a hd=>?_;have e0:=Hf hag 0;exact Hi
     ·refine aa.of rfl fun T W L hag u hJ a hd=>?_;have ei:T.getD 38 undef=_:=Hg hd 1 rfl;exact Hi
     ·refine aa.of rfl fun T W L hag u hJ a hd=>?_;have ej:T.getD 39 undef=_:=Hg hd 2 rfl;exact Hi
     ·refine aa.of rfl fun T W L hag u hJ a hd=>?_;have ek:T.getD 40 undef=_:=Hg hd 3 rfl;have cv:=(HT.out W (gM.b4 hJ u)).c1;have eb:=gM.l4 hJ;exact Hi
     ·refine aa.of rfl fun T W L hag u hJ a hd=>?_;have dl:=Hf hag 10;exact Hi
     ·refine aa.of rfl fun T W L hag u hJ a hd=>?_;have e9:=Hf hag 9;refine wp_load_mid 52 (.tmp 9) rfl p9 0 e9 (wrL y) _ (AB (Go.Proofs.YtegjelaejbacnaaGreat.kb (gM.b6 hJ u) ck.out)) Tryz.underlying52 rfl (by rw [bA HY.out];exact qS) ?_;exact ⟨_,rfl,rfl,gM.l6 hJ,rfl⟩
     ·refine aa.of rfl fun T W L hag u hJ a hd=>?_;have d2:T.getD 43 undef=_:=Hg hd 6 rfl;have hb:=gM.b7 hJ u;have d3:L 6=true:=a ⟨6,.data⟩ Hb rfl;clear hag hd;obtain ⟨i0,hi,d4,d5,el⟩:=info_parts mD;refine gH 49 (.tmp 43) rfl 52 i0 _ 58 Tryz.underlying49 hi d4 d5 Hd Hd _ d2 (by show (cS y).size=58;exact dd HY.out) ?_;exact ⟨_,rfl,⟨_,rfl,hb.size,heap_alloc_new _ _⟩,gM.l7 hJ u d3 (hb.alloc hb.size _),World.grownBy_alloc _ _ none⟩
     ·refine aa.of rfl fun T W L hag u hJ a hd=>?_;have em:T.getD 41 undef=_:=Hg hd 4 rfl;have eo:T.getD 42 undef=_:=Hg hd 5 rfl;have d6:(∃ b,(T.getD 44 undef)=.slice (some ⟨b,0,none⟩) 1 1/\l.heap.size<=b/\W.heap[b]?=some (.cells (cS y) 52 (0,0))):=Hg hd 7 rfl;have hb:=gM.b8 hJ u;have cP:L 4=true:=a ⟨4,.data⟩ Hb rfl;have c0:L 7=true:=a ⟨7,.data⟩ Hb rfl;obtain ⟨b,eq,K,I⟩:=d6;clear hag hd;have HB:=He hb;have d7:=He I;clear hb I;go_simp;refine (a5.out W b HB.out K d7.out).mono ?_;rintro en w' ⟨v',rfl,g1,g2,g3⟩;refine ⟨_,rfl,⟨g1,ba (wh (dZ HB.out)) g2,?_⟩,(by have:=gM.l8 (W':=w') hJ cP c0;rw [cP,c0] at this;exact this),g2⟩;rcases g3 with g3 | ⟨k,g3,g4⟩
      ·exact .inl g3
      ·exact .inr ⟨k,g3,Nat.le_trans HB.out.size g4⟩
     ·refine aa.of rfl fun T W L hag u hJ a hd=>?_;have er:T.getD 37 undef=_:=Hg hd 0 rfl;exact Hi
     ·refine aa.of rfl fun T W L hag u hJ a hd=>?_;have es:T.getD 46 undef=_:=Hg hd 9 rfl;exact Hi
     ·refine bm.of rfl fun T W L hag a u hJ hd=>?_;have c2:T.getD 47 undef=_:=hd 10 _ Hb rfl;have cc:(W.ownsRow 0 52 58 (T.getD 45 undef) (fL P y).length (rowL wrL (fL P y))/\l.grownBy W pv.ownBlock/\((T.getD 45 undef).ownBlock=pv.ownBlock\/∃ k,(T.getD 45 undef).ownBlock=some k/\l.heap.size<=k)):=hd 8 _ Hb rfl;obtain ⟨f,V,hT⟩:=aJ hag;have d8:=(V 47).trans c2;have a0:=V 45;rw [<- a0] at cc;have a7:=He cc;clear a0 cc;have HJ:=He hJ;clear hag hd c2 hJ V;rw [hT];clear hT;simp only [List.pop_toArray,List.dropLast_cons_cons,List.dropLast_singleton,List.filterMap_cons,List.filterMap_nil,List.foldl_cons,List.foldl_nil,List.setIfInBounds_toArray,List.set_cons_succ,List.set_cons_zero,d8];obtain ⟨g1,g2,g3⟩:=a7.out;clear a7;obtain ⟨A5,n5,c5,a0⟩:=IL g1;rw [a0] at g1 g3 ⊢;clear a0;have HD:=He (U.out W g2);have c1:=Y.out W g2;have f1:=aA HD.out 1;have G1:=He g1;have G2:=He g2;have G3:=He g3;clear g1 g2 g3 U Y a5 HT;go_wp2_with fail
      go_ret;exact ⟨rfl,cn.out _ _ G2.out G1.out G3.out⟩
def KA (n:Nat):DM:=fE (sX n 40) (qg (sX n 40) 0 n 40 1 4 [])
def LU (n:Nat):VM:=gX (qg (sX n 40) 0 n 40 1 4 [])
theorem KB (n:Nat) (a:n<=65):nJ [((2+40+n:Nat):Int)]=true:=by
 have h:dx ((2+40+n:Nat):Int)=false:=by
  unfold dx;simp only [Bool.or_eq_false_iff,decide_eq_false_iff_not];omega
 unfold nJ;rw [show ([((2+40+n:Nat):Int)].any dx)=false by rw [List.any_cons,h];rfl];rfl
theorem yC {n:Nat} (a:n<=65):iT (sX n 40) 0 n 40 1 (gF n) [] 0 [] 0/\(sX n 40).stops=false:=by
 obtain ⟨b,d,c⟩:=xN (r:=0) (z:=((2+40+n:Nat):Int)) (n:=n) (g:=40) (KB n a) rfl Ha Ha;exact ⟨b,c⟩
structure FO (m:DM) (v:VM) (n:Nat):Prop where
 lv:Lv m v 0 n 40
 stops:m.stops=false
 done:m.done.length<=2*n+6
 ep:v.ep=2
 st:jf v=gF n
theorem KC {n:Nat} (e:n<=65):FO (KA n) (LU n) n:=by
 obtain ⟨f,g⟩:=yC e;have a:=f.mtb_now;have d:=a.tied 4 Ha Ha;have b:(fE (sX n 40) (qg (sX n 40) 0 n 40 1 4 [])).stops=false:=by rw [vy];exact g
 have c:=a.live d Ha (xI b);have h:=m9 (sW n 40) (0:Int) n 40;have i:=pQ (sX n 40) 0 n 40 1 4 [];have j:(sW n 40).done.length=0:=rfl;refine ⟨c.1.lv,b,by unfold KA;unfold sX at *;omega,rfl,c.1.st⟩
theorem Mz {n:Nat} (d:n<=65):(iY (sW n 40) (0:Int) ((1+40+n:Nat):Int)).isSome=true:=by
 have a:=ru (r:=0) (z:=((2+40+n:Nat):Int)) (N:=2+40+n) (KB n d) rfl Ha;obtain ⟨b,e⟩:=a.get (i:=1+40+n) Ha;have c:=a.rV (1+40+n);rw [e] at c;rw [show (0:Int)=((0:Nat):Int) from rfl];show (iY (DM.make [((2+40+n:Nat):Int)]) _ _).isSome=true;rw [c];rfl
theorem LV {w0 W:World} {P:Nat->Prop} {q n:Nat} (a:n<=65) (b:0<n) (h:DS w0 W P q (sW n 40)) :
 Calls Tryz.prog 42 #[.pointer (some ⟨q,0,none⟩),.int .i64 0,qq 0 0 n 40 4] W fun e w'=>e=.returned (.bool true)/\DS w0 w' P q (sX n 40)/\bz P W w' :=
 CK h (0:Int) (by constructor <;> omega) n 40 4 Ha Ha (Mz a) (by show (0:Nat)+n<=999000;omega)
theorem KD {w0 W:World} {P:Nat->Prop} {q n:Nat} (a:n<=65) (h:DS w0 W P q (sX n 40)) :
 Calls Tryz.prog 43 #[.pointer (some ⟨q,0,none⟩),.int .i64 0,qq 0 0 n 40 4] W fun b w'=>∃ hp rb,b=.returned (.tuple #[.pointer (some ⟨hp,0,none⟩),.int .i64 0]) /\
  SV w0 w' (fun k=>P k\/k=hp\/k=rb) q (KA n) hp rb (LU n)/\bz P W w'/\W.heap.size<=hp/\W.heap.size<=rb:=by
 have c:=m9 (sW n 40) (0:Int) n 40;have d:(sW n 40).done.length=0:=rfl;exact CN h (r:=0) (e:=1) (S0:=gF n) (Rs:=[]) (yC a).1.mtb_now Ha Ha 4 Hb (by unfold sX at *;omega)
theorem SV.tv {w0 W:World} {P:Nat->Prop} {q hp rb n:Nat} {m:DM} {v:VM} (h:SV w0 W (fun k=>P k\/k=hp\/k=rb) q m hp rb v) (a:FO m v n) (e:n<=65):∃ F,TV w0 W F q hp rb n 0 m v:=by
 obtain ⟨F,c,d,b⟩:=h.ds.dev;exact ⟨F,c,h.at_,d,b hp (.inr (.inl rfl)),b rb (.inr (.inr rfl)),h.ne,h.lh,h.lr,h.ds.bel,a.lv,a.stops,by rw [a.ep];omega,by have:=a.done;omega⟩
section
variable {w0 W W':World} {F:Nat->Prop} {q hp rb n c tb:Nat} {m:DM} {v:VM} {ob:Option Nat}
theorem TV.put (h:TV w0 W F q hp rb n c m v) (a:BK W W' tb ob) (g:¬ F tb) (i:∀ k,ob=some k->¬ F k) (r:w0.heap.size<=tb) (j:∀ k,ob=some k->w0.heap.size<=k) (h5:tb≠hp) (l:tb≠rb) (o:ob≠some hp) (p:ob≠some rb):TV w0 W' F q hp rb n c m v:=by
 refine ⟨h.dev.keep (fun k d f=>a.block k d (fun e=>g (by rw [<- e];exact f)) (fun e=>i k e.symm f)) a.size,h.at_.keep (a.block _ (ah h.at_.hd) (fun e=>h5 e.symm) (fun e=>o e.symm)) (a.block _ (ah h.at_.row) (fun e=>l e.symm) (fun e=>p e.symm)),h.low,h.nh,h.nr,h.ne,h.lh,h.lr,?_,h.lv,h.ns,h.ep,h.dn⟩;have b:=h.bel;exact ⟨a.os.trans b.os,a.tape.trans b.tape,a.output.trans b.output,Nat.le_trans b.size a.size,fun k d=>(a.block k (Nat.lt_of_lt_of_le d b.size) (fun e=>Ha) (fun e=>by have:=j k e.symm;omega)).trans (b.block k d)⟩
end
theorem rangeB {w:World} {g:Nat} {k:Int} {bs:List Int} {t:TypeId} (h:w.heap[g]?=some (.cells (ab k bs) t (0,0))):w.rangeAt g 0 (blkL k bs):=fun j v hj=>by
 rw [Nat.zero_add,af h,<- Array.getElem?_toList,bu];exact hj
theorem BL {o:Oper} {a:Act} {w:World} {K:Act->World->Prop} {Q:Exit->Act->World->Prop} (x y:Operand) (t:TypeId) (b:o.op=.binOp .neq 37 x y t) (k j:Int) (bs cs:List Int) (c:a.eval x=.agg (ab k bs)) (d:a.eval y=.agg (ab j cs)) (e:bs.length=56) (f:cs.length=56) (g:ay bs) (i:ay cs)
 (h:K (a.put o.dst (.bool (!(decide (k=j/\bs=cs))))) w):o.wp Tryz.prog a w K Q:=by
 have l:=run_eqGuard_agg (P:=Tryz.prog) w .neq 37 x y (ab k bs) (ab j cs) va;have m:=Kc k j bs cs e f g i w;unfold Oper.wp execOp;simp only [b,c,d,Sem.run_bind,l,m,Result.andThen_ok];exact h
theorem AE {o:Oper} {a:Act} {w:World} {K:Act->World->Prop} {Q:Exit->Act->World->Prop} (x y:Operand) (t k:Int) (bs:List Int) (b:bs.length=56) (c:o.op=.build 52 #[(0,x),(1,y)]) (d:a.eval x=.int .i64 t) (e:a.eval y=.agg (ab k bs))
 (h:K (a.put o.dst (.agg (cS ⟨t,k,bs⟩))) w):o.wp Tryz.prog a w K Q:=by
 unfold Oper.wp execOp;have b:=run_build (P:=Tryz.prog) w 52 #[(0,.int .i64 t),(1,.agg (ab k bs))] _ (BJ t k bs b);simp only [c,List.map_toArray,List.map_cons,List.map_nil,d,e,Sem.run_bind,b,Result.andThen_ok];exact h
def sk (b:List Bk) (n k:Nat):List Bk:=b.take k++(gF n).drop k
theorem Du (b:List Bk) (n:Nat):sk b n 0=gF n:=by unfold sk;simp
theorem tj {α:Type} {l:List α} {i:Nat} {x:α} (h:l[i]?=some x):l.set i x=l:=by
 apply List.ext_getElem?;intro j;by_cases e:i=j
 ·subst e;rw [List.getElem?_set_self (List.getElem?_eq_some_iff.1 h).1,h]
 ·rw [List.getElem?_set_ne e]
theorem BM {b:List Bk} {n k:Nat} {y:Bk} (d:b.length=n) (a:b[k]?=some y):sk b n (k+1)=(sk b n k).set k y:=by
 have e:=(List.getElem?_eq_some_iff.1 a).1;have c:(b.take k).length=k:=by rw [List.length_take];omega
 have f:=m8 n;unfold sk;rw [aw a,List.append_assoc,List.drop_eq_getElem_cons (i:=k) (l:=gF n) Ha,List.set_append_right _ _ Ha,c,Nat.sub_self,List.set_cons_zero];rfl
def JE (g n cap k:Nat) (gk:Int) (a:List Int) (y:Bk) (i:Nat) (v:Value) (W:World):Prop :=
 match i with
 | 0=>v=.bool true
 | 1 | 2 | 8 | 9 | 20=>v=.bool false
 | 3=>v=.agg (ab gk a)
 | 4=>v=.slice (some ⟨g,0,none⟩) n cap
 | 5=>v=.int .i64 (k:Int)
 | 6=>v=.pointer (some ⟨g,k*57,none⟩)
 | 7=>v=.agg (ab y.k y.bs)
 | _=>True
def FP (c:World) (g n cap k hp:Nat) (gk:Int) (a:List Int) (y:Bk) (i:Nat) (v:Value) (W:World):Prop :=
 match i with
 | 0 | 8 | 9=>v=.bool true
 | 1 | 2 | 19 | 20=>v=.bool false
 | 3=>v=.agg (ab gk a)
 | 4 | 12=>v=.slice (some ⟨g,0,none⟩) n cap
 | 5 | 11 | 13=>v=.int .i64 (k:Int)
 | 6 | 14=>v=.pointer (some ⟨g,k*57,none⟩)
 | 7 | 15=>v=.agg (ab y.k y.bs)
 | 10=>v=.pointer (some ⟨hp,0,none⟩)
 | 16=>v=.agg (cS ⟨(k:Int),y.k,y.bs⟩)
 | 18=>v=.int .i64 0
 | 17=>(∃ b,v=.slice (some ⟨b,0,none⟩) 1 1/\c.heap.size<=b/\W.heap[b]?=some (.cells (cS ⟨(k:Int),y.k,y.bs⟩) 52 (0,0)))
 | _=>True
structure lM (w8 W0:World) (g n cap B:Nat) (b:List Bk) (p11:Nat) (gk:Int) (gbs:List Int) (F:Nat->Prop) (q hp rb k:Nat) (m:DM) (v:VM) (L18:Bool) (W:World):Prop where
 box:W.heap[p11]?=some (.cells (ab gk gbs) 37 (0,0))
 row:cE W B g n cap b
 size:w8.heap.size<=W.heap.size
 a:L18=false->TV W0 W F q hp rb n k m v
 c:L18=true->∃ F m v,TV W0 W F q hp rb n (k+1) m v/\jf v=sk b n (k+1)
theorem lM.below {l W0:World} {g n cap B:Nat} {b:List Bk} {d:Nat} {gk:Int} {f:List Int} {F:Nat->Prop} {q hp rb k:Nat} {m:DM} {v:VM} {i:Bool} {W W':World} (h:lM l W0 g n cap B b d gk f F q hp rb k m v i W) (j:Below W.heap.size W W'):lM l W0 g n cap B b d gk f F q hp rb k m v i W' :=
 ⟨Go.Proofs.YtegjelaejbacnaaGreat.kb j h.box,h.row.below j,Nat.le_trans h.size j.size,fun e=>(h.a e).below j,fun e=>by obtain ⟨F,m,v,o,p⟩:=h.c e;exact ⟨F,m,v,o.below j,p⟩⟩
theorem lM.id {e W0:World} {g n cap B:Nat} {b:List Bk} {a:Nat} {gk:Int} {c:List Int} {F:Nat->Prop} {q hp rb k:Nat} {m:DM} {v:VM} {d:Bool} {W:World} (h:lM e W0 g n cap B b a gk c F q hp rb k m v d W):lM e W0 g n cap B b a gk c F q hp rb k m v d W:=h
def Dv (a w w':World):Prop:=∀ j,a.heap.size<=j->j<w.heap.size->w'.heap[j]?=w.heap[j]?
theorem Dv.of {a w w':World} (b:Below w.heap.size w w'):Dv a w w':=fun j _ hj=>b.block j hj
theorem sm {W:World} {B g n cap:Nat} {b:List Bk} (h:cE W B g n cap b) (h1:0<n) (N:n<=65) :
 Calls Tryz.prog 15 #[.slice (some ⟨g,0,none⟩) n cap] W fun e w'=>∃ q hp,e=.returned (.tuple #[.pointer (some ⟨q,0,none⟩),.pointer (some ⟨hp,0,none⟩),.bool true])/\∃ F rb m v,TV W w' F q hp rb n n m v/\jf v=b:=by
 have bi:=heap_alloc_new W (Obj.cells #[.int .i64 0,.int .i64 0,.int .i64 0,.int .i64 0,.int .i64 0] 97);have e2:=am (D:=zM n 40 4) bi;have I:Below W.heap.size W ((W.alloc (Obj.cells #[.int .i64 0,.int .i64 0,.int .i64 0,.int .i64 0,.int .i64 0] 97)).setRow W.heap.size (zM n 40 4)):=below_setRow ((Below.refl _ _).alloc (Nat.le_refl _) _) (Nat.le_refl _) _;have HR:=He h;have cr:=He bi;have d2:n<=cap/\cap<=9223372036854775807:=by
  obtain ⟨et,_,h2,h3,_⟩:=iG h.own;exact ⟨h2,by simp only [maxLen] at h3;omega⟩
 obtain ⟨Z,K⟩:∃ Z,Z=W.heap.size:=⟨_,rfl⟩
 rw [<- K] at e2;have d3:=He K;have ad:Hid (Below W.heap.size W ((W.alloc (Obj.cells #[.int .i64 0,.int .i64 0,.int .i64 0,.int .i64 0,.int .i64 0] 97)).setRow Z (zM n 40 4))):=by rw [K];exact I
 have hz:((2+40+n:Nat):Int)=42+(n:Int):=Ha;have bk:=KB n N;rw [hz] at bk;have cs:=He bk;have cu:Hid (DM.make [42+(n:Int)]=sW n 40):=by rw [<- hz];rfl
 have bl:=He (KC N);clear I h bi K hz bk;go_enter Tryz.func15,Tryz.ntmps15;go_upto_region 2 with (refine sU rfl (.tmp 5) (.tmp 15) rfl W.heap.size rfl n 40 4 rfl _ rfl cr.out ?_)
 rw [<- d3.out];clear cr;generalize (W.alloc (Obj.cells #[.int .i64 0,.int .i64 0,.int .i64 0,.int .i64 0,.int .i64 0] 97)).setRow Z (zM n 40 4)=w2 at *;simp only [Act.put];have bn:=He e2;clear e2;go_wp2_with (refine n8 rfl (.tmp 5) rfl Z rfl n 40 4 bn.out ?_)
 refine (wZ 0 0 n 40 4 Ha Ha w2).mono ?_;rintro e w3 ⟨rfl,bt⟩;have bx:=He (Go.Proofs.YtegjelaejbacnaaGreat.kb bt bn.out);have b1:=He (ad.out.trans (bt.mono ad.out.size));clear bt bn;go_wp2_with fail
 refine (JV _ w3.heap.size [42+(n:Int)] 1 rfl cs.out (fun x hx=>by simp at hx;subst hx;constructor <;> omega) _ (heap_alloc_new w3 _)).mono ?_;rintro e w4 ⟨⟨q,F,rfl,hd,hF⟩,b2⟩;rw [cu.out] at hd;have b3:=b1.out.alloc b1.out.size (Obj.cells #[.int .i64 (42+(n:Int))] 3);have cv:=DS.made b3 hd hF b2;have K:Z<(w3.alloc (Obj.cells #[.int .i64 (42+(n:Int))] 3)).heap.size:=by
  have h1:=ah bx.out;have h2:=((Below.refl w3.heap.size w3).alloc (Nat.le_refl _) (Obj.cells #[.int .i64 (42+(n:Int))] 3)).size;omega
 have b4:=He (Go.Proofs.YtegjelaejbacnaaGreat.kb b2 (Go.Proofs.YtegjelaejbacnaaGreat.kb ((Below.refl w3.heap.size w3).alloc (Nat.le_refl _) (Obj.cells #[.int .i64 (42+(n:Int))] 3)) bx.out));have cw:=He (And.intro K b3.size);have cx:=He cv;clear hd hF b2 b3 cv K bx b1 cs cu;generalize (w3.alloc (Obj.cells #[.int .i64 (42+(n:Int))] 3)).heap.size=s3 at *;go_wp2_with (refine sV rfl (.tmp 5) rfl Z rfl n 40 4 b4.out ?_)
 refine (LV N h1 cx.out).mono ?_;rintro e w5 ⟨rfl,cz,cA⟩;have cP:=He ((cA.blk Z cw.out.1).trans b4.out);have c0:=He cz;clear cz cA b4 cx;go_wp2_with (refine n8 rfl (.tmp 5) rfl Z rfl n 40 4 cP.out ?_)
 refine (KD N c0.out).mono ?_;rintro e w6 ⟨hp,rb,rfl,c1,d4,c2,c3⟩;obtain ⟨F0,r⟩:=c1.tv bl.out N;have c4:Hid (∃ F m v,TV W w6 F q hp rb n 0 m v/\jf v=sk b n 0):=⟨F0,_,_,r,by rw [Du];exact bl.out.st⟩
 clear c1 d4 c2 c3 cP c0 bl r;go_wp2_with fail
 go_loopw [10,11,12] (fun i _ _ wr=>∃ k:Nat,k<=n/\i=.int .i64 k/\Hid (∃ F m v,TV W wr F q hp rb n k m v/\jf v=sk b n k)) (fun i _ _ _=>n-(intOf i).toNat)
 case atStart=>exact ⟨0,Ha,rfl,c4⟩
 case round =>
  obtain ⟨k,hk,rfl,an⟩:=hrel;clear c4 cw;by_cases c5:k<n
  case neg =>
   obtain rfl:k=n:=Ha;have d5:¬ (k:Int)<k:=Ha;obtain ⟨F,m,v,r,R⟩:=an.out;have HX:Hid (∃ F rb m v,TV W wr F q hp rb k k m v/\jf v=b):=⟨F,rb,m,v,r,by rw [R];unfold sk;rw [<- HR.out.len,List.take_length,List.drop_of_length_le (by rw [m8];exact Nat.le_refl _),List.append_nil]⟩
   clear r R an;go_wp2_with fail
   go_ret3
   exact ⟨q,hp,rfl,HX.out⟩
  have d5:(k:Int)<n:=Ha;have eu:decide (n<=k)=false:=decide_eq_false Ha;obtain ⟨F,m,v,r,R⟩:=an.out;have a0:=He r;have a6:=He R;have b5:=HR.out.below r.bel;obtain ⟨y,hy⟩:∃ y,b[k]?=some y:=⟨_,List.getElem?_eq_getElem (by rw [HR.out.len];exact c5)⟩
  have S:=He hy;have s:=He (b5.ok y (List.mem_of_getElem? hy));have c6:=r.vn;have a1:=r.at_.toOk;obtain ⟨z,hz⟩:∃ z,v.B[k]?=some z:=⟨_,List.getElem?_eq_getElem (by rw [a1.len,c6];exact c5)⟩
  obtain ⟨c7,c8⟩:=vq a1.len hz;have c9:=He (xz r.at_ (k:Int) (by constructor <;> omega));rw [c7,c8] at c9;have b6:=a1.ok z (List.mem_of_getElem? hz);have t:Hid (z.bs.length=56/\ay z.bs):=⟨b6.len,b6.b⟩
  have d6:Hid ((jf v)[k]?=some ⟨z.k,z.bs⟩):=by unfold Hid jf;rw [List.getElem?_map,hz];rfl
  have a7:=He b5;clear r R b5 hy c6 a1 hz c7 c8 b6 an;generalize z.k=gk at *;generalize z.bs=l at *;clear z;go_wp2_with fail
  refine c9.out.mono ?_;rintro e w7 ⟨rfl,a2⟩;have b8:=heap_alloc_new w7 (.cells (ab 0 az) 37);have a3:Below wr.heap.size wr ((w7.alloc (.cells (ab 0 az) 37)).setRow w7.heap.size (ab gk l)):=a2.trans ((below_setRow (aM _) (Nat.le_refl _) _).mono a2.size);have ev:=He a3;have da:=He (am (D:=ab gk l) b8);have U:Hid (wr.heap.size<=w7.heap.size):=a2.size;have p:=He (a0.out.below a3);have a4:=He (a7.out.below a3);clear a2 a3 a7;go_upto_region 12 with (first | (refine aq rfl rfl ?_) | (refine ap rfl (.tmp 11) (.tmp 53) rfl w7.heap.size rfl gk 0 l az rfl t.out.1 ak b8 ?_))
  clear b8;generalize (w7.alloc (.cells (ab 0 az) 37)).setRow w7.heap.size (ab gk l)=C at *;generalize w7.heap.size=A at *;by_cases O:gk=y.k/\l=y.bs
  ·have b9:Hid ((!decide (gk=y.k/\l=y.bs))=false):=by unfold Hid;rw [decide_eq_true O];rfl
   have d7:Hid (∀ W8,Below C.heap.size C W8->∃ F m v,TV W W8 F q hp rb n (k+1) m v/\jf v=sk b n (k+1)):=fun W8 hb=>by
    refine ⟨F,m,v,(p.out.below hb).mono (Nat.le_succ _),?_⟩;rw [BM (HR.out.len) S.out,<- a6.out,tj (by rw [d6.out,O.1,O.2])]
   clear O;have ca:Below C.heap.size C C.drew:=(Below.refl _ _).drew;have srefl:∀ (W:World),W.grownBy W none:=fun W=>World.grownBy.refl _ _;refine ax (JE g n cap k gk l y) (fun _ W=>Below C.heap.size C W) (fun _ w w'=>w.grownBy w' none) Hc Hc (fun i j v w w' _ _ h hs=>by unfold JE at *;exact h) ca ?_;simp only [cf];refine ⟨?_,?_,?_,?_,?_,?_,?_,?_,?_,?_,?_,?_,?_,?_,?_,?_,?_,?_,?_,?_,?_,?_⟩
   ·refine aa.of rfl fun T W L hag o hJ d hd=>?_;have d8:=Hf hag 12;exact Hi
   ·refine aa.of rfl fun T W L hag o hJ d hd=>?_;have d9:T.getD 55 undef=_:=Hg hd 0 rfl;exact Hi
   ·refine aa.of rfl fun T W L hag o hJ d hd=>?_;have ea:T.getD 56 undef=_:=Hg hd 1 rfl;exact Hi
   ·refine aa.want rfl rfl rfl Hc (fun v w h=>h) fun T W L hag o hJ d hd=>?_;have cb:=Hf hag 11;refine wp_load_mid 37 (.tmp 11) rfl A 0 cb (blkL gk l) _ (rangeB (Go.Proofs.YtegjelaejbacnaaGreat.kb hJ da.out)) Tryz.underlying37 rfl (bT (x:=⟨gk,l⟩) t.out.1) ?_;exact ⟨_,rfl,rfl,hJ,srefl _⟩
   ·refine aa.want rfl rfl rfl Hc (fun v w h=>h) fun T W L hag o hJ d hd=>?_;have e0:=Hf hag 0;exact Hi
   ·refine aa.want rfl rfl rfl Hc (fun v w h=>h) fun T W L hag o hJ d hd=>?_;have cc:=Hf hag 10;exact Hi
   ·refine aa.want rfl rfl rfl Hc (fun v w h=>h) fun T W L hag o hJ d hd=>?_;have eb:T.getD 59 undef=_:=Hg hd 4 rfl;have ec:T.getD 60 undef=_:=Hg hd 5 rfl;exact Hi
   ·refine aa.want rfl rfl rfl Hc (fun v w h=>h) fun T W L hag o hJ d hd=>?_;have cg:T.getD 61 undef=_:=Hg hd 6 rfl;refine wp_load_mid 37 (.tmp 61) rfl g (k*57) cg (blkL y.k y.bs) _ ((a4.out.below hJ).at_ S.out) Tryz.underlying37 rfl (bT s.out.len) ?_;exact ⟨_,rfl,rfl,hJ,srefl _⟩
   ·refine aa.want rfl rfl rfl Hc (fun v w h=>h) fun T W L hag o hJ d hd=>?_;have ch:T.getD 58 undef=_:=Hg hd 3 rfl;have ci:T.getD 62 undef=_:=Hg hd 7 rfl;clear hag hd;refine BL (.tmp 58) (.tmp 62) _ rfl gk y.k l y.bs ch ci t.out.1 s.out.len t.out.2 s.out.b ?_;rw [b9.out];exact ⟨_,rfl,rfl,hJ,srefl _⟩
   ·refine aa.want rfl rfl rfl Hc (fun v w h=>h) fun T W L hag o hJ d hd=>?_;have ed:T.getD 63 undef=_:=Hg hd 8 rfl;exact Hi
   ·exact aa.skip rfl rfl rfl Hc (fun v w H=>H) (fun W=>trivial) (fun L W hJ=>hJ)
   ·exact aa.skip rfl rfl rfl Hc (fun v w H=>H) (fun W=>trivial) (fun L W hJ=>hJ)
   ·exact aa.skip rfl rfl rfl Hc (fun v w H=>H) (fun W=>trivial) (fun L W hJ=>hJ)
   ·exact aa.skip rfl rfl rfl Hc (fun v w H=>H) (fun W=>trivial) (fun L W hJ=>hJ)
   ·exact aa.skip rfl rfl rfl Hc (fun v w H=>H) (fun W=>trivial) (fun L W hJ=>hJ)
   ·exact aa.skip rfl rfl rfl Hc (fun v w H=>H) (fun W=>trivial) (fun L W hJ=>hJ)
   ·exact aa.skip rfl rfl rfl Hc (fun v w H=>H) (fun W=>trivial) (fun L W hJ=>hJ)
   ·exact aa.skip rfl rfl rfl Hc (fun v w H=>H) (fun W=>trivial) (fun L W hJ=>hJ)
   ·exact aa.skip rfl rfl rfl Hc (fun v w H=>H) (fun W=>trivial) (fun L W hJ=>hJ)
   ·exact aa.skip rfl rfl rfl Hc (fun v w H=>H) (fun W=>trivial) (fun L W hJ=>hJ)
   ·refine aa.want rfl rfl rfl Hc (fun v w h=>h) fun T W L hag o hJ d hd=>?_;have ee:T.getD 64 undef=_:=Hg hd 9 rfl;have ew:=Hg hd 19 rfl;exact Hi
   ·refine bm.of rfl fun T W L hag d o hJ hd=>?_;have V:T.getD 57 undef=_:=hd 2 _ Hb rfl;have X:T.getD 75 undef=_:=hd 20 _ Hb rfl;obtain ⟨f,hf,hT⟩:=aJ hag;have ck:=(hf 57).trans V;have cl:=(hf 75).trans X;have HJ:=He hJ;clear hag hd V X hJ hf;rw [hT];clear hT;simp only [List.pop_toArray,List.dropLast_cons_cons,List.dropLast_singleton,List.filterMap_cons,List.filterMap_nil,List.foldl_cons,List.foldl_nil,List.setIfInBounds_toArray,List.set_cons_succ,List.set_cons_zero,ck,cl];have cn:=He HJ.out;go_wp2_with fail
    go_roundw
    case rel=>exact ⟨k+1,Ha,by go_num,d7.out _ cn.out⟩
    case measure=>simp [intOf];omega
  ·have b9:Hid ((!decide (gk=y.k/\l=y.bs))=true):=by unfold Hid;rw [decide_eq_false O];rfl
   have Y:=p.out.at_;have dc:Hid (∀ j,C.heap.size<=j->¬ F j/\j≠hp/\j≠rb):=fun j hj=>⟨p.out.new hj,by have:=ah Y.hd;omega,by have:=ah Y.row;omega⟩
   have a8:=a0.out.new U.out;have ef:Hid (¬ F A/\A≠hp/\A≠rb):=⟨a8,by have:=ah a0.out.at_.hd;have:=U.out;omega,by have:=ah a0.out.at_.row;have:=U.out;omega⟩
   have eg:=HR.out.lt.2;have eh:Hid (¬ F g/\g≠hp/\g≠rb):=⟨fun hf=>by have:=p.out.low g hf;omega,by have:=p.out.lh;omega,by have:=p.out.lr;omega⟩
   have a9:mS y.k (k:Int):=⟨s.out.k,Ha,Ha⟩
   have cp:gE v [⟨(k:Int),y.k,y.bs⟩]:=by
    refine ⟨⟨Hb,fun x hx=>by rw [List.mem_singleton.1 hx];exact a9,Hb⟩,?_⟩;unfold dz it;have:=p.out.vn;simp only [List.all_cons,List.all_nil,Bool.and_true,Bool.and_eq_true,decide_eq_true_eq];omega
   have bb:jf (qe v [⟨(k:Int),y.k,y.bs⟩])=sk b n (k+1):=by
    rw [EI cp,BM HR.out.len S.out,<- a6.out,jQ,if_pos (by have:=iw p.out.at_.toOk;have:=p.out.vn;simp only;omega)];rfl
   have dg:Hid (∀ W1 M,lM C W g n cap B b A gk l F q hp rb k m v false W1->C.heap.size<=M->W1.heap[M]?=some (.cells (cS ⟨(k:Int),y.k,y.bs⟩) 52 (0,0))->Calls Tryz.prog 44 #[.pointer (some ⟨hp,0,none⟩),.slice (some ⟨M,0,none⟩) 1 1] W1 fun e w'=>e=.returned (.int .i64 0)/\lM C W g n cap B b A gk l F q hp rb k m v true w'/\Dv C W1 w'):=fun W1 M hJ a5 I=>by
    have r:=hJ.a rfl;have dl:=ah I;obtain ⟨n1,n2,n3⟩:=dc.out M a5;refine (r.change Ha N (some ⟨M,0,none⟩) [⟨(k:Int),y.k,y.bs⟩] 1 1 rfl Ha Ha (fun x hx=>by rw [List.mem_singleton.1 hx];exact ⟨by constructor <;> (simp only;omega),by have:=s.out.k;constructor <;> (simp only;omega),s.out.len,s.out.b⟩) (fun i x hx=>?_)).mono ?_
    ·obtain ⟨rfl,rfl⟩:i=0/\x=⟨(k:Int),y.k,y.bs⟩:=by
      rcases i with _ | i
      ·exact ⟨rfl,(Option.some.inj hx).symm⟩
      ·cases hx
     refine ⟨_,rfl,fun j u hj=>?_,⟨dl,n1,n2,n3⟩⟩;have:=AB I j u hj;rw [Nat.zero_add] at this;rw [Addr.add_mid,Addr.add_mid];simpa using this
    ·rintro e w' ⟨rfl,F',dn,dv⟩;rw [if_pos cp];have fr:∀ j,j<W1.heap.size->¬ F j/\j≠hp/\j≠rb->w'.heap[j]?=W1.heap[j]?:=fun j hj hh=>dv.blk j ⟨hj,hh.1,hh.2.1,hh.2.2⟩;refine ⟨rfl,⟨(fr A (ah hJ.box) ef.out).trans hJ.box,⟨fh hJ.row.own (fun k2 cq=>by injection cq with cq;subst cq;exact fr g hJ.row.lt.2 eh.out),hJ.row.len,hJ.row.ok⟩,Nat.le_trans hJ.size dv.size,(fun e=>by cases e),fun _=>⟨F',_,_,dn,bb⟩⟩,fun j h1 h2=>fr j h2 (dc.out j h1)⟩
   clear O Y a8 eg a9 cp bb;have ca:lM C W g n cap B b A gk l F q hp rb k m v false C.drew:=⟨da.out,⟨fh a4.out.own (fun _ _=>rfl),a4.out.len,a4.out.ok⟩,Nat.le_refl _,fun _=>p.out.below (Below.refl _ _).drew,(fun e=>by cases e)⟩
   have srefl:∀ (W:World),Dv C W W:=fun W j _ _=>rfl;refine ax (FP C g n cap k hp gk l y) (fun L W1=>lM C W g n cap B b A gk l F q hp rb k m v (L 18) W1) (fun _ w w'=>Dv C w w') Hc Hc (fun i j v w w' _ _ h hs=>?_) ca ?_
   ·by_cases dT:j=17
    ·subst dT;unfold FP at *;obtain ⟨M,e1,e2,e3⟩:=h;exact ⟨M,e1,e2,(hs M e2 (ah e3)).trans e3⟩
    ·unfold FP at *;split at h <;> first | exact h | exact absurd rfl dT
   simp only [cf];refine ⟨?_,?_,?_,?_,?_,?_,?_,?_,?_,?_,?_,?_,?_,?_,?_,?_,?_,?_,?_,?_,?_,?_⟩
   ·refine aa.of rfl fun T W L hag o hJ d hd=>?_;have d8:=Hf hag 12;exact Hi
   ·refine aa.of rfl fun T W L hag o hJ d hd=>?_;have d9:T.getD 55 undef=_:=Hg hd 0 rfl;exact Hi
   ·refine aa.of rfl fun T W L hag o hJ d hd=>?_;have ea:T.getD 56 undef=_:=Hg hd 1 rfl;exact Hi
   ·refine aa.want rfl rfl rfl Hc (fun v w h=>h) fun T W L hag o hJ d hd=>?_;have cb:=Hf hag 11;refine wp_load_mid 37 (.tmp 11) rfl A 0 cb (blkL gk l) _ (rangeB (lM.box hJ)) Tryz.underlying37 rfl (bT (x:=⟨gk,l⟩) t.out.1) ?_;exact ⟨_,rfl,rfl,hJ,srefl _⟩
   ·refine aa.want rfl rfl rfl Hc (fun v w h=>h) fun T W L hag o hJ d hd=>?_;have e0:=Hf hag 0;exact Hi
   ·refine aa.want rfl rfl rfl Hc (fun v w h=>h) fun T W L hag o hJ d hd=>?_;have cc:=Hf hag 10;exact Hi
   ·refine aa.want rfl rfl rfl Hc (fun v w h=>h) fun T W L hag o hJ d hd=>?_;have eb:T.getD 59 undef=_:=Hg hd 4 rfl;have ec:T.getD 60 undef=_:=Hg hd 5 rfl;exact Hi
   ·refine aa.want rfl rfl rfl Hc (fun v w h=>h) fun T W L hag o hJ d hd=>?_;have cg:T.getD 61 undef=_:=Hg hd 6 rfl;refine wp_load_mid 37 (.tmp 61) rfl g (k*57) cg (blkL y.k y.bs) _ ((lM.row hJ).at_ S.out) Tryz.underlying37 rfl (bT s.out.len) ?_;exact ⟨_,rfl,rfl,hJ,srefl _⟩
   ·refine aa.want rfl rfl rfl Hc (fun v w h=>h) fun T W L hag o hJ d hd=>?_;have ch:T.getD 58 undef=_:=Hg hd 3 rfl;have ci:T.getD 62 undef=_:=Hg hd 7 rfl;clear hag hd;refine BL (.tmp 58) (.tmp 62) _ rfl gk y.k l y.bs ch ci t.out.1 s.out.len t.out.2 s.out.b ?_;rw [b9.out];exact ⟨_,rfl,rfl,hJ,srefl _⟩
   ·refine aa.want rfl rfl rfl Hc (fun v w h=>h) fun T W L hag o hJ d hd=>?_;have ed:T.getD 63 undef=_:=Hg hd 8 rfl;exact Hi
   ·refine aa.want rfl rfl rfl Hc (fun v w h=>h) fun T W L hag o hJ d hd=>?_;have e8:=Hf hag 8;exact Hi
   ·refine aa.want rfl rfl rfl Hc (fun v w h=>h) fun T W L hag o hJ d hd=>?_;have cc:=Hf hag 10;exact Hi
   ·refine aa.want rfl rfl rfl Hc (fun v w h=>h) fun T W L hag o hJ d hd=>?_;have e0:=Hf hag 0;exact Hi
   ·refine aa.want rfl rfl rfl Hc (fun v w h=>h) fun T W L hag o hJ d hd=>?_;have cc:=Hf hag 10;exact Hi
   ·refine aa.want rfl rfl rfl Hc (fun v w h=>h) fun T W L hag o hJ d hd=>?_;have ex:T.getD 67 undef=_:=Hg hd 12 rfl;have ey:T.getD 68 undef=_:=Hg hd 13 rfl;exact Hi
   ·refine aa.want rfl rfl rfl Hc (fun v w h=>h) fun T W L hag o hJ d hd=>?_;have ei:T.getD 69 undef=_:=Hg hd 14 rfl;refine wp_load_mid 37 (.tmp 69) rfl g (k*57) ei (blkL y.k y.bs) _ ((lM.row hJ).at_ S.out) Tryz.underlying37 rfl (bT s.out.len) ?_;exact ⟨_,rfl,rfl,hJ,srefl _⟩
   ·refine aa.want rfl rfl rfl Hc (fun v w h=>h) fun T W L hag o hJ d hd=>?_;have ej:T.getD 66 undef=_:=Hg hd 11 rfl;have ek:T.getD 70 undef=_:=Hg hd 15 rfl;clear hag hd;refine AE (.tmp 66) (.tmp 70) (k:Int) y.k y.bs s.out.len rfl ej ek ?_;exact ⟨_,rfl,rfl,hJ,srefl _⟩
   ·refine aa.want rfl rfl rfl Hc (fun v w h=>h) fun T W L hag o hJ d hd=>?_;have el:T.getD 71 undef=_:=Hg hd 16 rfl;clear hag hd;obtain ⟨i0,hi,em,eo,ez⟩:=info_parts mD;refine gH 49 (.tmp 71) rfl 52 i0 _ 58 Tryz.underlying49 hi em eo Hd Hd _ el (by show (cS _).size=58;exact dd s.out.len) ?_;exact ⟨_,rfl,⟨_,rfl,lM.size hJ,heap_alloc_new _ _⟩,lM.below hJ (aM _),Dv.of (aM _)⟩
   ·refine aa.want rfl rfl rfl Hc (fun v w h=>h) fun T W L hag o hJ d hd=>?_;have eA:T.getD 65 undef=_:=Hg hd 10 rfl;have eq:(∃ M,(T.getD 72 undef)=.slice (some ⟨M,0,none⟩) 1 1/\C.heap.size<=M/\W.heap[M]?=some (.cells (cS ⟨(k:Int),y.k,y.bs⟩) 52 (0,0))):=Hg hd 17 rfl;obtain ⟨M,eB,a5,I⟩:=eq;clear hag hd;have er:=He (lM.id hJ);have d1:Hid (L 18=false):=o;have ad:=He I;have es:=He a5;clear hJ o a5 I d;go_simp;refine (dg.out W M (by have:=er.out;rwa [d1.out] at this) es.out ad.out).mono ?_;rintro en w' ⟨rfl,h1,h2⟩;exact ⟨_,rfl,rfl,h1,h2⟩
   ·refine aa.want rfl rfl rfl Hc (fun v w h=>h) fun T W L hag o hJ d hd=>?_;have eC:T.getD 73 undef=_:=Hg hd 18 rfl;exact Hi
   ·refine aa.want rfl rfl rfl Hc (fun v w h=>h) fun T W L hag o hJ d hd=>?_;have ee:T.getD 64 undef=_:=Hg hd 9 rfl;have eD:T.getD 74 undef=_:=Hg hd 19 rfl;exact Hi
   ·refine bm.of rfl fun T W L hag d o hJ hd=>?_;have V:T.getD 57 undef=_:=hd 2 _ Hb rfl;have X:T.getD 75 undef=_:=hd 20 _ Hb rfl;obtain ⟨f,hf,hT⟩:=aJ hag;have ck:=(hf 57).trans V;have cl:=(hf 75).trans X;have HJ:=He hJ;clear hag hd V X hJ hf;rw [hT];clear hT;simp only [List.pop_toArray,List.dropLast_cons_cons,List.dropLast_singleton,List.filterMap_cons,List.filterMap_nil,List.foldl_cons,List.foldl_nil,List.setIfInBounds_toArray,List.set_cons_succ,List.set_cons_zero,ck,cl];clear dg;have cn:=He (lM.c HJ.out (d 18 Hb));clear HJ;go_wp2_with fail
    go_roundw
    case rel=>exact ⟨k+1,Ha,by go_num,cn.out⟩
    case measure=>simp [intOf];omega
structure Bk.Wk (x:Bk):Prop where
 k:i64 x.k
 len:x.bs.length=56
 b:ay x.bs
section
variable {ops:Array Oper} {rest:List Oper} {o:Oper} {a:Act} {w:World} {Q:Exit->Act->World->Prop} {K:Act->World->Prop}
end
section
variable {H:Type} {enc:TypeId × Value->H} {w:World} {base:Nat} {spare:Nat->Bool} {held:Bool}
end
structure KT (w0 W:World) (F:Nat->Prop) (q hp rb n c:Nat) (m:DM) (v:VM) (tb kb:Nat) (pv:Value) (P:List Wr) (T:List Bool):Prop where
 tv:TV w0 W F q hp rb n c m v
 ks:KS W tb hp kb q rb pv P T v
 ft:¬ F tb
 fk:¬ F kb
 fo:∀ k,pv.ownBlock=some k->¬ F k
 lt:w0.heap.size<=tb
 lk:w0.heap.size<=kb
 lo:∀ k,pv.ownBlock=some k->w0.heap.size<=k
section
variable {w0 W W':World} {F:Nat->Prop} {q hp rb n c tb kb:Nat} {m:DM} {v:VM} {pv:Value} {P:List Wr} {T:List Bool}
theorem KT.below (h:KT w0 W F q hp rb n c m v tb kb pv P T) (a:Below W.heap.size W W'):KT w0 W' F q hp rb n c m v tb kb pv P T:={ h with tv:=h.tv.below a,ks:=h.ks.below a }
theorem KT.vn (h:KT w0 W F q hp rb n c m v tb kb pv P T):v.n=n:=h.tv.vn
theorem KT.hne (h:KT w0 W F q hp rb n c m v tb kb pv P T):tb≠hp/\tb≠rb/\kb≠hp/\kb≠rb:=⟨bc h.ks.tx.hd h.ks.vol.hd Hd,bc h.ks.tx.hd h.ks.vol.row Hd,bc h.ks.tx.bits.hp h.ks.vol.hd Hd,bc h.ks.tx.bits.hp h.ks.vol.row Hd⟩
theorem KT.one (h:KT w0 W F q hp rb n c m v tb kb pv P T):∀ k,pv.ownBlock=some k->k≠hp/\k≠rb:=fun k b=>by
 obtain ⟨C,a⟩:=bU h.ks.tx.own b;exact ⟨bc a h.ks.vol.hd Hd,bc a h.ks.vol.row Hd⟩
theorem TV.new_tx (h:TV w0 W F q hp rb n c m v) (g:n<=200) :
 Calls Tryz.prog 16 #[.pointer (some ⟨hp,0,none⟩)] W fun e w'=>∃ tb,e=.returned (.pointer (some ⟨tb,0,none⟩))/\(∃ kb,KT w0 w' F q hp rb n c m v tb kb (.slice none 0 0) [] (List.replicate n false))/\Below W.heap.size W w':=by
 refine (Dp h.at_ (by rw [h.vn];exact g)).mono ?_;rintro e w' ⟨tb,kb,rfl,a,b,d,f⟩;rw [h.vn] at a;exact ⟨tb,rfl,⟨kb,h.below b,a,h.new d,h.new f,(fun k e=>by cases e),Nat.le_trans h.bel.size d,Nat.le_trans h.bel.size f,(fun k e=>by cases e)⟩,b⟩
theorem KT.take (h:KT w0 W F q hp rb n c m v tb kb pv P T) (N:List Bk) (b:N=applyW (jf v) P) (f:0<n) (a:n<=200) :
 Calls Tryz.prog 18 #[.pointer (some ⟨tb,0,none⟩)] W fun e w'=>e=.returned (oC (bX N T))/\KT w0 w' F q hp rb n c m v tb kb pv P (gf N T)/\W.grownBy w' (some kb):=by
 refine (Ay h.ks N b (by rw [b];exact h.ks.wk) (by rw [h.vn];exact f) (by rw [h.vn];exact a)).mono ?_;rintro e w' ⟨rfl,g,d⟩;exact ⟨rfl,{ h with tv:=h.tv.touch d h.fk h.hne.2.2.1 h.hne.2.2.2 h.lk,ks:=g },d⟩
theorem KT.get (h:KT w0 W F q hp rb n c m v tb kb pv P T) (N:List Bk) (a:N=applyW (jf v) P) (t:Int) (b:i64 t) :
 Calls Tryz.prog 23 #[.pointer (some ⟨tb,0,none⟩),.int .i64 t] W fun e w'=>e=.returned (.tuple #[.agg (ab (gB N t).k (gB N t).bs),.bool (decide (0<=t/\t<n))])/\Below W.heap.size W w':=by
 have:=ml h.ks.tx h.ks.vol h.ks.inn t b;rw [<- a,h.vn] at this;exact this
theorem KT.commit (h:KT w0 W F q hp rb n c m v tb kb pv P T) (s:c<=200) (t:n<=65) :
 Calls Tryz.prog 19 #[.pointer (some ⟨tb,0,none⟩)] W fun e w'=>e=.returned (.int .i64 (if P=[]\/gE v P then 0 else 1))/\∃ f g,(∀ k,sf W F hp rb k->k≠tb->w'.heap[k]?=W.heap[k]?)/\(∀ k,k<W.heap.size->¬ F k->¬ f k)/\W.heap.size<=w'.heap.size/\(if P=[]\/gE v P then ∃ b,KT w0 w' f q hp rb n (c+1) g (if P=[] then v else qe v P) tb b (.slice none 0 0) [] (List.replicate n false) else KT w0 w' f q hp rb n (c+1) g v tb kb pv P T):=by
 refine (we h.ks h.tv h.ft h.fo h.lt h.fk s t).mono ?_;rintro e w' ⟨rfl,f,g,d,o,p,a,i⟩;refine ⟨rfl,f,g,p,a,o,?_⟩;by_cases j:P=[]\/gE v P
 ·simp only [if_pos j] at i ⊢;obtain ⟨b,l,u,w⟩:=i;exact ⟨b,d,l,a tb (ah h.ks.tx.hd) h.ft,u,(fun k e=>by cases e),h.lt,Nat.le_trans h.tv.bel.size w,(fun k e=>by cases e)⟩
 ·simp only [if_neg j] at i ⊢;have x:¬ P=[]:=fun e=>j (.inl e);have y:¬ gE v P:=fun e=>j (.inr e);rw [if_neg x,vz y] at d;exact ⟨d,i,a tb (ah h.ks.tx.hd) h.ft,a kb (ah h.ks.tx.bits.hp) h.fk,fun k l=>by
   obtain ⟨C,r⟩:=bU h.ks.tx.own l;exact a k (ah r) (h.fo k l),h.lt,h.lk,h.lo⟩
end
end Go.Proofs.YtegjelaejbacnaaGreat
