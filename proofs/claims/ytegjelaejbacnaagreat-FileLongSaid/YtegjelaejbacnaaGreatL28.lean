/- For FileLong: contracts and facts, part 28. -/
import Derived.StillTailTactics
import Derived.Deep.DeepCutAuto
import Derived.Lib.SlBytesConst
import Derived.Test.YtegjelaejbacnaaGreatL25
import Derived.Test.YtegjelaejbacnaaGreatL26
import Derived.Test.YtegjelaejbacnaaGreatL27
set_option maxRecDepth 100000
set_option maxHeartbeats 25600000
set_option linter.unusedSimpArgs false
set_option linter.unusedVariables false
open Go.ChangeShapes Go.WideShapes Go.ChangeAt Go.RowKit
namespace Go.Proofs.YtegjelaejbacnaaGreat
def Gk (g:Int) (t:List Int) (i:Nat):Nd:=⟨g,1,t.length,if 0<i then -1 else 0,if 1<i then -1 else 0,if 2<i then -1 else 0,if 3<i then -1 else 0,-1,t⟩
theorem Gl (g:Int) (t:List Int) {i:Nat} (a:i<4):(bF (Gk g t i)).setIfInBounds (3+i) (.int .i64 (-1))=bF (Gk g t (i+1)):=by
 obtain rfl | rfl | rfl | rfl:i=0\/i=1\/i=2\/i=3:=Ha
 all_goals rfl
theorem KP (g:Int) (t:List Int) {i:Nat} (a:i<4):(bF (Gk g t i))[3+i]?=some (.int .i64 0):=by
 obtain rfl | rfl | rfl | rfl:i=0\/i=1\/i=2\/i=3:=Ha
 all_goals rfl
theorem Gm (g:Int) (t:List Int):Gk g t 4=pX g t:=rfl
structure NW (w:World) (gb n capb:Nat) (b:List Bk) (p6:Nat) (dl da dg:Int) (p10 p15:Nat) (nd:Nd) (W:World):Prop where
 row:cE W w.heap.size gb n capb b
 bel:Below w.heap.size w W
 d:bh W p6 dl da dg
 r:bh W p10 0 0 0
 nd:aV W p15 nd
 h6:p6≠gb/\p6≠p15/\p6≠p10
 h10:p10≠gb/\p10≠p15/\w.heap.size<=p10
 h15:p15≠gb/\w.heap.size<=p15
section
variable {w W W':World} {gb n capb p6 p10 p15:Nat} {b b':List Bk} {dl da dg:Int} {nd:Nd}
theorem NW.below (h:NW w gb n capb b p6 dl da dg p10 p15 nd W) (a:Below W.heap.size W W'):NW w gb n capb b p6 dl da dg p10 p15 nd W' :=
 ⟨h.row.below a,h.bel.trans (a.mono h.bel.size),h.d.below' a,h.r.below' a,h.nd.below a,h.h6,h.h10,h.h15⟩
theorem NW.row_ (h:NW w gb n capb b p6 dl da dg p10 p15 nd W) (c:cE W' w.heap.size gb n capb b') (a:W.grownBy W' (some gb)):NW w gb n capb b' p6 dl da dg p10 p15 nd W' :=
 ⟨c,h.bel.grown a h.bel.size (fun k e=>by injection e with e;subst e;exact h.row.lt.1),br a h.d (fun e=>h.h6.1 (by injection e with e;exact e.symm)),br a h.r (fun e=>h.h10.1 (by injection e with e;exact e.symm)),br a h.nd (fun e=>h.h15.1 (by injection e with e;exact e.symm)),h.h6,h.h10,h.h15⟩
theorem NW.cell (h:NW w gb n capb b p6 dl da dg p10 p15 nd W) {c:Nat} {v:Value} {m:Nd} (f:(bF nd).setIfInBounds c v=bF m):NW w gb n capb b p6 dl da dg p10 p15 m (W.setCell ⟨p15,c,none⟩ v):=by
 have a:=bw W p15 c v;refine ⟨h.row.grown a (by intro e;injection e with e;exact h.h15.1 e),h.bel.grown a h.bel.size (fun k e=>by injection e with e;subst e;exact h.h15.2),br a h.d (fun e=>h.h6.2.1 (by injection e with e;exact e.symm)),br a h.r (fun e=>h.h10.2.1 (by injection e with e;exact e.symm)),?_,h.h6,h.h10,h.h15⟩;unfold aV;rw [<- f];exact ai h.nd v
end
theorem I8 (g l:Int) (t:ByteArray):Tryz.prog.built 137 [(0,.int .u32 g),(1,.int .i64 1),(2,.int .i64 l),(4,.int .i64 (-1)),(5,.string t)]=some #[.int .u32 g,.int .i64 1,.int .i64 l,.int .i64 0,.int .i64 0,.int .i64 0,.int .i64 0,.int .i64 (-1),.string t]:=Hc
theorem sD {ops:Array Oper} {rest:List Oper} {o:Oper} {ac:Act} {w:World} {Q:Exit->Act->World->Prop} (a:o.guard=none) (x y z:Operand) (c:o.op=.build 137 #[(0,x),(1,.const (.int .i64 1)),(2,y),(4,.const (.int .i64 (-1))),(5,z)]) (g:Int) (t:List Int) (d:ac.eval x=.int .u32 g) (e:ac.eval y=.int .i64 (t.length:Int)) (f:ac.eval z=.string (strOfNums t))
 (h:wpList Tryz.prog ops Q rest (ac.put o.dst (.agg (bF (Gk g t 0)))) w):wpList Tryz.prog ops Q (o :: rest) ac w :=
 wpList_plain a fun _ i=>by
  unfold Oper.wp execOp;have b:=run_build (P:=Tryz.prog) w 137 #[(0,.int .u32 g),(1,.int .i64 1),(2,.int .i64 t.length),(4,.int .i64 (-1)),(5,.string (strOfNums t))] _ (I8 g t.length (strOfNums t));simp only [c,List.map_toArray,List.map_cons,List.map_nil,d,e,f,Sem.run_bind];simp only [Act.eval] at b ⊢;rw [b];exact i _ _ h
theorem DH {W:World} {p B g n cap:Nat} {l:List Bk} {a b c:Int} (h:bh W p a b c) (f:cE W B g n cap l):p≠g:=by
 intro e;subst e;obtain ⟨i,d,_⟩:=iG f.own;rw [show W.heap[p]?=_ from h] at d;injection d with d
 injection d with _ d _
 exact absurd d Hd
theorem lQ.offRow {w W:World} {B s g n cap p:Nat} {f:Int} {b:List Bk} {C:Array Value} (h:lQ W B s g n cap f b) (i:w.grownBy W (some s)) (j:s≠p) (hp:w.heap.size<=p) (c:p≠g):lQ (W.setRow p C) B s g n cap f b/\w.grownBy (W.setRow p C) (some s):=by
 have a:W.grownBy (W.setRow p C) (some p):=⟨rfl,rfl,rfl,Hb,fun k l d=>setRow_other W p k C (fun e=>d (by rw [e]))⟩
 refine ⟨⟨by rw [setRow_other W p s C j];exact h.box,h.row.grown a (by intro e;injection e with e;exact c e),h.sg,h.sB⟩,te i a hp⟩
theorem DI {b:List Bk} (h:Ft b d0) (c:¬ leftL b<2):∃ q:Nat,bD b []=q/\q<b.length:=by
 obtain ⟨e,_,a⟩:=uA (u:=fy b) (q:=0) (by unfold leftL at c;omega);obtain ⟨q,d,f,_⟩:=yq h (Ak a);exact ⟨q,d,by have:=uS b [];omega⟩
theorem Gn {b:List Bk} (h:dO b):nextM b<4294967296:=by
 unfold nextM;have a:=Kt h 0;exact js a.len a.b Ha
def nC (b:List Int) (c d e a:Int) (t:List Int):Prop:=¬ ie a\/¬ Bw b\/¬ gL c d e\/(a=3/\¬ uf t)\/(a≠3/\t≠[])
instance (b:List Int) (c d e a:Int) (t:List Int):Decidable (nC b c d e a t):=by unfold nC;infer_instance
theorem sE {w:World} {B s g n cap:Nat} {K:Int} {b:List Bk} (h:lQ w B s g n cap K b) (H:n<=200) (fd:i64 K) (hI:Ft b d0) (D:ou) (hD:D.Ok) (z:List Int) (d7:ay z) (el:z.length<=100) (c:Int) (hk:i64 c) (t:List Int) (ht:ay t) (d8:t.length<=100) :
 Calls Tryz.prog 38 #[.pointer (some ⟨s,0,none⟩),D.v,.string (strOfNums z),.int .i64 c,.string (strOfNums t)] w fun e w'=>∃ g' S,e=.returned (.tuple #[(Fq K b D z c t).2.1.v,.int .i64 (Fq K b D z c t).2.2])/\lQ w' B s g' n S K (Fq K b D z c t).1/\w.grownBy w' (some s):=by
 have d9:=He hD;obtain ⟨m,o,u⟩:=D;have em:Below w.heap.size w ((w.alloc (.cells #[.int .i64 m,.int .i64 o,.int .u32 u] 82)).alloc (.cells #[.int .i64 0,.int .i64 0,.int .u32 0] 82)):=(aM _).trans ((aM _).mono Hb);have I:=He h;have cl:Hid (bh ((w.alloc (.cells #[.int .i64 m,.int .i64 o,.int .u32 u] 82)).alloc (.cells #[.int .i64 0,.int .i64 0,.int .u32 0] 82)) w.heap.size m o u):=(bh.new w m o u).alloc _;have a2:=bh.new (w.alloc (.cells #[.int .i64 m,.int .i64 o,.int .u32 u] 82)) 0 0 0;have en:(w.alloc (.cells #[.int .i64 m,.int .i64 o,.int .u32 u] 82)).heap.size=w.heap.size+1:=Hb;rw [en] at a2;have bl:=He a2;have ea:=He (fun W=>or z W d7 el);have eb:=He (fun W=>mH t W ht d8);have cx:=He (fun W hb=>DG (h.below (W:=W) hb) H ⟨m,o,u⟩ hD);have eo:=He (fun W (hb:Below w.heap.size w W)=>yQ (h.below hb) H ⟨m,o,u⟩ z d7);have eq:=He (fun W (hb:Below w.heap.size w W)=>Al g b n cap W h.row.len H h.row.ok (h.below hb).bks);have eX:B<=w.heap.size:=by have:=h.row.lt;omega
 have bn:0<n:=by have:=hI.len;have:=h.row.len;omega
 have er:=He (fun W (hb:Below w.heap.size w W)=>sC g b n cap W h.row.len bn H h.row.ok (h.below hb).bks);have es:=He (DI hI);have et:=He (Gn h.row.ok);have T:=He h.row.len;have bs:=He h.row.ok;obtain ⟨r,hr⟩:∃ r,r=Fq K b ⟨m,o,u⟩ z c t:=⟨_,rfl⟩
 rw [<- hr];have HR:Hid (r=if nC z m o u c t then (b,⟨0,0,0⟩,1)
  else if Ai K b ⟨m,o,u⟩=false then (b,⟨0,0,0⟩,2)
  else if 0<=dI ⟨m,o,u⟩ z b then (b,⟨0,0,0⟩,4)
  else if leftL b<2\/nextM b=4294967295 then (b,⟨0,0,0⟩,9)
  else ((ql (gy (r6 b (bD b []) (dW c (pX (nextM b) t))) (nextM b+1)) ⟨m,o,u,z,bD b [],nextM b⟩).1,⟨K,bD b [],nextM b⟩,0)):=hr
 clear hr h hI hD a2 en;show Calls Tryz.prog 38 #[.pointer (some ⟨s,0,none⟩),.agg #[.int .i64 m,.int .i64 o,.int .u32 u],.string (strOfNums z),.int .i64 c,.string (strOfNums t)] w _;go_enter Tryz.func38,Tryz.ntmps38;go_upto_region 1 with fail
 have ec:=He em;clear em;generalize (w.alloc (.cells #[.int .i64 m,.int .i64 o,.int .u32 u] 82)).alloc (.cells #[.int .i64 0,.int .i64 0,.int .u32 0] 82)=w0 at *;obtain ⟨p6,eu⟩:∃ p6,p6=w.heap.size:=⟨_,rfl⟩
 obtain ⟨p10,cz⟩:∃ p10,p10=w.heap.size+1:=⟨_,rfl⟩
 rw [<- cz] at bl ⊢;rw [<- eu] at cl ⊢;have M:Hid (p6≠p10/\w.heap.size<=p10):=⟨Ha,Ha⟩
 clear eu cz;obtain ⟨bad,cP⟩:∃ bad,bad=decide (nC z m o u c t):=⟨_,rfl⟩
 have Y:=He cP;clear cP;have U:Hid (∀ v,v=Value.bool true->nC z m o u c t->v=.bool bad):=fun v h1 h2=>by rw [h1,Y.out,decide_eq_true h2]
 have bt:Hid (∀ v,v=Value.bool false->¬ nC z m o u c t->v=.bool bad):=fun v h1 h2=>by rw [h1,Y.out,decide_eq_false h2]
 have bx:=He (r8 c w0);have b0:=He (pe m o u w0)
 go_cut [47] (fun v wx=>v=.bool bad/\Hid (Below w0.heap.size w0 wx))
 case first =>
  by_cases h1:ie c
  case neg =>
   rw [decide_eq_false h1] at bx;go_wp2_with fail
   refine bx.out.mono ?_;rintro e w2 ⟨rfl,rfl⟩;go_wp2_with fail
   go_meet
   case rel=>exact ⟨U.out _ rfl (.inl h1),Below.refl _ _⟩
  rw [decide_eq_true h1] at bx;go_wp2_with fail
  refine bx.out.mono ?_;rintro e w2 ⟨rfl,rfl⟩;by_cases h2:Bw z
  case neg =>
   have b3:=He (ea.out w0);rw [decide_eq_false h2] at b3;go_wp2_with fail
   refine b3.out.mono ?_;rintro e w2 ⟨rfl,rfl⟩;go_wp2_with fail
   go_meet
   case rel=>exact ⟨U.out _ rfl (.inr (.inl h2)),Below.refl _ _⟩
  have b3:=He (ea.out w0);rw [decide_eq_true h2] at b3;go_wp2_with fail
  refine b3.out.mono ?_;rintro e w2 ⟨rfl,rfl⟩;go_wp2_with (refine iJ Hl (.tmp 6) rfl p6 rfl m o u cl.out ?_)
  by_cases h3:gL m o u
  case neg =>
   rw [decide_eq_false h3] at b0;refine b0.out.mono ?_;rintro e w2 ⟨rfl,b4⟩;have bi:=He b4;clear b4;go_wp2_with fail
   go_meet
   case rel=>exact ⟨U.out _ rfl (.inr (.inr (.inl h3))),bi.out⟩
  rw [decide_eq_true h3] at b0;refine b0.out.mono ?_;rintro e w2 ⟨rfl,b4⟩;have bi:=He b4;clear b4;have eY:=vF ht;by_cases h4:c=3
  ·subst h4;by_cases h5:uf t
   ·have b5:=He (eb.out w2);rw [decide_eq_true h5] at b5;go_wp2_with fail
    refine b5.out.mono ?_;rintro e w3 ⟨rfl,rfl⟩;go_wp2_with fail
    go_meet
    case rel=>exact ⟨bt.out _ rfl (fun h=>h.elim (fun h=>h h1) fun h=>h.elim (fun h=>h h2) fun h=>h.elim (fun h=>h h3) fun h=>h.elim (fun h=>h.2 h5) (fun h=>h.1 rfl)),bi.out⟩
   ·have b5:=He (eb.out w2);rw [decide_eq_false h5] at b5;go_wp2_with fail
    refine b5.out.mono ?_;rintro e w3 ⟨rfl,rfl⟩;go_wp2_with fail
    go_meet
    case rel=>exact ⟨U.out _ rfl (.inr (.inr (.inr (.inl ⟨rfl,h5⟩)))),bi.out⟩
  ·have fm:(c==3)=false:=beq_eq_false_iff_ne.2 h4;have eZ:(c != 3)=true:=bne_iff_ne.2 h4;have fn:decide (c=3)=false:=decide_eq_false h4;by_cases h5:t=[]
   ·subst h5;go_wp2_with fail
    go_meet
    case rel=>exact ⟨bt.out _ rfl (fun h=>h.elim (fun h=>h h1) fun h=>h.elim (fun h=>h h2) fun h=>h.elim (fun h=>h h3) fun h=>h.elim (fun h=>h4 h.1) (fun h=>h.2 rfl)),bi.out⟩
   ·have fr:((strOfNums t).toList==[])=false:=by rw [eY];exact decide_eq_false h5
    go_wp2_with fail
    go_meet
    case rel=>exact ⟨U.out _ rfl (.inr (.inr (.inr (.inr ⟨h4,h5⟩)))),bi.out⟩
 case rest =>
 obtain ⟨e0,cn⟩:=hcut;subst e0;have a3:=He (ec.out.trans (cn.out.mono ec.out.size));have b6:=He (cl.out.below' cn.out);have N:=He (bl.out.below' cn.out);clear U bt bx b0 ea eb cn cl bl ec;generalize wc=w1 at *;by_cases hb:nC z m o u c t
 case pos =>
  have HE:Hid (r=(b,⟨0,0,0⟩,1)):=by unfold Hid;rw [HR.out,if_pos hb]
  obtain rfl:bad=true:=by rw [Y.out];exact decide_eq_true hb
  have h:=I.out.same (below_setRow a3.out (g:=p10) M.out.2 (jA 0 0 0));go_wp2_with (first | (refine aK rfl (.tmp 10) (.tmp 48) rfl p10 rfl 0 0 0 rfl 0 0 0 N.out ?_))
  refine bodyPost_ret (bI rfl _ _ p10 0 0 0 rfl (bh.set N.out 0 0 0)) rfl ?_;rw [HE.out];exact ⟨g,cap,rfl,h⟩
 obtain rfl:bad=false:=by rw [Y.out];exact decide_eq_false hb
 have ed:Hid (r=if Ai K b ⟨m,o,u⟩=false then (b,⟨0,0,0⟩,2)
  else if 0<=dI ⟨m,o,u⟩ z b then (b,⟨0,0,0⟩,4)
  else if leftL b<2\/nextM b=4294967295 then (b,⟨0,0,0⟩,9)
  else ((ql (gy (r6 b (bD b []) (dW c (pX (nextM b) t))) (nextM b+1)) ⟨m,o,u,z,bD b [],nextM b⟩).1,⟨K,bD b [],nextM b⟩,0)):=by unfold Hid;rw [HR.out,if_neg hb]
 have e1:Hid (ie c):=Classical.byContradiction fun h=>hb (.inl h);clear HR hb Y;go_upto_region 3 with fail
 have ev:=He (cx.out w1 a3.out);go_wp2_with (refine g6 rfl (.tmp 6) rfl p6 rfl m o u b6.out ?_)
 refine ev.out.mono ?_;by_cases b8:Ai K b ⟨m,o,u⟩=false
 case pos =>
  rw [b8];rintro e w3 ⟨rfl,Z⟩;have HE:Hid (r=(b,⟨0,0,0⟩,2)):=by unfold Hid;rw [ed.out,if_pos b8]
  have V:=He (a3.out.trans (Z.mono a3.out.size));have A:=He (N.out.below' Z);clear Z;have h:=I.out.same (below_setRow V.out (g:=p10) M.out.2 (jA 0 0 0));go_wp2_with (first | (refine aK rfl (.tmp 10) (.tmp 53) rfl p10 rfl 0 0 0 rfl 0 0 0 A.out ?_))
  refine bodyPost_ret (bI rfl _ _ p10 0 0 0 rfl (bh.set A.out 0 0 0)) rfl ?_;rw [HE.out];exact ⟨g,cap,rfl,h⟩
 have ew:Ai K b ⟨m,o,u⟩=true:=by simpa using b8
 rw [ew];rintro e w3 ⟨rfl,Z⟩;have ee:Hid (r=if 0<=dI ⟨m,o,u⟩ z b then (b,⟨0,0,0⟩,4)
  else if leftL b<2\/nextM b=4294967295 then (b,⟨0,0,0⟩,9)
  else ((ql (gy (r6 b (bD b []) (dW c (pX (nextM b) t))) (nextM b+1)) ⟨m,o,u,z,bD b [],nextM b⟩).1,⟨K,bD b [],nextM b⟩,0)):=by unfold Hid;rw [ed.out,if_neg b8]
 have V:=He (a3.out.trans (Z.mono a3.out.size));have a7:=He (b6.out.below' Z);have A:=He (N.out.below' Z);clear Z ed a3 b6 N ev cx b8 ew;have c2:=He (eo.out w3 V.out);go_upto_region 5 with fail
 go_wp2_with (refine g6 rfl (.tmp 6) rfl p6 rfl m o u a7.out ?_)
 refine c2.out.mono ?_;by_cases ef:0<=dI ⟨m,o,u⟩ z b
 case pos =>
  rw [if_neg Ha];rintro e w4 ⟨rfl,a4⟩;have HE:Hid (r=(b,⟨0,0,0⟩,4)):=by unfold Hid;rw [ee.out,if_pos ef]
  generalize im ⟨m,o,u⟩ z b=fe at *;generalize dI ⟨m,o,u⟩ z b=fi at *;have ad:=bh.new w4 0 0 0;have an:Below w3.heap.size w3 ((w4.alloc (.cells #[.int .i64 0,.int .i64 0,.int .u32 0] 82)).setRow w4.heap.size (jA K fe.p fe.n)):=a4.trans ((below_setRow (aM _) (Nat.le_refl _) _).mono a4.size);have a5:=He (V.out.trans (an.mono V.out.size));have O:=He (A.out.below' an);clear a4 an V a7 A;go_upto_region 6 with (first | (refine aK rfl (.tmp 12) (.tmp 59) rfl w4.heap.size rfl K fe.p fe.n rfl 0 0 0 ad ?_))
  have h:=I.out.same (below_setRow a5.out (g:=p10) M.out.2 (jA 0 0 0));clear ad;generalize (w4.alloc (.cells #[.int .i64 0,.int .i64 0,.int .u32 0] 82)).setRow w4.heap.size (jA K fe.p fe.n)=w5 at *;go_wp2_with (first | (refine aK rfl (.tmp 10) (.tmp 62) rfl p10 rfl 0 0 0 rfl 0 0 0 O.out ?_))
  refine bodyPost_ret (bI rfl _ _ p10 0 0 0 rfl (bh.set O.out 0 0 0)) rfl ?_;rw [HE.out];exact ⟨g,cap,rfl,h⟩
 rw [if_pos Ha];rintro e w4 ⟨rfl,a4⟩;have cp:Hid (r=if leftL b<2\/nextM b=4294967295 then (b,⟨0,0,0⟩,9)
  else ((ql (gy (r6 b (bD b []) (dW c (pX (nextM b) t))) (nextM b+1)) ⟨m,o,u,z,bD b [],nextM b⟩).1,⟨K,bD b [],nextM b⟩,0)):=by unfold Hid;rw [ee.out,if_neg ef]
 have ad:=bh.new w4 0 0 0;have an:Below w3.heap.size w3 ((w4.alloc (.cells #[.int .i64 0,.int .i64 0,.int .u32 0] 82)).setRow w4.heap.size (jA 0 0 0)):=a4.trans ((below_setRow (aM _) (Nat.le_refl _) _).mono a4.size);have a5:=He (V.out.trans (an.mono V.out.size));have c3:=He (a7.out.below' an);have O:=He (A.out.below' an);clear a4 an V a7 A eo c2 ee ef;go_upto_region 6 with (first | (refine aK rfl (.tmp 12) (.tmp 59) rfl w4.heap.size rfl 0 0 0 rfl 0 0 0 ad ?_))
 clear ad;generalize (w4.alloc (.cells #[.int .i64 0,.int .i64 0,.int .u32 0] 82)).setRow w4.heap.size (jA 0 0 0)=w5 at *;have c1:=(I.out.below a5.out).c1;have c4:=He (eq.out w5 a5.out);go_wp2_with fail
 refine c4.out.mono ?_;rintro e w6 ⟨rfl,cq⟩;have R:=He (a5.out.trans (cq.mono a5.out.size));have b9:=He (c3.out.below' cq);have C:=He (O.out.below' cq);clear cq a5 c3 O eq c4 c1;have ex:Hid (¬ leftL b<2->∃ q:Nat,bD b []=q/\q<b.length):=es;have ey:Hid (leftL b<=200):=by
  unfold Hid leftL;have h1:(fy b).count false<=(fy b).length:=List.count_le_length;have h2:(fy b).length=b.length:=bP b _;have:=T.out;omega
 have e2:=ey.out;generalize leftL b=lf at *;have c1:=(I.out.below R.out).c1;by_cases bk:lf<2
 case pos =>
  have c5:decide ((lf:Int)<2)=true:=decide_eq_true Ha;have c6:decide (lf<2)=true:=decide_eq_true bk;have HE:Hid (r=(b,⟨0,0,0⟩,9)):=by unfold Hid;rw [cp.out,if_pos (.inl bk)]
  have h:=I.out.same (below_setRow R.out (g:=p10) M.out.2 (jA 0 0 0));go_wp2_with (first | (refine aK rfl (.tmp 10) (.tmp 77) rfl p10 rfl 0 0 0 rfl 0 0 0 C.out ?_))
  refine bodyPost_ret (bI rfl _ _ p10 0 0 0 rfl (bh.set C.out 0 0 0)) rfl ?_;rw [HE.out];exact ⟨g,cap,rfl,h⟩
 have c5:decide ((lf:Int)<2)=false:=decide_eq_false Ha;have c6:decide (lf<2)=false:=decide_eq_false bk;have c7:=He (er.out w6 R.out);obtain ⟨q,hq,cr⟩:=ex.out bk;have cr:q<n:=by rw [<- T.out];exact cr
 have c8:=et;generalize ez:nextM b=j at *;have eA:=He ez;clear ez;go_wp2_with fail
 refine c7.out.mono ?_;rintro e w7 ⟨rfl,rfl⟩;by_cases a0:j=4294967295
 case pos =>
  have HE:Hid (r=(b,⟨0,0,0⟩,9)):=by unfold Hid;rw [cp.out,if_pos (.inr a0)]
  have eB:((j:Int)==4294967295)=true:=by rw [a0];rfl
  have eC:decide ((j:Int)=4294967295)=true:=decide_eq_true Ha;have h:=I.out.same (below_setRow R.out (g:=p10) M.out.2 (jA 0 0 0));clear a0;go_wp2_with (first | (refine aK rfl (.tmp 10) (.tmp 77) rfl p10 rfl 0 0 0 rfl 0 0 0 C.out ?_))
  refine bodyPost_ret (bI rfl _ _ p10 0 0 0 rfl (bh.set C.out 0 0 0)) rfl ?_;rw [HE.out];exact ⟨g,cap,rfl,h⟩
 have eB:((j:Int)==4294967295)=false:=beq_eq_false_iff_ne.2 Ha;have eC:decide ((j:Int)=4294967295)=false:=decide_eq_false Ha;have fa:j<4294967295:=by have:=c8.out;omega
 have HE:Hid (r=((ql (gy (b.set q (dW c (pX j t))) (j+1)) ⟨m,o,u,z,q,j⟩).1,⟨K,q,j⟩,0)):=by
  unfold Hid;rw [cp.out,if_neg (fun h=>h.elim bk a0),hq,yr]
 clear cp bk a0 c7 er c8 ey e2 ex es et c1;go_upto_region 10 with fail
 clear c5 c6 eB eC;have cA:(w6.alloc (.cells #[] 37)).cell? ⟨s,1,none⟩=some (.slice (some ⟨g,0,none⟩) n cap):=((I.out.below R.out).below (aM _)).c1;go_upto_region 11 with (first
  | (at_builtin
     refine lP (w0:=w) rfl (.tmp 78) (.tmp 82) rfl w6.heap.size rfl (heap_alloc_new w6 _) ((R.out).alloc R.out.size _) R.out.size g n cap b rfl T.out bn H bs.out ((I.out.below ((R.out).alloc R.out.size _)).bks) ?_;intro gb capb w8 c9 eD eg;have a8:=He c9;have cs:=He eD;have cu:=He (eg p6 _ (by have:=ah b9.out;omega) (kb (aM _) b9.out));have a9:=He (eg p10 _ (by have:=ah C.out;omega) (kb (aM _) C.out));clear c9 eD eg))
 clear cA R b9 C;have ca:=He (sC gb b n capb w8 T.out bn H bs.out a8.out.bks);rw [eA.out] at ca;go_wp2_with fail
 refine ca.out.mono ?_;rintro e w9 ⟨rfl,rfl⟩;have cb:=aV.new w8 nd0;have fs:(strOfNums t).size=t.length:=strOfNums_size t;go_upto_region 12 with (first | (refine sD rfl (.tmp 85) (.tmp 87) (.tmp 88) rfl j t rfl rfl rfl ?_) | (refine bC rfl rfl ?_) | (refine aN rfl (.tmp 15) (.tmp 89) rfl w8.heap.size rfl (Gk j t 0) nd0 rfl cb ?_))
 have cc:Below w8.heap.size w8 ((w8.alloc (.cells (bF nd0) 137)).setRow w8.heap.size (bF (Gk j t 0))):=below_setRow (aM _) (Nat.le_refl _) _;have HW:Hid (NW w gb n capb b p6 m o u p10 w8.heap.size (Gk j t 0) ((w8.alloc (.cells (bF nd0) 137)).setRow w8.heap.size (bF (Gk j t 0)))) :=
  ⟨a8.out.below cc,cs.out.trans (cc.mono cs.out.size),kb cc cu.out.1,kb cc a9.out.1,cb.set _,⟨cu.out.2,by have:=ah cu.out.1;omega,M.out.1⟩,⟨a9.out.2,by have:=ah a9.out.1;omega,M.out.2⟩,⟨by have:=a8.out.lt;omega,cs.out.size⟩⟩
 clear cc cb a8 cs cu a9 ca;generalize (w8.alloc (.cells (bF nd0) 137)).setRow w8.heap.size (bF (Gk j t 0))=fu at *;generalize w8.heap.size=p15 at *;go_wp2_with fail
 go_loopw [16] (fun i wr=>∃ k:Nat,k<=4/\i=.int .i64 k/\Hid (NW w gb n capb b p6 m o u p10 p15 (Gk j t k) wr)) (fun i _=>4-(intOf i).toNat)
 case atStart=>exact ⟨0,Ha,rfl,HW⟩
 case round =>
  obtain ⟨k,eZ,rfl,a6⟩:=hrel;clear HW;by_cases eE:k<4
  ·have fv:(k:Int)<4:=Ha;have fz:decide (4<=k)=false:=decide_eq_false Ha;have eF:=aA a6.out.nd (3+k);have fT:wr.cell? ⟨p15,3+k,none⟩=some (.int .i64 0):=by rw [af a6.out.nd];exact KP j t eE
   have e3:=He (a6.out.cell (Gl j t eE));go_wp2_with fail
   go_roundw
   case rel=>exact ⟨k+1,Ha,by go_num,e3⟩
   case measure=>simp [intOf];omega
  ·obtain rfl:k=4:=Ha;rw [Gm] at a6;obtain ⟨eh,eG⟩:∃ eh,eh=wr:=⟨wr,rfl⟩
   go_upto_region 16 with fail
   have ei:=He (pY gb b n capb none [] 0 0 wr T.out H bs.out a6.out.row.bks rfl Ha (fun i x h=>by cases h) (fun t h=>by cases h));rw [hq] at ei;go_wp2_with fail
   refine ei.out.mono ?_;rintro e e4 ⟨rfl,dc⟩;have ej:=He (a6.out.below dc);clear dc ei a6 eG eh;have eH:jY (pX j t):=Kv Ha ht d8;have eI:=He (ui c (pX j t) e4 eH d8);go_wp2_with (refine aZ rfl (.tmp 15) rfl p15 rfl (pX j t) ej.out.nd ?_)
   refine eI.out.mono ?_;rintro e eJ ⟨rfl,dn⟩;have cv:=He (ej.out.below dn);clear dn eI ej;have eK:Hid ((cX c (pX j t)).length=56):=kv;have eL:=He (cv.out.row.there (i:=q) cr);have f0:(q:Int)<n:=Ha;have f1:decide (n<=q)=false:=decide_eq_false Ha;obtain ⟨xq,eM⟩:∃ x,b[q]?=some x:=⟨_,List.getElem?_eq_getElem (by rw [T.out];exact cr)⟩
   have eN:=He eM;clear eM eH;have eO:Hid ((dW c (pX j t)).Ok):=vS (by have:=e1.out;unfold ie at this;omega) ht;go_upto_region 18 with (first
    | (refine wpList_store_mid rfl 37 (.tmp 107) (.tmp 105) rfl gb (q*57) (ab (fg c (pX j t)) (cX c (pX j t))) rfl rfl (by rw [aP eK.out];exact eL.out) (by rw [aP eK.out];exact db) (ke _ _) ?_))
   rw [bu];have cw:Hid (NW w gb n capb (b.set q (dW c (pX j t))) p6 m o u p10 p15 (pX j t) (eJ.setCells gb (q*57) (blkL (fg c (pX j t)) (cX c (pX j t))))):=cv.out.row_ (cv.out.row.setB (y:=dW c (pX j t)) eN.out eO.out) (cN gb _ _ _);clear eL cv eN eO;generalize eJ.setCells gb (q*57) (blkL (fg c (pX j t)) (cX c (pX j t)))=e5 at *;generalize b.set q (dW c (pX j t))=b1 at *;have cg:=cw.out.nd.cells.1;have eP:IntKind.u32.wrap ((j:Int)+1)=((j+1:Nat):Int):=by rw [IntKind.wrap_u32];omega
   have eQ:IntKind.u32.wrap ((pX j t).g+1)=((j+1:Nat):Int):=eP;have eR:=He (tn w.heap.size gb n capb b1 (j+1) e5 cw.out.row bn H Ha);go_wp2_with fail
   refine eR.out.mono ?_;rintro e e6 ⟨rfl,dv,dT⟩;have L:=He (cw.out.row_ dv dT);clear dv dT eR cw cg eP eQ;generalize gy b1 (j+1)=b2 at *;have cg:=L.out.nd.cells.1;have eS:Fk ⟨m,o,u,z,q,j⟩:=⟨d9.out.l,d9.out.a,d9.out.g,d7,(by show z.length<=_;omega),⟨by show (-2 ^ 63:Int)<=(q:Int);omega,by show (q:Int)<=2 ^ 63;omega⟩,⟨by show (0:Int)<=(j:Int);omega,by show (j:Int)<=4294967295;omega⟩⟩
   have eT:=He (DF w.heap.size gb n capb b2 ⟨m,o,u,z,q,j⟩ e6 L.out.row L.out.bel.size bn H eS el);clear eS;go_wp2_with (first
    | (refine g6 rfl (.tmp 6) rfl p6 rfl m o u L.out.d ?_)
    | (refine wpList_plain rfl fun _ hK=>AH (.tmp 116) (.tmp 117) (.tmp 118) (.tmp 120) rfl m o u z q j rfl rfl rfl rfl (hK _ _ ?_)))
   refine eT.out.mono ?_;rintro e e7 ⟨g',S,rfl,ch,_,bb⟩;have ci:=He (L.out.bel.trans (bb.mono L.out.bel.size));have d1:=He (kb bb L.out.r);have eU:=He (kb bb L.out.nd);have a1:=He (I.out.put ci.out (ch.mono eX));have e8:=(I.out.below ci.out).c1;have eF:=(I.out.below ci.out).f 1;have d2:s≠p10:=fun e=>by have:=L.out.h10.2.2;have:=ah I.out.box;omega
   have eV:s≠p15:=fun e=>by have:=L.out.h15.2;have:=ah I.out.box;omega
   have ek:=L.out.h10.2.2;have e9:p10≠g':=DH d1.out ch;clear ch bb eT L cg;go_upto_region 20 with fail
   generalize ck:e7.setCell ⟨s,1,none⟩ (.slice (some ⟨g',0,none⟩) n S)=X at *;have d3:Hid (bh X p10 0 0 0):=by unfold Hid bh;rw [<- ck,heap_setCell_other _ _ _ _ (fun e=>d2 (by rw [e]))];exact d1.out
   have d4:Hid (aV X p15 (pX j t)):=by unfold Hid aV;rw [<- ck,heap_setCell_other _ _ _ _ (fun e=>eV (by rw [e]))];exact eU.out
   have q0:X.drew.cell? ⟨s,0,none⟩=some (.int .i64 K):=a1.out.1.c0;have q1:X.drew.cell? ⟨p15,0,none⟩=some (.int .u32 (j:Int)):=d4.out.cells.1;have d5:Hid (bh X.drew p10 0 0 0):=d3.out;have d6:Hid (lQ X.drew B s g' n S K (ql b2 ⟨m,o,u,z,q,j⟩).1/\w.grownBy X.drew (some s)):=⟨a1.out.1.below (Below.refl _ _).drew,a1.out.2.os,a1.out.2.tape,a1.out.2.output,a1.out.2.size,a1.out.2.block⟩
   clear e8 eF ck d3 d4 a1
   go_still_tail 8,Hc
   change wpList _ _ _ _ _ X.drew;clear q0 q1;generalize X.drew=eW at *;have HF:Hid (lQ (eW.setRow p10 (jA K q j)) B s g' n S K (ql b2 ⟨m,o,u,z,q,j⟩).1/\w.grownBy (eW.setRow p10 (jA K q j)) (some s)):=d6.out.1.offRow d6.out.2 d2 ek e9;go_wp2_with (refine aK rfl (.tmp 10) (.tmp 134) rfl p10 rfl K q j rfl 0 0 0 d5.out ?_)
   refine bodyPost_ret (bI rfl _ _ p10 K q j rfl (bh.set d5.out K q j)) rfl ?_;rw [HE.out];exact ⟨g',S,rfl,HF.out⟩
section
variable {w0 W W':World} {pb:Nat} {A:Option Addr} {bs:List Int} {c nn N:Nat}
end
theorem I9 (n:Nat):(madeCells (Value.agg (ab 0 az)).cells (n*57)).toList=bksL (List.replicate n zB):=by
 have d:(Value.agg (ab 0 az)).cells=ab 0 az:=rfl;have a:dO (List.replicate n zB):=fun x f=>by rw [List.eq_of_mem_replicate f];exact yo
 rw [d];unfold madeCells;apply List.ext_getElem?;intro j;by_cases hj:j<n*57
 ·have g:j%57<57:=Nat.mod_lt _ Ha;have hd:j/57<n:=Ha;obtain ⟨v,b⟩:∃ v,(blkL 0 az)[j%57]?=some v:=⟨_,List.getElem?_eq_getElem (by rw [bf ak];exact g)⟩
  have c:=qs a (i:=j/57) (x:=zB) (by rw [List.getElem?_replicate,if_pos hd]) b;rw [show j/57*57+j%57=j by omega] at c;rw [c];have h:(ab 0 az)[j%57]?=some v:=by unfold ab;simpa using b
  have k:(ab 0 az).size=57:=aP ak;simp only [Array.getElem?_toList,Array.getElem?_map,Array.getElem?_range,hj,if_true,Option.map_some,k];rw [getElem!_def,h]
 ·have e:(bksL (List.replicate n zB)).length=n*57:=by rw [gz,dN (jg a),List.length_replicate]
  rw [List.getElem?_eq_none (by simp;omega),List.getElem?_eq_none (by rw [e];omega)]
theorem yR (w:World):Calls Tryz.prog 39 #[] w fun e w'=>e=.returned (jO (-1) 0 0)/\Below w.heap.size w w':=by
 go_enter Tryz.func39,Tryz.ntmps39;have a:=bh.new w 0 0 0;have HB:=He (below_setRow (aM (w:=w) (.cells #[.int .i64 0,.int .i64 0,.int .u32 0] 82)) (Nat.le_refl _) (jA (-1) 0 0));go_wp2_with (first | (refine aK rfl (.tmp 0) (.tmp 1) rfl w.heap.size rfl (-1) 0 0 rfl 0 0 0 a ?_))
 refine bodyPost_ret (nt rfl _ _ w.heap.size (-1) 0 0 rfl (a.set (-1) 0 0)) rfl ?_;exact ⟨rfl,HB.out⟩
def sF (n:Nat):List Bk:=(List.replicate n zB).set 0 ⟨7,az.set 3 1⟩
theorem Ja (n:Nat):dO (sF n):=fun x a=>by
 rcases List.mem_or_eq_of_mem_set a with h | h
 ·rw [List.eq_of_mem_replicate h];exact yo
 ·subst h;exact ⟨by show (0:Int)<=7/\(7:Int)<=7;omega,by show (az.set 3 1).length=56;rw [List.length_set];exact ak,fun y b=>by
   rcases List.mem_or_eq_of_mem_set b with h | h
   ·exact fc y h
   ·subst h;exact ⟨Ha,Ha⟩⟩
theorem Gp (n:Nat):(sF n).length=n:=by unfold sF;rw [List.length_set,List.length_replicate]
theorem uT {n i:Nat} {x:Bk} (h:(sF n)[i]?=some x):x.k=0\/x.k=7:=by
 rcases List.mem_or_eq_of_mem_set (List.mem_of_getElem? h) with h | h
 ·rw [List.eq_of_mem_replicate h];exact .inl rfl
 ·subst h;exact .inr rfl
theorem yS {n:Nat} (h:2<=n) (d:n<=200):Ft (sF n) d0:=by
 have f:(sF n)[0]?=some ⟨7,az.set 3 1⟩:=by unfold sF;rw [List.getElem?_set_self (by rw [List.length_replicate];omega)]
 have c:ik (sF n) 0=⟨7,az.set 3 1⟩:=kN (i:=0) f;refine ⟨Ja n,by rw [Gp];exact ⟨h,d⟩,by rw [c],?_,fun i x b a=>?_,fun i x b a=>?_⟩
 ·unfold nextM;rw [c];decide
 ·rcases uT b with e | e <;> rw [e] at a <;> unfold ie at a <;> omega
 ·rcases uT b with e | e <;> rw [e] at a <;> omega
theorem cE.kindS {w:World} {B g n cap:Nat} {l:List Bk} (h:cE w B g n cap l) {i:Nat} {x:Bk} (a:l[i]?=some x) {v:Int} (j:0<=v/\v<=7):cE (w.setCell ⟨g,i*57,none⟩ (.int .i64 v)) B g n cap (l.set i ⟨v,x.bs⟩):=by
 have e:=h.ok x (List.mem_of_getElem? a);have c:i<n:=by rw [<- h.len];exact (List.getElem?_eq_some_iff.1 a).1
 have f:(i+1)*57<=n*57:=Nat.mul_le_mul_right _ c;refine ⟨?_,by rw [List.length_set];exact h.len,fun y d=>?_⟩
 ·have:=mX h.own (k:=i*57) Ha (.int .i64 v)
  rwa [gz,show i*57=i*57+0 by omega,nY (jg h.ok) (y:=⟨v,x.bs⟩) a Ha (by show blkL v x.bs=(blkL x.k x.bs).set 0 (.int .i64 v);rfl),<- gz] at this
 ·rcases List.mem_or_eq_of_mem_set d with d | rfl
  ·exact h.ok y d
  ·exact ⟨j,e.len,e.b⟩
structure NS (w:World) (s g n:Nat) (pl:Int) (a:Bool) (W:World):Prop where
 box:W.heap[s]?=some (.cells #[.int .i64 pl,.slice (some ⟨g,0,none⟩) n n] 58 (0,0))
 row:cE W w.heap.size g n n ((List.replicate n zB).set 0 ⟨if a=true then 7 else 0,az⟩)
 bel:Below w.heap.size w W
theorem L2 {n:Nat} (h:0<n):(List.replicate n zB).set 0 ⟨if false=true then 7 else 0,az⟩=List.replicate n zB:=by
 cases n with
 | zero=>omega
 | succ n=>rfl
theorem Jb {n:Nat} (h:0<n) (y:Bk):((List.replicate n zB).set 0 y)[0]?=some y:=by rw [List.getElem?_set_self (by rw [List.length_replicate];exact h)]
def MR (s g n:Nat) (i:Nat) (v:Value) (W:World):Prop :=
 match i with
 | 0 | 1 | 4 | 5=>v=.pointer (some ⟨s,0,none⟩)
 | 2 | 6=>v=.pointer (some ⟨s,1,none⟩)
 | 3 | 7=>v=.slice (some ⟨g,0,none⟩) n n
 | 8 | 9 | 11=>v=.pointer (some ⟨g,0,none⟩)
 | 12=>v=.pointer (some ⟨g,1,none⟩)
 | 13=>v=.pointer (some ⟨g,4,none⟩)
 | _=>True
theorem sG (l:Int) (n:Nat) (w:World) (h2:2<=n) (a1:n<=200) :
 Calls Tryz.prog 37 #[.int .i64 l,.int .i64 n] w fun e w'=>∃ s g,e=.returned (.pointer (some ⟨s,0,none⟩))/\lQ w' w.heap.size s g n n l (sF n)/\Below w.heap.size w w':=by
 go_enter Tryz.func37,Tryz.ntmps37;obtain ⟨i0,hi,A,B,C⟩:=info_parts zj;have X:=run_make (P:=Tryz.prog) w 23 37 i0 _ Tryz.underlying23 hi A .i64 .i64 (n:Int) (n:Int) Ha Ha (by rw [C];omega) Ha;generalize hC:madeCells (Value.agg (ab 0 az)).cells ((n:Int).toNat*i0.size)=q at X;have Y:Hid (q.toList=bksL (List.replicate n zB)):=by
  rw [<- hC,B,Int.toNat_natCast];exact I9 n
 clear hC hi A B C;go_upto_region 2 with fail
 obtain ⟨g,r⟩:∃ g,g=w.heap.size:=⟨_,rfl⟩
 obtain ⟨s,Z⟩:∃ s,s=w.heap.size+1:=⟨_,rfl⟩
 have H:q.size=n*57:=by
  have:=congrArg List.length Y.out;rw [Array.length_toList,gz,dN (jg (fun x hx=>by rw [List.eq_of_mem_replicate hx];exact yo)),List.length_replicate] at this;exact this
 have I:Hid (cE (w.alloc (Obj.cells q 37)) w.heap.size g n n (List.replicate n zB)):=by
  refine ⟨?_,List.length_replicate,fun x hx=>by rw [List.eq_of_mem_replicate hx];exact yo⟩;rw [r];have:=World.ownsRow_lit (base:=w.heap.size) (e:=37) (size:=57) w q n (Nat.le_refl _) (by simp only [maxLen];omega) H
  rwa [Y.out] at this
 have t:=He (aM (w:=w) (Obj.cells q 37));have K:(w.alloc (Obj.cells q 37)).heap.size=s:=by rw [Z];simp
 have m:Hid (s≠g/\w.heap.size<=s):=⟨Ha,Ha⟩
 rw [<- r];generalize w.alloc (Obj.cells q 37)=w1 at *;have p:g+1=s:=Ha;rw [p];have u:=heap_alloc_new w1 (.cells #[.int .i64 l,.slice (some ⟨g,0,none⟩) n n] 58);rw [K] at u;have M:=He u;have N:=He (I.out.below (aM (.cells #[.int .i64 l,.slice (some ⟨g,0,none⟩) n n] 58)));have O:=He (t.out.alloc t.out.size (.cells #[.int .i64 l,.slice (some ⟨g,0,none⟩) n n] 58));have R:NS w s g n l false (w1.alloc (.cells #[.int .i64 l,.slice (some ⟨g,0,none⟩) n n] 58)).drew:=⟨M.out,by rw [L2 Ha];exact N.out.below (Below.refl _ _).drew,O.out.drew⟩
 clear u M I N t O K r Z H Y;have srefl:∀ (W:World),W.grownBy W (some g):=fun W=>World.grownBy.refl _ _;have a2:(0:Int)<n:=Ha;have a3:0<n:=Ha;clear p;have a4:decide (n<=0)=false:=decide_eq_false Ha;refine ax (MR s g n) (fun L W=>NS w s g n l (L 10) W) (fun _ w w'=>w.grownBy w' (some g)) Hc Hc (fun i j v w w' _ _ h Z=>by unfold MR at *;exact h) R ?_;clear R;simp only [cf];refine ⟨?_,?_,?_,?_,?_,?_,?_,?_,?_,?_,?_,?_,?_,?_,?_⟩
 ·refine aa.of rfl fun T W L hag b hJ a hd=>?_;have e5:=Hf hag 5;exact Hi
 ·refine aa.of rfl fun T W L hag b hJ a hd=>?_;have a5:T.getD 11 undef=_:=Hg hd 0 rfl;exact Hi
 ·refine aa.of rfl fun T W L hag b hJ a hd=>?_;have a6:T.getD 12 undef=_:=Hg hd 1 rfl;exact Hi
 ·refine aa.of rfl fun T W L hag b hJ a hd=>?_;have a7:T.getD 13 undef=_:=Hg hd 2 rfl;have S:=(af hJ.box 1).trans rfl;exact Hi
 ·refine aa.of rfl fun T W L hag b hJ a hd=>?_;have e5:=Hf hag 5;exact Hi
 ·refine aa.of rfl fun T W L hag b hJ a hd=>?_;have a8:T.getD 15 undef=_:=Hg hd 4 rfl;exact Hi
 ·refine aa.of rfl fun T W L hag b hJ a hd=>?_;have a9:T.getD 16 undef=_:=Hg hd 5 rfl;exact Hi
 ·refine aa.of rfl fun T W L hag b hJ a hd=>?_;have bb:T.getD 17 undef=_:=Hg hd 6 rfl;have S:=(af hJ.box 1).trans rfl;exact Hi
 ·refine aa.of rfl fun T W L hag b hJ a hd=>?_;have bi:T.getD 14 undef=_:=Hg hd 3 rfl;exact Hi
 ·refine aa.of rfl fun T W L hag b hJ a hd=>?_;have bk:T.getD 19 undef=_:=Hg hd 8 rfl;exact Hi
 ·refine aa.of rfl fun T W L hag b hJ a hd=>?_;have bl:T.getD 20 undef=_:=Hg hd 9 rfl;have U:L 10=false:=b;have c:NS w s g n l false W:=by have h:=hJ;simp only [U] at h;exact h
  have hc:=c.row.bks.kind (Jb Ha _);have ad:=c.row.free 0;have hr:=c.row.kindS (Jb Ha _) (v:=7) Ha;have r:=bw W g 0 (.int .i64 7);rw [Nat.zero_mul] at hc hr;clear hag hd hJ;go_simp;rw [List.set_set] at hr;refine ⟨trivial,?_⟩;exact ⟨by rw [heap_setCell_other _ _ _ _ (fun e=>m.out.1 (by rw [e]))];exact c.box,hr,c.bel.grown r c.bel.size (fun k e=>by injection e with e;subst e;exact c.row.lt.1)⟩
 ·refine aa.of rfl fun T W L hag b hJ a hd=>?_;have bn:T.getD 18 undef=_:=Hg hd 7 rfl;exact Hi
 ·refine aa.of rfl fun T W L hag b hJ a hd=>?_;have bs:T.getD 21 undef=_:=Hg hd 11 rfl;exact Hi
 ·refine aa.of rfl fun T W L hag b hJ a hd=>?_;have bt:T.getD 22 undef=_:=Hg hd 12 rfl;exact Hi
 ·refine bm.of rfl fun T W L hag a b hJ hd=>?_;have V:T.getD 23 undef=_:=hd 13 _ Hb rfl;obtain ⟨f,hf,hT⟩:=aJ hag;have an:=(hf 23).trans V;have HJ:=He hJ;clear hag hd V hJ hf;rw [hT];clear hT;simp only [List.pop_toArray,List.dropLast_cons_cons,List.dropLast_singleton,List.filterMap_cons,List.filterMap_nil,List.foldl_cons,List.foldl_nil,List.setIfInBounds_toArray,List.set_cons_succ,List.set_cons_zero,an];have d:=HJ.out;clear HJ;have y:L 10=true:=a 10 Hd;have hc:W.cell? ⟨g,4,none⟩=some (.int .u8 0):=by have:=d.row.bks.at_ (Jb Ha _) 4 (.int .u8 0) rfl;simpa using this
  have ad:=d.row.free 4;have z:=d.row.byte (Jb Ha _) (j:=3) Ha (v:=1) Ha;rw [List.set_set] at z;have a0:Hid (cE (W.setCell ⟨g,4,none⟩ (.int .u8 1)) w.heap.size g n n (sF n)):=by have h:=z;rw [y] at h;exact h
  clear z;have r:=He (bw W g 4 (.int .u8 1));have o:=He d;clear d;go_wp2_with fail
  go_ret;exact ⟨s,g,rfl,⟨by rw [heap_setCell_other _ _ _ _ (fun e=>m.out.1 (by rw [e]))];exact o.out.box,a0.out,m.out.1,m.out.2⟩,o.out.bel.grown r.out o.out.bel.size (fun k e=>by injection e with e;subst e;exact o.out.row.lt.1)⟩
def yT (n:Nat):List Bk × ou × Int:=Fq 0 (sF n) ⟨-1,0,0⟩ [97] 1 []
def fB (n:Nat):List Bk:=(yT n).1
def nF:Nd:=pX 1 []
theorem KQ:(yT 20).2=(⟨0,1,1⟩,0):=Hc
def DJ:BN:=⟨fB 20,20⟩
def s20:jB:=⟨[],List.replicate 20 false,nF,List.replicate 16 (-1)⟩
def Mn:Bool × Nat × jB:=za DJ [97,98] (pcM 2 2) 0 s20
def K9:List Wr:=(yK DJ 1 2 Mn).2.2
theorem Jc:K9.length=2:=Hc
def x20:Bk:=gB (DJ.N K9) 1
def La:Nd:=bo x20.k x20.bs
def Mo:List Int:=ixOf (gB (DJ.N K9) La.x)
theorem JJ:gh x20:=by unfold gh;exact of_decide_eq_true Hc
theorem M9:AF DJ K9 La Mo (pcM 0 (min 9 (La.s-0)))=[0,0,97,98]:=Hc
def MS:jB:=MB DJ 3 ⟨K9,Mn.2.2.T,La,Mo⟩
def Mp:List Wr:=MA DJ 1 3 MS
def Mq:Bk:=gB (DJ.N Mp) 1
def Mr:Nd:=bo Mq.k Mq.bs
def MT:List Int:=ixOf (gB (DJ.N Mp) Mr.x)
theorem L3:gh Mq:=by unfold gh;exact of_decide_eq_true Hc
theorem Na:AF DJ Mp Mr MT (pcM 0 (min 9 (Mr.s-0)))=[0,0,97]:=Hc
theorem L5:¬ gh (gB (DJ.N Mp) 0):=by unfold gh;exact of_decide_eq_false Hc
section
variable {C:TC} {W:World} {pv:Value} {P:List Wr} {T:List Bool}
theorem KT.h0 (h:C.K W pv P T):C.w0.heap.size<=W.heap.size:=h.tv.bel.size
theorem AI {B:BN} (h:C.bn=B) (P:List Wr):C.N P=B.N P:=by unfold TC.N;rw [h]
theorem L9 {B:BN} (h:C.bn=B):C.n=B.n:=by rw [<- h]
theorem MD {B:BN} (l:C.K W pv P T) (a:C.bn=B) (t:Int) (v:i64 t) (o:Nat) (w:o<1120) (x:Bk) (y:x=gB (B.N P) t) (nd:Nd) (p:nd=bo x.k x.bs) (ix:List Int) (q:ix=ixOf (gB (B.N P) nd.x)) (z:gh x) (A:0<B.n) (f:B.n<=200) (i:P.length<=100) (g b:Nat) (d:List Int) (m c:Nat) (H:d.length=m) (r:0<m) (s:m<=c) (I:c<=9223372036854775807) (L:ay d) (M:dK W (some ⟨g,b,none⟩) d) {Z:Array Value} {O:Nat × Nat} (u:W.heap[g]?=some (.cells Z 5 O)) (R:Bool × Nat × jB) (S:R=za B (d.take (mostN o)) (pcM o (min m (mostN o):Nat)) 0 ⟨P,T,nd,ix⟩) :
 Calls Tryz.prog 34 #[.pointer (some ⟨C.tb,0,none⟩),.int .i64 t,.int .i64 (o:Int),.slice (some ⟨g,b,none⟩) m c] W fun e w'=>e=.returned (.tuple #[.int .i64 (yK B t o R).1,.int .i64 (yK B t o R).2.1])/\∃ j,C.K w' j (yK B t o R).2.2 R.2.2.T/\dJ C W pv.ownBlock w' j.ownBlock:=by
 obtain ⟨U,V,X⟩:=l.typ u Hd Hd Hd;have h:=ss l l.h0 t o v w x (by rw [AI a];exact y) nd p ix (by rw [AI a];exact q) z (by rw [L9 a];exact A) (by rw [L9 a];exact f) i ⟨g,b,none⟩ d m c H r s I L M (ah u) U V X R (by rw [a];exact S);rw [a] at h;exact h
theorem Ma {B:BN} (f:C.K W pv P T) (a:C.bn=B) (t off n:Int) (g:i64 t) (i:i64 off) (j:i64 n) (x:Bk) (m:x=gB (B.N P) t) (nd:Nd) (b:nd=bo x.k x.bs) (ix:List Int) (c:ix=ixOf (gB (B.N P) nd.x)) (o:gh x) (p:0<=off) (q:0<=n) (d:off<=9223372036854775807) (l:List Int) (r:l=AF B P nd ix (pcM off (min n (nd.s-off)))) :
 Calls Tryz.prog 31 #[.pointer (some ⟨C.tb,0,none⟩),.int .i64 t,.int .i64 off,.int .i64 n] W fun e w'=>∃ v,e=.returned (.tuple #[v,.int .i64 0])/\w'.ownsRow W.heap.size 5 1 v l.length (Bs l)/\C.K w' pv P T/\dJ C W pv.ownBlock w' pv.ownBlock:=by
 have h:=uK f f.h0 t off n g i j x (by rw [AI a];exact m) nd b ix (by rw [AI a];exact c) o p q d;rw [a,<- r] at h;exact h
theorem ME {B:BN} (g:C.K W pv P T) (a:C.bn=B) (t:Int) (z:Nat) (i:i64 t) (j:z<=1120) (x:Bk) (l:x=gB (B.N P) t) (nd:Nd) (d:nd=bo x.k x.bs) (ix:List Int) (f:ix=ixOf (gB (B.N P) nd.x)) (m:gh x) (b:P.length<=100) (R:jB) (n:R=MB B z ⟨P,T,nd,ix⟩) :
 Calls Tryz.prog 30 #[.pointer (some ⟨C.tb,0,none⟩),.int .i64 t,.int .i64 (z:Int)] W fun e w'=>e=.returned (.int .i64 0)/\∃ c,C.K w' c (MA B t z R) R.T/\dJ C W pv.ownBlock w' c.ownBlock:=by
 have h:=IY g g.h0 t z i j x (by rw [AI a];exact l) nd d ix (by rw [AI a];exact f) m b R (by rw [a];exact n);rw [a] at h;exact h
end
theorem uU {C:TC} {W W':World} {pv:Value} {P:List Wr} {T:List Bool} (c:C.K W pv P T) {o:Option Nat} (d:dJ C W pv.ownBlock W' o) {B n:Nat} {v:Value} {xs:List Value} (h:W.ownsRow B 5 1 v n xs):W'.ownsRow B 5 1 v n xs:=fh h fun k a=>by
 obtain ⟨Z,b⟩:=bU h a;obtain ⟨e,f,g⟩:=c.typ b Hd Hd Hd;exact d.fr k (ah b) e f g
theorem MF:gh (dW 1 nF):=by unfold gh;exact of_decide_eq_true Hc
theorem MG:yK DJ 1 2 Mn=(2,0,K9):=by
 refine Prod.ext Hc (Prod.ext Hc rfl)
theorem yU (w:World):Calls Tryz.prog 28 #[] w fun e w'=>e=.returned (.bool true)/\Below w.heap.size w w':=by
 have HN:=He (sG 0 20 w Ha Ha);have b2:=He yR;go_enter Tryz.func28,Tryz.ntmps28;go_wp2_with fail
 refine HN.out.mono ?_;rintro e w1 ⟨s,g,rfl,V,X⟩;have HS:=He V;have B:=He X;clear V X HN;go_wp2_with fail
 refine (b2.out w1).mono ?_;rintro e w2 ⟨rfl,H⟩;have Y:=He (HS.out.below H);have Z:=He (B.out.trans (H.mono B.out.size));have f:=sE Y.out Ha (by constructor <;> omega) (yS Ha Ha) ⟨-1,0,0⟩ ⟨by constructor <;> decide,by constructor <;> decide,by constructor <;> decide⟩ [97] (fun x hx=>by simp at hx;omega) Hd 1 (by constructor <;> omega) [] (fun x hx=>by cases hx) Hd;change Calls Tryz.prog _ #[_,_,.string ⟨#[97]⟩,_,.string ⟨#[]⟩] _ (fun e w'=>∃ g' h,e=.returned (.tuple #[(yT 20).2.1.v,.int .i64 (yT 20).2.2])/\lQ w' _ s g' 20 h 0 (fB 20)/\_) at f;rw [KQ] at f;change Calls Tryz.prog _ _ _ (fun e w'=>∃ g' h,e=.returned (.tuple #[.agg (jA 0 1 1),.int .i64 0])/\_) at f;have ad:=He f;clear f H;go_wp2_with fail
 refine ad.out.mono ?_;rintro e o ⟨g',h,rfl,V,hg⟩;have an:=He V;have I:=He (Z.out.grown hg Z.out.size (fun k e=>by injection e with e;subst e;exact HS.out.sB));clear V hg ad HS Y B;have h2:=heap_alloc_new o (Obj.cells #[.int .i64 0,.int .i64 0,.int .u32 0] 82);have L:Below o.heap.size o ((o.alloc (Obj.cells #[.int .i64 0,.int .i64 0,.int .u32 0] 82)).setRow o.heap.size (jA 0 1 1)):=below_setRow (aM (w:=o) (Obj.cells #[.int .i64 0,.int .i64 0,.int .u32 0] 82)) (Nat.le_refl _) _;have HI:=He (am (D:=jA 0 1 1) h2);have M:=He (an.out.below L);have a0:=He (I.out.trans (L.mono I.out.size));clear L an I;go_upto_region 3 with (first | (refine aK rfl (.tmp 2) (.tmp 22) rfl o.heap.size rfl 0 1 1 rfl 0 0 0 h2 ?_))
 clear h2;generalize (o.alloc (Obj.cells #[.int .i64 0,.int .i64 0,.int .u32 0] 82)).setRow o.heap.size (jA 0 1 1)=T at *;generalize o.heap.size=p2 at *;have a1:∀ W,Below T.heap.size T W->W.cell? ⟨p2,1,none⟩=some (.int .i64 1):=fun W hb=>(af (Go.Proofs.YtegjelaejbacnaaGreat.kb hb HI.out) 1).trans rfl;have c1:=M.out.c1;have HF:=He (sm M.out.row Ha Ha);have p:=He a1;clear a1 M;go_wp2_with fail
 refine HF.out.mono ?_;rintro e w5 ⟨q,hp,rfl,F,rb,m,v,a2,a3⟩;have a4:=He (a2.new_tx Ha);have b3:=He a3;clear a2 a3 HF c1;go_wp2_with fail
 refine a4.out.mono ?_;rintro e U ⟨tb,rfl,⟨kb,a5⟩,_⟩;obtain ⟨C,hC⟩:∃ C:TC,C=⟨T,F,q,hp,rb,20,20,m,v,tb,kb⟩:=⟨_,rfl⟩
 have hk:C.K U (.slice none 0 0) [] (List.replicate 20 false):=by rw [hC];exact a5
 have a6:C.bn=DJ:=by rw [hC];show (⟨jf v,20⟩:BN)=_;rw [b3.out];rfl
 have a7:C.w0=T:=by rw [hC]
 have b4:tb=C.tb:=by rw [hC]
 have i:=He a6;have j:=He a7;have HK:=He hk;clear a5 a4 hC hk a6 a7;subst b4;have l:=p.out U (by rw [<- j.out];exact HK.out.tv.bel);have b5:=Lib.run_convert_bytes_const (P:=Tryz.prog) U 22 5 #[.int .u8 97,.int .u8 98] 2 2 Tryz.underlying22 Tryz.underlying5;have u:=aM (w:=U) (.cells #[.int .u8 97,.int .u8 98] 5 (2,3));have N:=heap_alloc_new U (.cells #[.int .u8 97,.int .u8 98] 5 (2,3));have hW:=MD (HK.out.below u) i.out 1 (by constructor <;> omega) 2 Ha (dW 1 nF) Hc nF Hc (List.replicate 16 (-1)) Hc MF Hd Hd Hd U.heap.size 0 [97,98] 2 2 rfl Ha Ha Ha (fun x hx=>by simp at hx;omega) (gC N rfl) N Mn Hc;rw [MG] at hW;have HW:=He hW;clear u N hW HK;go_wp2_with fail
 clear b5;refine HW.out.mono ?_;rintro e w7 ⟨rfl,b9,O,_⟩;have l:=p.out w7 (by rw [<- j.out];exact O.tv.bel);have HR:=He (Ma O i.out 1 0 9 (by constructor <;> omega) (by constructor <;> omega) (by constructor <;> omega) x20 rfl La rfl Mo rfl JJ Ha Ha Ha _ M9.symm);clear O HW;go_wp2_with fail
 refine HR.out.mono ?_;rintro e w8 ⟨v8,rfl,R,r,_⟩;obtain ⟨A8,c8,rfl⟩:=wn R;have l:=p.out w8 (by rw [<- j.out];exact r.tv.bel);have a8:=He R;have a9:=He r;have HT:=He (ME r i.out 1 3 (by constructor <;> omega) Ha x20 rfl La rfl Mo rfl JJ (by rw [Jc];omega) MS rfl);clear R r HR;go_wp2_with fail
 refine HT.out.mono ?_;rintro e w9 ⟨rfl,ca,t,bb⟩;have bi:=He (uU a9.out bb a8.out);have l:=p.out w9 (by rw [<- j.out];exact t.tv.bel);have bk:=He t;have HR:=He (Ma t i.out 1 0 9 (by constructor <;> omega) (by constructor <;> omega) (by constructor <;> omega) Mq rfl Mr rfl MT rfl L3 Ha Ha Ha _ Na.symm);clear t bb HT a8 a9;go_wp2_with fail
 refine HR.out.mono ?_;rintro e cb ⟨cc,rfl,n,a,y⟩;obtain ⟨b6,b8,rfl⟩:=wn n;have bl:=He (uU bk.out y bi.out);have bs:=He n;have bt:=He a;have bx:=He (FX a a.h0 0 0 1 (by constructor <;> omega) (by constructor <;> omega) (by constructor <;> omega) _ rfl _ rfl _ rfl (by rw [AI i.out];exact L5));clear n a y HR bi bk;go_wp2_with fail
 refine bx.out.mono ?_;rintro e c ⟨rfl,b⟩;obtain ⟨A,d,S,_,_,b0⟩:=bM (ic bl.out b) rfl;injection S with S _ e3;subst S e3
 obtain ⟨A,d,S,_,_,z⟩:=bM (ic bs.out b) rfl;injection S with S _ e3;subst S e3
 have b1:Hid (Below w.heap.size w c):=a0.out.trans ((by have:=(bt.out.tv.below b).bel;rw [j.out] at this;exact this:Below T.heap.size T c).mono a0.out.size);have cg:(convert 22 9 (.slice A8 4 c8)).run Tryz.prog c=.ok (.string ⟨#[0,0,97,98]⟩) c:=dB b0 rfl;have ch:(convert 22 9 (.slice b6 3 b8)).run Tryz.prog c=.ok (.string ⟨#[0,0,97]⟩) c:=dB z rfl;clear b b0 z bx;go_wp2_with fail
 go_ret;exact ⟨rfl,b1.out⟩
def JK (n:Nat):Bool:=(decide (4<=n)&&decide (n<=27))||decide (n=40)||decide (n=60)
def KR:List Nat:=(List.range 61).filter JK
theorem Jd {n:Nat} (h:JK n=true):n∈KR:=by
 unfold KR;rw [List.mem_filter];refine ⟨?_,h⟩;rw [List.mem_range];unfold JK at h;simp only [Bool.or_eq_true,Bool.and_eq_true,decide_eq_true_eq] at h;omega
theorem Mb {n:Nat} (h:JK n=true):4<=n/\n<=60:=by
 unfold JK at h;simp only [Bool.or_eq_true,Bool.and_eq_true,decide_eq_true_eq] at h;omega
def f3:List Bk:=(fB 4).take 3
theorem KU:KR.all (fun n=>decide ((yT n).2=(⟨0,1,1⟩,0))&&decide (fB n=f3++List.replicate (n-3) zB))=true:=Hc
theorem JL {n:Nat} (h:JK n=true):(yT n).2=(⟨0,1,1⟩,0)/\fB n=f3++List.replicate (n-3) zB:=by
 have:=List.all_eq_true.1 KU n (Jd h);rw [Bool.and_eq_true,decide_eq_true_eq,decide_eq_true_eq] at this;exact this
theorem Mc:f3.length=3/\(f3.getD 0 zB).k=7/\f3.getD 1 zB=dW 1 nF/\(f3.getD 2 zB).k=6/\(f3.getD 0 zB).bs.length=56/\(f3.getD 1 zB).bs.length=56/\(f3.getD 2 zB).bs.length=56:=by
 refine ⟨Hc,Hc,Hc,Hc,Hc,Hc,Hc⟩
theorem KV:aS 1 nF:=Hd
theorem JM:jY nF:=by refine ⟨?_,?_,?_,?_,?_,?_,?_,?_,(fun x a=>by cases a),Hd⟩ <;> (constructor <;> decide)
theorem Md:ig nF fY=List.replicate 21 (-1):=Hd
theorem Me {n:Nat} (h:JK n=true):(fB n).length=n/\FI (fB n) nF fY:=by
 obtain ⟨x,y⟩:=Mb h;obtain ⟨_,e⟩:=JL h;obtain ⟨q,l,m,o,r,s,u⟩:=Mc;have c:(fB n).length=n:=by rw [e,List.length_append,q,List.length_replicate];omega
 have b:∀ i:Nat,gB (fB n) (i:Int)=if i<3 then f3.getD i zB else zB:=fun i=>by
  rw [wu,e,List.getD];by_cases a:i<3
  ·rw [if_pos a,List.getElem?_append_left Ha];rfl
  ·rw [if_neg a,List.getElem?_append_right Ha,List.getElem?_replicate];split <;> rfl
 have f:∀ i:Int,(gB (fB n) i).bs.length=56:=fun i=>by
  by_cases a:0<=i
  ·obtain ⟨k,rfl⟩:∃ k:Nat,i=k:=⟨i.toNat,Ha⟩
   rw [b];split
   ·rename_i d
    match k,d with | 0,_=>exact r | 1,_=>exact s | 2,_=>exact u
   ·exact ak
  ·unfold gB;rw [if_neg a];exact ak
 have v:∀ i:Int,0<=(gB (fB n) i).k/\(gB (fB n) i).k<=7:=fun i=>by
  by_cases a:0<=i
  ·obtain ⟨k,rfl⟩:∃ k:Nat,i=k:=⟨i.toNat,Ha⟩
   rw [b];split
   ·rename_i d
    match k,d with
    | 0,_=>rw [l];decide
    | 1,_=>rw [m];exact (vS Hd JM.t).k
    | 2,_=>rw [o];decide
   ·decide
  ·unfold gB;rw [if_neg a];decide
 refine ⟨c,⟨Ha,Ha,?_,?_,?_,fun i d a=>?_,f,v,KV,JM⟩,Hd,?_,fun w=>?_,fun _=>rfl⟩
 ·have:=b 0;rw [if_pos Ha] at this;exact (congrArg Bk.k this).trans l
 ·have:=b 1;rw [if_pos Ha] at this;exact this.trans m
 ·have:=b 2;rw [if_pos Ha] at this;exact (congrArg Bk.k this).trans o
 ·rw [b,if_neg Ha];decide
 ·rw [Md];refine ⟨fun p g=>.inl (List.eq_of_mem_replicate g),fun i j p a _ g=>?_⟩;rw [List.getElem?_replicate] at a;split at a
  ·injection a with a;exact absurd a.symm g
  ·cases a
 ·exact absurd Hd w
theorem MH {n:Nat} (h:JK n=true) {q:Nat} (b:q<1120):cB (fB n) nF fY q=0:=by
 unfold cB;have:fw nF fY (q/56) = -1:=by
  have a:=dY (nd:=nF) (ix:=fY) Hd (show q/56<20 by omega);rw [Md,List.getElem?_replicate,if_pos Ha] at a;injection a with a;exact a.symm
 rw [this,F5];show az.getD _ 0=0;unfold az;rw [List.getD,List.getElem?_replicate];split <;> rfl
theorem BX:∀ (P:List Wr) (lo n:Int),P.Pairwise (fun a b=>a.t<b.t)->(∀ x∈P,lo<=x.t/\x.t<n)->lo<=n->(P.length:Int)<=n-lo
 | [],lo,n,_,_,h=>by simp;omega
 | x :: l,lo,n,c,d,h=>by
   rw [List.pairwise_cons] at c;have f:=d x Hb;have:=BX l (x.t+1) n c.2 (fun y e=>⟨by have:=c.1 y e;omega,(d y (by simp [e])).2⟩) Ha;rw [List.length_cons];omega
theorem BP.few {B:BN} {P:List Wr} (h:BP B P):P.length<=B.n:=by
 have:=BX P 0 B.n h.srt (fun x a=>by have:=h.inn x a;omega) Ha;omega
structure KF (C:TC) (W:World) (pv:Value) (P:List Wr) (T:List Bool) (nd:Nd) (ix:List Int):Prop where
 k:C.K W pv P T
 b:BP C.bn P
 f:FI (C.N P) nd ix
 n:C.n<=65
section
variable {C:TC} {W W':World} {pv:Value} {P:List Wr} {T:List Bool} {nd:Nd} {ix:List Int}
theorem KF.len (h:KF C W pv P T nd ix):(C.N P).length=C.n:=h.b.len
theorem KF.pos (h:KF C W pv P T nd ix):0<C.n:=by have:=h.f.g.l3;rw [h.len] at this;omega
theorem KF.below (h:KF C W pv P T nd ix) (a:Below W.heap.size W W'):KF C W' pv P T nd ix:={ h with k:=h.k.below a }
theorem KF.base (h:KF C W pv P T nd ix):Below C.w0.heap.size C.w0 W:=h.k.tv.bel
theorem KF.old (h:KF C W pv P T nd ix) {g:Nat} (a:g<C.w0.heap.size):g<W.heap.size/\g≠C.tb/\g≠C.kb/\pv.ownBlock≠some g:=by
 have:=h.k.lt;have:=h.k.lk;have:=h.k.h0;exact ⟨Ha,Ha,Ha,fun e=>by have:=h.k.lo g e;omega⟩
theorem KF.s (h:KF C W pv P T nd ix):0<=nd.s/\nd.s<=1120:=(nA h.f.g.may).2.1
theorem yV (o:Nat) (h:o<1120):0<mostN o/\o+mostN o<=1120/\mostN o<=224:=by
 unfold mostN;rw [Nat.min_def];split <;> omega
theorem KF.write (h:KF C W pv P T nd ix) (S:MI (C.N P) T nd nd ix) (o:Nat) (L:o<1120) (r:Addr) (d:List Int) (t c:Nat) (hd:d.length=t) (z:0<t) (A:t<=c) (U:c<=9223372036854775807) (V:ay d) (X:dK W (some r) d) (w:r.block<W.heap.size/\r.block≠C.tb/\r.block≠C.kb/\pv.ownBlock≠some r.block) (i:Nat) (v:i=min t (mostN o)) (u:2*(pcM o i).length<=(KL C.n (ig nd ix)).count false) :
 Calls Tryz.prog 34 #[.pointer (some ⟨C.tb,0,none⟩),.int .i64 1,.int .i64 (o:Int),.slice (some r) t c] W fun e w'=>e=.returned (.tuple #[.int .i64 (i:Nat),.int .i64 0])/\∃ l P' y a g,KF C w' l P' y a g/\MI (C.N P') y a a g/\dJ C W pv.ownBlock w' l.ownBlock/\a.s=max nd.s ((o:Int)+i)/\(∀ q,q<1120->cB (C.N P') a g q=if o<=q/\q<o+i then d.getD (q-o) 0 else cB (C.N P) nd ix q)/\(∀ j,j<20->(fw a g j = -1↔fw nd ix j = -1/\∀ p∈pcM o i,p.1≠j))/\(a.x = -1↔nd.x = -1/\∀ p∈pcM o i,p.1<4)/\(P=[]->P'.length<=2+(pcM o i).length):=by
 obtain ⟨m1,m2,m3⟩:=yV o L;have M:i<=mostN o/\i<=t:=by rw [v,Nat.min_def];split <;> omega
 obtain ⟨Y,o2,Z,o4⟩:=h.f.opened;obtain ⟨R,O⟩:∃ R,R=za C.bn (d.take (mostN o)) (pcM o (i:Nat)) 0 ⟨P,T,nd,ix⟩:=⟨_,rfl⟩
 have hw:=ss h.k h.k.h0 1 o (by constructor <;> omega) L (dW 1 nd) Y.symm nd o2 ix Z o4 h.pos (by have:=h.n;omega) (by have h1:P.length<=C.n:=h.b.few;have:=h.n;omega) r d t c hd z A U V X w.1 w.2.1 w.2.2.1 w.2.2.2 R (by rw [O,v]);obtain ⟨w1,w2⟩:=Gh (C:=C.bn) h.b h.f S (o:=o) (m:=i) Ha (d.take (mostN o)) (by rw [List.length_take];omega) R O;obtain ⟨a,g,y,e1,eT,hb,hf,B,hs,H,hj,hx,I⟩:=w2 (w1 u);refine hw.mono ?_;rintro e w' ⟨rfl,l,hk,K⟩;refine ⟨by rw [e1],l,_,y,a,g,⟨by rw [<- eT];exact hk,hb,hf,h.n⟩,B,K,hs,fun q hq=>?_,hj,hx,I⟩;rw [H q hq];split
 ·rw [List.getD,List.getD,List.getElem?_take,if_pos Ha]
 ·rfl
theorem KF.read (h:KF C W pv P T nd ix) (off n:Nat) (c:off<=1120) (u:n<=1000000) (m:Nat) (a:(m:Int)=min (n:Int) (nd.s-off)\/(m=0/\nd.s<off)) :
 Calls Tryz.prog 31 #[.pointer (some ⟨C.tb,0,none⟩),.int .i64 1,.int .i64 (off:Int),.int .i64 (n:Int)] W fun e w'=>∃ v,e=.returned (.tuple #[v,.int .i64 0])/\w'.ownsRow W.heap.size 5 1 v m (Bs (kP (C.N P) nd ix off m))/\KF C w' pv P T nd ix/\dJ C W pv.ownBlock w' pv.ownBlock:=by
 obtain ⟨j,o2,l,o⟩:=h.f.opened;have w:=h.s;have i:=uK h.k h.k.h0 1 off n (by constructor <;> omega) (by constructor <;> omega) (by constructor <;> omega) (dW 1 nd) j.symm nd o2 ix l o Ha Ha Ha;have e:AF C.bn P nd ix (pcM off (min (n:Int) (nd.s-off)))=kP (C.N P) nd ix off m:=by
  rcases a with a | ⟨p,q⟩
  ·rw [<- a];exact LZ h.f.g.l56 (by rw [Int.min_def] at a;split at a <;> omega)
  ·subst p;unfold pcM;rw [if_neg (by rw [Int.min_def];split <;> omega)];rfl
 rw [e] at i;refine i.mono ?_;rintro e w' ⟨v,rfl,c,r,d⟩;have t:(kP (C.N P) nd ix off m).length=m:=by unfold kP;simp
 rw [t] at c;exact ⟨v,rfl,c,⟨r,h.b,h.f,h.n⟩,d⟩
theorem KF.anew (a:C.K W pv [] (List.replicate C.n false)) (b:FI (jf C.v) nd ix) (e:C.n<=65):KF C W pv [] (List.replicate C.n false) nd ix/\MI (C.N []) (List.replicate C.n false) nd nd ix:=by
 have c:C.N []=jf C.v:=rfl;have d:(jf C.v).length=C.n:=a.bl;refine ⟨⟨a,⟨d,List.Pairwise.nil,fun x f=>by cases f⟩,by rw [c];exact b,e⟩,?_⟩;rw [c];exact b.mi0 d
theorem KF.ch (h:KF C W pv P T nd ix) (d:P.length<=12):P=[]\/gE C.v P:=by
 by_cases e:P=[]
 ·exact .inl e
 ·refine .inr ⟨⟨⟨by have:=List.length_pos_iff.2 e;omega,d⟩,fun x c=>?_,uP h.b.srt⟩,?_⟩
  ·have a:0<=x.t/\x.t<C.n:=h.b.inn x c;have j:(C.N P)[x.t.toNat]?=some ⟨x.k,x.bs⟩:=iy P C.bn.b h.b.srt x c a.1 (by rw [h.b.bl];exact a.2);have i:=h.f.g.k7 x.t;rw [show x.t=(x.t.toNat:Int) by omega,BG j] at i;have:=h.n;exact ⟨i,a.1,Ha⟩
  ·unfold dz;rw [List.all_eq_true];intro x c;have a:0<=x.t/\x.t<C.n:=h.b.inn x c;unfold it;rw [Bool.and_eq_true,decide_eq_true_eq,decide_eq_true_eq,h.k.vn];exact a
theorem KF.commit (h:KF C W pv P T nd ix) (f:P.length<=12) (i:C.c<=200) :
 Calls Tryz.prog 19 #[.pointer (some ⟨C.tb,0,none⟩)] W fun e w'=>e=.returned (.int .i64 0)/\∃ d g v',TV C.w0 w' d C.q C.hp C.rb C.n (C.c+1) g v'/\jf v'=C.N P/\(∀ k,sf W C.F C.hp C.rb k->k≠C.tb->w'.heap[k]?=W.heap[k]?)/\(∀ k,k<W.heap.size->¬ C.F k->¬ d k)/\W.heap.size<=w'.heap.size:=by
 have a:=h.ch f;have b:=h.k.commit i h.n;simp only [if_pos a] at b;refine b.mono ?_;rintro e w' ⟨rfl,d,g,j,l,m,o,p⟩;refine ⟨rfl,d,g,_,p.tv,?_,j,l,m⟩;by_cases e:P=[]
 ·rw [if_pos e,e];rfl
 ·rw [if_neg e,EI (a.resolve_left e)];rfl
theorem Je (L:List Int):(realL L).length<=L.length:=List.length_filter_le _ _
theorem FI.room {N:List Bk} (h:FI N nd ix):N.length<=(KL N.length (ig nd ix)).count false+24:=by
 have b:=h.nm.count h.g.l3;have a:=Je (ig nd ix);rw [oE h.il] at a;omega
end
end Go.Proofs.YtegjelaejbacnaaGreat
