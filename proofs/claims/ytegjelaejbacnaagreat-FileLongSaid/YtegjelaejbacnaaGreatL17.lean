/- For FileLong: contracts and facts, part 17. -/
import Derived.Deep.DeepCutAuto
import Derived.StillTailTactics
import Derived.Laws.ResultCell
import Derived.Laws.Tables
import Derived.Laws.Rows
import Derived.Laws.StructEq
import Derived.Deep.Onto
import Derived.Test.YtegjelaejbacnaaGreatL01
import Derived.Test.YtegjelaejbacnaaGreatL02
import Derived.Test.YtegjelaejbacnaaGreatL03
import Derived.Test.YtegjelaejbacnaaGreatL05
import Derived.Test.YtegjelaejbacnaaGreatL09
import Derived.Test.YtegjelaejbacnaaGreatL15
set_option maxRecDepth 100000
set_option maxHeartbeats 25600000
set_option linter.unusedVariables false
open Go.ChangeShapes Go.WideShapes Go.ChangeAt Go.RowKit
namespace Go.Proofs.YtegjelaejbacnaaGreat
open Fx
def jO (l a g:Int):Value:=.agg #[.int .i64 l,.int .i64 a,.int .u32 g]
def ju (l a:Int):Prop:=0<=l/\l<8/\1<=a/\a<200
def gL (l a g:Int):Prop:=(l = -1/\a=0/\g=0)\/(ju l a/\1<=g)
instance (l a:Int):Decidable (ju l a):=by unfold ju;infer_instance
instance (l a g:Int):Decidable (gL l a g):=by unfold gL;infer_instance
theorem j1:(Tryz.prog.info? 82).map (·.size)=some 3:=Hc
def jA (l a g:Int):Array Value:=#[.int .i64 l,.int .i64 a,.int .u32 g]
theorem Ko (l a g:Int):jO l a g=.agg (jA l a g):=rfl
theorem Bt (l a g:Int):(jA l a g).all (·.oneCell')=true:=by unfold jA;simp [Value.oneCell']
def bh (w:World) (p:Nat) (l a g:Int):Prop:=w.heap[p]?=some (.cells (jA l a g) 82 (0,0))
theorem bh.below {w w':World} {p:Nat} {l a g:Int} (h:bh w p l a g) (b:Below w.heap.size w w'):bh w' p l a g:=kb b h
theorem bh.new (w:World) (l a g:Int):bh (w.alloc (Obj.cells #[.int .i64 l,.int .i64 a,.int .u32 g] 82)) w.heap.size l a g:=heap_alloc_new _ _
theorem bh.alloc {w:World} {p:Nat} {l a g:Int} (h:bh w p l a g) (o:Obj):bh (w.alloc o) p l a g:=kb (aM o) h
theorem bh.grown {w w':World} {p:Nat} {l a g:Int} (h:bh w p l a g) (b:w.grownBy w' none):bh w' p l a g:=by
 unfold bh;rw [b.block p (ah h) Hb];exact h
theorem bh.set {w:World} {p:Nat} {l a g:Int} (h:bh w p l a g) (b c d:Int):bh (w.setRow p (jA b c d)) p b c d:=am h
theorem bh.cell {w:World} {p:Nat} {l a g:Int} (h:bh w p l a g) (i:Nat):w.cell? ⟨p,i,none⟩=(jA l a g)[i]?:=af h i
section
variable {ops:Array Oper} {rest:List Oper} {o:Oper} {ac:Act} {w:World} {Q:Exit->Act->World->Prop}
theorem aK (b:o.guard=none) (x y:Operand) (c:o.op=.store 82 x y) (p:Nat) (d:ac.eval x=.pointer (some ⟨p,0,none⟩)) (l a g:Int) (e:ac.eval y=.agg (jA l a g)) (f i j:Int) (k:bh w p f i j)
 (h:wpList Tryz.prog ops Q rest (ac.put o.dst undef) (w.setRow p (jA l a g))):wpList Tryz.prog ops Q (o :: rest) ac w :=
 wpList_store_row b 82 x y c p _ d e _ _ k j1 rfl (Bt _ _ _) h
theorem g6 (b:o.guard=none) (x:Operand) (c:o.op=.load 82 x) (p:Nat) (d:ac.eval x=.pointer (some ⟨p,0,none⟩)) (l a g:Int) (e:bh w p l a g)
 (h:wpList Tryz.prog ops Q rest (ac.put o.dst (.agg (jA l a g))) w):wpList Tryz.prog ops Q (o :: rest) ac w :=
 wpList_load_row b 82 x c p d _ _ _ _ e Tryz.underlying82 rfl j1 h
theorem C3 {K:Act->World->Prop} (x y:Operand) (b:o.op=.store 82 x y) (p:Nat) (c:ac.eval x=.pointer (some ⟨p,0,none⟩)) (l a g:Int) (d:ac.eval y=.agg (jA l a g)) (e f i:Int) (j:bh w p e f i)
 (h:K (ac.put o.dst undef) (w.setRow p (jA l a g))):o.wp Tryz.prog ac w K Q :=
 wp_store_row 82 x y b p _ c d _ _ j j1 rfl (Bt _ _ _) h
theorem lD {K:Act->World->Prop} (x:Operand) (b:o.op=.load 82 x) (p:Nat) (c:ac.eval x=.pointer (some ⟨p,0,none⟩)) (l a g:Int) (d:bh w p l a g)
 (h:K (ac.put o.dst (.agg (jA l a g))) w):o.wp Tryz.prog ac w K Q :=
 wp_load_row 82 x b p c _ _ _ _ d Tryz.underlying82 rfl j1 h
theorem iJ (b:Region.wanted o (yielded ops ac.tmps)=true) (x:Operand) (c:o.op=.load 82 x) (p:Nat) (d:ac.eval x=.pointer (some ⟨p,0,none⟩)) (l a g:Int) (e:bh w p l a g)
 (h:wpList Tryz.prog ops Q rest (ac.put o.dst (.agg (jA l a g))) w):wpList Tryz.prog ops Q (o :: rest) ac w :=
 BigFrame.wpList_want b fun _ f=>wp_load_row 82 x c p d _ _ _ _ e Tryz.underlying82 rfl j1 (f _ _ h)
end
theorem nt {b:Func} {p:Tmp} (h:b.results=#[.cell p 82]) (tmps:Array Value) (w:World) (q:Nat) (l a g:Int) (hp:tmps.getD p undef=.pointer (some ⟨q,0,none⟩)) (c:bh w q l a g) :
 (results b tmps).run Tryz.prog w=.ok (jO l a g) w :=
 results_cell_row h tmps w q _ _ _ _ hp c Tryz.underlying82 rfl j1
theorem bI {b:Func} {p u:Tmp} (h:b.results=#[.cell p 82,.tmp u]) (tmps:Array Value) (w:World) (q:Nat) (l a g:Int) (hp:tmps.getD p undef=.pointer (some ⟨q,0,none⟩)) (c:bh w q l a g) :
 (results b tmps).run Tryz.prog w=.ok (.tuple #[jO l a g,tmps.getD u undef]) w:=by
 rw [results_cell_tmp h,hp];simp only [asAddr,Sem.run_pure,Result.andThen_ok];rw [run_loadVar_row w q _ _ _ _ _ c Tryz.underlying82 rfl j1];rfl
theorem C4 (w:World):Calls Tryz.prog 39 #[] w fun e w'=>e=.returned (jO (-1) 0 0)/\Below w.heap.size w w':=by
 have a:=He (bh.new w 0 0 0);have HB:=He (aM (w:=w) (Obj.cells #[.int .i64 0,.int .i64 0,.int .u32 0] 82));go_enter Tryz.func39,Tryz.ntmps39;go_wp2_with (refine aK rfl (.tmp 0) (.tmp 1) rfl w.heap.size rfl (-1) 0 0 rfl 0 0 0 a.out ?_)
 refine bodyPost_ret (nt rfl _ _ w.heap.size (-1) 0 0 rfl (a.out.set _ _ _)) rfl ?_;exact ⟨rfl,below_setRow HB.out (Nat.le_refl _) _⟩
theorem mh (a:Addr) (i:Nat) (h:i≠0):a.add i=⟨a.block,a.off+i,none⟩:=by unfold Addr.add;rw [if_neg h]
theorem C5 (a:Addr):a.add 0=a:=by unfold Addr.add;simp
theorem LJ (l a g b c d:Int) (w:World):(binOp .eql 82 (.agg #[.int .i64 l,.int .i64 a,.int .u32 g]) (.agg #[.int .i64 b,.int .i64 c,.int .u32 d])).run Tryz.prog w=.ok (.bool (decide (l=b/\a=c/\g=d))) w:=by
 have o:=Tryz.underlying3;have p:=Tryz.isAgg3;have q:=Tryz.sizeOf3;have h:=Tryz.underlying80;have i:=Tryz.isAgg80;have j:=Tryz.sizeOf80;have e:Tryz.prog.underlying 82=some (.struct (Tryz.prog.fieldsOf 82)):=Hc;have f:Tryz.prog.stoodInHeld 82=false:=Hc;rw [run_eql_struct,show (10000:Nat)=9998+1+1 from rfl,run_equalIn_agg w (9998+1) 82 _ _ e f];clear e f;simp only [Program.fieldsOf,Tryz.underlying82];go_simp;by_cases k:l=b <;> by_cases m:a=c <;> by_cases n:g=d <;> simp [k,m,n]
def o9 (b:Int):Int:=if b<128 then b else b-256
def C6 (l a:Int):List Int:=[l%256,a/256,a]
def wG (l a g:Int):List Int:=C6 l a++be g.toNat 4
def ij (l a g:Int):List Int:=if gL l a g then wG l a g else []
theorem C7 (b c d h j u:Bool) (l a g:Int) (w:World) (v:decide (l = -1/\a=0/\g=0)=b) (H:decide (0<=l)=c) (I:decide (l<8)=d) (K:decide (1<=a)=h) (L:decide (a<200)=j) (h5:decide (1<=g)=u) :
 Calls Tryz.prog 83 #[jO l a g] w fun e w'=>e=.returned (.bool (b||((((c&&d)&&h)&&j)&&u)))/\Below w.heap.size w w':=by
 have x:=He C4;have y:=LJ l a g (-1) 0 0;rw [v] at y;unfold jO at x ⊢;go_enter Tryz.func83,Tryz.ntmps83;go_upto_region 1 with fail
 obtain ⟨W,i⟩:∃ W,W=w.alloc (Obj.cells #[.int .i64 l,.int .i64 a,.int .u32 g] 82):=⟨_,rfl⟩
 rw [<- i];have n:W.cell? ⟨w.heap.size,0,none⟩=some (.int .i64 l):=by rw [i];simp [go_sem]
 have o:W.cell? ⟨w.heap.size,1,none⟩=some (.int .i64 a):=by rw [i];simp [go_sem]
 have p:W.cell? ⟨w.heap.size,2,none⟩=some (.int .u32 g):=by rw [i];simp [go_sem]
 have f:Below w.heap.size w W:=by rw [i];exact (Below.refl _ _).alloc (Nat.le_refl _) _
 clear i;have q:w.heap.size<=W.heap.size:=f.size;have HB:=He f;clear f;generalize w.heap.size=r at n o p ⊢;have z:∀ g:fx W,g.w.cell? _=_:=fun g=>g.keep n;have A:∀ g:fx W,g.w.cell? _=_:=fun g=>g.keep o;have B:∀ g:fx W,g.w.cell? _=_:=fun g=>g.keep p;clear n o p v;have C:b=true\/(b=false/\c=false)\/(b=false/\c=true/\d=false)\/(b=false/\c=true/\d=true/\h=false)\/(b=false/\c=true/\d=true/\h=true/\j=false)\/(b=false/\c=true/\d=true/\h=true/\j=true):=by
  cases b <;> cases c <;> cases d <;> cases h <;> cases j <;> simp
 rcases C with rfl | ⟨rfl,rfl⟩ | ⟨rfl,rfl,rfl⟩ | ⟨rfl,rfl,rfl,rfl⟩ | ⟨rfl,rfl,rfl,rfl,rfl⟩ | ⟨rfl,rfl,rfl,rfl,rfl⟩
 all_goals
  refine kS Hc Hc ?_
  repeat (go_big_quiet_step ((first | (go_at_call 39;exact pD (x.out _)))))
  refine wpQuiet_nil ?_;intro _ s;obtain ⟨t,k⟩:=s;subst k;have m:=He (HB.out.trans (t.below.mono q));clear z A B;generalize fx.w t=V at *;clear t;go_wp2;go_ret;exact ⟨rfl,m.out⟩
theorem pe (l a g:Int) (w:World):Calls Tryz.prog 83 #[jO l a g] w fun e w'=>e=.returned (.bool (decide (gL l a g)))/\Below w.heap.size w w':=by
 have h:=C7 _ _ _ _ _ _ l a g w rfl rfl rfl rfl rfl rfl;have hd:decide (gL l a g)=(decide (l = -1/\a=0/\g=0)||((((decide (0<=l)&&decide (l<8))&&decide (1<=a))&&decide (a<200))&&decide (1<=g))):=by
  rw [Bool.eq_iff_iff];simp only [Bool.or_eq_true,Bool.and_eq_true,decide_eq_true_eq];unfold gL ju;constructor <;> (intro h;omega)
 rw [hd];exact h
structure MP (w:World) (p:Nat) (l a g:Int) (W:World):Prop where
 bel:Below p w W
 sz:p<=W.heap.size
 at_:bh W p l a g
def K6 (p:Nat) (l:Int) (a b:Nat) (i:Nat) (v:Value) (W:World):Prop :=
 match i with
 | 0=>v=.pointer (some ⟨p,0,none⟩)
 | 1=>v=.int .i64 l
 | 2=>v=.int .u8 (l%256)
 | 4=>v=.pointer (some ⟨p,1,none⟩)
 | 5=>v=.int .i64 a
 | 6=>v=.int .u64 a
 | 9=>v=.pointer (some ⟨p,2,none⟩)
 | 10=>v=.int .u32 b
 | 11=>v=.int .u64 b
 | 3=>aD W p v [l%256]
 | 7=>aD W p v (be a 2)
 | 8=>W.ownsRow p 5 1 v 3 (Bs ([l%256]++be a 2))
 | 12=>aD W p v (be b 4)
 | 13=>W.ownsRow p 5 1 v 7 (Bs (([l%256]++be a 2)++be b 4))
 | _=>True
def LK (i:Nat) (w w':World):Prop:=if i=13 then bV 3 7 w w' else w.grownBy w' none
theorem K6.on {p:Nat} {l:Int} {d e i j:Nat} {v:Value} {w w':World} (b:i≠j) (h:K6 p l d e j v w) (a:LK i w w'):K6 p l d e j v w':=by
 unfold LK at a;by_cases c:i=13
 ·rw [if_pos c] at a;unfold K6 at *;split <;> try exact h
  ·exact aD.keep h a (by show 1<7;omega)
  ·exact aD.keep h a (by rw [au];decide)
  ·exact iL h a Hd
  ·exact aD.keep h a (by rw [au];decide)
  ·exact absurd c b
  ·trivial
 ·rw [if_neg c] at a;unfold K6 at *;split <;> try exact h
  ·exact aD.grown h a
  ·exact aD.grown h a
  ·exact World.ownsRow.kept h a (by cases v.ownBlock <;> simp)
  ·exact aD.grown h a
  ·exact World.ownsRow.kept h a (by cases v.ownBlock <;> simp)
  ·trivial
theorem ut (l a g:Int) (w:World) (hl:i64 l) (ha:i64 a) (C:u32 g) :
 Calls Tryz.prog 170 #[jO l a g] w fun e w'=>∃ v,e=.returned v/\w'.ownsRow w.heap.size 5 1 v (ij l a g).length (Bs (ij l a g))/\Below w.heap.size w w':=by
 have y:=He (pe l a g);have HB:=He (aM (w:=w) (Obj.cells #[.int .i64 l,.int .i64 a,.int .u32 g] 82));have O:=He (bh.new w l a g);rw [Ko] at y ⊢;by_cases c:gL l a g
 ·have t:ij l a g=wG l a g:=by unfold ij;rw [if_pos c]
  have hp2:(wG l a g).length=7:=by unfold wG C6;simp [au]
  rw [t,hp2];rw [decide_eq_true c] at y;have a2 : -1<=l/\l<8:=by unfold gL ju at c;omega
  have a3:0<=a/\a<200:=by unfold gL ju at c;omega
  obtain ⟨m,rfl⟩:∃ m:Nat,g=(m:Int):=⟨g.toNat,by have:=C.1;omega⟩
  obtain ⟨d,rfl⟩:∃ d:Nat,a=(d:Int):=⟨a.toNat,Ha⟩
  have a4:m<4294967296:=by have:=C.2;omega
  have HI:Hid (wG l d m=([l%256]++be d 2)++be m 4):=by
   unfold Hid wG C6;rw [DV,show (d:Int)/256=((d/256%256:Nat):Int) by omega,show ((d:Int))=((d/1%256:Nat):Int) by omega];rfl
  rw [HI.out];have R:=He (fun W=>lU d 2 W Ha Ha);have S:=He (fun W=>lU m 4 W Ha Ha);have U:IntKind.u64.wrap (d:Int)=d:=IntWalk.u64_in _ Ha;have e2:IntKind.u64.wrap (m:Int)=m:=IntWalk.u64_in _ Ha;clear c t hp2 C ha hl HI;unfold jA at y ⊢;go_enter Tryz.func170,Tryz.ntmps170;go_wp2_with fail
  refine (y.out _).mono ?_;rintro e w1 ⟨rfl,o⟩;have H1:=He (O.out.below o);have r:=He (aR HB.out o);have H:=He r.out.size;clear o HB O;go_upto_region 3 with fail
  generalize t:w.heap.size=p at *;have I:MP w p l d m w1.drew:=⟨r.out.drew,H.out,H1.out⟩
  refine ax (K6 p l d m) (fun _ W=>MP w p l d m W) LK Hc Hc (fun i j v' w' a5 V a1 h C=>h.on V C) I ?_;have srefl:∀ (i:Nat) (W:World),LK i W W:=fun i W=>by unfold LK;split;exact bV.grown (World.grownBy.refl _ _);exact World.grownBy.refl _ _
  have HP:=He t;clear I t r H H1;simp only [cf];refine ⟨?_,?_,?_,?_,?_,?_,?_,?_,?_,?_,?_,?_,?_,?_,?_⟩
  ·refine aa.of rfl fun T W L hag n hJ b hd=>?_;have U:=Hf hag 1;exact Hi
  ·refine aa.of rfl fun T W L hag n hJ b hd=>?_;have d6:T.getD 6 undef=_:=Hg hd 0 rfl;have x:=(show W.cell? ⟨p,0,none⟩=some (.int .i64 l) from hJ.at_.cell 0)
   exact Hi
  ·refine aa.of rfl fun T W L hag n hJ b hd=>?_;have d7:T.getD 7 undef=_:=Hg hd 1 rfl;exact Hi
  ·refine aa.of rfl fun T W L hag n hJ b hd=>?_;have d8:T.getD 8 undef=_:=Hg hd 2 rfl;simp only [Array.getD_eq_getD_getElem?] at d8;clear hag hd;go_simp;exact ⟨_,rfl,⟨_,_,rfl,hJ.sz,heap_alloc_new _ _,rfl⟩,⟨hJ.bel.alloc hJ.sz _,by rw [al];exact Nat.le_succ_of_le hJ.sz,hJ.at_.alloc _⟩,World.grownBy_alloc W _ _⟩
  ·refine aa.of rfl fun T W L hag n hJ b hd=>?_;have U:=Hf hag 1;exact Hi
  ·refine aa.of rfl fun T W L hag n hJ b hd=>?_;have a6:T.getD 10 undef=_:=Hg hd 4 rfl;have x:=(show W.cell? ⟨p,1,none⟩=some (.int .i64 d) from hJ.at_.cell 1)
   exact Hi
  ·refine aa.of rfl fun T W L hag n hJ b hd=>?_;have a7:T.getD 11 undef=_:=Hg hd 5 rfl;exact Hi
  ·refine aa.of rfl fun T W L hag n hJ b hd=>?_;have a8:T.getD 12 undef=_:=Hg hd 6 rfl;clear hag hd;go_simp;refine (R.out W).mono ?_;rintro en w' ⟨u,rfl,B,s⟩;exact ⟨_,rfl,B.mono hJ.sz,⟨hJ.bel.trans (s.mono hJ.sz),Nat.le_trans hJ.sz s.size,hJ.at_.below s⟩,dZ s⟩
  ·refine aa.of rfl fun T W L hag n hJ b hd=>?_;have x9:aD W p (T.getD 9 undef) [l%256]:=Hg hd 3 rfl;have X:aD W p (T.getD 13 undef) (be d 2):=Hg hd 7 rfl;obtain ⟨q,(Y:T.getD 13 undef=_),hy⟩:=X.byt;refine nG W (.tmp 9) (.tmp 13) rfl p _ [l%256] rfl x9 (some ⟨q,0,none⟩) 2 2 (be d 2) Y hy rfl Ha Hb hJ.sz ?_;intro v' w' Z z;exact ⟨_,rfl,Z,⟨hJ.bel.grown z hJ.sz Hb,Nat.le_trans hJ.sz z.size,hJ.at_.grown z⟩,z⟩
  ·refine aa.of rfl fun T W L hag n hJ b hd=>?_;have U:=Hf hag 1;exact Hi
  ·refine aa.of rfl fun T W L hag n hJ b hd=>?_;have a9:T.getD 15 undef=_:=Hg hd 9 rfl;have x:=(show W.cell? ⟨p,2,none⟩=some (.int .u32 m) from hJ.at_.cell 2)
   exact Hi
  ·refine aa.of rfl fun T W L hag n hJ b hd=>?_;have bb:T.getD 16 undef=_:=Hg hd 10 rfl;exact Hi
  ·refine aa.of rfl fun T W L hag n hJ b hd=>?_;have bi:T.getD 17 undef=_:=Hg hd 11 rfl;clear hag hd;go_simp;refine (S.out W).mono ?_;rintro en w' ⟨u,rfl,B,s⟩;exact ⟨_,rfl,B.mono hJ.sz,⟨hJ.bel.trans (s.mono hJ.sz),Nat.le_trans hJ.sz s.size,hJ.at_.below s⟩,dZ s⟩
  ·refine aa.of rfl fun T W L hag n hJ b hd=>?_;have K:W.ownsRow p 5 1 (T.getD 14 undef) 3 (Bs ([l%256]++be d 2)):=Hg hd 8 rfl;have ad:aD W p (T.getD 18 undef) (be m 4):=Hg hd 12 rfl;obtain ⟨q,(a0:T.getD 18 undef=_),hy⟩:=ad.byt;refine gI W (.tmp 14) (.tmp 18) rfl p _ 3 _ rfl K (some ⟨q,0,none⟩) 4 4 (be m 4) a0 hy rfl Ha hJ.sz ?_;intro v' w' Z z h3;exact ⟨_,rfl,Z,⟨hJ.bel.grown z hJ.sz (fun k hk=>(K.lt k hk).1),Nat.le_trans hJ.sz z.size,h3.small _ _ _ _ hJ.at_ (by show 3<3+4;omega)⟩,h3⟩
  ·refine bm.of rfl fun T W L hag b n hJ hd=>?_;have A:W.ownsRow p 5 1 (T.getD 19 undef) 7 (Bs (([l%256]++be d 2)++be m 4)):=hd 13 _ Hb rfl;obtain ⟨f,B,hT⟩:=aJ hag;have M:=B 19;rw [<- M] at A;have N:=He A;clear M A;have HJ:=He hJ;clear hag hd hJ B;rw [hT];clear hT;simp only [List.pop_toArray,List.dropLast_cons_cons,List.dropLast_singleton,List.filterMap_cons,List.filterMap_nil,List.foldl_cons,List.foldl_nil,List.setIfInBounds_toArray,List.set_cons_succ,List.set_cons_zero];go_wp2_with fail
   go_ret;exact ⟨_,rfl,by rw [HP.out];exact N.out,by rw [HP.out];exact HJ.out.bel⟩
 ·have t:ij l a g=[]:=by unfold ij;rw [if_neg c]
  rw [t];rw [decide_eq_false c] at y;clear t c;unfold jA at y ⊢;go_enter Tryz.func170,Tryz.ntmps170;go_wp2_with fail
  refine (y.out _).mono ?_;rintro e w1 ⟨rfl,o⟩;have r:=He (aR HB.out o);clear o HB O;go_wp2_with fail
  go_ret;exact ⟨_,rfl,⟨rfl,Or.inl ⟨rfl,rfl⟩⟩,r.out⟩
open Fx
def nB (xs:List Int) (i:Nat):Nat:=(xs.getD i 0).toNat
def Fg (xs:List Int):Int:=o9 (nB xs 0)
def Fh (xs:List Int):Nat:=nB xs 1*256+nB xs 2
def Fi (xs:List Int):Nat:=nB xs 3*16777216+nB xs 4*65536+nB xs 5*256+nB xs 6
def g8 (xs:List Int):Prop:=xs.length=7/\gL (Fg xs) (Fh xs) (Fi xs)
instance (xs:List Int):Decidable (g8 xs):=by unfold g8;infer_instance
def jv (xs:List Int):Value:=if g8 xs then jO (Fg xs) (Fh xs) (Fi xs) else jO 0 0 0
theorem Kp:Tryz.prog.built 82 []=some #[.int .i64 0,.int .i64 0,.int .u32 0]:=Hc
theorem LL {xs:List Int} (h:xs.length=7) (a:ay xs):∃ b c d e f g i:Nat,xs=[(b:Int),(c:Int),(d:Int),(e:Int),(f:Int),(g:Int),(i:Int)]/\b<256/\c<256/\d<256/\e<256/\f<256/\g<256/\i<256:=by
 match xs,h with
 | [j,k,l,m,n,o,p],_ =>
   have q:=a j Hb;have r:=a k Hb;have s:=a l Hb;have t:=a m Hb;have u:=a n Hb;have h5:=a o Hb;have v:=a p Hb;refine ⟨j.toNat,k.toNat,l.toNat,m.toNat,n.toNat,o.toNat,p.toNat,?_,Ha,Ha,Ha,Ha,Ha,Ha,Ha⟩;rw [Int.toNat_of_nonneg q.1,Int.toNat_of_nonneg r.1,Int.toNat_of_nonneg s.1,Int.toNat_of_nonneg t.1,Int.toNat_of_nonneg u.1,Int.toNat_of_nonneg h5.1,Int.toNat_of_nonneg v.1]
theorem uv {l a g:Int} (c:gL l a g->True):ay (ij l a g):=by
 unfold ij;split
 ·rename_i h;unfold wG C6;refine ay.append ?_ (cF _ _);unfold gL ju at h;intro x b;simp only [List.mem_cons,List.not_mem_nil,or_false] at b;rcases b with rfl | rfl | rfl <;> omega
 ·intro x b;cases b
def rS (a:Nat):Int:=if a=255 then -1 else a
theorem Kq (a b c d:Nat) (e:a<256) (f:b<256) (h5:c<256) (g:d<256):be (a*16777216+b*65536+c*256+d) 4=[(a:Int),(b:Int),(c:Int),(d:Int)]:=by
 rw [zf,show (a*16777216+b*65536+c*256+d)/16777216%256=a by omega,show (a*16777216+b*65536+c*256+d)/65536%256=b by omega,show (a*16777216+b*65536+c*256+d)/256%256=c by omega,show (a*16777216+b*65536+c*256+d)/1%256=d by omega]
theorem Fj (a f g i j k l:Nat) (v:a<256) (w:f<256) (x:g<256) (o:i<256) (p:j<256) (h5:k<256) (q:l<256) (c:Nat) (r:c=i*16777216+j*65536+k*256+l) (b:Nat) (hp:b=f*256+g) :
 (ij (rS a) b c=[(a:Int),(f:Int),(g:Int),(i:Int),(j:Int),(k:Int),(l:Int)]↔gL (o9 a) b c)/\(gL (o9 a) b c->rS a=o9 a):=by
 have d:gL (o9 a) b c->rS a=o9 a:=by
  intro h;unfold gL ju at h;unfold o9 rS at *;split at h <;> split <;> omega
 have e:gL (rS a) b c->rS a=o9 a:=by
  intro h;unfold gL ju at h;unfold o9 rS at *;split at h <;> split <;> omega
 refine ⟨⟨fun h=>?_,fun h=>?_⟩,d⟩
 ·unfold ij at h;by_cases m:gL (rS a) b c
  ·rw [<- e m];exact m
  ·rw [if_neg m] at h;cases h
 ·have s:=d h;have n:o9 a%256=a:=by unfold gL ju at h;unfold o9 at *;split at h <;> split <;> omega
  rw [s];unfold ij wG C6;rw [if_pos h,Int.toNat_natCast,r,Kq i j k l o p h5 q,n];unfold gL ju at h;have t:((b:Int))/256=(f:Int):=Ha;have u:(b:Int)=(g:Int):=Ha;rw [t,u];rfl
structure MQ (w:World) (p:Nat) (W:World):Prop where
 bel:Below p w W
 sz:p<W.heap.size
 at_:bh W p 0 0 0
def LM (p:Nat) (a:Addr) (c b d e:Nat) (i:Nat) (v:Value) (W:World):Prop :=
 match i with
 | 0 | 4 | 8=>v=.slice (some a) 7 c
 | 1=>v=.pointer (some a)
 | 2=>v=.int .u8 b
 | 3=>v=.int .i64 b
 | 5=>v=.slice (some ⟨a.block,a.off+1,none⟩) 2 (c-1)
 | 6=>v=.int .u64 d
 | 7=>v=.int .i64 d
 | 9=>v=.slice (some ⟨a.block,a.off+3,none⟩) 4 (c-3)
 | 10=>v=.int .u64 e
 | 11=>v=.int .u32 e
 | 12=>v=.agg (jA b d e)
 | 13=>∃ q,v=.pointer (some ⟨q,0,none⟩)/\p<q/\bh W q 0 0 0
 | _=>True
theorem LM.on {p:Nat} {a:Addr} {c b d e j:Nat} {v:Value} {w w':World} (h:LM p a c b d e j v w) (f:w.grownBy w' none):LM p a c b d e j v w':=by
 unfold LM at *;split <;> try exact h
 ·obtain ⟨q,g,i,k⟩:=h;exact ⟨q,g,i,k.grown f⟩
 ·trivial
structure Mj (w:World) (p q:Nat) (l:Int) (pn gn:Nat) (W:World):Prop where
 bel:Below p w W
 sz:p<W.heap.size
 at_:bh W p 0 0 0
 q:bh W q l pn gn
def K7 (p:Nat) (a:Addr) (c:Nat) (lr:Int) (b d:Nat) (M X:List Int) (i:Nat) (v:Value) (W:World):Prop :=
 match i with
 | 0=>v=.agg (jA lr b d)
 | 2=>v=.string (strOfNums M)
 | 3=>v=.slice (some a) 7 c
 | 4=>v=.string (strOfNums X)
 | 1=>W.ownsRow p 5 1 v M.length (Bs M)
 | _=>True
theorem K7.on {p:Nat} {a:Addr} {c:Nat} {lr:Int} {b d:Nat} {M X:List Int} {j:Nat} {v:Value} {w w':World} (h:K7 p a c lr b d M X j v w) (e:w.grownBy w' none):K7 p a c lr b d M X j v w':=by
 unfold K7 at *;split <;> try exact h
 ·exact World.ownsRow.kept h e (by cases v.ownBlock <;> simp)
 ·trivial
theorem Ab (A:Option Addr) (xs:List Int) (c:Nat) (w:World) (hc:xs.length<=c) (dc:c<=9223372036854775807) (hB:ay xs) (hy:dK w A xs) :
 Calls Tryz.prog 199 #[.slice A xs.length c] w fun e w'=>e=.returned (.tuple #[jv xs,.bool (decide (g8 xs))])/\Below w.heap.size w w':=by
 have H0:=He (bh.new w 0 0 0);have HB:=He (aM (w:=w) (Obj.cells #[.int .i64 0,.int .i64 0,.int .u32 0] 82));have dg:=Kp;by_cases h7:xs.length=7
 ·obtain ⟨s,N,O,R,S,U,V,rfl,l0,l1,l2,l3,l4,l5,l6⟩:=LL h7 hB;obtain ⟨B,rfl,c0⟩:=hy 0 _ rfl;have HY:=He hy;have ca:=He hB;have cc:∀ i x,([(s:Int),(N:Int),(O:Int),(R:Int),(S:Int),(U:Int),(V:Int)])[i]?=some x->w.cell? (B.add i)=some (.int .u8 x):=fun i x v=>by
   obtain ⟨a',e,h⟩:=hy i x v;injection e with e;subst e;exact h
  rw [C5] at c0;have ck:Hid (∀ W,Below w.heap.size w W->W.cell? B=some (.int .u8 s)):=fun W hW=>cO hW c0;have cl:Hid (∀ W,Below w.heap.size w W->Calls Tryz.prog 126 #[.slice (some ⟨B.block,B.off+1,none⟩) 2 (c-1)] W fun e w'=>e=.returned (.int .u64 ((N*256+O:Nat):Int))/\W=w'):=fun W hW=>by
   have h:=kW (some ⟨B.block,B.off+1,none⟩) [(N:Int),(O:Int)] 2 (c-1) W rfl Ha (fun x hx=>by simp only [List.mem_cons,List.not_mem_nil,or_false] at hx;omega) (fun i x v=>⟨_,rfl,by
    have h2:=cO hW (cc (i+1) x (by
     match i,v with
     | 0,v=>exact v
     | 1,v=>exact v))
    rw [mh _ _ Ha] at h2;rw [<- mh B 1 Ha,ji,Nat.add_comm 1 i,mh _ _ Ha];exact h2⟩)
   rwa [show aB [(N:Int),(O:Int)]=N*256+O by simp [aB]] at h
  have cn:Hid (∀ W,Below w.heap.size w W->Calls Tryz.prog 126 #[.slice (some ⟨B.block,B.off+3,none⟩) 4 (c-3)] W fun e w'=>e=.returned (.int .u64 ((R*16777216+S*65536+U*256+V:Nat):Int))/\W=w'):=fun W hW=>by
   have h:=kW (some ⟨B.block,B.off+3,none⟩) [(R:Int),(S:Int),(U:Int),(V:Int)] 4 (c-3) W rfl Ha (fun x hx=>by simp only [List.mem_cons,List.not_mem_nil,or_false] at hx;omega) (fun i x v=>⟨_,rfl,by
    have h2:=cO hW (cc (i+3) x (by
     match i,v with
     | 0,v=>exact v
     | 1,v=>exact v
     | 2,v=>exact v
     | 3,v=>exact v))
    rw [mh _ _ Ha] at h2;rw [<- mh B 3 Ha,ji,Nat.add_comm 3 i,mh _ _ Ha];exact h2⟩)
   rwa [show aB [(R:Int),(S:Int),(U:Int),(V:Int)]=R*16777216+S*65536+U*256+V by simp [aB];omega] at h
  have y:g8 [(s:Int),(N:Int),(O:Int),(R:Int),(S:Int),(U:Int),(V:Int)]↔gL (o9 s) ((N*256+O:Nat):Int) ((R*16777216+S*65536+U*256+V:Nat):Int) :=
   ⟨fun h=>h.2,fun h=>⟨rfl,h⟩⟩
  have a0:=Fj s N O R S U V l0 l1 l2 l3 l4 l5 l6 _ rfl _ rfl;have cb:=He h7;obtain ⟨X,hX⟩:∃ X,X=[(s:Int),(N:Int),(O:Int),(R:Int),(S:Int),(U:Int),(V:Int)]:=⟨_,rfl⟩
  obtain ⟨d,a1⟩:∃ d,d=N*256+O:=⟨_,rfl⟩
  obtain ⟨k,a2⟩:∃ k,k=R*16777216+S*65536+U*256+V:=⟨_,rfl⟩
  obtain ⟨lr,Y⟩:∃ lr,lr=rS s:=⟨_,rfl⟩
  have hV:jv [(s:Int),(N:Int),(O:Int),(R:Int),(S:Int),(U:Int),(V:Int)]=if ij lr d k=X then jO lr d k else jO 0 0 0:=by
   unfold jv;by_cases h:g8 [(s:Int),(N:Int),(O:Int),(R:Int),(S:Int),(U:Int),(V:Int)]
   ·have h2:=y.1 h;rw [if_pos h,hX,Y,a1,a2,if_pos (a0.1.2 h2),a0.2 h2];rfl
   ·rw [if_neg h,hX,Y,a1,a2,if_neg (fun q=>h (y.2 (a0.1.1 q)))]
  have hD:decide (g8 [(s:Int),(N:Int),(O:Int),(R:Int),(S:Int),(U:Int),(V:Int)])=decide (ij lr d k=X):=by
   rw [hX,Y,a1,a2];exact decide_eq_decide.2 (y.trans a0.1.symm)
  rw [hV,hD,h7];rw [<- hX] at HY ca cb;rw [<- a1] at cl;rw [<- a2] at cn;have c7:d<65536:=Ha;have c8:k<4294967296:=Ha;have bt:i64 lr/\lr<256 /\ -1<=lr:=by rw [Y];unfold rS i64;split <;> omega
  have bx:=He (fun W=>ut lr d k W bt.1 (by constructor <;> omega) (by constructor <;> omega));have Z:=He (lT (uv (l:=lr) (a:=d) (g:=k) (fun _=>trivial)) ca.out);have cp:=He Y;have dl:¬ c=3:=by rw [h7] at hc;omega
  have dn:¬ c=1:=by rw [h7] at hc;omega
  have dv:7<=c:=by rw [h7] at hc;omega
  have c9:(3:Int)<=(c:Int):=Ha;have dT:IntKind.i64.wrap (d:Int)=d:=IntWalk.i64_in _ Ha;have d2:IntKind.u32.wrap (k:Int)=k:=IntWalk.u32_in _ Ha;have d3:IntKind.i64.wrap (s:Int)=s:=IntWalk.i64_in _ Ha;clear a1 a2 hV y hD cc c0 hy hB hc l1 l2 l3 l4 l5 l6 h7 bt a0 hX ca Y;obtain ⟨r,hr⟩:∃ r,r=if ij lr d k=X then jO lr d k else jO 0 0 0:=⟨_,rfl⟩
  rw [<- hr];have z:=He hr;clear hr;generalize ij lr d k=M at *;go_enter Tryz.func199,Tryz.ntmps199;go_upto_region 3 with fail
  generalize hp:w.heap.size=p at *;have HP:=He hp;have cq:MQ w p (w.alloc (Obj.cells #[.int .i64 0,.int .i64 0,.int .u32 0] 82)).drew:=⟨HB.out.drew,by show p<(w.alloc _).heap.size;rw [al,hp];omega,H0.out⟩
  refine ax (LM p B c s d k) (fun _ W=>MQ w p W) (fun _ w w'=>w.grownBy w' none) Hc Hc (fun i j v' w' cr cs b8 h hg=>h.on hg) cq ?_;have srefl:∀ (W:World),W.grownBy W none:=fun W=>World.grownBy.refl _ _;clear cq hp HB H0;simp only [cf];refine ⟨?_,?_,?_,?_,?_,?_,?_,?_,?_,?_,?_,?_,?_,?_,?_⟩
  ·refine aa.of rfl fun T W L hag m hJ b hd=>?_;have e0:=Hf hag 0;exact Hi
  ·refine aa.of rfl fun T W L hag m hJ b hd=>?_;have d9:T.getD 9 undef=_:=Hg hd 0 rfl;exact Hi
  ·refine aa.of rfl fun T W L hag m hJ b hd=>?_;have d4:T.getD 10 undef=_:=Hg hd 1 rfl;have da:=ck.out W hJ.bel;exact Hi
  ·refine aa.of rfl fun T W L hag m hJ b hd=>?_;have d5:T.getD 11 undef=_:=Hg hd 2 rfl;exact Hi
  ·refine aa.of rfl fun T W L hag m hJ b hd=>?_;have e0:=Hf hag 0;exact Hi
  ·refine aa.of rfl fun T W L hag m hJ b hd=>?_;have d6:T.getD 13 undef=_:=Hg hd 4 rfl;exact Hi
  ·refine aa.of rfl fun T W L hag m hJ b hd=>?_;have d7:T.getD 14 undef=_:=Hg hd 5 rfl;clear hag hd;go_simp;refine (cl.out W hJ.bel).mono ?_;rintro en w' ⟨rfl,rfl⟩;exact ⟨_,rfl,rfl,hJ,World.grownBy.refl _ _⟩
  ·refine aa.of rfl fun T W L hag m hJ b hd=>?_;have d8:T.getD 15 undef=_:=Hg hd 6 rfl;exact Hi
  ·refine aa.of rfl fun T W L hag m hJ b hd=>?_;have e0:=Hf hag 0;exact Hi
  ·refine aa.of rfl fun T W L hag m hJ b hd=>?_;have ea:T.getD 17 undef=_:=Hg hd 8 rfl;exact Hi
  ·refine aa.of rfl fun T W L hag m hJ b hd=>?_;have eb:T.getD 18 undef=_:=Hg hd 9 rfl;clear hag hd;go_simp;refine (cn.out W hJ.bel).mono ?_;rintro en w' ⟨rfl,rfl⟩;exact ⟨_,rfl,rfl,hJ,World.grownBy.refl _ _⟩
  ·refine aa.of rfl fun T W L hag m hJ b hd=>?_;have ec:T.getD 19 undef=_:=Hg hd 10 rfl;exact Hi
  ·refine aa.of rfl fun T W L hag m hJ b hd=>?_;have cA:T.getD 12 undef=_:=Hg hd 3 rfl;have cP:T.getD 16 undef=_:=Hg hd 7 rfl;have c1:T.getD 20 undef=_:=Hg hd 11 rfl;simp only [Array.getD_eq_getD_getElem?] at cA cP c1;exact Hi
  ·refine aa.of rfl fun T W L hag m hJ b hd=>?_;clear hag hd;go_simp;exact ⟨_,rfl,⟨_,rfl,hJ.sz,bh.new W 0 0 0⟩,⟨hJ.bel.alloc (Nat.le_of_lt hJ.sz) _,by rw [al];exact Nat.lt_succ_of_lt hJ.sz,hJ.at_.alloc _⟩,World.grownBy_alloc W _ _⟩
  ·refine bm.of rfl fun T W L hag b m hJ hd=>?_;have x4:∃ q,(T.getD 4 undef)=.pointer (some ⟨q,0,none⟩)/\p<q/\bh W q 0 0 0:=hd 13 _ Hb rfl;have cu:T.getD 21 undef=_:=hd 12 _ Hb rfl;obtain ⟨f,hf,y⟩:=aJ hag;have c2:=(hf 21).trans cu;have h4:=hf 4;rw [<- h4] at x4;have cw:=He x4;clear h4 x4;have K:=He hJ;clear hag hd cu hJ hf;rw [y];clear y;simp only [List.pop_toArray,List.dropLast_cons_cons,List.dropLast_singleton,List.filterMap_cons,List.filterMap_nil,List.foldl_cons,List.foldl_nil,List.setIfInBounds_toArray,List.set_cons_succ,List.set_cons_zero,c2];obtain ⟨q,o,cx,cz⟩:=cw.out;have bl:=He cz;have bn:=He cx;rw [o];clear o cz cx cw;have an:=He (bl.out.set s d k);have bs:Hid (bh (W.setRow q (jA s d k)) p 0 0 0):=by unfold Hid bh;rw [setRow_other W q _ _ (fun e=>by have:=bn.out;omega)];exact K.out.at_
   have a3:=He (below_setRow K.out.bel (Nat.le_of_lt bn.out) (jA s d k));refine C3 (.tmp 4) (.tmp 21) rfl q rfl s d k rfl 0 0 0 bl.out ?_;have hz:=ck.out _ a3.out;generalize W.setRow q (jA s d k)=W2 at *;by_cases b9:s=255
   ·subst b9;have hc:=an.out.cell 0;have hf:=aA an.out 0;go_upto_region 6 with fail
    have a4:Hid (bh (W2.setCell ⟨q,0,none⟩ (.int .i64 (-1))) q lr d k):=by
     unfold Hid;rw [cp.out];exact ai an.out _
    have C:Hid (bh (W2.setCell ⟨q,0,none⟩ (.int .i64 (-1))) p 0 0 0):=by
     unfold Hid bh;rw [World.setCell];simp only [Array.getElem?_modify];rw [if_neg (fun e=>by have:=bn.out;omega)];exact bs.out
    have a5:=He (a3.out.setCell (p:=⟨q,0,none⟩) (Nat.le_of_lt bn.out) (.int .i64 (-1)));have a6:Hid (p<(W2.setCell ⟨q,0,none⟩ (.int .i64 (-1))).heap.size):=ah C.out;generalize W2.setCell ⟨q,0,none⟩ (.int .i64 (-1))=W3 at *;clear an bs a3 K bl hc hf hz;have a7:Mj w p q lr d k W3.drew:=⟨a5.out.drew,a6.out,C.out,a4.out⟩
    refine ax (K7 p B c lr d k M X) (fun _ W=>Mj w p q lr d k W) (fun _ w w'=>w.grownBy w' none) Hc Hc (fun i j v' w' cr cs b8 h hg=>h.on hg) a7 ?_;clear a7 a5 a6 C a4;simp only [cf];refine ⟨?_,?_,?_,?_,?_,?_⟩
    ·refine aa.of rfl fun T W L hag m hJ b hd=>?_;have e4:=Hf hag 4;refine lD (.tmp 4) rfl q e4 lr d k hJ.q ?_;exact ⟨_,rfl,rfl,hJ,World.grownBy.refl _ _⟩
    ·refine aa.of rfl fun T W L hag m hJ b hd=>?_;have c3:T.getD 27 undef=_:=Hg hd 0 rfl;clear hag hd;go_simp;refine (bx.out W).mono ?_;rintro en w' ⟨u,rfl,ho,hb⟩;exact ⟨_,rfl,World.ownsRow.mono ho (Nat.le_of_lt hJ.sz),⟨hJ.bel.trans (hb.mono (Nat.le_of_lt hJ.sz)),Nat.lt_of_lt_of_le hJ.sz hb.size,hJ.at_.below hb,hJ.q.below hb⟩,dZ hb⟩
    ·refine aa.of rfl fun T W L hag m hJ b hd=>?_;have a8:W.ownsRow p 5 1 (T.getD 28 undef) M.length (Bs M):=Hg hd 1 rfl;obtain ⟨A1,d1,(c4:T.getD 28 undef=_),_,_,hy1⟩:=bM a8 rfl;have cv:=dB (c:=d1) hy1 rfl;clear hag hd a8;go_simp;exact ⟨_,rfl,rfl⟩
    ·refine aa.of rfl fun T W L hag m hJ b hd=>?_;have e0:=Hf hag 0;exact Hi
    ·refine aa.of rfl fun T W L hag m hJ b hd=>?_;have c5:T.getD 30 undef=_:=Hg hd 3 rfl;have cv:=dB (c:=c) (HY.out.keep (HP.out.symm ▸ hJ.bel)) cb.out;exact Hi
    ·refine bm.of rfl fun T W L hag b m hJ hd=>?_;have a9:T.getD 29 undef=_:=hd 2 _ Hb rfl;have bb:T.getD 31 undef=_:=hd 4 _ Hb rfl;obtain ⟨f,hf,y⟩:=aJ hag;have cg:=(hf 29).trans a9;have ch:=(hf 31).trans bb;have K:=He hJ;clear hag hd a9 bb hJ hf;rw [y];clear y;simp only [List.pop_toArray,List.dropLast_cons_cons,List.dropLast_singleton,List.filterMap_cons,List.filterMap_nil,List.foldl_cons,List.foldl_nil,List.setIfInBounds_toArray,List.set_cons_succ,List.set_cons_zero,cg,ch];have bi:=He K.out.bel;have t:=He K.out.at_;have ci:=He K.out.q;clear K;have bk:=Z.out;by_cases o:M=X
     ·rw [decide_eq_true o] at bk;have H:Hid (r=jO lr d k):=by unfold Hid;rw [z.out,if_pos o]
      have I:Hid (decide (M=X)=true):=decide_eq_true o;clear o z Z;generalize strOfNums M=s1 at *;generalize strOfNums X=s2 at *;go_wp2_with (first
       | (refine g6 rfl (.tmp 4) rfl q rfl lr d k ci.out ?_)
       | (refine aK rfl (.tmp 2) (.tmp 34) rfl p rfl lr d k rfl 0 0 0 t.out ?_))
      refine bodyPost_ret (bI rfl _ _ p lr d k rfl (t.out.set _ _ _)) rfl ?_;refine ⟨by rw [H.out,I.out];rfl,?_⟩;rw [HP.out];exact below_setRow bi.out (Nat.le_refl _) _
     ·rw [decide_eq_false o] at bk;have H:Hid (r=jO 0 0 0):=by unfold Hid;rw [z.out,if_neg o]
      have I:Hid (decide (M=X)=false):=decide_eq_false o;clear o z Z;generalize strOfNums M=s1 at *;generalize strOfNums X=s2 at *;go_wp2_with (first
       | (refine aK rfl (.tmp 2) (.tmp 33) rfl p rfl 0 0 0 rfl 0 0 0 t.out ?_))
      refine bodyPost_ret (bI rfl _ _ p 0 0 0 rfl (t.out.set _ _ _)) rfl ?_;refine ⟨by rw [H.out,I.out];rfl,?_⟩;rw [HP.out];exact below_setRow bi.out (Nat.le_refl _) _
   ·have c6:((s:Int)==255)=false:=by simp;omega
    go_upto_region 6 with fail
    have a4:Hid (bh W2 q lr d k):=by unfold Hid;rw [cp.out];unfold rS;rw [if_neg b9];exact an.out
    have C:=bs;have a5:=a3;have a6:Hid (p<W2.heap.size):=ah C.out;clear an bs a3 K bl hz;generalize W2=W3 at *;have a7:Mj w p q lr d k W3.drew:=⟨a5.out.drew,a6.out,C.out,a4.out⟩
    refine ax (K7 p B c lr d k M X) (fun _ W=>Mj w p q lr d k W) (fun _ w w'=>w.grownBy w' none) Hc Hc (fun i j v' w' cr cs b8 h hg=>h.on hg) a7 ?_;clear a7 a5 a6 C a4;simp only [cf];refine ⟨?_,?_,?_,?_,?_,?_⟩
    ·refine aa.of rfl fun T W L hag m hJ b hd=>?_;have e4:=Hf hag 4;refine lD (.tmp 4) rfl q e4 lr d k hJ.q ?_;exact ⟨_,rfl,rfl,hJ,World.grownBy.refl _ _⟩
    ·refine aa.of rfl fun T W L hag m hJ b hd=>?_;have c3:T.getD 27 undef=_:=Hg hd 0 rfl;clear hag hd;go_simp;refine (bx.out W).mono ?_;rintro en w' ⟨u,rfl,ho,hb⟩;exact ⟨_,rfl,World.ownsRow.mono ho (Nat.le_of_lt hJ.sz),⟨hJ.bel.trans (hb.mono (Nat.le_of_lt hJ.sz)),Nat.lt_of_lt_of_le hJ.sz hb.size,hJ.at_.below hb,hJ.q.below hb⟩,dZ hb⟩
    ·refine aa.of rfl fun T W L hag m hJ b hd=>?_;have a8:W.ownsRow p 5 1 (T.getD 28 undef) M.length (Bs M):=Hg hd 1 rfl;obtain ⟨A1,d1,(c4:T.getD 28 undef=_),_,_,hy1⟩:=bM a8 rfl;have cv:=dB (c:=d1) hy1 rfl;clear hag hd a8;go_simp;exact ⟨_,rfl,rfl⟩
    ·refine aa.of rfl fun T W L hag m hJ b hd=>?_;have e0:=Hf hag 0;exact Hi
    ·refine aa.of rfl fun T W L hag m hJ b hd=>?_;have c5:T.getD 30 undef=_:=Hg hd 3 rfl;have cv:=dB (c:=c) (HY.out.keep (HP.out.symm ▸ hJ.bel)) cb.out;exact Hi
    ·refine bm.of rfl fun T W L hag b m hJ hd=>?_;have a9:T.getD 29 undef=_:=hd 2 _ Hb rfl;have bb:T.getD 31 undef=_:=hd 4 _ Hb rfl;obtain ⟨f,hf,y⟩:=aJ hag;have cg:=(hf 29).trans a9;have ch:=(hf 31).trans bb;have K:=He hJ;clear hag hd a9 bb hJ hf;rw [y];clear y;simp only [List.pop_toArray,List.dropLast_cons_cons,List.dropLast_singleton,List.filterMap_cons,List.filterMap_nil,List.foldl_cons,List.foldl_nil,List.setIfInBounds_toArray,List.set_cons_succ,List.set_cons_zero,cg,ch];have bi:=He K.out.bel;have t:=He K.out.at_;have ci:=He K.out.q;clear K;have bk:=Z.out;by_cases o:M=X
     ·rw [decide_eq_true o] at bk;have H:Hid (r=jO lr d k):=by unfold Hid;rw [z.out,if_pos o]
      have I:Hid (decide (M=X)=true):=decide_eq_true o;clear o z Z;generalize strOfNums M=s1 at *;generalize strOfNums X=s2 at *;go_wp2_with (first
       | (refine g6 rfl (.tmp 4) rfl q rfl lr d k ci.out ?_)
       | (refine aK rfl (.tmp 2) (.tmp 34) rfl p rfl lr d k rfl 0 0 0 t.out ?_))
      refine bodyPost_ret (bI rfl _ _ p lr d k rfl (t.out.set _ _ _)) rfl ?_;refine ⟨by rw [H.out,I.out];rfl,?_⟩;rw [HP.out];exact below_setRow bi.out (Nat.le_refl _) _
     ·rw [decide_eq_false o] at bk;have H:Hid (r=jO 0 0 0):=by unfold Hid;rw [z.out,if_neg o]
      have I:Hid (decide (M=X)=false):=decide_eq_false o;clear o z Z;generalize strOfNums M=s1 at *;generalize strOfNums X=s2 at *;go_wp2_with (first
       | (refine aK rfl (.tmp 2) (.tmp 33) rfl p rfl 0 0 0 rfl 0 0 0 t.out ?_))
      refine bodyPost_ret (bI rfl _ _ p 0 0 0 rfl (t.out.set _ _ _)) rfl ?_;refine ⟨by rw [H.out,I.out];rfl,?_⟩;rw [HP.out];exact below_setRow bi.out (Nat.le_refl _) _
 ·have y:¬ g8 xs:=fun h=>h7 h.1;have hV:jv xs=jO 0 0 0:=by unfold jv;rw [if_neg y]
  rw [hV,decide_eq_false y];clear y hV hB hy;generalize xs.length=n at *;have o:((n:Int) != 7)=true:=by simp;omega
  go_enter Tryz.func199,Tryz.ntmps199;go_wp2_with (refine aK rfl (.tmp 2) (.tmp 8) rfl w.heap.size rfl 0 0 0 rfl 0 0 0 H0.out ?_)
  refine bodyPost_ret (bI rfl _ _ w.heap.size 0 0 0 rfl (H0.out.set _ _ _)) rfl ?_;exact ⟨rfl,below_setRow HB.out (Nat.le_refl _) _⟩
theorem yh {l a g:Int} (h:gL l a g):ij l a g=wG l a g:=by unfold ij;rw [if_pos h]
theorem IA (l a g:Int):ay (ij l a g):=uv (fun _=>trivial)
theorem C8 {xs:List Int} (h:¬ g8 xs):jv xs=jO 0 0 0:=by unfold jv;rw [if_neg h]
section
variable {H:Type} {enc:TypeId × Value->H} {w:World} {base:Nat} {spare:Nat->Bool} {held:Bool}
end
structure En where
 l:Int
 a:Int
 g:Int
 t:List Int
 p:Int
 n:Int
theorem En.ext_iff' (n m:En):n=m↔((n.l=m.l/\n.a=m.a/\n.g=m.g)/\n.t=m.t/\n.p=m.p/\n.n=m.n):=by
 cases n;cases m;simp only [En.mk.injEq];constructor <;> (intro h;simp only [h,and_self])
instance (n m:En):Decidable (n=m):=decidable_of_iff _ (En.ext_iff' n m).symm
def dL (n:En):Array Value:=#[.int .i64 n.l,.int .i64 n.a,.int .u32 n.g,.string (strOfNums n.t),.int .i64 n.p,.int .u32 n.n]
structure Fk (n:En):Prop where
 l:i64 n.l
 a:i64 n.a
 g:u32 n.g
 t:ay n.t
 tl:n.t.length<=9223372036854775807
 p:i64 n.p
 n:u32 n.n
def en0:En:=⟨0,0,0,[],0,0⟩
theorem Bu (n:En):(dL n).all (·.oneCell')=true:=by unfold dL;simp [Value.oneCell']
theorem Jx:(Tryz.prog.info? 168).map (fun i=>(i.zero,i.size))=some (some (.agg (dL en0)),6):=Hc
theorem Bv:(Tryz.prog.info? 168).map (·.size)=some 6:=Hc
theorem Kr:Tryz.prog.built 168 []=some (dL en0):=Hc
def bS (w:World) (p:Nat) (n:En):Prop:=w.heap[p]?=some (.cells (dL n) 168 (0,0))
theorem bS.below {w w':World} {p:Nat} {n:En} (h:bS w p n) (a:Below w.heap.size w w'):bS w' p n:=kb a h
theorem bS.new (w:World) (n:En):bS (w.alloc (Obj.cells (dL n) 168)) w.heap.size n:=heap_alloc_new _ _
theorem bS.alloc {w:World} {p:Nat} {n:En} (h:bS w p n) (o:Obj):bS (w.alloc o) p n:=kb (aM o) h
theorem bS.grown {w w':World} {p:Nat} {n:En} {r:Option Nat} (h:bS w p n) (a:w.grownBy w' r) (b:r≠some p):bS w' p n:=by
 unfold bS;rw [a.block p (ah h) (fun e=>b e.symm)];exact h
theorem bS.set {w:World} {p:Nat} {n:En} (h:bS w p n) (m:En):bS (w.setRow p (dL m)) p m:=am h
theorem bS.other {w:World} {p q:Nat} {n:En} (h:bS w p n) (C:Array Value) (a:p≠q):bS (w.setRow q C) p n:=by
 unfold bS;rw [setRow_other w q p C a];exact h
theorem bS.cell {w:World} {p:Nat} {n:En} (h:bS w p n) (i:Nat):w.cell? ⟨p,i,none⟩=(dL n)[i]?:=af h i
theorem bS.cells {w:World} {p:Nat} {n:En} (h:bS w p n):w.cell? ⟨p,3,none⟩=some (.string (strOfNums n.t))/\w.cell? ⟨p,4,none⟩=some (.int .i64 n.p)/\w.cell? ⟨p,5,none⟩=some (.int .u32 n.n):=⟨h.cell 3,h.cell 4,h.cell 5⟩
section
variable {ops:Array Oper} {rest:List Oper} {o:Oper} {ac:Act} {w:World} {Q:Exit->Act->World->Prop}
theorem gq (a:o.guard=none) (d:o.op=.alloc 168)
 (h:wpList Tryz.prog ops Q rest (ac.put o.dst (.pointer (some ⟨w.heap.size,0,none⟩))) (w.alloc (.cells (dL en0) 168))):wpList Tryz.prog ops Q (o :: rest) ac w:=by
 obtain ⟨e,f,b,g⟩:∃ i,Tryz.prog.info? 168=some i/\i.zero=some (.agg (dL en0))/\i.size=6:=by
  have h:=Jx;cases c:Tryz.prog.info? 168 with
  | none=>rw [c] at h;cases h
  | some i=>rw [c] at h;simp only [Option.map_some,Option.some.injEq,Prod.mk.injEq] at h;exact ⟨i,rfl,h.1,h.2⟩
 exact wpList_plain a fun _ j=>ce 168 d e _ f b (j _ _ h)
theorem fF (a:o.guard=none) (b:o.op=.build 168 #[])
 (h:wpList Tryz.prog ops Q rest (ac.put o.dst (.agg (dL en0))) w):wpList Tryz.prog ops Q (o :: rest) ac w :=
 wpList_plain a fun _ c=>by
  unfold Oper.wp execOp;have d:=run_build (P:=Tryz.prog) w 168 #[] _ Kr;simp only [b,List.map_toArray,List.map_nil,Sem.run_bind,d,Result.andThen_ok];exact c _ _ h
theorem bK (a:o.guard=none) (x y:Operand) (b:o.op=.store 168 x y) (p:Nat) (c:ac.eval x=.pointer (some ⟨p,0,none⟩)) (n m:En) (d:ac.eval y=.agg (dL n)) (e:bS w p m)
 (h:wpList Tryz.prog ops Q rest (ac.put o.dst undef) (w.setRow p (dL n))):wpList Tryz.prog ops Q (o :: rest) ac w :=
 wpList_store_row a 168 x y b p _ c d _ _ e Bv rfl (Bu _) h
theorem fX (a:o.guard=none) (x:Operand) (b:o.op=.load 168 x) (p:Nat) (c:ac.eval x=.pointer (some ⟨p,0,none⟩)) (n:En) (d:bS w p n)
 (h:wpList Tryz.prog ops Q rest (ac.put o.dst (.agg (dL n))) w):wpList Tryz.prog ops Q (o :: rest) ac w :=
 wpList_load_row a 168 x b p c _ _ _ _ d Tryz.underlying168 rfl Bv h
theorem uw {K:Act->World->Prop} (x y:Operand) (a:o.op=.store 168 x y) (p:Nat) (b:ac.eval x=.pointer (some ⟨p,0,none⟩)) (n m:En) (c:ac.eval y=.agg (dL n)) (d:bS w p m)
 (h:K (ac.put o.dst undef) (w.setRow p (dL n))):o.wp Tryz.prog ac w K Q :=
 wp_store_row 168 x y a p _ b c _ _ d Bv rfl (Bu _) h
end
theorem fG {a:Func} {p u:Tmp} (h:a.results=#[.cell p 168,.tmp u]) (tmps:Array Value) (w:World) (q:Nat) (n:En) (hp:tmps.getD p undef=.pointer (some ⟨q,0,none⟩)) (b:bS w q n) :
 (results a tmps).run Tryz.prog w=.ok (.tuple #[.agg (dL n),tmps.getD u undef]) w:=by
 rw [results_cell_tmp h,hp];simp only [asAddr,Sem.run_pure,Result.andThen_ok];rw [run_loadVar_row w q _ _ _ _ _ b Tryz.underlying168 rfl Bv];rfl
def vP (t:List Int) (i:Nat):Prop:=(33<=t.getD i 0/\t.getD i 0<=126)/\t.getD i 0≠47
instance (t:List Int) (i:Nat):Decidable (vP t i):=by unfold vP;infer_instance
def Bw (t:List Int):Prop:=((1<=t.length/\t.length<=14)/\t≠[46]/\t≠[46,46])/\∀ i,i<t.length->vP t i
instance (t:List Int):Decidable (Bw t):=by unfold Bw;infer_instance
theorem IB {t:List Int} (h:ay t):((strOfNums t).toList==([46]:List UInt8))=decide (t=[46]):=by
 have e:(strOfNums [46]).toList=([46]:List UInt8):=by rw [dA];rfl
 rw [<- e];exact lT h (fun x a=>by rw [List.mem_singleton] at a;subst a;decide)
theorem Fm {t:List Int} (h:ay t):((strOfNums t).toList==([46,46]:List UInt8))=decide (t=[46,46]):=by
 have e:(strOfNums [46,46]).toList=([46,46]:List UInt8):=by rw [dA];rfl
 rw [<- e];exact lT h (fun x a=>by simp at a;subst a;decide)
theorem or (t:List Int) (w:World) (s:ay t) (U:t.length<=100):Calls Tryz.prog 82 #[.string (strOfNums t)] w fun e w'=>e=.returned (.bool (decide (Bw t)))/\w=w':=by
 have V:=strOfNums_size t;have M:=He (fun k y h w=>nb t s (k:=k) (y:=y) h w);have f:Hid (¬ (1<=t.length/\t.length<=14)->decide (Bw t)=false):=fun h=>decide_eq_false fun c=>h c.1.1;have u:Hid (∀ i,i<t.length->¬ vP t i->decide (Bw t)=false):=fun i A h=>decide_eq_false fun c=>h (c.2 i A);have v:Hid (decide (t=[46])=true->decide (Bw t)=false):=fun h=>decide_eq_false fun c=>c.1.2.1 (of_decide_eq_true h);have x:Hid (decide (t=[46,46])=true->decide (Bw t)=false):=fun h=>decide_eq_false fun c=>c.1.2.2 (of_decide_eq_true h);have N:Hid ((1<=t.length/\t.length<=14)->decide (t=[46])=false->decide (t=[46,46])=false->(∀ i,i<t.length->vP t i)->decide (Bw t)=true):=fun g l q B=>decide_eq_true ⟨⟨g,of_decide_eq_false l,of_decide_eq_false q⟩,B⟩;have O:Hid (∀ k,k<t.length->∃ y,t[k]?=some y/\t.getD k 0=y):=fun k z=>⟨t[k],List.getElem?_eq_getElem z,by rw [List.getD,List.getElem?_eq_getElem z];rfl⟩
 have W:=IB s;have X:=Fm s;generalize strOfNums t=S at *;generalize R:t.length=m at *;clear R;generalize decide (Bw t)=D at *;generalize decide (t=[46])=C at *;generalize decide (t=[46,46])=H at *;go_enter Tryz.func82,Tryz.ntmps82;go_wp2
 go_loop [3] (fun i=>∃ k:Nat,k<=m/\i=.int .i64 k/\∀ j,j<k->vP t j) (fun i=>m-(intOf i).toNat)
 case atStart=>exact ⟨0,Nat.zero_le _,rfl,fun j hj=>absurd hj Ha⟩
 case round =>
  obtain ⟨k,z,rfl,n⟩:=hrel;have I:=He n;clear n;by_cases o:k<m
  ·obtain ⟨y,K,p⟩:=O.out k o;have T:=fun w=>M.out k y K w;have r:Hid (vP t k↔((33<=y/\y<=126)/\y≠47)):=by unfold Hid vP;rw [p]
   have d:=He (u.out k o);clear K p;by_cases q:y<33
   ·have b:=He (d.out fun h=>by have:=r.out.1 h;omega);go_wp2;go_ret;exact ⟨aj b.out.symm,rfl⟩
   ·by_cases B:126<y
    ·have b:=He (d.out fun h=>by have:=r.out.1 h;omega);go_wp2;go_ret;exact ⟨aj b.out.symm,rfl⟩
    ·by_cases h5:y=47
     ·have b:=He (d.out fun h=>by have:=r.out.1 h;omega);go_wp2;go_ret;exact ⟨aj b.out.symm,rfl⟩
     ·have b:Hid (∀ j,j<k+1->vP t j):=fun j hj=>by
       rcases Nat.lt_or_ge j k with L | L
       ·exact I.out j L
       ·obtain rfl:j=k:=Ha;exact r.out.2 Ha
      go_wp2
      go_round
      case rel=>exact ⟨k+1,Ha,by go_num,b.out⟩
      case measure=>simp [intOf];omega
  ·have b:Hid ((1<=m/\m<=14)->C=false->H=false->D=true):=fun g l q=>N.out g l q fun i A=>I.out i Ha;by_cases g:1<=m
   ·by_cases l:m<=14
    ·cases C
     ·cases H
      ·have a:=He (b.out ⟨g,l⟩ rfl rfl);go_wp2;go_ret;exact ⟨aj (by first | exact a.out.symm | (rw [a.out];simp;omega)),rfl⟩
      ·have a:=He (x.out rfl);go_wp2;go_ret;exact ⟨aj (by first | exact a.out.symm | (rw [a.out];simp;omega)),rfl⟩
     ·have a:=He (v.out rfl);go_wp2;go_ret;exact ⟨aj (by first | exact a.out.symm | (rw [a.out];simp;omega)),rfl⟩
    ·have a:=He (f.out Ha);go_wp2;go_ret;exact ⟨aj (by first | exact a.out.symm | (rw [a.out];simp;omega)),rfl⟩
   ·have a:=He (f.out Ha);go_wp2;go_ret;exact ⟨aj (by first | exact a.out.symm | (rw [a.out];simp;omega)),rfl⟩
def j3 (n:En):Prop:=(gL n.l n.a n.g/\Bw n.t)/\(1<=n.p/\n.p<200)/\1<=n.n
instance (n:En):Decidable (j3 n):=by unfold j3;infer_instance
theorem bS.dir {w:World} {p:Nat} {n:En} (h:bS w p n):w.rangeAt p 0 [.int .i64 n.l,.int .i64 n.a,.int .u32 n.g]:=fun j v hj=>by
 rw [h.cell]
 match j,hj with
 | 0,hj=>injection hj with hj;subst hj;rfl
 | 1,hj=>injection hj with hj;subst hj;rfl
 | 2,hj=>injection hj with hj;subst hj;rfl
section
variable {ops:Array Oper} {rest:List Oper} {o:Oper} {ac:Act} {w:World} {Q:Exit->Act->World->Prop}
theorem fH (b:o.guard=none) (x:Operand) (c:o.op=.load 82 x) (p:Nat) (d:ac.eval x=.pointer (some ⟨p,0,none⟩)) (n:En) (e:bS w p n)
 (h:wpList Tryz.prog ops Q rest (ac.put o.dst (jO n.l n.a n.g)) w):wpList Tryz.prog ops Q (o :: rest) ac w :=
 wpList_load_mid b 82 x c p 0 d _ _ e.dir Tryz.underlying82 rfl j1 h
theorem Ac {K:Act->World->Prop} (x:Operand) (b:o.op=.load 82 x) (p:Nat) (c:ac.eval x=.pointer (some ⟨p,0,none⟩)) (n:En) (d:bS w p n)
 (h:K (ac.put o.dst (jO n.l n.a n.g)) w):o.wp Tryz.prog ac w K Q :=
 wp_load_mid 82 x b p 0 c _ _ d.dir Tryz.underlying82 rfl j1 h
end
theorem Ae (n:En) (w:World) (C:Fk n) (H:n.t.length<=100):Calls Tryz.prog 169 #[.agg (dL n)] w fun e w'=>e=.returned (.bool (decide (j3 n)))/\Below w.heap.size w w':=by
 have d:=He (bS.new w n);have HB:=He (aM (w:=w) (Obj.cells (dL n) 168));have r:=He (fun w=>pe n.l n.a n.g w);have u:=He (fun w=>or n.t w C.t H);have v:=He (fun w=>mc n.p w);go_enter Tryz.func169,Tryz.ntmps169;go_upto_region 1 with fail
 generalize w.alloc (Obj.cells (dL n) 168)=W at *;by_cases i:gL n.l n.a n.g
 ·have j:=He (decide_eq_true i);rw [j.out] at r;by_cases k:Bw n.t
  ·have m:=He (decide_eq_true k);rw [m.out] at u;by_cases s:1<=n.p/\n.p<200
   ·have o:=He (decide_eq_true s);rw [o.out] at v;have q:Hid (decide (j3 n)=decide (1<=n.n)):=by
     unfold Hid;rw [decide_eq_decide];unfold j3;exact ⟨fun h=>h.2.2,fun h=>⟨⟨i,k⟩,s,h⟩⟩
    clear i k s;go_wp2_with (refine fH rfl (.tmp 3) rfl w.heap.size rfl n d.out ?_)
    refine (r.out _).mono ?_;rintro e y ⟨rfl,b⟩;have f:=He (d.out.below b);have c:=He (aR HB.out b);clear b d HB;obtain ⟨z,A,B⟩:=f.out.cells;go_wp2_with fail
    refine (u.out _).mono ?_;rintro e x ⟨rfl,rfl⟩;go_wp2_with fail
    refine (v.out _).mono ?_;rintro e x ⟨rfl,rfl⟩;go_wp2_with fail
    go_ret;exact ⟨aj q.out.symm,c.out⟩
   ·have o:=He (decide_eq_false s);rw [o.out] at v;have q:Hid (decide (j3 n)=false):=decide_eq_false fun h=>s h.2.1;clear i k s;go_wp2_with (refine fH rfl (.tmp 3) rfl w.heap.size rfl n d.out ?_)
    refine (r.out _).mono ?_;rintro e y ⟨rfl,b⟩;have f:=He (d.out.below b);have c:=He (aR HB.out b);clear b d HB;obtain ⟨z,A,B⟩:=f.out.cells;go_wp2_with fail
    refine (u.out _).mono ?_;rintro e x ⟨rfl,rfl⟩;go_wp2_with fail
    refine (v.out _).mono ?_;rintro e x ⟨rfl,rfl⟩;go_wp2_with fail
    go_ret;exact ⟨aj q.out.symm,c.out⟩
  ·have m:=He (decide_eq_false k);rw [m.out] at u;have q:Hid (decide (j3 n)=false):=decide_eq_false fun h=>k h.1.2;clear i k;go_wp2_with (refine fH rfl (.tmp 3) rfl w.heap.size rfl n d.out ?_)
   refine (r.out _).mono ?_;rintro e y ⟨rfl,b⟩;have f:=He (d.out.below b);have c:=He (aR HB.out b);clear b d HB;obtain ⟨z,A,B⟩:=f.out.cells;go_wp2_with fail
   refine (u.out _).mono ?_;rintro e x ⟨rfl,rfl⟩;go_wp2_with fail
   go_ret;exact ⟨aj q.out.symm,c.out⟩
 ·have j:=He (decide_eq_false i);rw [j.out] at r;have q:Hid (decide (j3 n)=false):=decide_eq_false fun h=>i h.1.1;clear i;go_wp2_with (refine fH rfl (.tmp 3) rfl w.heap.size rfl n d.out ?_)
  refine (r.out _).mono ?_;rintro e y ⟨rfl,b⟩;have c:=He (aR HB.out b);clear b d HB;go_wp2_with fail
  go_ret;exact ⟨aj q.out.symm,c.out⟩
def rT (n:En):List Int:=(wG n.l n.a n.g++be n.p.toNat 2)++be n.n.toNat 4
def rU (n:En):List Int:=rT n++[(n.t.length:Int)]
def cU (n:En):List Int:=rU n++n.t
theorem rW (l a g:Int):(wG l a g).length=7:=by unfold wG C6;rw [List.length_append,au];rfl
theorem vQ (n:En):(rT n).length=13:=by unfold rT;rw [List.length_append,List.length_append,rW,au,au]
theorem td (n:En):(rU n).length=14:=by unfold rU;rw [List.length_append,vQ];rfl
theorem j4 (n:En):(cU n).length=14+n.t.length:=by unfold cU;rw [List.length_append,td]
theorem j3.tl {n:En} (h:j3 n):n.t.length<=14:=h.1.2.1.1.2
theorem Fn {l a g:Int} (h:gL l a g):ay (wG l a g):=by rw [<- yh h];exact IA _ _ _
theorem yi {n:En} (h:j3 n) (b:ay n.t):ay (cU n):=by
 have c:=h.tl;refine ay.append (ay.append (ay.append (ay.append (Fn h.1.1) (cF _ _)) (cF _ _)) fun x a=>?_) b;rw [List.mem_singleton] at a;subst a;omega
def gw (n:En):Int:=if j3 n then 6 else 0
def fI (n:En):List Int:=if j3 n then bH (cU n) else az
theorem pf {n:En}:(fI n).length=56:=by
 unfold fI;split
 ·rename_i h;have:=h.tl;exact fV (by rw [j4];omega)
 ·exact ak
theorem rX {n:En} (a:ay n.t):ay (fI n):=by
 unfold fI;split
 ·rename_i h;exact rA (yi h a)
 ·exact fc
def qi (bs ys:List Int) (o:Nat):List Int:=bs.take o++ys++bs.drop (o+ys.length)
theorem IC {bs ys:List Int} {o:Nat} (h:bs.length=56) (a:o+ys.length<=56):(qi bs ys o).length=56:=by
 unfold qi;simp only [List.length_append,List.length_take,List.length_drop];omega
theorem yj (g l h:Nat) (b:l<=h) (i:h<=56) (j:l<56) (w:World):(Instr.sliceAt 35 (.pointer (some ⟨g,1,none⟩)) (some (.int .i64 l)) (some (.int .i64 h)) none).run Tryz.prog w=.ok (.slice (some ⟨g,1+l,none⟩) (h-l) (56-l)) w:=by
 have c:=Tryz.sizeOf5;have a:Tryz.prog.arrayLen 35=56:=Hc;have d:Tryz.prog.elem 35=5:=Hc;have e:Tryz.prog.underlying 35=some (.array (Tryz.prog.arrayLen 35) (Tryz.prog.elem 35)):=Hc;rw [run_sliceAt_array_lh w 35 _ e .i64 .i64 (l:Int) (h:Int) Ha Ha (by rw [a];omega),a,d];have f:¬ 56=l:=Ha;simp [c,slicedAt,cZ,f]
section
variable {w W W':World} {p:Nat} {n:En} {k:Int} {ys zs:List Int}
end
def hH (bs:List Int):En:=⟨Fg (aW bs 0 7),Fh (aW bs 0 7),Fi (aW bs 0 7),aW bs 14 (bs.getD 13 0).toNat,aB (aW bs 7 2),aB (aW bs 9 4)⟩
def dV (k:Int) (bs:List Int):Prop:=bs.getD 13 0<=14/\j3 (hH bs)/\k=6/\bH (cU (hH bs))=bs
instance (k:Int) (bs:List Int):Decidable (dV k bs):=by unfold dV;infer_instance
def rY (k:Int) (bs:List Int):En:=if dV k bs then hH bs else en0
theorem LN {xs:List Int} (a:ay xs) (i:Nat):nB xs i<256:=by have:=mf a i;unfold nB;omega
theorem Fo {bs:List Int} (a:bs.length=56) (c:ay bs):Fk (hH bs):=by
 have d:=js (o:=9) a c Ha;have e:=lB (o:=7) a c Ha;have b:=LN (gZ c 0 7);have f:=b 0;have g:=b 1;have h:=b 2;have i:=b 3;have j:=b 4;have k:=b 5;have l:=b 6;refine ⟨?_,?_,?_,gZ c _ _,?_,?_,?_⟩
 ·show i64 (Fg (aW bs 0 7));unfold Fg o9 i64;split <;> omega
 ·show i64 (Fh (aW bs 0 7):Int);unfold Fh i64;omega
 ·show u32 (Fi (aW bs 0 7):Int);unfold Fi u32;omega
 ·show (aW bs 14 _).length<=_;unfold aW;rw [List.length_take,List.length_drop];omega
 ·show i64 (aB (aW bs 7 2):Int);unfold i64;omega
 ·show u32 (aB (aW bs 9 4):Int);unfold u32;omega
theorem Af {bs:List Int} (b:bs.length=56):g8 (aW bs 0 7)↔gL (hH bs).l (hH bs).a (hH bs).g :=
 ⟨fun h=>h.2,fun h=>⟨fW b Ha,h⟩⟩
theorem C9 {bs:List Int} (h:g8 (aW bs 0 7)):jv (aW bs 0 7)=jO (hH bs).l (hH bs).a (hH bs).g:=by unfold jv;rw [if_pos h];rfl
section
variable {w W W':World} {p:Nat} {k j:Int} {bs cs:List Int} {m:En}
end
end Go.Proofs.YtegjelaejbacnaaGreat
