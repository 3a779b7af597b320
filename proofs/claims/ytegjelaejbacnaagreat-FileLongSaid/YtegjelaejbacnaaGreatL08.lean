/- For FileLong: contracts and facts, part 8. -/
import Derived.Deep.DeepCutAuto
import Derived.StillTailTactics
import Derived.Test.YtegjelaejbacnaaGreatL01
import Derived.Test.YtegjelaejbacnaaGreatL02
import Derived.Test.YtegjelaejbacnaaGreatL05
import Derived.Test.YtegjelaejbacnaaGreatL06
import Derived.Test.YtegjelaejbacnaaGreatL07
set_option maxRecDepth 100000
set_option maxHeartbeats 25600000
set_option linter.unusedVariables false
open Go.ChangeShapes Go.WideShapes Go.ChangeAt Go.RowKit
namespace Go.Proofs.YtegjelaejbacnaaGreat
def bJ (d:Option Addr) (r:Int) (n g:Nat) (f:Int):Array Value:=#[.pointer d,.int .i64 r,.int .u8 0,.int .i64 0,.int .i64 0,.int .i64 n,.int .i64 g,.int .i64 f]
theorem q9 (d:Option Addr) (r:Int) (n g:Nat) (f:Int):(bJ d r n g f).all (·.oneCell')=true:=by
 refine Array.all_eq_true_iff_forall_mem.2 fun v a=>?_;unfold bJ at a;simp only [List.mem_toArray,List.mem_cons,List.not_mem_nil,or_false] at a;rcases a with rfl | rfl | rfl | rfl | rfl | rfl | rfl | rfl <;> rfl
theorem oU:(Tryz.prog.info? 115).map (·.size)=some 8:=Hc
section
variable {ops:Array Oper} {rest:List Oper} {o:Oper} {a:Act} {w:World} {Q:Exit->Act->World->Prop}
theorem jX (c:o.guard=none) (x y:Operand) (f:o.op=.store 115 x y) (p:Nat) (g:a.eval x=.pointer (some ⟨p,0,none⟩)) (cs:Array Value) (e:cs.size=8) (i:cs.all (·.oneCell')=true) (j:a.eval y=.agg cs) (b:Array Value) (d:b.size=8) (k:w.heap[p]?=some (.cells b 115 (0,0)))
 (h:wpList Tryz.prog ops Q rest (a.put o.dst undef) (w.setRow p cs)):wpList Tryz.prog ops Q (o :: rest) a w :=
 wpList_store_row c 115 x y f p _ g j _ _ k (by rw [e];exact oU) (by rw [e,d]) i h
theorem ja (b:o.guard=none) (x:Operand) (c:o.op=.load 115 x) (p:Nat) (d:a.eval x=.pointer (some ⟨p,0,none⟩)) (cs:Array Value) (e:cs.size=8) (f:w.heap[p]?=some (.cells cs 115 (0,0)))
 (h:wpList Tryz.prog ops Q rest (a.put o.dst (.agg cs)) w):wpList Tryz.prog ops Q (o :: rest) a w :=
 wpList_load_row b 115 x c p d _ _ _ _ f Tryz.underlying115 rfl (by rw [e];exact oU) h
end
theorem xv {a:Func} {p u:Tmp} (h:a.results=#[.cell p 115,.tmp u]) (tmps:Array Value) (w:World) (g:Nat) (cs:Array Value) (hp:tmps.getD p undef=.pointer (some ⟨g,0,none⟩)) (b:cs.size=8) (c:w.heap[g]?=some (.cells cs 115 (0,0))) :
 (results a tmps).run Tryz.prog w=.ok (.tuple #[.agg cs,tmps.getD u undef]) w:=by
 rw [results_cell_tmp h,hp];simp only [asAddr,Sem.run_pure,Result.andThen_ok];rw [run_loadVar_row w g _ _ _ _ _ c Tryz.underlying115 rfl (by rw [b];exact oU)];rfl
def ko (d:Option Addr) (r:Int) (n g:Nat) (f:Int):Value:=.agg (bJ d r n g f)
theorem nV (d:Option Addr) (r:Int) (n g:Nat) (f:Int) (H:n<=200) (I:g<=1000) (w:World) :
 Calls Tryz.prog 93 #[.pointer d,.int .i64 r,qq 0 0 n g f] w fun e w'=>e=.returned (.tuple #[ko d r n g f,.bool true])/\Below w.heap.size w w':=by
 have s:=He (fun W=>GS 0 0 W Ha Ha);have t:decide ((n:Int)<0)=false:=decide_eq_false Ha;have u:decide (200<(n:Int))=false:=decide_eq_false Ha;have v:decide ((g:Int)<0)=false:=decide_eq_false Ha;unfold qq ko;go_enter Tryz.func93,Tryz.ntmps93;go_wp2_with fail
 have h:Below w.heap.size w ((w.alloc (Obj.cells #[.int .i64 0,.int .i64 0,.int .i64 n,.int .i64 g,.int .i64 f] 97)).alloc (Obj.cells #[.pointer none,.int .i64 0,.int .u8 0,.int .i64 0,.int .i64 0,.int .i64 0,.int .i64 0,.int .i64 0] 115)):=((Below.refl _ _).alloc (Nat.le_refl _) _).alloc Hb _;have i:=heap_alloc_new w (Obj.cells #[.int .i64 0,.int .i64 0,.int .i64 n,.int .i64 g,.int .i64 f] 97);have b:=heap_alloc_new (w.alloc (Obj.cells #[.int .i64 0,.int .i64 0,.int .i64 n,.int .i64 g,.int .i64 f] 97)) (Obj.cells #[.pointer none,.int .i64 0,.int .u8 0,.int .i64 0,.int .i64 0,.int .i64 0,.int .i64 0,.int .i64 0] 115);have j:=(Below.heap_alloc (w.alloc (Obj.cells #[.int .i64 0,.int .i64 0,.int .i64 n,.int .i64 g,.int .i64 f] 97)) (Obj.cells #[.pointer none,.int .i64 0,.int .u8 0,.int .i64 0,.int .i64 0,.int .i64 0,.int .i64 0,.int .i64 0] 115) w.heap.size Hb).trans i;have q:(w.alloc (Obj.cells #[.int .i64 0,.int .i64 0,.int .i64 n,.int .i64 g,.int .i64 f] 97)).heap.size=w.heap.size+1:=Hb;rw [q] at b;clear i q;generalize (w.alloc (Obj.cells #[.int .i64 0,.int .i64 0,.int .i64 n,.int .i64 g,.int .i64 f] 97)).alloc (Obj.cells #[.pointer none,.int .i64 0,.int .u8 0,.int .i64 0,.int .i64 0,.int .i64 0,.int .i64 0,.int .i64 0] 115)=W0 at *;refine (s.out _).mono ?_;rintro e x ⟨rfl,l⟩;have c:=kb l b;have a:=kb l j;have HB:=He (aR h l);have y:=af a 0;have z:=af a 1;have A:=af a 2;have B:=af a 3;have C:=af a 4;simp only [List.getElem?_toArray,List.getElem?_cons_zero,List.getElem?_cons_succ] at y z A B C;generalize m:w.heap.size=k at *;have K:x.cell? ⟨k+1,0,none⟩=some (.pointer none):=af c 0;clear b j a l h;go_wp2_with (refine jX rfl (.tmp 6) (.tmp 38) rfl (k+1) rfl (bJ d r n g f) rfl (q9 _ _ _ _ _) rfl _ rfl c ?_)
 have o:=am (D:=bJ d r n g f) c;have p:=He (below_setRow HB.out (show k<=k+1 by omega) (bJ d r n g f));refine bodyPost_ret (xv rfl _ _ (k+1) _ rfl rfl o) rfl ?_;exact ⟨rfl,by rw [m];exact p.out⟩
theorem kI {w0 W:World} {P:Nat->Prop} {q:Nat} {m:DM} (h:DS w0 W P q m) (r:Int) (l:i64 r) (n g:Nat) (f:Int) (a:m.done.length<1000000) :
 Calls Tryz.prog 155 #[ko (some ⟨q,0,none⟩) r n g f] W fun e w'=>e=.returned (.tuple #[])/\DS w0 w' P q (m.doBarrier r)/\bz P W w':=by
 have c:=He h;have p:=He a;clear h a;unfold ko bJ;go_enter Tryz.func155,Tryz.ntmps155;go_wp2_with fail
 have d:∀ o,Below W.heap.size W (W.alloc o):=fun o=>(Below.refl _ _).alloc (Nat.le_refl _) _;have hd:=fun o=>c.out.below (d o) (fun k s=>Or.inl s);refine ((hd _).barrier r l p.out).mono ?_;rintro e w' ⟨rfl,b,j⟩;have t:=He ((c.out.same (d _)).trans j);have i:=He b;clear hd d b j c;go_wp2
 go_end0
 exact ⟨rfl,i.out,t.out⟩
theorem mW {w0 W:World} {P:Nat->Prop} {q:Nat} {m:DM} (h:DS w0 W P q m) (r:Int) (w:i64 r) (n g:Nat) (f:Int) (i:Int) (x:i64 i) (A:Option Addr) (bs:List Int) (c:Nat) (t:cQ bs) (u:dK W A bs) (a:m.done.length<=1000000) :
 Calls Tryz.prog 153 #[ko (some ⟨q,0,none⟩) r n g f,.int .i64 i,.slice A 64 c] W fun e w'=>e=.returned (.tuple #[])/\DS w0 w' P q (m.doWrite r i bs)/\bz P W w':=by
 have j:=He h;have y:=He a;have z:=He u;have b:=He t;clear h a u t;unfold ko bJ;go_enter Tryz.func153,Tryz.ntmps153;go_wp2_with fail
 have l:∀ o,Below W.heap.size W (W.alloc o):=fun o=>(Below.refl _ _).alloc (Nat.le_refl _) _;have hd:=fun o=>j.out.below (l o) (fun k B=>Or.inl B);have p:=fun o=>(hd o).write r i w x A bs c b.out.2 (z.out.alloc o) (by rw [b.out.1];omega) y.out;rw [b.out.1] at p;refine (p _).mono ?_;rintro e w' ⟨rfl,d,v⟩;have C:=He ((j.out.same (l _)).trans v);have s:=He d;clear hd l d v j p;go_wp2
 go_end0
 exact ⟨rfl,s.out,C.out⟩
def ir (i:Nat):Int:=if i=0 then 7 else 0
def gV (i:Nat):List Int:=if i=0 then az.set 3 1 else az
theorem jn (i:Nat):(gV i).length=56:=by unfold gV;split <;> simp [az]
theorem oV (i:Nat):ay (gV i):=by
 have b:ay az:=fun x a=>by unfold az at a;rw [List.eq_of_mem_replicate a];omega
 unfold gV;split
 ·intro x a;rcases List.mem_or_eq_of_mem_set a with h | h
  ·exact b x h
  ·omega
 ·exact b
theorem zD (w:World) (a o2:Obj):((w.alloc a).alloc o2).heap[w.heap.size]?=some a/\((w.alloc a).alloc o2).heap[w.heap.size+1]?=some o2/\Below w.heap.size w ((w.alloc a).alloc o2):=by
 have b:(w.alloc a).heap.size=w.heap.size+1:=Hb;refine ⟨(Below.heap_alloc (w.alloc a) o2 w.heap.size Ha).trans (heap_alloc_new w a),?_,((Below.refl _ _).alloc (Nat.le_refl _) _).alloc Ha _⟩;rw [<- b];exact heap_alloc_new (w.alloc a) o2
theorem xw (i:Nat) (w:World):Calls Tryz.prog 96 #[.int .i64 i] w fun e w'=>e=.returned (.agg (ab (ir i) (gV i)))/\Below w.heap.size w w':=by
 obtain ⟨g,c,k⟩:=zD w (Obj.cells (ab 0 az) 37) (Obj.cells (ab 0 az) 37);by_cases h:i=0
 ·subst h;go_enter Tryz.func96,Tryz.ntmps96;go_upto_region 3 with (refine aq rfl rfl ?_)
  generalize d:w.heap.size=a at *;have t:(w.alloc (Obj.cells (ab 0 az) 37)).heap.size=a+1:=by simp [d]
  generalize (w.alloc (Obj.cells (ab 0 az) 37)).alloc (Obj.cells (ab 0 az) 37)=W at *;have u:W.cell? ⟨a+1,0,none⟩=some (.int .i64 0):=(af c 0).trans rfl;have v:W.frozen? ⟨a+1,0,none⟩=false:=aA c 0;go_upto_region 4 with fail
  have f:=ai c (i:=0) (.int .i64 7);rw [tF] at f;have n:(W.setCell ⟨a+1,0,none⟩ (.int .i64 7)).heap[a]?=_:=(Below.heap_setCell W ⟨a+1,0,none⟩ _ a Hb).trans g;have HB:=He (k.setCell (p:=⟨a+1,0,none⟩) Hb (.int .i64 7));clear u v g c k;generalize W.setCell ⟨a+1,0,none⟩ (.int .i64 7)=j at *;have x:j.cell? ⟨a+1,4,none⟩=some (.int .u8 0):=(af f 4).trans rfl;have y:j.frozen? ⟨a+1,4,none⟩=false:=aA f 4;go_upto_region 5 with fail
  have o:=ai f (i:=4) (.int .u8 1);rw [show (ab 7 az).setIfInBounds 4 (.int .u8 1)=ab 7 (az.set 3 1) from rfl] at o;have q:=(Below.heap_setCell j ⟨a+1,4,none⟩ (.int .u8 1) a Hb).trans n;have l:=He (HB.out.setCell (p:=⟨a+1,4,none⟩) Hb (.int .u8 1));clear x y f n;generalize j.setCell ⟨a+1,4,none⟩ (.int .u8 1)=z at *;go_wp2_with (first | (refine aT rfl (.tmp 3) rfl (a+1) rfl 7 (az.set 3 1) (jn 0) o ?_) | (refine ap rfl (.tmp 2) (.tmp 9) rfl a rfl 7 0 (az.set 3 1) az rfl (jn 0) ak q ?_))
  have m:=am (D:=ab 7 (az.set 3 1)) q;have b:=He (below_setRow l.out (Nat.le_refl _) (ab 7 (az.set 3 1)));refine bodyPost_ret (results_cell_row rfl _ _ a _ _ _ _ rfl m Tryz.underlying37 rfl (by rw [aP (show (az.set 3 1).length=56 from rfl)];exact db)) rfl ?_;exact ⟨rfl,by rw [d];exact b.out⟩
 ·have hd:((i:Int)==0)=false:=by simp;omega
  have r:ir i=0:=by unfold ir;rw [if_neg h]
  have s:gV i=az:=by unfold gV;rw [if_neg h]
  rw [r,s];clear r s h;go_enter Tryz.func96,Tryz.ntmps96;go_upto_region 2 with (refine aq rfl rfl ?_)
  generalize d:w.heap.size=a at *;have t:(w.alloc (Obj.cells (ab 0 az) 37)).heap.size=a+1:=by simp [d]
  generalize (w.alloc (Obj.cells (ab 0 az) 37)).alloc (Obj.cells (ab 0 az) 37)=W at *;go_wp2_with (first | (refine aT rfl (.tmp 3) rfl (a+1) rfl 0 az ak c ?_) | (refine ap rfl (.tmp 2) (.tmp 9) rfl a rfl 0 0 az az rfl ak ak g ?_))
  have m:=am (D:=ab 0 az) g;have b:=He (below_setRow k (Nat.le_refl _) (ab 0 az));refine bodyPost_ret (results_cell_row rfl _ _ a _ _ _ _ rfl m Tryz.underlying37 rfl (by rw [aP ak];exact db)) rfl ?_;exact ⟨rfl,by rw [d];exact b.out⟩
theorem bj {W:World} {p:Nat} {d:Option Addr} {r:Int} {n g:Nat} {f:Int} {t:TypeId} {a:Nat × Nat} (h:W.heap[p]?=some (.cells (bJ d r n g f) t a)) :
 W.cell? ⟨p,0,none⟩=some (.pointer d)/\W.cell? ⟨p,1,none⟩=some (.int .i64 r)/\W.cell? ⟨p,2,none⟩=some (.int .u8 0)/\W.cell? ⟨p,3,none⟩=some (.int .i64 0)/\W.cell? ⟨p,4,none⟩=some (.int .i64 0)/\W.cell? ⟨p,5,none⟩=some (.int .i64 n)/\W.cell? ⟨p,6,none⟩=some (.int .i64 g)/\W.cell? ⟨p,7,none⟩=some (.int .i64 f) :=
 ⟨(af h 0).trans rfl,(af h 1).trans rfl,(af h 2).trans rfl,(af h 3).trans rfl,(af h 4).trans rfl,(af h 5).trans rfl,(af h 6).trans rfl,(af h 7).trans rfl⟩
theorem ag (W:World):Below W.heap.size W W:=Below.refl _ _
def MM (q d n g a:Nat) (r b:Int) (A:Option Addr) (c:Nat) (i:Nat) (v:Value) (w:World):Prop :=
 match i with
 | 0=>v=.agg (bJ (some ⟨q,0,none⟩) r n g b)
 | 1=>v=.pointer (some ⟨d,3,none⟩)
 | 2=>v=qq 0 0 n g b
 | 3=>v=.int .i64 a
 | 4=>v=.int .i64 ((2+g+a:Nat):Int)
 | 5=>v=.slice A 64 c
 | _=>True
theorem pJ {w0 W:World} {P:Nat->Prop} {q:Nat} {m:DM} (h:DS w0 W P q m) (r:Int) (hr:i64 r) (n g:Nat) (o:Int) (hn:n<=200) (hg:g<=1000) (a:Nat) (ha:a<n) (k:Int) (bs:List Int) (B:0<=k/\k<=7) (d:bs.length=56) (Y:ay bs) (p:m.done.length<=1000000) :
 Calls Tryz.prog 95 #[ko (some ⟨q,0,none⟩) r n g o,.int .i64 a,.agg (ab k bs)] W fun e w'=>e=.returned (.tuple #[])/\DS w0 w' P q (m.doWrite r ((2+g+a:Nat):Int) (cL 0 k a bs))/\bz P W w':=by
 have HD:=He h;have HM:=He p;have C:=He (fun W=>xf 0 k a (ab k bs) bs W Ha B Ha (bu _ _) d Y);have s:=He (fR (l:=0) (k:=k) (t:=a) d);have Z:=He (mT (l:=0) (t:=a) Ha B Y);have HH:=He (fun W=>xa 0 0 n g o a Ha hg Ha W);rw [show dj (2+g) n a=((2+g+a:Nat):Int) by unfold dj;rw [if_pos Ha];omega] at HH;have a3:=He (And.intro hn hg);have ad:=He d;clear h p d Y B;unfold ko;generalize cL 0 k a bs=sb at *;go_enter Tryz.func95,Tryz.ntmps95;go_upto_region 1 with fail
 obtain ⟨e0,e1,H⟩:=zD W (Obj.cells (bJ (some ⟨q,0,none⟩) r n g o) 115) (Obj.cells (ab k bs) 37);generalize I:W.heap.size=V at *;have hz:(W.alloc (Obj.cells (bJ (some ⟨q,0,none⟩) r n g o) 115)).heap.size=V+1:=by simp [I]
 generalize (W.alloc (Obj.cells (bJ (some ⟨q,0,none⟩) r n g o) 115)).alloc (Obj.cells (ab k bs) 37)=W1 at *;have c2:=(bj e0).2.2.1;have HB:Hid (Below W.heap.size W W1):=by rw [I];exact H
 have K:=He e0;clear e0 H;go_wp2_with (refine aT rfl (.tmp 5) rfl (V+1) rfl k bs ad.out e1 ?_)
 refine (C.out _).mono ?_;rintro e y ⟨v,rfl,own,u⟩;obtain ⟨A,c,rfl,_,_,M⟩:=bM own s.out;rw [s.out];have N:=He (aR HB.out u);have HG:Hid (∀ x,Below y.heap.size y x->x.heap[V]?=some (.cells (bJ (some ⟨q,0,none⟩) r n g o) 115 (0,0))):=fun x h=>kb h (kb u K.out);have HY:Hid (∀ x,Below y.heap.size y x->dK x A sb):=fun x h=>M.keep h;clear own M u c2 e1 K HB C;go_upto_region 2 with fail
 refine ax (MM q V n g a r o A c) (fun _ W=>Below y.heap.size y W) (fun _ w w'=>Below w.heap.size w w') Hc Hc (fun i j v w w' _ _ h _=>by unfold MM at *;exact h) ((Below.refl _ _).drew) ?_;simp only [cf];refine ⟨?_,?_,?_,?_,?_,?_,?_⟩
 ·refine aa.of rfl fun T W L hag z hJ b hd=>?_;have e3:=Hf hag 3;obtain ⟨z0,z1,z2,z3,z4,z5,z6,z7⟩:=bj (HG.out W hJ);exact Hh
 ·refine aa.of rfl fun T W L hag z hJ b hd=>?_;have e3:=Hf hag 3;exact Hh
 ·refine aa.of rfl fun T W L hag z hJ b hd=>?_;have a4:T.getD 17 undef=_:=Hg hd 1 rfl;obtain ⟨z0,z1,z2,z3,z4,z5,z6,z7⟩:=bj (HG.out W hJ);exact Hh
 ·refine aa.of rfl fun T W L hag z hJ b hd=>?_;have e1:=Hf hag 1;exact Hh
 ·refine aa.of rfl fun T W L hag z hJ b hd=>?_;have a5:T.getD 18 undef=_:=Hg hd 2 rfl;have a6:T.getD 19 undef=_:=Hg hd 3 rfl;clear hag hd;go_simp;refine (HH.out W).mono ?_;rintro e w' ⟨rfl,H⟩;exact ⟨_,rfl,rfl,aR hJ H,H⟩
 ·refine aa.of rfl fun T W L hag z hJ b hd=>?_;have e6:=Hf hag 6;exact Hh
 ·refine bm.of rfl fun T W L hag b z hJ hd=>?_;have O:T.getD 16 undef=_:=hd 0 _ Hb rfl;have R:T.getD 20 undef=_:=hd 4 _ Hb rfl;have S:T.getD 21 undef=_:=hd 5 _ Hb rfl;obtain ⟨f,X,hT⟩:=aJ hag;have an:=(X 16).trans O;have a0:=(X 20).trans R;have a1:=(X 21).trans S;have HJ:=He hJ;clear hag hd O R S hJ X;rw [hT];clear hT;simp only [List.pop_toArray,List.dropLast_cons_cons,List.dropLast_singleton,List.filterMap_cons,List.filterMap_nil,List.foldl_cons,List.foldl_nil,List.setIfInBounds_toArray,List.set_cons_succ,List.set_cons_zero,an,a0,a1];have hd:=HD.out.below (aR N.out HJ.out) (fun k B=>Or.inl B);go_simp;refine (mW hd r hr n g o _ (by constructor <;> omega) A sb c ⟨s.out,Z.out⟩ (HY.out W HJ.out) HM.out).mono ?_;rintro e w' ⟨rfl,U,hs⟩;have a2:=He U;have HS:=He ((HD.out.same (aR N.out HJ.out)).trans hs);clear hd U hs;go_wp2
  go_end0
  exact ⟨rfl,a2.out,HS.out⟩
theorem DS.mono {w0 W:World} {P P':Nat->Prop} {q:Nat} {m:DM} (h:DS w0 W P q m) (hp:∀ k,P' k->P k):DS w0 W P' q m:=by
 obtain ⟨F,b,c,d⟩:=h.dev;exact ⟨⟨F,b,c,fun k a=>d k (hp k a)⟩,fun k a=>h.low k (hp k a),h.bel⟩
theorem bz.mono {P P':Nat->Prop} {w w':World} (h:bz P w w') (hp:∀ k,P' k->P k):bz P' w w':=⟨fun k a=>h.blk k (hp k a),h.size⟩
theorem bz.refl (P:Nat->Prop) (w:World):bz P w w:=⟨fun _ _=>rfl,Nat.le_refl _⟩
def DM.doBegin (m:DM) (r:Int) (e:Nat):DM:=((m.doBarrier r).doWrite r ((e%2:Nat):Int) (bg 0 e)).doBarrier r
def Ln (q a base n g e b:Nat) (r c:Int) (i:Nat) (v:Value) (w:World):Prop :=
 match i with
 | 0=>v=.agg (bJ (some ⟨q,0,none⟩) r n g c)
 | 1 | 5=>v=.int .u32 e
 | 2=>v=.int .i64 (b:Int)
 | 3=>v=.pointer (some ⟨a,2,none⟩)
 | 4=>v=.int .u8 0
 | 6=>w.ownsRow base 5 1 v 64 (Bs (bg 0 e))
 | _=>True
theorem rc {w0 W:World} {P:Nat->Prop} {q:Nat} {m:DM} (h:DS w0 W P q m) (r:Int) (hr:i64 r) (n g:Nat) (d:Int) (e:Nat) (he:e<4294967296) (l:m.done.length<=999990) :
 Calls Tryz.prog 97 #[ko (some ⟨q,0,none⟩) r n g d,.int .u32 e] W fun en w'=>en=.returned (.tuple #[])/\DS w0 w' P q (m.doBegin r e)/\bz P W w':=by
 have HD:=He h;have K:=cR m r;have M:=fQ (m.doBarrier r) r ((e%2:Nat):Int) (bg 0 e);have C:=He (And.intro l (And.intro K M));have a7:=He (fun W=>qX 0 e W Ha he);have N:=He (fun W=>kE (e:Int) Ha W);rw [show (e:Int)%2=((e%2:Nat):Int) by omega] at N;have a8:Hid (e%2<2):=Nat.mod_lt _ Ha;clear h l K M;unfold ko DM.doBegin;generalize e%2=e2 at *;go_enter Tryz.func97,Tryz.ntmps97;go_upto_region 1 with fail
 have e0:=heap_alloc_new W (Obj.cells (bJ (some ⟨q,0,none⟩) r n g d) 115);have H:Below W.heap.size W (W.alloc (Obj.cells (bJ (some ⟨q,0,none⟩) r n g d) 115)):=(Below.refl _ _).alloc (Nat.le_refl _) _;have hz:(W.alloc (Obj.cells (bJ (some ⟨q,0,none⟩) r n g d) 115)).heap.size=W.heap.size+1:=Hb;generalize O:W.heap.size=s at *;generalize W.alloc (Obj.cells (bJ (some ⟨q,0,none⟩) r n g d) 115)=W1 at *;have R:DS w0 W1 (fun k=>P k\/k=s) q m:=HD.out.below (by rw [O];exact H) (fun k b=>b.elim Or.inl (fun h=>Or.inr Ha));have S:=HD.out.same (by rw [O];exact H);have U:=He R;have V:=He S;clear R S H hz;go_wp2_with (refine ja rfl (.tmp 2) rfl s rfl (bJ (some ⟨q,0,none⟩) r n g d) rfl e0 ?_)
 refine (kI U.out r hr n g d (by have:=C.out.1;omega)).mono ?_;rintro en I ⟨rfl,X,t⟩;have u:=(t.blk s (Or.inr rfl)).trans e0;have Y:=He X;have a9:=He (V.out.trans (t.mono fun k b=>Or.inl b));have HG:Hid (∀ W',Below I.heap.size I W'->W'.heap[s]?=some (.cells (bJ (some ⟨q,0,none⟩) r n g d) 115 (0,0))):=fun W' h=>kb h u;clear e0 X t u V U;go_upto_region 2 with fail
 refine ax (Ln q s I.heap.size n g e e2 r d) (fun _ W=>Below I.heap.size I W) (fun _ w w'=>Below w.heap.size w w') Hc Hc (fun i j v w w' _ _ h hs=>by revert h;unfold Ln;split <;> intro h <;> first | exact h | exact ic h hs | trivial) ((Below.refl _ _).drew) ?_;simp only [cf];refine ⟨?_,?_,?_,?_,?_,?_,?_,?_⟩
 ·refine aa.of rfl fun T W L hag x hJ a hd=>?_;have e2:=Hf hag 2;obtain ⟨z0,z1,z2,z3,z4,z5,z6,z7⟩:=bj (HG.out W hJ);exact Hh
 ·refine aa.of rfl fun T W L hag x hJ a hd=>?_;have u:=Hf hag 1;exact Hh
 ·refine aa.of rfl fun T W L hag x hJ a hd=>?_;have d7:T.getD 7 undef=_:=Hg hd 1 rfl;clear hag hd;go_simp;refine (N.out W).mono ?_;rintro e w' ⟨rfl,rfl⟩;exact ⟨_,rfl,rfl,hJ,ag _⟩
 ·refine aa.of rfl fun T W L hag x hJ a hd=>?_;have e2:=Hf hag 2;exact Hh
 ·refine aa.of rfl fun T W L hag x hJ a hd=>?_;have d9:T.getD 9 undef=_:=Hg hd 3 rfl;obtain ⟨z0,z1,z2,z3,z4,z5,z6,z7⟩:=bj (HG.out W hJ);exact Hh
 ·refine aa.of rfl fun T W L hag x hJ a hd=>?_;have u:=Hf hag 1;exact Hh
 ·refine aa.of rfl fun T W L hag x hJ a hd=>?_;have y:T.getD 10 undef=_:=Hg hd 4 rfl;have z:T.getD 11 undef=_:=Hg hd 5 rfl;clear hag hd;go_simp;refine (a7.out W).mono ?_;rintro e w' ⟨v,rfl,own,H⟩;exact ⟨_,rfl,own.mono hJ.size,aR hJ H,H⟩
 ·refine bm.of rfl fun T W L hag a x hJ hd=>?_;have d6:T.getD 6 undef=_:=hd 0 _ Hb rfl;have d8:T.getD 8 undef=_:=hd 2 _ Hb rfl;have Z:=hd 6 _ Hb rfl;obtain ⟨f,o,hT⟩:=aJ hag;have h6:=(o 6).trans d6;have d7:T.getD 7 undef=_:=hd 1 _ Hb rfl;have h7:=(o 7).trans d7;have h8:=(o 8).trans d8;have d9:T.getD 9 undef=_:=hd 3 _ Hb rfl;have h9:=(o 9).trans d9;have y:T.getD 10 undef=_:=hd 4 _ Hb rfl;have bb:=(o 10).trans y;have z:T.getD 11 undef=_:=hd 5 _ Hb rfl;have bi:=(o 11).trans z;have HJ:=He hJ;have p:W.ownsRow I.heap.size 5 1 (T.getD 12 undef) 64 (Bs (bg 0 e)):=Z;obtain ⟨A,c,hv,_,_,ad⟩:=bM p (cm 0 e);rw [cm] at hv;have an:=(o 12).trans hv;have a0:=He ad;clear Z p ad hv;clear hag hd d6 d7 d8 d9 y z hJ o;rw [hT];clear hT;simp only [List.pop_toArray,List.dropLast_cons_cons,List.dropLast_singleton,List.filterMap_cons,List.filterMap_nil,List.foldl_cons,List.foldl_nil,List.setIfInBounds_toArray,List.set_cons_succ,List.set_cons_zero,h6,h7,h8,h9,bb,bi];simp only [an];have hd:=Y.out.below HJ.out (fun k b=>Or.inl b);go_simp;refine (mW hd r hr n g d e2 (by have:=a8.out;constructor <;> omega) A (bg 0 e) c ⟨cm 0 e,kG e Ha⟩ a0.out (by have:=C.out.1;have:=C.out.2.1;omega)).mono ?_;rintro en W3 ⟨rfl,a1,B⟩;have a2:=HG.out W HJ.out;have u:=(B.blk s (Or.inr rfl)).trans a2;have a3:=He a1;have a4:=He ((a9.out.trans (Y.out.same HJ.out |>.mono fun k b=>Or.inl b)).trans (B.mono fun k b=>Or.inl b));clear hd a1 B a2 a0 HJ an;go_wp2_with (refine ja rfl (.tmp 2) rfl s rfl (bJ (some ⟨q,0,none⟩) r n g d) rfl u ?_)
  refine (kI a3.out r hr n g d (by have:=C.out.1;have:=C.out.2.1;have:=C.out.2.2;omega)).mono ?_;rintro en W4 ⟨rfl,a5,a6⟩;have bk:=He (a5.mono fun k b=>Or.inl b);have bl:=He (a4.out.trans (a6.mono fun k b=>Or.inl b));clear a5 a6 u a3 a4;go_wp2
  go_end0
  exact ⟨rfl,bk.out,bl.out⟩
def MY (row:Int->Option (List Int)) (i:Int) (W0:World) (v:Value) (W:World):Prop :=
 (row i=none/\v=.tuple #[.slice none 0 0,.bool false]) \/
 ∃ (p:Nat) (b:List Int),row i=some b/\cQ b/\v=.tuple #[.slice (some ⟨p,0,none⟩) 64 64,.bool true]/\W0.heap.size<=p/\W.heap[p]?=some (.cells (Bs b).toArray 262 (0,0))
def Rd (w:World) (d:Option Addr) (r:Int) (row:Int->Option (List Int)):Prop:=∀ W,Below w.heap.size w W->∀ i,i64 i ->
 Calls Tryz.prog 151 #[.pointer d,.int .i64 r,.int .i64 i] W fun e a=>(∃ v,e=.returned v/\MY row i W v a)/\Below W.heap.size W a
theorem Rd.keep {w w':World} {d:Option Addr} {r:Int} {row:Int->Option (List Int)} (h:Rd w d r row) (a:Below w.heap.size w w'):Rd w' d r row:=fun W b i c=>h W (aR a b) i c
def iY (m:DM) (r i:Int):Option (List Int):=if iN m r i=true then (m.now.getD r.toNat [])[i.toNat]? else none
theorem DS.rd {w0 W:World} {P:Nat->Prop} {q:Nat} {m:DM} (h:DS w0 W P q m) (r:Int) (f:i64 r):Rd W (some ⟨q,0,.none⟩) r (iY m r):=fun w g i j =>
 ((h.below g (fun k l=>Or.inl l)).read r i f j).mono fun e x ⟨⟨v,n,o⟩,a⟩=>⟨⟨v,n,by
   rcases o with ⟨c,d⟩ | ⟨c,p,b,d,s,t,h5,u⟩
   ·exact Or.inl ⟨by unfold iY;rw [c];simp,d⟩
   ·exact Or.inr ⟨p,b,by unfold iY;rw [if_pos c];exact d,s,t,h5,u⟩⟩,a⟩
def Lo (d:Option Addr) (a n g y z:Nat) (r c:Int) (b:Bool) (i:Nat) (v:Value) (w:World):Prop :=
 match i with
 | 0=>v=.pointer (some ⟨a,0,none⟩)
 | 1=>v=.pointer d
 | 2=>v=.pointer (some ⟨a,1,none⟩)
 | 3=>v=.int .i64 r
 | 4=>v=.pointer (some ⟨a,3,none⟩)
 | 5=>v=qq 0 0 n g c
 | 6=>v=.int .i64 (z:Int)
 | 7=>v=.int .i64 (y:Int)
 | 11=>v=.bool b
 | 8=>∃ s,v=.tuple #[s,.bool b]
 | 9=>∃ s,v=.tuple #[s,.bool b]
 | _=>True
theorem CE {W:World} {d:Option Addr} {r:Int} {row:Int->Option (List Int)} (h:Rd W d r row) (n g:Nat) (m:Int) (hn:n<=200) (hg:g<=1000) :
 Calls Tryz.prog 94 #[ko d r n g m] W fun e w'=>e=.returned (.bool (row ((1+g+n:Nat):Int)).isSome)/\Below W.heap.size W w':=by
 have HS:=He (fun W=>wZ 0 0 n g m Ha hg W);have wz:IntKind.i64.wrap (((2+g+n:Nat):Int)-1)=((1+g+n:Nat):Int):=by rw [IntWalk.i64_in _ Ha];omega
 have HY:Hid (i64 ((1+g+n:Nat):Int)):=by constructor <;> omega
 have H0:=He h;unfold ko;clear h;generalize 2+g+n=z at *;generalize 1+g+n=y at *;obtain ⟨b,C⟩:∃ b,(row (y:Int)).isSome=b:=⟨_,rfl⟩
 rw [C];have HQ:=He C;clear C;go_enter Tryz.func94,Tryz.ntmps94;go_upto_region 1 with fail
 have e0:=heap_alloc_new W (Obj.cells (bJ d r n g m) 115);have l:Below W.heap.size W (W.alloc (Obj.cells (bJ d r n g m) 115)):=(Below.refl _ _).alloc (Nat.le_refl _) _;generalize A:W.heap.size=gb at *;generalize W.alloc (Obj.cells (bJ d r n g m) 115)=o at *;have HB:Hid (Below W.heap.size W o):=by rw [A];exact l
 have HR:Hid (∀ p,Below o.heap.size o p->∀ i,i64 i->_):=fun p H i hi=>(H0.out.keep (by rw [A];exact l)) p H i hi;have I:Hid (∀ p,Below o.heap.size o p->p.heap[gb]?=some (.cells (bJ d r n g m) 115 (0,0))):=fun p h=>kb h e0;clear e0 l H0;refine ax (Lo d gb n g y z r m b) (fun _ W=>Below o.heap.size o W) (fun _ w w'=>Below w.heap.size w w') Hc Hc (fun i j v w w' _ _ h K=>by unfold Lo at *;exact h) ((Below.refl _ _).drew) ?_;simp only [cf];refine ⟨?_,?_,?_,?_,?_,?_,?_,?_,?_,?_,?_,?_,?_,?_⟩
 ·refine aa.of rfl fun T W L hag c hJ a hd=>?_;have e1:=Hf hag 1;exact Hh
 ·refine aa.of rfl fun T W L hag c hJ a hd=>?_;have M:T.getD 6 undef=_:=Hg hd 0 rfl;obtain ⟨z0,z1,z2,z3,z4,z5,z6,z7⟩:=bj (I.out W hJ);exact Hh
 ·refine aa.of rfl fun T W L hag c hJ a hd=>?_;have e1:=Hf hag 1;exact Hh
 ·refine aa.of rfl fun T W L hag c hJ a hd=>?_;have N:T.getD 8 undef=_:=Hg hd 2 rfl;obtain ⟨z0,z1,z2,z3,z4,z5,z6,z7⟩:=bj (I.out W hJ);exact Hh
 ·refine aa.of rfl fun T W L hag c hJ a hd=>?_;have e1:=Hf hag 1;exact Hh
 ·refine aa.of rfl fun T W L hag c hJ a hd=>?_;have q:T.getD 10 undef=_:=Hg hd 4 rfl;obtain ⟨z0,z1,z2,z3,z4,z5,z6,z7⟩:=bj (I.out W hJ);exact Hh
 ·refine aa.of rfl fun T W L hag c hJ a hd=>?_;have t:T.getD 11 undef=_:=Hg hd 5 rfl;clear hag hd;go_simp;refine (HS.out W).mono ?_;rintro e w' ⟨rfl,l⟩;exact ⟨_,rfl,rfl,aR hJ l,l⟩
 ·refine aa.of rfl fun T W L hag c hJ a hd=>?_;have u:T.getD 12 undef=_:=Hg hd 6 rfl;exact Hh
 ·refine aa.of rfl fun T W L hag c hJ a hd=>?_;have O:T.getD 7 undef=_:=Hg hd 1 rfl;have R:T.getD 9 undef=_:=Hg hd 3 rfl;have x:T.getD 13 undef=_:=Hg hd 7 rfl;clear hag hd;go_simp;refine (HR.out W hJ y HY.out).mono ?_;rintro e w' ⟨⟨v,rfl,ha⟩,l⟩;refine ⟨_,rfl,?_,aR hJ l,l⟩;rcases ha with ⟨S,rfl⟩ | ⟨g',b',S,_,rfl,_⟩
  ·exact ⟨_,by rw [<- HQ.out,S];rfl⟩
  ·exact ⟨_,by rw [<- HQ.out,S];rfl⟩
 ·refine aa.of rfl fun T W L hag c hJ a hd=>?_;have U:=Hg hd 8 rfl;clear hag hd;obtain ⟨s,(K:T.getD 14 undef=_)⟩:=U;go_simp
  first | exact ⟨_,rfl,⟨_,rfl⟩⟩ | exact ⟨_,rfl,⟨_,rfl⟩,ag _⟩ | exact ⟨_,rfl,⟨_,rfl⟩,hJ,ag _⟩
 ·refine aa.of rfl fun T W L hag c hJ a hd=>?_;have V:=Hg hd 9 rfl;clear hag hd;obtain ⟨s,(K:T.getD 5 undef=_)⟩:=V;go_simp
  first | exact ⟨_,rfl,trivial⟩ | exact ⟨_,rfl,trivial,ag _⟩ | exact ⟨_,rfl,trivial,hJ,ag _⟩
 ·refine aa.of rfl fun T W L hag c hJ a hd=>?_;have V:=Hg hd 9 rfl;clear hag hd;obtain ⟨s,(K:T.getD 5 undef=_)⟩:=V;go_simp
  first | exact ⟨_,rfl,rfl⟩ | exact ⟨_,rfl,rfl,ag _⟩ | exact ⟨_,rfl,rfl,hJ,ag _⟩
 ·refine aa.of rfl fun T W L hag c hJ a hd=>?_;have a0:=Hg hd 10 rfl;clear hag hd;go_simp
  first | exact ⟨_,rfl,trivial⟩ | exact ⟨_,rfl,trivial,ag _⟩ | exact ⟨_,rfl,trivial,hJ,ag _⟩
 ·refine bm.of rfl fun T W L hag a c hJ hd=>?_;have B:T.getD 16 undef=_:=hd 11 _ Hb rfl;obtain ⟨f,k,hT⟩:=aJ hag;have M:T.getD 6 undef=_:=hd 0 _ Hb rfl;have h6:=(k 6).trans M;have O:T.getD 7 undef=_:=hd 1 _ Hb rfl;have h7:=(k 7).trans O;have N:T.getD 8 undef=_:=hd 2 _ Hb rfl;have h8:=(k 8).trans N;have R:T.getD 9 undef=_:=hd 3 _ Hb rfl;have h9:=(k 9).trans R;have q:T.getD 10 undef=_:=hd 4 _ Hb rfl;have X:=(k 10).trans q;have t:T.getD 11 undef=_:=hd 5 _ Hb rfl;have Y:=(k 11).trans t;have u:T.getD 12 undef=_:=hd 6 _ Hb rfl;have Z:=(k 12).trans u;have x:T.getD 13 undef=_:=hd 7 _ Hb rfl;have ad:=(k 13).trans x;have an:=(k 16).trans B;have HJ:=He hJ;clear hag hd M O N R q t u x B hJ k;rw [hT];clear hT;simp only [List.pop_toArray,List.dropLast_cons_cons,List.dropLast_singleton,List.filterMap_cons,List.filterMap_nil,List.foldl_cons,List.foldl_nil,List.setIfInBounds_toArray,List.set_cons_succ,List.set_cons_zero,h6,h7,h8,h9,X,Y,Z,ad,an];go_wp2;go_ret;exact ⟨rfl,aR HB.out HJ.out⟩
def kq (xs:List Int) (i:Nat):Bool:=decide (fD 0 xs)&&decide (dD 0 xs%2=i)
def epN (row:Int->Option (List Int)):Nat->Nat × Bool
 | 0=>(0,false)
 | k+1=>if kq ((row (k:Int)).getD []) k then (max (epN row k).1 (dD 0 ((row (k:Int)).getD [])),true) else epN row k
theorem Eu (lb:Int) (xs:List Int) (h:ay xs):dD lb xs<4294967296:=by
 unfold dD;split
 ·unfold Bb;have b:aB ((xs.drop 3).take 4)<256 ^ ((xs.drop 3).take 4).length:=i5 _ _ rfl (fun x a=>h x (List.mem_of_mem_drop (List.mem_of_mem_take a)));have c:256 ^ ((xs.drop 3).take 4).length<=256 ^ 4:=Nat.pow_le_pow_right Ha (List.length_take_le _ _);omega
 ·omega
theorem zE {W:World} {d:Option Addr} {r:Int} {row:Int->Option (List Int)} (h:Rd W d r row) (w:∀ i b,row i=some b->cQ b) (n g:Nat) (M:Int) :
 Calls Tryz.prog 98 #[ko d r n g M] W fun e w'=>e=.returned (.tuple #[.int .u32 (epN row 2).1,.bool (epN row 2).2])/\Below W.heap.size W w':=by
 have H0:=He h;have bb:=He w;unfold ko;clear h w;go_enter Tryz.func98,Tryz.ntmps98;go_upto_region 1 with fail
 have e0:=heap_alloc_new W (Obj.cells (bJ d r n g M) 115);have hb:Below W.heap.size W (W.alloc (Obj.cells (bJ d r n g M) 115)):=(Below.refl _ _).alloc (Nat.le_refl _) _;generalize a1:W.heap.size=gb at *;generalize W.alloc (Obj.cells (bJ d r n g M) 115)=N at *;have HB:Hid (Below W.heap.size W N):=by rw [a1];exact hb
 have HG:Hid (∀ W',Below N.heap.size N W'->W'.heap[gb]?=some (.cells (bJ d r n g M) 115 (0,0))):=fun W' h=>kb h e0;clear e0 hb;go_wp2
 go_loopw [4,5,12] (fun ep fd i wr=>∃ k:Nat,i=.int .u32 k/\k<=2/\ep=.int .u32 (epN row k).1/\fd=.bool (epN row k).2/\Hid ((epN row k).1<4294967296)/\Below N.heap.size N wr) (fun _ _ i _=>2-(intOf i).toNat)
 case atStart=>exact ⟨0,rfl,Ha,rfl,rfl,(by show (0:Nat)<_;omega),Below.refl _ _⟩
 case round =>
  obtain ⟨k,rfl,hk,rfl,rfl,y,f⟩:=hrel;obtain ⟨K,rfl⟩:∃ K,K=wr:=⟨wr,rfl⟩
  have O:=He (aR HB.out f);obtain ⟨z0,z1,z2,z3,z4,z5,z6,z7⟩:=bj (HG.out K f);have a2:=He (HG.out K f);have a3:=He f;have m:=kE (k:Int) Ha K;by_cases bi:k<2
  ·rw [show (k:Int)%2=k by omega] at m;have o:=He m;have R:=(H0.out.keep O.out) K (Below.refl _ _) k (by constructor <;> omega);have S:=He R;have bk:(k:Int)<2:=Ha;have wk:IntKind.u32.wrap ((k:Int)+1)=((k+1:Nat):Int):=by rw [IntWalk.u32_in _ Ha];omega
   clear m R f;generalize hE:(epN row k).1=ep at *;generalize hF:(epN row k).2=fd at *;have l:=He (And.intro hE hF);clear hE hF;go_wp2_with fail
   refine o.out.mono ?_;rintro e w' ⟨rfl,rfl⟩;go_wp2_with fail
   refine S.out.mono ?_;rintro e w6 ⟨⟨v,rfl,ha⟩,z⟩;have a4:∃ A q n c b,v=.tuple #[.slice A (n:Nat) (c:Nat),.bool b]/\(row (k:Int)).getD []=q/\q.length=n/\n<=c/\c<=64/\ay q/\dK w6 A q:=by
    rcases ha with ⟨h1,rfl⟩ | ⟨p,b,h1,h2,rfl,_,h3⟩
    ·exact ⟨none,[],0,0,false,rfl,by rw [h1];rfl,rfl,Ha,Ha,(fun x hx=>by cases hx),(fun i x hx=>by cases hx)⟩
    ·exact ⟨_,b,64,64,true,rfl,by rw [h1];rfl,h2.1,Ha,Ha,h2.2,gC h3 Hb⟩
   obtain ⟨A,q,n1,c1,b1,rfl,T,U,V,a5,B,X⟩:=a4;have Y:=CB 0 A q n1 c1 w6 Ha U V Ha B X;have Z:=He Y;have C:=He T;have a6:=He (Eu 0 q B);have H:=kb z a2.out;have a7:=He (aR a3.out z);have a9:=He H;clear ha T U V a5 B X z Y z0 z1 z2 z3 z4 z5 z6 z7;obtain ⟨z0,z1,z2,z3,z4,z5,z6,z7⟩:=bj H;clear H;generalize ht:dD 0 q=s at *;have HT:=He ht;clear ht;go_wp2_with fail
   refine Z.out.mono ?_;rintro e w7 ⟨rfl,ad⟩;have t:=He (aR a7.out ad);clear ad z0 z1 z2 z3 z4 z5 z6 z7 Z o S;by_cases j:fD 0 q
   ·rw [decide_eq_true j];have m:=kE (s:Int) Ha w7;have o:=He m;clear m;obtain ⟨L,I⟩:∃ L:Nat,(s:Int)%2=L/\Hid (L=s%2):=⟨s%2,Ha,rfl⟩
    rw [I.1] at o;have an:=I.2;clear I;go_wp2_with fail
    refine o.out.mono ?_;rintro e w' ⟨rfl,rfl⟩;by_cases u:L=k
    ·have hd:((L:Int)==k)=true:=by simp;omega
     have a:Hid (epN row (k+1)=(max ep s,true)):=by
      show (if kq ((row (k:Int)).getD []) k then (max (epN row k).1 (dD 0 ((row (k:Int)).getD [])),true) else epN row k)=_;rw [C.out,HT.out,l.out.1];unfold kq;rw [decide_eq_true j,HT.out,<- an.out,decide_eq_true u];rfl
     have a0:Hid (max ep s<4294967296):=by have:=a6.out;have:=y.out;unfold Hid;omega
     clear u j;by_cases bl:ep<s
     ·have a8:decide ((ep:Int)<s)=true:=decide_eq_true Ha;go_wp2
      go_roundw
      case rel=>exact ⟨k+1,by go_num,Ha,by rw [a.out];rw [Nat.max_eq_right Ha],by rw [a.out],(by rw [a.out];exact a0.out),t.out⟩
      case measure=>simp [intOf];omega
     ·have a8:decide ((ep:Int)<s)=false:=decide_eq_false Ha;go_wp2
      go_roundw
      case rel=>exact ⟨k+1,by go_num,Ha,by rw [a.out];rw [Nat.max_eq_left Ha],by rw [a.out],(by rw [a.out];exact a0.out),t.out⟩
      case measure=>simp [intOf];omega
    ·have hd:((L:Int)==k)=false:=by simp;omega
     have a:Hid (epN row (k+1)=epN row k):=by
      show (if kq ((row (k:Int)).getD []) k then (max (epN row k).1 (dD 0 ((row (k:Int)).getD [])),true) else epN row k)=_;rw [C.out];unfold kq;rw [decide_eq_true j,HT.out,<- an.out,decide_eq_false u];rfl
     clear u j;go_wp2
     go_roundw
     case rel=>exact ⟨k+1,by go_num,Ha,by rw [a.out,l.out.1],by rw [a.out,l.out.2],(by rw [a.out,l.out.1];exact y.out),t.out⟩
     case measure=>simp [intOf];omega
   ·rw [decide_eq_false j];have a:Hid (epN row (k+1)=epN row k):=by
     show (if kq ((row (k:Int)).getD []) k then (max (epN row k).1 (dD 0 ((row (k:Int)).getD [])),true) else epN row k)=_;rw [C.out];unfold kq;rw [decide_eq_false j];rfl
    clear j;go_wp2
    go_roundw
    case rel=>exact ⟨k+1,by go_num,Ha,by rw [a.out,l.out.1],by rw [a.out,l.out.2],(by rw [a.out,l.out.1];exact y.out),t.out⟩
    case measure=>simp [intOf];omega
  ·obtain rfl:k=2:=Ha;go_wp2
   go_ret2
   exact ⟨rfl,O.out⟩
def Lp (d:Option Addr) (c n g a y:Nat) (r e:Int) (b:List Int) (i:Nat) (v:Value) (w:World):Prop :=
 match i with
 | 0=>v=.pointer (some ⟨c,0,none⟩)
 | 1=>v=.pointer d
 | 2=>v=.pointer (some ⟨c,1,none⟩)
 | 3=>v=.int .i64 r
 | 4=>v=.pointer (some ⟨c,3,none⟩)
 | 5=>v=qq 0 0 n g e
 | 6=>v=.int .i64 (a:Int)
 | 7=>v=.int .i64 (y:Int)
 | 11=>v=.bool true
 | 8=>∃ p,v=.tuple #[.slice (some ⟨p,0,none⟩) 64 64,.bool true]/\w.heap[p]?=some (.cells (Bs b).toArray 262 (0,0))
 | 9=>∃ p,v=.tuple #[.slice (some ⟨p,0,none⟩) 64 64,.bool true]/\w.heap[p]?=some (.cells (Bs b).toArray 262 (0,0))
 | 10=>∃ p,v=.slice (some ⟨p,0,none⟩) 64 64/\w.heap[p]?=some (.cells (Bs b).toArray 262 (0,0))
 | 12=>∃ p,v=.slice (some ⟨p,0,none⟩) 64 64/\w.heap[p]?=some (.cells (Bs b).toArray 262 (0,0))
 | _=>True
theorem CF {W:World} {d:Option Addr} {r:Int} {row:Int->Option (List Int)} (h:Rd W d r row) (n g:Nat) (t:Int) (hn:n<=200) (hg:g<=1000) (a:Nat) (ha:a<n) (b:List Int) (s:row ((2+g+a:Nat):Int)=some b) (hB:cQ b) :
 Calls Tryz.prog 161 #[ko d r n g t,.int .i64 a] W fun e w'=>e=.returned (.tuple #[.agg (pE 0 a b),.bool (decide (mC 0 a b))])/\Below W.heap.size W w':=by
 have HS:=He (fun W=>xa 0 0 n g t a Ha hg Ha W);rw [show dj (2+g) n a=((2+g+a:Nat):Int) by unfold dj;rw [if_pos Ha];omega] at HS;have HY:Hid (i64 ((2+g+a:Nat):Int)):=by constructor <;> omega
 have H0:=He h;have HQ:=He s;have u:=He hB;have a0:∃ k bs,pE 0 a b=ab k bs/\bs.length=56:=by
  unfold pE;split
  ·exact ⟨_,_,rfl,qN hB.1⟩
  ·exact ⟨_,_,rfl,ak⟩
 obtain ⟨k,bs,hk,R⟩:=a0;have HK:=He hk;have S:=He R;rw [hk];unfold ko;clear h s hB hk R;generalize 2+g+a=y at *;go_enter Tryz.func161,Tryz.ntmps161;go_upto_region 1 with (refine aq rfl rfl ?_)
 obtain ⟨e0,e1,o⟩:=zD W (Obj.cells (bJ d r n g t) 115) (Obj.cells (ab 0 az) 37);have hz:(W.alloc (Obj.cells (bJ d r n g t) 115)).heap.size=W.heap.size+1:=Hb;generalize x:W.heap.size=U at *;generalize (W.alloc (Obj.cells (bJ d r n g t) 115)).alloc (Obj.cells (ab 0 az) 37)=z at *;have HB:Hid (Below W.heap.size W z):=by rw [x];exact o
 have a1:Hid (W.heap.size<=U+1):=by rw [x];unfold Hid;omega
 have HR:Hid (∀ A,Below z.heap.size z A->∀ i,i64 i->_):=fun A a2 i hi=>(H0.out.keep (by rw [x];exact o)) A a2 i hi;have V:Hid (∀ A,Below z.heap.size z A->A.heap[U]?=some (.cells (bJ d r n g t) 115 (0,0))):=fun A h=>kb h e0;have a3:=He e1;clear e0 o H0 e1;refine ax (Lp d U n g a y r t b) (fun _ W=>Below z.heap.size z W) (fun _ w w'=>Below w.heap.size w w') Hc Hc (fun i j v w w' _ _ h X=>by revert h;unfold Lp;split <;> intro h <;> first | exact h | (obtain ⟨p,q,h2⟩:=h;exact ⟨p,q,kb X h2⟩) | trivial) ((Below.refl _ _).drew) ?_;simp only [cf];refine ⟨?_,?_,?_,?_,?_,?_,?_,?_,?_,?_,?_,?_,?_,?_⟩
 ·refine aa.of rfl fun T W L hag l hJ c hd=>?_;have e2:=Hf hag 2;exact Hh
 ·refine aa.of rfl fun T W L hag l hJ c hd=>?_;have d9:T.getD 9 undef=_:=Hg hd 0 rfl;obtain ⟨z0,z1,z2,z3,z4,z5,z6,z7⟩:=bj (V.out W hJ);exact Hh
 ·refine aa.of rfl fun T W L hag l hJ c hd=>?_;have e2:=Hf hag 2;exact Hh
 ·refine aa.of rfl fun T W L hag l hJ c hd=>?_;have B:T.getD 11 undef=_:=Hg hd 2 rfl;obtain ⟨z0,z1,z2,z3,z4,z5,z6,z7⟩:=bj (V.out W hJ);exact Hh
 ·refine aa.of rfl fun T W L hag l hJ c hd=>?_;have e2:=Hf hag 2;exact Hh
 ·refine aa.of rfl fun T W L hag l hJ c hd=>?_;have C:T.getD 13 undef=_:=Hg hd 4 rfl;obtain ⟨z0,z1,z2,z3,z4,z5,z6,z7⟩:=bj (V.out W hJ);exact Hh
 ·refine aa.of rfl fun T W L hag l hJ c hd=>?_;have e1:=Hf hag 1;exact Hh
 ·refine aa.of rfl fun T W L hag l hJ c hd=>?_;have H:T.getD 14 undef=_:=Hg hd 5 rfl;have I:T.getD 15 undef=_:=Hg hd 6 rfl;clear hag hd;go_simp;refine (HS.out W).mono ?_;rintro e w' ⟨rfl,o⟩;exact ⟨_,rfl,rfl,aR hJ o,o⟩
 ·refine aa.of rfl fun T W L hag l hJ c hd=>?_;have K:T.getD 10 undef=_:=Hg hd 1 rfl;have M:T.getD 12 undef=_:=Hg hd 3 rfl;have N:T.getD 16 undef=_:=Hg hd 7 rfl;clear hag hd;go_simp;refine (HR.out W hJ y HY.out).mono ?_;rintro e w' ⟨⟨v,rfl,ha⟩,o⟩;refine ⟨_,rfl,?_,aR hJ o,o⟩;rcases ha with ⟨q,_⟩ | ⟨p,b',q,_,rfl,_,h3⟩
  ·rw [HQ.out] at q;cases q
  ·rw [HQ.out] at q;injection q with q;subst q;exact ⟨_,rfl,h3⟩
 ·refine aa.of rfl fun T W L hag l hJ c hd=>?_;have a4:=Hg hd 8 rfl;obtain ⟨p,(X:T.getD 17 undef=_),hp⟩:=a4;clear hag hd;go_simp;exact ⟨_,rfl,⟨_,rfl,hp⟩,ag _⟩
 ·refine aa.of rfl fun T W L hag l hJ c hd=>?_;have x8:=Hg hd 9 rfl;obtain ⟨p,(X:T.getD 8 undef=_),hp⟩:=x8;clear hag hd;go_simp;exact ⟨_,rfl,⟨_,rfl,hp⟩,ag _⟩
 ·refine aa.of rfl fun T W L hag l hJ c hd=>?_;have x8:=Hg hd 9 rfl;obtain ⟨p,(X:T.getD 8 undef=_),hp⟩:=x8;exact Hh
 ·refine aa.of rfl fun T W L hag l hJ c hd=>?_;have a5:=Hg hd 10 rfl;obtain ⟨p,(X:T.getD 18 undef=_),hp⟩:=a5;clear hag hd;go_simp;exact ⟨_,rfl,⟨_,rfl,hp⟩,ag _⟩
 ·refine bm.of rfl fun T W L hag c l hJ hd=>?_;have Y:T.getD 19 undef=_:=hd 11 _ Hb rfl;obtain ⟨f,m,hT⟩:=aJ hag;have d9:T.getD 9 undef=_:=hd 0 _ Hb rfl;have h9:=(m 9).trans d9;have K:T.getD 10 undef=_:=hd 1 _ Hb rfl;have a6:=(m 10).trans K;have B:T.getD 11 undef=_:=hd 2 _ Hb rfl;have a7:=(m 11).trans B;have M:T.getD 12 undef=_:=hd 3 _ Hb rfl;have a8:=(m 12).trans M;have C:T.getD 13 undef=_:=hd 4 _ Hb rfl;have a9:=(m 13).trans C;have H:T.getD 14 undef=_:=hd 5 _ Hb rfl;have bb:=(m 14).trans H;have I:T.getD 15 undef=_:=hd 6 _ Hb rfl;have bi:=(m 15).trans I;have N:T.getD 16 undef=_:=hd 7 _ Hb rfl;have bk:=(m 16).trans N;have bl:=(m 19).trans Y;have HJ:=He hJ;have x6:=hd 12 _ Hb rfl;obtain ⟨p,(Z:T.getD 6 undef=_),hp⟩:=x6;have h6:=(m 6).trans Z;have HP:=He hp;clear Z hp;clear hag hd d9 K B M C H I N Y hJ m;rw [hT];clear hT;simp only [List.pop_toArray,List.dropLast_cons_cons,List.dropLast_singleton,List.filterMap_cons,List.filterMap_nil,List.foldl_cons,List.foldl_nil,List.setIfInBounds_toArray,List.set_cons_succ,List.set_cons_zero,h9,a6,a7,a8,a9,bb,bi,bk,bl];simp only [h6];have ad:=V.out W HJ.out;have bn:=He (kb HJ.out a3.out);have bt:=He (gC (bs:=b) HP.out Hb);have bx:=He (aR HB.out HJ.out);obtain ⟨z0,z1,z2,z3,z4,z5,z6,z7⟩:=bj ad;clear ad V HP HJ HS HR HQ;have ho:=Ef 0 a (some ⟨p,0,none⟩) b 64 W Ha (by constructor <;> omega) (by rw [u.out.1];omega) Ha u.out.2 bt.out;rw [HK.out,u.out.1] at ho;have HO:=He ho;clear ho;go_wp2_with fail
  refine HO.out.mono ?_;rintro e W6 ⟨rfl,O⟩;have an:=He (kb O bn.out);have b0:=He (aR bx.out O);clear O z0 z1 z2 z3 z4 z5 z6 z7;go_wp2_with (refine ap rfl (.tmp 4) (.tmp 25) rfl (U+1) rfl k 0 bs az rfl S.out ak an.out ?_)
  refine bodyPost_ret (aY rfl _ _ (U+1) k bs rfl S.out (am an.out)) rfl ?_;exact ⟨rfl,below_setRow b0.out a1.out _⟩
structure nW (W:World) (base:Nat) (v:Value) (vs:List Value) (ls:List (List Int)):Prop where
 row:aI W (fun k=>base<=k) 22 1 v ls.length vs
 blk:∀ (i:Nat) (b:List Int),ls[i]?=some b->∃ p,vs[i]?=some (.slice (some ⟨p,0,none⟩) 64 64)/\W.heap[p]?=some (.cells (Bs b).toArray 262 (0,0))/\base<=p
theorem nW.below {W W':World} {base:Nat} {v:Value} {vs:List Value} {a:List (List Int)} (h:nW W base v vs a) (c:Below W.heap.size W W'):nW W' base v vs a :=
 ⟨h.row.below c,fun i b d=>let ⟨p,h1,h2,h3⟩:=h.blk i b d;⟨p,h1,kb c h2,h3⟩⟩
theorem vp:(22:TypeId)≠262:=Hd
theorem nW.push {W l:World} {base:Nat} {v v':Value} {vs:List Value} {j:List (List Int)} {b:List Int} {p:Nat} {o:Obj} (h:nW W base v vs j) (m:base<=W.heap.size) (hp:W.heap[p]?=some (.cells (Bs b).toArray 262 (0,0))) (n:base<=p)
 (t:aI l (fun k=>(fun k=>base<=k) k\/(W.alloc o).heap.size<=k) 22 1 v' (j.length+1) (vs++[.slice (some ⟨p,0,none⟩) 64 64])) (u:(W.alloc o).grownBy l v.ownBlock):nW l base v' (vs++[.slice (some ⟨p,0,none⟩) 64 64]) (j++[b]):=by
 have r:∀ {x:Nat} {c:List Int},W.heap[x]?=some (.cells (Bs c).toArray 262 (0,0))->l.heap[x]?=some (.cells (Bs c).toArray 262 (0,0)):=fun {x c} a=>by
  have s:=ah a;rw [u.block x (by simp;omega) (fun e=>?_),Below.heap_alloc W _ x s]
  ·exact a
  ·rcases h.row.1.2 with ⟨f,_⟩ | ⟨g,w,y,f,_,z,_⟩
   ·rw [f] at e;cases e
   ·rw [f] at e;simp [Value.ownBlock] at e;subst e;rw [z] at a;injection a with a;injection a with _ a
    exact absurd a vp
 have s:=h.row.len;refine ⟨?_,fun i c d=>?_⟩
 ·rw [List.length_append];exact t.owner fun x _ a=>by
   rcases a with a | a
   ·exact a
   ·simp at a;omega
 ·by_cases q:i<j.length
  ·rw [List.getElem?_append_left q] at d;obtain ⟨A,B,C,H⟩:=h.blk i c d;exact ⟨A,by rw [List.getElem?_append_left Ha];exact B,r C,H⟩
  ·rw [List.getElem?_append_right Ha] at d;have f:i-j.length=0:=by
    rcases Nat.eq_zero_or_pos (i-j.length) with f | f
    ·exact f
    ·rw [List.getElem?_eq_none (by simp;omega)] at d;cases d
   rw [f] at d;injection d with d;subst d
   exact ⟨p,by rw [List.getElem?_append_right Ha,show i-vs.length=0 by omega];rfl,r hp,n⟩
theorem nW.mono {W:World} {base a:Nat} {v:Value} {vs:List Value} {c:List (List Int)} (h:nW W base v vs c) (d:a<=base):nW W a v vs c:=⟨h.row.owner fun g _ e=>Nat.le_trans d e,fun i b f=>let ⟨p,h1,h2,h3⟩:=h.blk i b f;⟨p,h1,h2,Nat.le_trans d h3⟩⟩
def Lq (d:Option Addr) (c n g k y a:Nat) (r e:Int) (b:List Int) (i:Nat) (v:Value) (w:World):Prop :=
 match i with
 | 0=>v=.pointer (some ⟨c,0,none⟩)
 | 1=>v=.pointer d
 | 2=>v=.pointer (some ⟨c,1,none⟩)
 | 3=>v=.int .i64 r
 | 4=>v=.pointer (some ⟨c,3,none⟩)
 | 5=>v=qq 0 0 n g e
 | 6=>v=.int .i64 (k:Int)
 | 7=>v=.int .i64 (y:Int)
 | 11=>v=.bool true
 | 8=>∃ p,v=.tuple #[.slice (some ⟨p,0,none⟩) 64 64,.bool true]/\w.heap[p]?=some (.cells (Bs b).toArray 262 (0,0))/\a<=p
 | 9=>∃ p,v=.tuple #[.slice (some ⟨p,0,none⟩) 64 64,.bool true]/\w.heap[p]?=some (.cells (Bs b).toArray 262 (0,0))/\a<=p
 | 10=>∃ p,v=.slice (some ⟨p,0,none⟩) 64 64/\w.heap[p]?=some (.cells (Bs b).toArray 262 (0,0))/\a<=p
 | 12=>∃ p,v=.slice (some ⟨p,0,none⟩) 64 64/\w.heap[p]?=some (.cells (Bs b).toArray 262 (0,0))/\a<=p
 | _=>True
theorem Ev {W:World} {d:Option Addr} {r:Int} {row:Int->Option (List Int)} (h:Rd W d r row) (n g:Nat) (H:Int) (hg:g<=1000) (L:List (List Int)) (l:L.length=g) (I:∀ i b,L[i]?=some b->row ((2+i:Nat):Int)=some b) :
 Calls Tryz.prog 159 #[ko d r n g H] W fun e w'=>(∃ v vs,e=.returned v/\nW w' W.heap.size v vs L)/\Below W.heap.size W w':=by
 have H0:=He h;have bs:=He I;have HL:=He l;unfold ko;clear h I l;go_enter Tryz.func159,Tryz.ntmps159;go_upto_region 1 with fail
 have e0:=heap_alloc_new W (Obj.cells (bJ d r n g H) 115);have m:Below W.heap.size W (W.alloc (Obj.cells (bJ d r n g H) 115)):=(Below.refl _ _).alloc (Nat.le_refl _) _;generalize a1:W.heap.size=gb at *;generalize W.alloc (Obj.cells (bJ d r n g H) 115)=W1 at *;have HB:Hid (Below W.heap.size W W1):=by rw [a1];exact m
 have HG:Hid (∀ q,Below W1.heap.size W1 q->q.heap[gb]?=some (.cells (bJ d r n g H) 115 (0,0))):=fun q h=>kb h e0;have bt:=(bj e0).2.2.2.2.2.2.1;clear e0 m;go_wp2;clear bt
 go_loopw [3,10] (fun v i wr=>∃ (k:Nat) (vs:List Value),i=.int .i64 k/\k<=g/\Hid (nW wr W1.heap.size v vs (L.take k))/\Below W1.heap.size W1 wr) (fun _ i _=>g-(intOf i).toNat)
 case atStart=>exact ⟨0,[],rfl,Ha,⟨aI.nil _ _ _ _,fun i b hi=>by simp at hi⟩,Below.refl _ _⟩
 case round =>
  obtain ⟨k,vs,rfl,hk,N,c⟩:=hrel;obtain ⟨A,rfl⟩:∃ A,A=wr:=⟨wr,rfl⟩
  have O:=He (aR HB.out c);have a2:=He (HG.out A c);have a3:=He c;by_cases bx:k<g
  ·obtain ⟨b,m⟩:∃ b,L[k]?=some b:=⟨_,List.getElem?_eq_getElem (by rw [HL.out];exact bx)⟩
   have hq:=bs.out k b m;have cn:=He m;have s:(L.take k).length=k:=by rw [List.length_take,HL.out];omega
   have B:=N.out.row;rw [s] at B;obtain ⟨A5,c5,b0,_,_⟩:=B.val;rename_i v5;subst b0;have a4:=He B;obtain ⟨i0,a5,a6,a7,a8⟩:=info_parts Ce;have HI:=He (And.intro a5 (And.intro a6 (And.intro a7 a8)));have HS:=He (fun W=>AW 0 0 n g H k hg Ha W);rw [show dj 2 g k=((2+k:Nat):Int) by unfold dj;rw [if_pos Ha];omega] at HS;have HY:Hid (i64 ((2+k:Nat):Int)):=by constructor <;> omega
   have b1:(k:Int)<g:=Ha;have HR:Hid (∀ q,Below A.heap.size A q->∀ i,i64 i->_):=fun q b2 i hi=>(H0.out.keep O.out) q b2 i hi;have HG:Hid (∀ q,Below A.heap.size A q->q.heap[gb]?=some (.cells (bJ d r n g H) 115 (0,0))):=fun q h=>kb h a2.out;have HQ:=He hq;have b3:Hid (L.take (k+1)=L.take k++[b]):=aw m;have b4:=He s;clear s m hq B c a5 a6 a7 a8;generalize 2+k=y at *;go_upto_region 5 with fail
   refine ax (Lq d gb n g k y A.heap.size r H b) (fun _ W=>Below A.heap.size A W) (fun _ w w'=>Below w.heap.size w w') Hc Hc (fun i j v w w' _ _ h hs=>by revert h;unfold Lq;split <;> intro h <;> first | exact h | (obtain ⟨p,C,h2,h3⟩:=h;exact ⟨p,C,kb hs h2,h3⟩) | trivial) ((Below.refl _ _).drew) ?_;simp only [cf];refine ⟨?_,?_,?_,?_,?_,?_,?_,?_,?_,?_,?_,?_,?_,?_⟩
   ·refine aa.of rfl fun T W L hag l hJ a hd=>?_;have e1:=Hf hag 1;exact Hh
   ·refine aa.of rfl fun T W L hag l hJ a hd=>?_;have R:T.getD 14 undef=_:=Hg hd 0 rfl;obtain ⟨z0,z1,z2,z3,z4,z5,z6,z7⟩:=bj (HG.out W hJ);exact Hh
   ·refine aa.of rfl fun T W L hag l hJ a hd=>?_;have e1:=Hf hag 1;exact Hh
   ·refine aa.of rfl fun T W L hag l hJ a hd=>?_;have S:T.getD 16 undef=_:=Hg hd 2 rfl;obtain ⟨z0,z1,z2,z3,z4,z5,z6,z7⟩:=bj (HG.out W hJ);exact Hh
   ·refine aa.of rfl fun T W L hag l hJ a hd=>?_;have e1:=Hf hag 1;exact Hh
   ·refine aa.of rfl fun T W L hag l hJ a hd=>?_;have U:T.getD 18 undef=_:=Hg hd 4 rfl;obtain ⟨z0,z1,z2,z3,z4,z5,z6,z7⟩:=bj (HG.out W hJ);exact Hh
   ·refine aa.of rfl fun T W L hag l hJ a hd=>?_;have e4:=Hf hag 4;exact Hh
   ·refine aa.of rfl fun T W L hag l hJ a hd=>?_;have V:T.getD 19 undef=_:=Hg hd 5 rfl;have X:T.getD 20 undef=_:=Hg hd 6 rfl;clear hag hd;go_simp;refine (HS.out W).mono ?_;rintro e w' ⟨rfl,m⟩;exact ⟨_,rfl,rfl,aR hJ m,m⟩
   ·refine aa.of rfl fun T W L hag l hJ a hd=>?_;have Y:T.getD 15 undef=_:=Hg hd 1 rfl;have Z:T.getD 17 undef=_:=Hg hd 3 rfl;have ad:T.getD 21 undef=_:=Hg hd 7 rfl;clear hag hd;go_simp;refine (HR.out W hJ y HY.out).mono ?_;rintro e w' ⟨⟨v,rfl,ha⟩,m⟩;refine ⟨_,rfl,?_,aR hJ m,m⟩;rcases ha with ⟨C,_⟩ | ⟨p,b',C,_,rfl,h2,h3⟩
    ·rw [HQ.out] at C;cases C
    ·rw [HQ.out] at C;injection C with C;subst C;exact ⟨_,rfl,h3,Nat.le_trans hJ.size h2⟩
   ·refine aa.of rfl fun T W L hag l hJ a hd=>?_;have b5:=Hg hd 8 rfl;obtain ⟨p,(hs:T.getD 22 undef=_),hp⟩:=b5;clear hag hd;go_simp;exact ⟨_,rfl,⟨_,rfl,hp⟩,ag _⟩
   ·refine aa.of rfl fun T W L hag l hJ a hd=>?_;have an:=Hg hd 9 rfl;obtain ⟨p,(hs:T.getD 13 undef=_),hp⟩:=an;clear hag hd;go_simp;exact ⟨_,rfl,⟨_,rfl,hp⟩,ag _⟩
   ·refine aa.of rfl fun T W L hag l hJ a hd=>?_;have an:=Hg hd 9 rfl;obtain ⟨p,(hs:T.getD 13 undef=_),hp⟩:=an;exact Hh
   ·refine aa.of rfl fun T W L hag l hJ a hd=>?_;have b6:=Hg hd 10 rfl;obtain ⟨p,(hs:T.getD 23 undef=_),hp⟩:=b6;clear hag hd;go_simp;exact ⟨_,rfl,⟨_,rfl,hp⟩,ag _⟩
   ·refine bm.of rfl fun T W L hag a l hJ hd=>?_;have a9:T.getD 24 undef=_:=hd 11 _ Hb rfl;obtain ⟨f,t,hT⟩:=aJ hag;have R:T.getD 14 undef=_:=hd 0 _ Hb rfl;have b8:=(t 14).trans R;have Y:T.getD 15 undef=_:=hd 1 _ Hb rfl;have b9:=(t 15).trans Y;have S:T.getD 16 undef=_:=hd 2 _ Hb rfl;have ca:=(t 16).trans S;have Z:T.getD 17 undef=_:=hd 3 _ Hb rfl;have cb:=(t 17).trans Z;have U:T.getD 18 undef=_:=hd 4 _ Hb rfl;have cc:=(t 18).trans U;have V:T.getD 19 undef=_:=hd 5 _ Hb rfl;have cg:=(t 19).trans V;have X:T.getD 20 undef=_:=hd 6 _ Hb rfl;have ch:=(t 20).trans X;have ad:T.getD 21 undef=_:=hd 7 _ Hb rfl;have ci:=(t 21).trans ad;have ck:=(t 24).trans a9;have HJ:=He hJ;have x5:=hd 12 _ Hb rfl;obtain ⟨p,(bb:T.getD 5 undef=_),hp⟩:=x5;have h5:=(t 5).trans bb;have HP:=He hp;clear bb hp;clear hag hd R Y S Z U V X ad a9 hJ t;rw [hT];clear hT;simp only [List.pop_toArray,List.dropLast_cons_cons,List.dropLast_singleton,List.filterMap_cons,List.filterMap_nil,List.foldl_cons,List.foldl_nil,List.setIfInBounds_toArray,List.set_cons_succ,List.set_cons_zero,b8,b9,ca,cb,cc,cg,ch,ci,ck];simp only [h5];have cp:=He (aR O.out HJ.out);have K:=He (aR a3.out HJ.out);have bi:=He (a4.out.below HJ.out);have bk:=He (N.out.below HJ.out);have x:=He K.out.size;clear a2 HJ HS HR HQ a4 HG;go_wp2_with (at_builtin;refine qF rfl (.tmp 27) (.tmp 29) 186 rfl 22 i0 _ 1 24 Tryz.underlying186 HI.out.1 HI.out.2.1 HI.out.2.2.1 HI.out.2.2.2 rfl Hd (.slice A5 k c5) k vs rfl _ (bi.out.below ((Below.refl _ _).alloc (Nat.le_refl _) _)) ⟨W.heap.size,0,none⟩ 1 1 [.slice (some ⟨p,0,none⟩) 64 64] rfl rfl (World.news_of_block (heap_alloc_new W _)) (fun u hu=>by rw [List.mem_singleton.1 hu];rfl) (by simp only [maxLen];omega) Ha ?_;intro v' w3 z M _;have cl:=He z;have bl:=He M;clear z M)
    go_roundw
    case rel =>
     refine ⟨k+1,vs++[.slice (some ⟨p,0,none⟩) 64 64],by go_num,Ha,?_,?_⟩
     ·rw [b3.out];exact nW.push (o:=.cells #[.slice (some ⟨p,0,none⟩) 64 64] 22) bk.out x.out HP.out.1 (Nat.le_trans a3.out.size HP.out.2) (by rw [b4.out];exact cl.out) bl.out
     ·exact (K.out.alloc x.out _).grown bl.out (by have:=x.out;simp;omega) (fun y hy=>bi.out.2 y hy)
    case measure=>simp [intOf];omega
  ·obtain rfl:k=g:=Ha;have b1:¬ ((k:Int)<k):=Ha;have bn:=HB.out.size;have a0:=N.out;rw [List.take_of_length_le (by rw [HL.out];omega)] at a0;have HF:=He (a0.mono bn);clear c a0 bn;go_wp2;go_ret;rw [<- a1];exact ⟨⟨_,rfl,_,HF.out⟩,O.out⟩
end Go.Proofs.YtegjelaejbacnaaGreat
