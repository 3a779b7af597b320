/- For FileForms: contracts and facts, part 8. -/
import Derived.Deep.DeepCutAuto
import Derived.StillTailTactics
import Derived.Test.YtegjelaejbacnaaGreatW01
import Derived.Test.YtegjelaejbacnaaGreatW02
import Derived.Test.YtegjelaejbacnaaGreatW05
import Derived.Test.YtegjelaejbacnaaGreatW06
import Derived.Test.YtegjelaejbacnaaGreatW07
set_option maxRecDepth 100000
set_option maxHeartbeats 25600000
set_option linter.unusedVariables false
open Go.ChangeShapes Go.WideShapes Go.ChangeAt Go.RowKit
namespace Go.Proofs.YtegjelaejbacnaaGreat
def bH (d:Option Addr) (r:Int) (n g:Nat) (f:Int):Array Value:=#[.pointer d,.int .i64 r,.int .u8 0,.int .i64 0,.int .i64 0,.int .i64 n,.int .i64 g,.int .i64 f]
theorem qf (d:Option Addr) (r:Int) (n g:Nat) (f:Int):(bH d r n g f).all (·.oneCell')=true:=by
 refine Array.all_eq_true_iff_forall_mem.2 fun v hv=>?_;unfold bH at hv;simp only [List.mem_toArray,List.mem_cons,List.not_mem_nil,or_false] at hv;rcases hv with rfl | rfl | rfl | rfl | rfl | rfl | rfl | rfl <;> rfl
theorem n6:(Tryz.prog.info? 115).map (·.size)=some 8:=Hc
section
variable {ops:Array Oper} {rest:List Oper} {o:Oper} {a:Act} {w:World} {Q:Exit->Act->World->Prop}
theorem jy (hgd:o.guard=none) (x y:Operand) (ho:o.op=.store 115 x y) (p:Nat) (hx:a.eval x=.pointer (some ⟨p,0,none⟩)) (cs:Array Value) (hs:cs.size=8) (h1:cs.all (·.oneCell')=true) (hy:a.eval y=.agg cs) (old:Array Value) (hso:old.size=8) (hg:w.heap[p]?=some (.cells old 115 (0,0)))
 (h:wpList Tryz.prog ops Q rest (a.put o.dst undef) (w.setRow p cs)):wpList Tryz.prog ops Q (o :: rest) a w :=
 wpList_store_row hgd 115 x y ho p _ hx hy _ _ hg (by rw [hs];exact n6) (by rw [hs,hso]) h1 h
theorem iL (hgd:o.guard=none) (x:Operand) (ho:o.op=.load 115 x) (p:Nat) (hx:a.eval x=.pointer (some ⟨p,0,none⟩)) (cs:Array Value) (hs:cs.size=8) (hg:w.heap[p]?=some (.cells cs 115 (0,0)))
 (h:wpList Tryz.prog ops Q rest (a.put o.dst (.agg cs)) w):wpList Tryz.prog ops Q (o :: rest) a w :=
 wpList_load_row hgd 115 x ho p hx _ _ _ _ hg Tryz.underlying115 rfl (by rw [hs];exact n6) h
end
theorem vJ {fn:Func} {p u:Tmp} (h:fn.results=#[.cell p 115,.tmp u]) (tmps:Array Value) (w:World) (g:Nat) (cs:Array Value) (hp:tmps.getD p undef=.pointer (some ⟨g,0,none⟩)) (h8:cs.size=8) (hg:w.heap[g]?=some (.cells cs 115 (0,0))) :
 (results fn tmps).run Tryz.prog w=.ok (.tuple #[.agg cs,tmps.getD u undef]) w:=by
 rw [results_cell_tmp h,hp];simp only [asAddr,Sem.run_pure,Result.andThen_ok];rw [run_loadVar_row w g _ _ _ _ _ hg Tryz.underlying115 rfl (by rw [h8];exact n6)];rfl
def jS (d:Option Addr) (r:Int) (n g:Nat) (f:Int):Value:=.agg (bH d r n g f)
theorem m5 (d:Option Addr) (r:Int) (n g:Nat) (f:Int) (hn:n<=200) (hg:g<=1000) (w:World) :
 Calls Tryz.prog 93 #[.pointer d,.int .i64 r,pi 0 0 n g f] w fun e w'=>e=.returned (.tuple #[jS d r n g f,.bool true])/\Below w.heap.size w w':=by
 have HP:=He (fun W=>EW 0 0 W Ha Ha);have hd1:decide ((n:Int)<0)=false:=decide_eq_false Ha;have hd2:decide (200<(n:Int))=false:=decide_eq_false Ha;have hd3:decide ((g:Int)<0)=false:=decide_eq_false Ha;unfold pi jS;go_enter Tryz.func93,Tryz.ntmps93;go_wp2_with fail
 have hb0:Below w.heap.size w ((w.alloc (Obj.cells #[.int .i64 0,.int .i64 0,.int .i64 n,.int .i64 g,.int .i64 f] 97)).alloc (Obj.cells #[.pointer none,.int .i64 0,.int .u8 0,.int .i64 0,.int .i64 0,.int .i64 0,.int .i64 0,.int .i64 0] 115)):=((Below.refl _ _).alloc (Nat.le_refl _) _).alloc Hb _;have hs0:=heap_alloc_new w (Obj.cells #[.int .i64 0,.int .i64 0,.int .i64 n,.int .i64 g,.int .i64 f] 97);have hs1:=heap_alloc_new (w.alloc (Obj.cells #[.int .i64 0,.int .i64 0,.int .i64 n,.int .i64 g,.int .i64 f] 97)) (Obj.cells #[.pointer none,.int .i64 0,.int .u8 0,.int .i64 0,.int .i64 0,.int .i64 0,.int .i64 0,.int .i64 0] 115);have hs2:=(Below.heap_alloc (w.alloc (Obj.cells #[.int .i64 0,.int .i64 0,.int .i64 n,.int .i64 g,.int .i64 f] 97)) (Obj.cells #[.pointer none,.int .i64 0,.int .u8 0,.int .i64 0,.int .i64 0,.int .i64 0,.int .i64 0,.int .i64 0] 115) w.heap.size Hb).trans hs0;have hz:(w.alloc (Obj.cells #[.int .i64 0,.int .i64 0,.int .i64 n,.int .i64 g,.int .i64 f] 97)).heap.size=w.heap.size+1:=Hb;rw [hz] at hs1;clear hs0 hz;generalize (w.alloc (Obj.cells #[.int .i64 0,.int .i64 0,.int .i64 n,.int .i64 g,.int .i64 f] 97)).alloc (Obj.cells #[.pointer none,.int .i64 0,.int .u8 0,.int .i64 0,.int .i64 0,.int .i64 0,.int .i64 0,.int .i64 0] 115)=W0 at *;refine (HP.out _).mono ?_;rintro e w1 ⟨rfl,hb⟩;have hs3:=kb hb hs1;have hs4:=kb hb hs2;have HB:=He (aP hb0 hb);have x0:=af hs4 0;have x1:=af hs4 1;have x2:=af hs4 2;have x3:=af hs4 3;have x4:=af hs4 4;simp only [List.getElem?_toArray,List.getElem?_cons_zero,List.getElem?_cons_succ] at x0 x1 x2 x3 x4;generalize hh0:w.heap.size=h0 at *;have y0:w1.cell? ⟨h0+1,0,none⟩=some (.pointer none):=af hs3 0;clear hs1 hs2 hs4 hb hb0;go_wp2_with (refine jy rfl (.tmp 6) (.tmp 38) rfl (h0+1) rfl (bH d r n g f) rfl (qf _ _ _ _ _) rfl _ rfl hs3 ?_)
 have hs5:=am (D:=bH d r n g f) hs3;have HB2:=He (below_setRow HB.out (show h0<=h0+1 by omega) (bH d r n g f));refine bodyPost_ret (vJ rfl _ _ (h0+1) _ rfl rfl hs5) rfl ?_;exact ⟨rfl,by rw [hh0];exact HB2.out⟩
theorem j9 {w0 W:World} {P:Nat->Prop} {q:Nat} {m:DM} (h:DS w0 W P q m) (r:Int) (hr:i64 r) (n g:Nat) (f:Int) (hmax:m.done.length<1000000) :
 Calls Tryz.prog 155 #[jS (some ⟨q,0,none⟩) r n g f] W fun e w'=>e=.returned (.tuple #[])/\DS w0 w' P q (m.doBarrier r)/\bv P W w':=by
 have HD:=He h;have HM:=He hmax;clear h hmax;unfold jS bH;go_enter Tryz.func155,Tryz.ntmps155;go_wp2_with fail
 have hb:∀ o,Below W.heap.size W (W.alloc o):=fun o=>(Below.refl _ _).alloc (Nat.le_refl _) _;have hd:=fun o=>HD.out.below (hb o) (fun k hk=>Or.inl hk);refine ((hd _).barrier r hr HM.out).mono ?_;rintro e w' ⟨rfl,hd',hs⟩;have HS:=He ((HD.out.same (hb _)).trans hs);have HD':=He hd';clear hd hb hd' hs HD;go_wp2
 go_end0
 exact ⟨rfl,HD'.out,HS.out⟩
theorem mj {w0 W:World} {P:Nat->Prop} {q:Nat} {m:DM} (h:DS w0 W P q m) (r:Int) (hr:i64 r) (n g:Nat) (f:Int) (i:Int) (hi:i64 i) (A:Option Addr) (bs:List Int) (c:Nat) (hB:cG bs) (hy:dD W A bs) (hmax:m.done.length<=1000000) :
 Calls Tryz.prog 153 #[jS (some ⟨q,0,none⟩) r n g f,.int .i64 i,.slice A 64 c] W fun e w'=>e=.returned (.tuple #[])/\DS w0 w' P q (m.doWrite r i bs)/\bv P W w':=by
 have HD:=He h;have HM:=He hmax;have HY:=He hy;have HBB:=He hB;clear h hmax hy hB;unfold jS bH;go_enter Tryz.func153,Tryz.ntmps153;go_wp2_with fail
 have hb:∀ o,Below W.heap.size W (W.alloc o):=fun o=>(Below.refl _ _).alloc (Nat.le_refl _) _;have hd:=fun o=>HD.out.below (hb o) (fun k hk=>Or.inl hk);have hw:=fun o=>(hd o).write r i hr hi A bs c HBB.out.2 (HY.out.alloc o) (by rw [HBB.out.1];omega) HM.out;rw [HBB.out.1] at hw;refine (hw _).mono ?_;rintro e w' ⟨rfl,hd',hs⟩;have HS:=He ((HD.out.same (hb _)).trans hs);have HD':=He hd';clear hd hb hd' hs HD hw;go_wp2
 go_end0
 exact ⟨rfl,HD'.out,HS.out⟩
def gT (i:Nat):Int:=if i=0 then 7 else 0
def gD (i:Nat):List Int:=if i=0 then ay.set 3 1 else ay
theorem iZ (i:Nat):(gD i).length=56:=by unfold gD;split <;> simp [ay]
theorem n7 (i:Nat):ax (gD i):=by
 have hz:ax ay:=fun x hx=>by unfold ay at hx;rw [List.eq_of_mem_replicate hx];omega
 unfold gD;split
 ·intro x hx;rcases List.mem_or_eq_of_mem_set hx with h | h
  ·exact hz x h
  ·omega
 ·exact hz
theorem ya (w:World) (o1 o2:Obj):((w.alloc o1).alloc o2).heap[w.heap.size]?=some o1/\((w.alloc o1).alloc o2).heap[w.heap.size+1]?=some o2/\Below w.heap.size w ((w.alloc o1).alloc o2):=by
 have hs:(w.alloc o1).heap.size=w.heap.size+1:=Hb;refine ⟨(Below.heap_alloc (w.alloc o1) o2 w.heap.size Ha).trans (heap_alloc_new w o1),?_,((Below.refl _ _).alloc (Nat.le_refl _) _).alloc Ha _⟩;rw [<- hs];exact heap_alloc_new (w.alloc o1) o2
theorem vK (i:Nat) (w:World):Calls Tryz.prog 96 #[.int .i64 i] w fun e w'=>e=.returned (.agg (ab (gT i) (gD i)))/\Below w.heap.size w w':=by
 obtain ⟨e0,e1,hb⟩:=ya w (Obj.cells (ab 0 ay) 37) (Obj.cells (ab 0 ay) 37);by_cases hi:i=0
 ·subst hi;go_enter Tryz.func96,Tryz.ntmps96;go_upto_region 3 with (refine aq rfl rfl ?_)
  generalize hh:w.heap.size=h0 at *;have hz:(w.alloc (Obj.cells (ab 0 ay) 37)).heap.size=h0+1:=by simp [hh]
  generalize (w.alloc (Obj.cells (ab 0 ay) 37)).alloc (Obj.cells (ab 0 ay) 37)=W at *;have c0:W.cell? ⟨h0+1,0,none⟩=some (.int .i64 0):=(af e1 0).trans rfl;have f0:W.frozen? ⟨h0+1,0,none⟩=false:=az e1 0;go_upto_region 4 with fail
  have e2:=ah e1 (i:=0) (.int .i64 7);rw [sr] at e2;have e3:(W.setCell ⟨h0+1,0,none⟩ (.int .i64 7)).heap[h0]?=_:=(Below.heap_setCell W ⟨h0+1,0,none⟩ _ h0 Hb).trans e0;have HB:=He (hb.setCell (p:=⟨h0+1,0,none⟩) Hb (.int .i64 7));clear c0 f0 e0 e1 hb;generalize W.setCell ⟨h0+1,0,none⟩ (.int .i64 7)=W2 at *;have c4:W2.cell? ⟨h0+1,4,none⟩=some (.int .u8 0):=(af e2 4).trans rfl;have f4:W2.frozen? ⟨h0+1,4,none⟩=false:=az e2 4;go_upto_region 5 with fail
  have e4:=ah e2 (i:=4) (.int .u8 1);rw [show (ab 7 ay).setIfInBounds 4 (.int .u8 1)=ab 7 (ay.set 3 1) from rfl] at e4;have e5:=(Below.heap_setCell W2 ⟨h0+1,4,none⟩ (.int .u8 1) h0 Hb).trans e3;have HB2:=He (HB.out.setCell (p:=⟨h0+1,4,none⟩) Hb (.int .u8 1));clear c4 f4 e2 e3;generalize W2.setCell ⟨h0+1,4,none⟩ (.int .u8 1)=W3 at *;go_wp2_with (first | (refine aQ rfl (.tmp 3) rfl (h0+1) rfl 7 (ay.set 3 1) (iZ 0) e4 ?_) | (refine ap rfl (.tmp 2) (.tmp 9) rfl h0 rfl 7 0 (ay.set 3 1) ay rfl (iZ 0) al e5 ?_))
  have e6:=am (D:=ab 7 (ay.set 3 1)) e5;have HB3:=He (below_setRow HB2.out (Nat.le_refl _) (ab 7 (ay.set 3 1)));refine bodyPost_ret (results_cell_row rfl _ _ h0 _ _ _ _ rfl e6 Tryz.underlying37 rfl (by rw [aN (show (ay.set 3 1).length=56 from rfl)];exact cO)) rfl ?_;exact ⟨rfl,by rw [hh];exact HB3.out⟩
 ·have hd:((i:Int)==0)=false:=by simp;omega
  have hk:gT i=0:=by unfold gT;rw [if_neg hi]
  have hq:gD i=ay:=by unfold gD;rw [if_neg hi]
  rw [hk,hq];clear hk hq hi;go_enter Tryz.func96,Tryz.ntmps96;go_upto_region 2 with (refine aq rfl rfl ?_)
  generalize hh:w.heap.size=h0 at *;have hz:(w.alloc (Obj.cells (ab 0 ay) 37)).heap.size=h0+1:=by simp [hh]
  generalize (w.alloc (Obj.cells (ab 0 ay) 37)).alloc (Obj.cells (ab 0 ay) 37)=W at *;go_wp2_with (first | (refine aQ rfl (.tmp 3) rfl (h0+1) rfl 0 ay al e1 ?_) | (refine ap rfl (.tmp 2) (.tmp 9) rfl h0 rfl 0 0 ay ay rfl al al e0 ?_))
  have e6:=am (D:=ab 0 ay) e0;have HB3:=He (below_setRow hb (Nat.le_refl _) (ab 0 ay));refine bodyPost_ret (results_cell_row rfl _ _ h0 _ _ _ _ rfl e6 Tryz.underlying37 rfl (by rw [aN al];exact cO)) rfl ?_;exact ⟨rfl,by rw [hh];exact HB3.out⟩
theorem bf {W:World} {p:Nat} {d:Option Addr} {r:Int} {n g:Nat} {f:Int} {t:TypeId} {fr:Nat × Nat} (h:W.heap[p]?=some (.cells (bH d r n g f) t fr)) :
 W.cell? ⟨p,0,none⟩=some (.pointer d)/\W.cell? ⟨p,1,none⟩=some (.int .i64 r)/\W.cell? ⟨p,2,none⟩=some (.int .u8 0)/\W.cell? ⟨p,3,none⟩=some (.int .i64 0)/\W.cell? ⟨p,4,none⟩=some (.int .i64 0)/\W.cell? ⟨p,5,none⟩=some (.int .i64 n)/\W.cell? ⟨p,6,none⟩=some (.int .i64 g)/\W.cell? ⟨p,7,none⟩=some (.int .i64 f) :=
 ⟨(af h 0).trans rfl,(af h 1).trans rfl,(af h 2).trans rfl,(af h 3).trans rfl,(af h 4).trans rfl,(af h 5).trans rfl,(af h 6).trans rfl,(af h 7).trans rfl⟩
theorem ag (W:World):Below W.heap.size W W:=Below.refl _ _
def KU (q gb n g a:Nat) (r fr:Int) (A:Option Addr) (c:Nat) (i:Nat) (v:Value) (w:World):Prop :=
 match i with
 | 0=>v=.agg (bH (some ⟨q,0,none⟩) r n g fr)
 | 1=>v=.pointer (some ⟨gb,3,none⟩)
 | 2=>v=pi 0 0 n g fr
 | 3=>v=.int .i64 a
 | 4=>v=.int .i64 ((2+g+a:Nat):Int)
 | 5=>v=.slice A 64 c
 | _=>True
theorem oM {w0 W:World} {P:Nat->Prop} {q:Nat} {m:DM} (h:DS w0 W P q m) (r:Int) (hr:i64 r) (n g:Nat) (fr:Int) (hn:n<=200) (hg:g<=1000) (a:Nat) (ha:a<n) (k:Int) (bs:List Int) (hk:0<=k/\k<=7) (h56:bs.length=56) (hB:ax bs) (hmax:m.done.length<=1000000) :
 Calls Tryz.prog 95 #[jS (some ⟨q,0,none⟩) r n g fr,.int .i64 a,.agg (ab k bs)] W fun e w'=>e=.returned (.tuple #[])/\DS w0 w' P q (m.doWrite r ((2+g+a:Nat):Int) (cC 0 k a bs))/\bv P W w':=by
 have HD:=He h;have HM:=He hmax;have HSE:=He (fun W=>vA 0 k a (ab k bs) bs W Ha hk Ha (bp _ _) h56 hB);have HSL:=He (fE (l:=0) (k:=k) (t:=a) h56);have HSB:=He (mg (l:=0) (t:=a) Ha hk hB);have HH:=He (fun W=>vw 0 0 n g fr a Ha hg Ha W);rw [show cV (2+g) n a=((2+g+a:Nat):Int) by unfold cV;rw [if_pos Ha];omega] at HH;have HNG:=He (And.intro hn hg);have H56:=He h56;clear h hmax h56 hB hk;unfold jS;generalize cC 0 k a bs=sb at *;go_enter Tryz.func95,Tryz.ntmps95;go_upto_region 1 with fail
 obtain ⟨e0,e1,hb⟩:=ya W (Obj.cells (bH (some ⟨q,0,none⟩) r n g fr) 115) (Obj.cells (ab k bs) 37);generalize hgb:W.heap.size=gb at *;have hz:(W.alloc (Obj.cells (bH (some ⟨q,0,none⟩) r n g fr) 115)).heap.size=gb+1:=by simp [hgb]
 generalize (W.alloc (Obj.cells (bH (some ⟨q,0,none⟩) r n g fr) 115)).alloc (Obj.cells (ab k bs) 37)=W1 at *;have c2:=(bf e0).2.2.1;have HB:Hid (Below W.heap.size W W1):=by rw [hgb];exact hb
 have HE0:=He e0;clear e0 hb;go_wp2_with (refine aQ rfl (.tmp 5) rfl (gb+1) rfl k bs H56.out e1 ?_)
 refine (HSE.out _).mono ?_;rintro e W2 ⟨v,rfl,own,hb2⟩;obtain ⟨A,c,rfl,_,_,hby⟩:=bN own HSL.out;rw [HSL.out];have HB2:=He (aP HB.out hb2);have HG:Hid (∀ W',Below W2.heap.size W2 W'->W'.heap[gb]?=some (.cells (bH (some ⟨q,0,none⟩) r n g fr) 115 (0,0))):=fun W' h=>kb h (kb hb2 HE0.out);have HY:Hid (∀ W',Below W2.heap.size W2 W'->dD W' A sb):=fun W' h=>hby.keep h;clear own hby hb2 c2 e1 HE0 HB HSE;go_upto_region 2 with fail
 refine aw (KU q gb n g a r fr A c) (fun _ W=>Below W2.heap.size W2 W) (fun _ w w'=>Below w.heap.size w w') Hc Hc (fun i j v w w' _ _ h _=>by unfold KU at *;exact h) ((Below.refl _ _).drew) ?_;simp only [bW];refine ⟨?_,?_,?_,?_,?_,?_,?_⟩
 ·refine aa.of rfl fun T W L hag hL hJ hLs hd=>?_;have e3:=Hf hag 3;obtain ⟨z0,z1,z2,z3,z4,z5,z6,z7⟩:=bf (HG.out W hJ);exact Hh
 ·refine aa.of rfl fun T W L hag hL hJ hLs hd=>?_;have e3:=Hf hag 3;exact Hh
 ·refine aa.of rfl fun T W L hag hL hJ hLs hd=>?_;have d17:T.getD 17 undef=_:=Hg hd 1 rfl;obtain ⟨z0,z1,z2,z3,z4,z5,z6,z7⟩:=bf (HG.out W hJ);exact Hh
 ·refine aa.of rfl fun T W L hag hL hJ hLs hd=>?_;have e1:=Hf hag 1;exact Hh
 ·refine aa.of rfl fun T W L hag hL hJ hLs hd=>?_;have d18:T.getD 18 undef=_:=Hg hd 2 rfl;have d19:T.getD 19 undef=_:=Hg hd 3 rfl;clear hag hd;go_simp;refine (HH.out W).mono ?_;rintro e w' ⟨rfl,hb⟩;exact ⟨_,rfl,rfl,aP hJ hb,hb⟩
 ·refine aa.of rfl fun T W L hag hL hJ hLs hd=>?_;have e6:=Hf hag 6;exact Hh
 ·refine bg.of rfl fun T W L hag hLs hL hJ hd=>?_;have d16:T.getD 16 undef=_:=hd 0 _ Hb rfl;have d20:T.getD 20 undef=_:=hd 4 _ Hb rfl;have d21:T.getD 21 undef=_:=hd 5 _ Hb rfl;obtain ⟨f,hf,hT⟩:=aH hag;have h16:=(hf 16).trans d16;have h20:=(hf 20).trans d20;have h21:=(hf 21).trans d21;have HJ:=He hJ;clear hag hd d16 d20 d21 hJ hf;rw [hT];clear hT;simp only [List.pop_toArray,List.dropLast_cons_cons,List.dropLast_singleton,List.filterMap_cons,List.filterMap_nil,List.foldl_cons,List.foldl_nil,List.setIfInBounds_toArray,List.set_cons_succ,List.set_cons_zero,h16,h20,h21];have hd:=HD.out.below (aP HB2.out HJ.out) (fun k hk=>Or.inl hk);go_simp;refine (mj hd r hr n g fr _ (by constructor <;> omega) A sb c ⟨HSL.out,HSB.out⟩ (HY.out W HJ.out) HM.out).mono ?_;rintro e w' ⟨rfl,hd',hs⟩;have HD':=He hd';have HS:=He ((HD.out.same (aP HB2.out HJ.out)).trans hs);clear hd hd' hs;go_wp2
  go_end0
  exact ⟨rfl,HD'.out,HS.out⟩
theorem DS.mono {w0 W:World} {P P':Nat->Prop} {q:Nat} {m:DM} (h:DS w0 W P q m) (hp:∀ k,P' k->P k):DS w0 W P' q m:=by
 obtain ⟨F,h1,h2,h3⟩:=h.dev;exact ⟨⟨F,h1,h2,fun k hk=>h3 k (hp k hk)⟩,fun k hk=>h.low k (hp k hk),h.bel⟩
theorem bv.mono {P P':Nat->Prop} {w w':World} (h:bv P w w') (hp:∀ k,P' k->P k):bv P' w w':=⟨fun k hk=>h.blk k (hp k hk),h.size⟩
theorem bv.refl (P:Nat->Prop) (w:World):bv P w w:=⟨fun _ _=>rfl,Nat.le_refl _⟩
def DM.doBegin (m:DM) (r:Int) (e:Nat):DM:=((m.doBarrier r).doWrite r ((e%2:Nat):Int) (ba 0 e)).doBarrier r
def Jv (q gb base n g e e2:Nat) (r fr:Int) (i:Nat) (v:Value) (w:World):Prop :=
 match i with
 | 0=>v=.agg (bH (some ⟨q,0,none⟩) r n g fr)
 | 1 | 5=>v=.int .u32 e
 | 2=>v=.int .i64 (e2:Int)
 | 3=>v=.pointer (some ⟨gb,2,none⟩)
 | 4=>v=.int .u8 0
 | 6=>w.ownsRow base 5 1 v 64 (Bs (ba 0 e))
 | _=>True
theorem qg {w0 W:World} {P:Nat->Prop} {q:Nat} {m:DM} (h:DS w0 W P q m) (r:Int) (hr:i64 r) (n g:Nat) (fr:Int) (e:Nat) (he:e<4294967296) (hmax:m.done.length<=999990) :
 Calls Tryz.prog 97 #[jS (some ⟨q,0,none⟩) r n g fr,.int .u32 e] W fun en w'=>en=.returned (.tuple #[])/\DS w0 w' P q (m.doBegin r e)/\bv P W w':=by
 have HD:=He h;have hm1:=cH m r;have hm2:=fD (m.doBarrier r) r ((e%2:Nat):Int) (ba 0 e);have HM:=He (And.intro hmax (And.intro hm1 hm2));have HAN:=He (fun W=>qb 0 e W Ha he);have HAP:=He (fun W=>j5 (e:Int) Ha W);rw [show (e:Int)%2=((e%2:Nat):Int) by omega] at HAP;have HE2:Hid (e%2<2):=Nat.mod_lt _ Ha;clear h hmax hm1 hm2;unfold jS DM.doBegin;generalize e%2=e2 at *;go_enter Tryz.func97,Tryz.ntmps97;go_upto_region 1 with fail
 have e0:=heap_alloc_new W (Obj.cells (bH (some ⟨q,0,none⟩) r n g fr) 115);have hb:Below W.heap.size W (W.alloc (Obj.cells (bH (some ⟨q,0,none⟩) r n g fr) 115)):=(Below.refl _ _).alloc (Nat.le_refl _) _;have hz:(W.alloc (Obj.cells (bH (some ⟨q,0,none⟩) r n g fr) 115)).heap.size=W.heap.size+1:=Hb;generalize hgb:W.heap.size=gb at *;generalize W.alloc (Obj.cells (bH (some ⟨q,0,none⟩) r n g fr) 115)=W1 at *;have hd1:DS w0 W1 (fun k=>P k\/k=gb) q m:=HD.out.below (by rw [hgb];exact hb) (fun k hk=>hk.elim Or.inl (fun h=>Or.inr Ha));have hs1:=HD.out.same (by rw [hgb];exact hb);have HD1:=He hd1;have HS1:=He hs1;clear hd1 hs1 hb hz;go_wp2_with (refine iL rfl (.tmp 2) rfl gb rfl (bH (some ⟨q,0,none⟩) r n g fr) rfl e0 ?_)
 refine (j9 HD1.out r hr n g fr (by have:=HM.out.1;omega)).mono ?_;rintro en W2 ⟨rfl,hd2,hs2⟩;have e1:=(hs2.blk gb (Or.inr rfl)).trans e0;have HD2:=He hd2;have HS2:=He (HS1.out.trans (hs2.mono fun k hk=>Or.inl hk));have HG:Hid (∀ W',Below W2.heap.size W2 W'->W'.heap[gb]?=some (.cells (bH (some ⟨q,0,none⟩) r n g fr) 115 (0,0))):=fun W' h=>kb h e1;clear e0 hd2 hs2 e1 HS1 HD1;go_upto_region 2 with fail
 refine aw (Jv q gb W2.heap.size n g e e2 r fr) (fun _ W=>Below W2.heap.size W2 W) (fun _ w w'=>Below w.heap.size w w') Hc Hc (fun i j v w w' _ _ h hs=>by revert h;unfold Jv;split <;> intro h <;> first | exact h | exact hU h hs | trivial) ((Below.refl _ _).drew) ?_;simp only [bW];refine ⟨?_,?_,?_,?_,?_,?_,?_,?_⟩
 ·refine aa.of rfl fun T W L hag hL hJ hLs hd=>?_;have e2:=Hf hag 2;obtain ⟨z0,z1,z2,z3,z4,z5,z6,z7⟩:=bf (HG.out W hJ);exact Hh
 ·refine aa.of rfl fun T W L hag hL hJ hLs hd=>?_;have e1:=Hf hag 1;exact Hh
 ·refine aa.of rfl fun T W L hag hL hJ hLs hd=>?_;have d7:T.getD 7 undef=_:=Hg hd 1 rfl;clear hag hd;go_simp;refine (HAP.out W).mono ?_;rintro e w' ⟨rfl,rfl⟩;exact ⟨_,rfl,rfl,hJ,ag _⟩
 ·refine aa.of rfl fun T W L hag hL hJ hLs hd=>?_;have e2:=Hf hag 2;exact Hh
 ·refine aa.of rfl fun T W L hag hL hJ hLs hd=>?_;have d9:T.getD 9 undef=_:=Hg hd 3 rfl;obtain ⟨z0,z1,z2,z3,z4,z5,z6,z7⟩:=bf (HG.out W hJ);exact Hh
 ·refine aa.of rfl fun T W L hag hL hJ hLs hd=>?_;have e1:=Hf hag 1;exact Hh
 ·refine aa.of rfl fun T W L hag hL hJ hLs hd=>?_;have d10:T.getD 10 undef=_:=Hg hd 4 rfl;have d11:T.getD 11 undef=_:=Hg hd 5 rfl;clear hag hd;go_simp;refine (HAN.out W).mono ?_;rintro e w' ⟨v,rfl,own,hb⟩;exact ⟨_,rfl,own.mono hJ.size,aP hJ hb,hb⟩
 ·refine bg.of rfl fun T W L hag hLs hL hJ hd=>?_;have d6:T.getD 6 undef=_:=hd 0 _ Hb rfl;have d8:T.getD 8 undef=_:=hd 2 _ Hb rfl;have x12:=hd 6 _ Hb rfl;obtain ⟨f,hf,hT⟩:=aH hag;have h6:=(hf 6).trans d6;have d7:T.getD 7 undef=_:=hd 1 _ Hb rfl;have h7:=(hf 7).trans d7;have h8:=(hf 8).trans d8;have d9:T.getD 9 undef=_:=hd 3 _ Hb rfl;have h9:=(hf 9).trans d9;have d10:T.getD 10 undef=_:=hd 4 _ Hb rfl;have h10:=(hf 10).trans d10;have d11:T.getD 11 undef=_:=hd 5 _ Hb rfl;have h11:=(hf 11).trans d11;have HJ:=He hJ;have x12b:W.ownsRow W2.heap.size 5 1 (T.getD 12 undef) 64 (Bs (ba 0 e)):=x12;obtain ⟨A,c,hv,_,_,hby⟩:=bN x12b (bY 0 e);rw [bY] at hv;have h12:=(hf 12).trans hv;have HBY:=He hby
  clear x12 x12b hby hv;clear hag hd d6 d7 d8 d9 d10 d11 hJ hf;rw [hT];clear hT;simp only [List.pop_toArray,List.dropLast_cons_cons,List.dropLast_singleton,List.filterMap_cons,List.filterMap_nil,List.foldl_cons,List.foldl_nil,List.setIfInBounds_toArray,List.set_cons_succ,List.set_cons_zero,h6,h7,h8,h9,h10,h11];simp only [h12];have hd:=HD2.out.below HJ.out (fun k hk=>Or.inl hk);go_simp;refine (mj hd r hr n g fr e2 (by have:=HE2.out;constructor <;> omega) A (ba 0 e) c ⟨bY 0 e,j7 e Ha⟩ HBY.out (by have:=HM.out.1;have:=HM.out.2.1;omega)).mono ?_;rintro en W3 ⟨rfl,hd3,hs3⟩;have hgc:=HG.out W HJ.out;have e1:=(hs3.blk gb (Or.inr rfl)).trans hgc;have HD3:=He hd3;have HS3:=He ((HS2.out.trans (HD2.out.same HJ.out |>.mono fun k hk=>Or.inl hk)).trans (hs3.mono fun k hk=>Or.inl hk));clear hd hd3 hs3 hgc HBY HJ h12;go_wp2_with (refine iL rfl (.tmp 2) rfl gb rfl (bH (some ⟨q,0,none⟩) r n g fr) rfl e1 ?_)
  refine (j9 HD3.out r hr n g fr (by have:=HM.out.1;have:=HM.out.2.1;have:=HM.out.2.2;omega)).mono ?_;rintro en W4 ⟨rfl,hd4,hs4⟩;have HD4:=He (hd4.mono fun k hk=>Or.inl hk);have HS4:=He (HS3.out.trans (hs4.mono fun k hk=>Or.inl hk));clear hd4 hs4 e1 HD3 HS3;go_wp2
  go_end0
  exact ⟨rfl,HD4.out,HS4.out⟩
def K6 (row:Int->Option (List Int)) (i:Int) (W0:World) (v:Value) (W:World):Prop :=
 (row i=none/\v=.tuple #[.slice none 0 0,.bool false]) \/
 ∃ (p:Nat) (b:List Int),row i=some b/\cG b/\v=.tuple #[.slice (some ⟨p,0,none⟩) 64 64,.bool true]/\W0.heap.size<=p/\W.heap[p]?=some (.cells (Bs b).toArray 262 (0,0))
def Rd (w:World) (d:Option Addr) (r:Int) (row:Int->Option (List Int)):Prop:=∀ W,Below w.heap.size w W->∀ i,i64 i ->
 Calls Tryz.prog 151 #[.pointer d,.int .i64 r,.int .i64 i] W fun e w'=>(∃ v,e=.returned v/\K6 row i W v w')/\Below W.heap.size W w'
theorem Rd.keep {w w':World} {d:Option Addr} {r:Int} {row:Int->Option (List Int)} (h:Rd w d r row) (hb:Below w.heap.size w w'):Rd w' d r row:=fun W hW i hi=>h W (aP hb hW) i hi
def iB (m:DM) (r i:Int):Option (List Int):=if ig m r i=true then (m.now.getD r.toNat [])[i.toNat]? else none
theorem DS.rd {w0 W:World} {P:Nat->Prop} {q:Nat} {m:DM} (h:DS w0 W P q m) (r:Int) (hr:i64 r):Rd W (some ⟨q,0,.none⟩) r (iB m r):=fun W' hb i hi =>
 ((h.below hb (fun k hk=>Or.inl hk)).read r i hr hi).mono fun e w' ⟨⟨v,he,ha⟩,hb'⟩=>⟨⟨v,he,by
   rcases ha with ⟨h1,h2⟩ | ⟨h1,p,b,h2,h3,h4,h5,h6⟩
   ·exact Or.inl ⟨by unfold iB;rw [h1];simp,h2⟩
   ·exact Or.inr ⟨p,b,by unfold iB;rw [if_pos h1];exact h2,h3,h4,h5,h6⟩⟩,hb'⟩
def Jw (d:Option Addr) (gb n g y z:Nat) (r fr:Int) (b:Bool) (i:Nat) (v:Value) (w:World):Prop :=
 match i with
 | 0=>v=.pointer (some ⟨gb,0,none⟩)
 | 1=>v=.pointer d
 | 2=>v=.pointer (some ⟨gb,1,none⟩)
 | 3=>v=.int .i64 r
 | 4=>v=.pointer (some ⟨gb,3,none⟩)
 | 5=>v=pi 0 0 n g fr
 | 6=>v=.int .i64 (z:Int)
 | 7=>v=.int .i64 (y:Int)
 | 11=>v=.bool b
 | 8=>∃ s,v=.tuple #[s,.bool b]
 | 9=>∃ s,v=.tuple #[s,.bool b]
 | _=>True
theorem Ba {W:World} {d:Option Addr} {r:Int} {row:Int->Option (List Int)} (h:Rd W d r row) (n g:Nat) (fr:Int) (hn:n<=200) (hg:g<=1000) :
 Calls Tryz.prog 94 #[jS d r n g fr] W fun e w'=>e=.returned (.bool (row ((1+g+n:Nat):Int)).isSome)/\Below W.heap.size W w':=by
 have HS:=He (fun W=>vt 0 0 n g fr Ha hg W);have wz:IntKind.i64.wrap (((2+g+n:Nat):Int)-1)=((1+g+n:Nat):Int):=by rw [IntWalk.i64_in _ Ha];omega
 have HY:Hid (i64 ((1+g+n:Nat):Int)):=by constructor <;> omega
 have H0:=He h;unfold jS;clear h;generalize 2+g+n=z at *;generalize 1+g+n=y at *;obtain ⟨b,hq⟩:∃ b,(row (y:Int)).isSome=b:=⟨_,rfl⟩
 rw [hq];have HQ:=He hq;clear hq;go_enter Tryz.func94,Tryz.ntmps94;go_upto_region 1 with fail
 have e0:=heap_alloc_new W (Obj.cells (bH d r n g fr) 115);have hb:Below W.heap.size W (W.alloc (Obj.cells (bH d r n g fr) 115)):=(Below.refl _ _).alloc (Nat.le_refl _) _;generalize hgb:W.heap.size=gb at *;generalize W.alloc (Obj.cells (bH d r n g fr) 115)=W1 at *;have HB:Hid (Below W.heap.size W W1):=by rw [hgb];exact hb
 have HR:Hid (∀ W',Below W1.heap.size W1 W'->∀ i,i64 i->_):=fun W' hW' i hi=>(H0.out.keep (by rw [hgb];exact hb)) W' hW' i hi;have HG:Hid (∀ W',Below W1.heap.size W1 W'->W'.heap[gb]?=some (.cells (bH d r n g fr) 115 (0,0))):=fun W' h=>kb h e0;clear e0 hb H0;refine aw (Jw d gb n g y z r fr b) (fun _ W=>Below W1.heap.size W1 W) (fun _ w w'=>Below w.heap.size w w') Hc Hc (fun i j v w w' _ _ h hs=>by unfold Jw at *;exact h) ((Below.refl _ _).drew) ?_;simp only [bW];refine ⟨?_,?_,?_,?_,?_,?_,?_,?_,?_,?_,?_,?_,?_,?_⟩
 ·refine aa.of rfl fun T W L hag hL hJ hLs hd=>?_;have e1:=Hf hag 1;exact Hh
 ·refine aa.of rfl fun T W L hag hL hJ hLs hd=>?_;have d6:T.getD 6 undef=_:=Hg hd 0 rfl;obtain ⟨z0,z1,z2,z3,z4,z5,z6,z7⟩:=bf (HG.out W hJ);exact Hh
 ·refine aa.of rfl fun T W L hag hL hJ hLs hd=>?_;have e1:=Hf hag 1;exact Hh
 ·refine aa.of rfl fun T W L hag hL hJ hLs hd=>?_;have d8:T.getD 8 undef=_:=Hg hd 2 rfl;obtain ⟨z0,z1,z2,z3,z4,z5,z6,z7⟩:=bf (HG.out W hJ);exact Hh
 ·refine aa.of rfl fun T W L hag hL hJ hLs hd=>?_;have e1:=Hf hag 1;exact Hh
 ·refine aa.of rfl fun T W L hag hL hJ hLs hd=>?_;have d10:T.getD 10 undef=_:=Hg hd 4 rfl;obtain ⟨z0,z1,z2,z3,z4,z5,z6,z7⟩:=bf (HG.out W hJ);exact Hh
 ·refine aa.of rfl fun T W L hag hL hJ hLs hd=>?_;have d11:T.getD 11 undef=_:=Hg hd 5 rfl;clear hag hd;go_simp;refine (HS.out W).mono ?_;rintro e w' ⟨rfl,hb⟩;exact ⟨_,rfl,rfl,aP hJ hb,hb⟩
 ·refine aa.of rfl fun T W L hag hL hJ hLs hd=>?_;have d12:T.getD 12 undef=_:=Hg hd 6 rfl;exact Hh
 ·refine aa.of rfl fun T W L hag hL hJ hLs hd=>?_;have d7:T.getD 7 undef=_:=Hg hd 1 rfl;have d9:T.getD 9 undef=_:=Hg hd 3 rfl;have d13:T.getD 13 undef=_:=Hg hd 7 rfl;clear hag hd;go_simp;refine (HR.out W hJ y HY.out).mono ?_;rintro e w' ⟨⟨v,rfl,ha⟩,hb⟩;refine ⟨_,rfl,?_,aP hJ hb,hb⟩;rcases ha with ⟨h1,rfl⟩ | ⟨g',b',h1,_,rfl,_⟩
  ·exact ⟨_,by rw [<- HQ.out,h1];rfl⟩
  ·exact ⟨_,by rw [<- HQ.out,h1];rfl⟩
 ·refine aa.of rfl fun T W L hag hL hJ hLs hd=>?_;have x14:=Hg hd 8 rfl;clear hag hd;obtain ⟨s,(hs:T.getD 14 undef=_)⟩:=x14;go_simp
  first | exact ⟨_,rfl,⟨_,rfl⟩⟩ | exact ⟨_,rfl,⟨_,rfl⟩,ag _⟩ | exact ⟨_,rfl,⟨_,rfl⟩,hJ,ag _⟩
 ·refine aa.of rfl fun T W L hag hL hJ hLs hd=>?_;have x5:=Hg hd 9 rfl;clear hag hd;obtain ⟨s,(hs:T.getD 5 undef=_)⟩:=x5;go_simp
  first | exact ⟨_,rfl,trivial⟩ | exact ⟨_,rfl,trivial,ag _⟩ | exact ⟨_,rfl,trivial,hJ,ag _⟩
 ·refine aa.of rfl fun T W L hag hL hJ hLs hd=>?_;have x5:=Hg hd 9 rfl;clear hag hd;obtain ⟨s,(hs:T.getD 5 undef=_)⟩:=x5;go_simp
  first | exact ⟨_,rfl,rfl⟩ | exact ⟨_,rfl,rfl,ag _⟩ | exact ⟨_,rfl,rfl,hJ,ag _⟩
 ·refine aa.of rfl fun T W L hag hL hJ hLs hd=>?_;have x15:=Hg hd 10 rfl;clear hag hd;go_simp
  first | exact ⟨_,rfl,trivial⟩ | exact ⟨_,rfl,trivial,ag _⟩ | exact ⟨_,rfl,trivial,hJ,ag _⟩
 ·refine bg.of rfl fun T W L hag hLs hL hJ hd=>?_;have d16:T.getD 16 undef=_:=hd 11 _ Hb rfl;obtain ⟨f,hf,hT⟩:=aH hag;have d6:T.getD 6 undef=_:=hd 0 _ Hb rfl;have h6:=(hf 6).trans d6;have d7:T.getD 7 undef=_:=hd 1 _ Hb rfl;have h7:=(hf 7).trans d7;have d8:T.getD 8 undef=_:=hd 2 _ Hb rfl;have h8:=(hf 8).trans d8;have d9:T.getD 9 undef=_:=hd 3 _ Hb rfl;have h9:=(hf 9).trans d9;have d10:T.getD 10 undef=_:=hd 4 _ Hb rfl;have h10:=(hf 10).trans d10;have d11:T.getD 11 undef=_:=hd 5 _ Hb rfl;have h11:=(hf 11).trans d11;have d12:T.getD 12 undef=_:=hd 6 _ Hb rfl;have h12:=(hf 12).trans d12;have d13:T.getD 13 undef=_:=hd 7 _ Hb rfl;have h13:=(hf 13).trans d13;have h16:=(hf 16).trans d16;have HJ:=He hJ;clear hag hd d6 d7 d8 d9 d10 d11 d12 d13 d16 hJ hf;rw [hT];clear hT;simp only [List.pop_toArray,List.dropLast_cons_cons,List.dropLast_singleton,List.filterMap_cons,List.filterMap_nil,List.foldl_cons,List.foldl_nil,List.setIfInBounds_toArray,List.set_cons_succ,List.set_cons_zero,h6,h7,h8,h9,h10,h11,h12,h13,h16];go_wp2;go_ret;exact ⟨rfl,aP HB.out HJ.out⟩
def jT (xs:List Int) (i:Nat):Bool:=decide (ff 0 xs)&&decide (dw 0 xs%2=i)
def epN (row:Int->Option (List Int)):Nat->Nat × Bool
 | 0=>(0,false)
 | k+1=>if jT ((row (k:Int)).getD []) k then (max (epN row k).1 (dw 0 ((row (k:Int)).getD [])),true) else epN row k
theorem C6 (lb:Int) (xs:List Int) (h:ax xs):dw lb xs<4294967296:=by
 unfold dw;split
 ·unfold zD;have h1:aB ((xs.drop 3).take 4)<256 ^ ((xs.drop 3).take 4).length:=iG _ _ rfl (fun x hx=>h x (List.mem_of_mem_drop (List.mem_of_mem_take hx)));have h2:256 ^ ((xs.drop 3).take 4).length<=256 ^ 4:=Nat.pow_le_pow_right Ha (List.length_take_le _ _);omega
 ·omega
theorem yb {W:World} {d:Option Addr} {r:Int} {row:Int->Option (List Int)} (h:Rd W d r row) (hrow:∀ i b,row i=some b->cG b) (n g:Nat) (fr:Int) :
 Calls Tryz.prog 98 #[jS d r n g fr] W fun e w'=>e=.returned (.tuple #[.int .u32 (epN row 2).1,.bool (epN row 2).2])/\Below W.heap.size W w':=by
 have H0:=He h;have HRW:=He hrow;unfold jS;clear h hrow;go_enter Tryz.func98,Tryz.ntmps98;go_upto_region 1 with fail
 have e0:=heap_alloc_new W (Obj.cells (bH d r n g fr) 115);have hb:Below W.heap.size W (W.alloc (Obj.cells (bH d r n g fr) 115)):=(Below.refl _ _).alloc (Nat.le_refl _) _;generalize hgb:W.heap.size=gb at *;generalize W.alloc (Obj.cells (bH d r n g fr) 115)=W1 at *;have HB:Hid (Below W.heap.size W W1):=by rw [hgb];exact hb
 have HG:Hid (∀ W',Below W1.heap.size W1 W'->W'.heap[gb]?=some (.cells (bH d r n g fr) 115 (0,0))):=fun W' h=>kb h e0;clear e0 hb;go_wp2
 go_loopw [4,5,12] (fun ep fd i wr=>∃ k:Nat,i=.int .u32 k/\k<=2/\ep=.int .u32 (epN row k).1/\fd=.bool (epN row k).2/\Hid ((epN row k).1<4294967296)/\Below W1.heap.size W1 wr) (fun _ _ i _=>2-(intOf i).toNat)
 case atStart=>exact ⟨0,rfl,Ha,rfl,rfl,(by show (0:Nat)<_;omega),Below.refl _ _⟩
 case round =>
  obtain ⟨k,rfl,hk,rfl,rfl,HEP,hbel⟩:=hrel;obtain ⟨w5,rfl⟩:∃ w5,w5=wr:=⟨wr,rfl⟩
  have HB5:=He (aP HB.out hbel);obtain ⟨z0,z1,z2,z3,z4,z5,z6,z7⟩:=bf (HG.out w5 hbel);have HG5:=He (HG.out w5 hbel);have HBE:=He hbel;have hap:=j5 (k:Int) Ha w5;by_cases hlt:k<2
  ·rw [show (k:Int)%2=k by omega] at hap;have HAP:=He hap;have hrd:=(H0.out.keep HB5.out) w5 (Below.refl _ _) k (by constructor <;> omega);have HRD:=He hrd;have hki:(k:Int)<2:=Ha;have wk:IntKind.u32.wrap ((k:Int)+1)=((k+1:Nat):Int):=by rw [IntWalk.u32_in _ Ha];omega
   clear hap hrd hbel;generalize hE:(epN row k).1=ep at *;generalize hF:(epN row k).2=fd at *;have HEF:=He (And.intro hE hF);clear hE hF;go_wp2_with fail
   refine HAP.out.mono ?_;rintro e w' ⟨rfl,rfl⟩;go_wp2_with fail
   refine HRD.out.mono ?_;rintro e w6 ⟨⟨v,rfl,ha⟩,hb6⟩;have key:∃ A xs n c b,v=.tuple #[.slice A (n:Nat) (c:Nat),.bool b]/\(row (k:Int)).getD []=xs/\xs.length=n/\n<=c/\c<=64/\ax xs/\dD w6 A xs:=by
    rcases ha with ⟨h1,rfl⟩ | ⟨p,b,h1,h2,rfl,_,h3⟩
    ·exact ⟨none,[],0,0,false,rfl,by rw [h1];rfl,rfl,Ha,Ha,(fun x hx=>by cases hx),(fun i x hx=>by cases hx)⟩
    ·exact ⟨_,b,64,64,true,rfl,by rw [h1];rfl,h2.1,Ha,Ha,h2.2,dS h3 Hb⟩
   obtain ⟨A,xs,n1,c1,b1,rfl,hxs,hn1,hc1,hc2,hB1,hy1⟩:=key;have hta:=A0 0 A xs n1 c1 w6 Ha hn1 hc1 Ha hB1 hy1;have HTA:=He hta;have HXS:=He hxs;have HE4:=He (C6 0 xs hB1);have HG6:=kb hb6 HG5.out;have HB6:=He (aP HBE.out hb6);have HG6':=He HG6;clear ha hxs hn1 hc1 hc2 hB1 hy1 hb6 hta z0 z1 z2 z3 z4 z5 z6 z7;obtain ⟨z0,z1,z2,z3,z4,z5,z6,z7⟩:=bf HG6;clear HG6;generalize ht:dw 0 xs=ta at *;have HT:=He ht;clear ht;go_wp2_with fail
   refine HTA.out.mono ?_;rintro e w7 ⟨rfl,hb7⟩;have HB7:=He (aP HB6.out hb7);clear hb7 z0 z1 z2 z3 z4 z5 z6 z7 HTA HAP HRD;by_cases htk:ff 0 xs
   ·rw [decide_eq_true htk];have hap:=j5 (ta:Int) Ha w7;have HAP:=He hap;clear hap;obtain ⟨t2,ht2⟩:∃ t2:Nat,(ta:Int)%2=t2/\Hid (t2=ta%2):=⟨ta%2,Ha,rfl⟩
    rw [ht2.1] at HAP;have HT2:=ht2.2;clear ht2;go_wp2_with fail
    refine HAP.out.mono ?_;rintro e w' ⟨rfl,rfl⟩;by_cases hpl:t2=k
    ·have hd:((t2:Int)==k)=true:=by simp;omega
     have HNX:Hid (epN row (k+1)=(max ep ta,true)):=by
      show (if jT ((row (k:Int)).getD []) k then (max (epN row k).1 (dw 0 ((row (k:Int)).getD [])),true) else epN row k)=_;rw [HXS.out,HT.out,HEF.out.1];unfold jT;rw [decide_eq_true htk,HT.out,<- HT2.out,decide_eq_true hpl];rfl
     have HMX:Hid (max ep ta<4294967296):=by have:=HE4.out;have:=HEP.out;unfold Hid;omega
     clear hpl htk;by_cases hmx:ep<ta
     ·have hd2:decide ((ep:Int)<ta)=true:=decide_eq_true Ha;go_wp2
      go_roundw
      case rel=>exact ⟨k+1,by go_num,Ha,by rw [HNX.out];rw [Nat.max_eq_right Ha],by rw [HNX.out],(by rw [HNX.out];exact HMX.out),HB7.out⟩
      case measure=>simp [intOf];omega
     ·have hd2:decide ((ep:Int)<ta)=false:=decide_eq_false Ha;go_wp2
      go_roundw
      case rel=>exact ⟨k+1,by go_num,Ha,by rw [HNX.out];rw [Nat.max_eq_left Ha],by rw [HNX.out],(by rw [HNX.out];exact HMX.out),HB7.out⟩
      case measure=>simp [intOf];omega
    ·have hd:((t2:Int)==k)=false:=by simp;omega
     have HNX:Hid (epN row (k+1)=epN row k):=by
      show (if jT ((row (k:Int)).getD []) k then (max (epN row k).1 (dw 0 ((row (k:Int)).getD [])),true) else epN row k)=_;rw [HXS.out];unfold jT;rw [decide_eq_true htk,HT.out,<- HT2.out,decide_eq_false hpl];rfl
     clear hpl htk;go_wp2
     go_roundw
     case rel=>exact ⟨k+1,by go_num,Ha,by rw [HNX.out,HEF.out.1],by rw [HNX.out,HEF.out.2],(by rw [HNX.out,HEF.out.1];exact HEP.out),HB7.out⟩
     case measure=>simp [intOf];omega
   ·rw [decide_eq_false htk];have HNX:Hid (epN row (k+1)=epN row k):=by
     show (if jT ((row (k:Int)).getD []) k then (max (epN row k).1 (dw 0 ((row (k:Int)).getD [])),true) else epN row k)=_;rw [HXS.out];unfold jT;rw [decide_eq_false htk];rfl
    clear htk;go_wp2
    go_roundw
    case rel=>exact ⟨k+1,by go_num,Ha,by rw [HNX.out,HEF.out.1],by rw [HNX.out,HEF.out.2],(by rw [HNX.out,HEF.out.1];exact HEP.out),HB7.out⟩
    case measure=>simp [intOf];omega
  ·obtain rfl:k=2:=Ha;go_wp2
   go_ret2
   exact ⟨rfl,HB5.out⟩
def Jx (d:Option Addr) (gb n g a y:Nat) (r fr:Int) (b:List Int) (i:Nat) (v:Value) (w:World):Prop :=
 match i with
 | 0=>v=.pointer (some ⟨gb,0,none⟩)
 | 1=>v=.pointer d
 | 2=>v=.pointer (some ⟨gb,1,none⟩)
 | 3=>v=.int .i64 r
 | 4=>v=.pointer (some ⟨gb,3,none⟩)
 | 5=>v=pi 0 0 n g fr
 | 6=>v=.int .i64 (a:Int)
 | 7=>v=.int .i64 (y:Int)
 | 11=>v=.bool true
 | 8=>∃ p,v=.tuple #[.slice (some ⟨p,0,none⟩) 64 64,.bool true]/\w.heap[p]?=some (.cells (Bs b).toArray 262 (0,0))
 | 9=>∃ p,v=.tuple #[.slice (some ⟨p,0,none⟩) 64 64,.bool true]/\w.heap[p]?=some (.cells (Bs b).toArray 262 (0,0))
 | 10=>∃ p,v=.slice (some ⟨p,0,none⟩) 64 64/\w.heap[p]?=some (.cells (Bs b).toArray 262 (0,0))
 | 12=>∃ p,v=.slice (some ⟨p,0,none⟩) 64 64/\w.heap[p]?=some (.cells (Bs b).toArray 262 (0,0))
 | _=>True
theorem Bb {W:World} {d:Option Addr} {r:Int} {row:Int->Option (List Int)} (h:Rd W d r row) (n g:Nat) (fr:Int) (hn:n<=200) (hg:g<=1000) (a:Nat) (ha:a<n) (b:List Int) (hrow:row ((2+g+a:Nat):Int)=some b) (hB:cG b) :
 Calls Tryz.prog 161 #[jS d r n g fr,.int .i64 a] W fun e w'=>e=.returned (.tuple #[.agg (oH 0 a b),.bool (decide (lQ 0 a b))])/\Below W.heap.size W w':=by
 have HS:=He (fun W=>vw 0 0 n g fr a Ha hg Ha W);rw [show cV (2+g) n a=((2+g+a:Nat):Int) by unfold cV;rw [if_pos Ha];omega] at HS;have HY:Hid (i64 ((2+g+a:Nat):Int)):=by constructor <;> omega
 have H0:=He h;have HQ:=He hrow;have HBB:=He hB;have hao:∃ k bs,oH 0 a b=ab k bs/\bs.length=56:=by
  unfold oH;split
  ·exact ⟨_,_,rfl,pQ hB.1⟩
  ·exact ⟨_,_,rfl,al⟩
 obtain ⟨k,bs,hk,h56⟩:=hao;have HK:=He hk;have H56:=He h56;rw [hk];unfold jS;clear h hrow hB hk h56;generalize 2+g+a=y at *;go_enter Tryz.func161,Tryz.ntmps161;go_upto_region 1 with (refine aq rfl rfl ?_)
 obtain ⟨e0,e1,hb⟩:=ya W (Obj.cells (bH d r n g fr) 115) (Obj.cells (ab 0 ay) 37);have hz:(W.alloc (Obj.cells (bH d r n g fr) 115)).heap.size=W.heap.size+1:=Hb;generalize hgb:W.heap.size=gb at *;generalize (W.alloc (Obj.cells (bH d r n g fr) 115)).alloc (Obj.cells (ab 0 ay) 37)=W1 at *;have HB:Hid (Below W.heap.size W W1):=by rw [hgb];exact hb
 have HGE:Hid (W.heap.size<=gb+1):=by rw [hgb];unfold Hid;omega
 have HR:Hid (∀ W',Below W1.heap.size W1 W'->∀ i,i64 i->_):=fun W' hW' i hi=>(H0.out.keep (by rw [hgb];exact hb)) W' hW' i hi;have HG:Hid (∀ W',Below W1.heap.size W1 W'->W'.heap[gb]?=some (.cells (bH d r n g fr) 115 (0,0))):=fun W' h=>kb h e0;have HE1:=He e1;clear e0 hb H0 e1;refine aw (Jx d gb n g a y r fr b) (fun _ W=>Below W1.heap.size W1 W) (fun _ w w'=>Below w.heap.size w w') Hc Hc (fun i j v w w' _ _ h hs=>by revert h;unfold Jx;split <;> intro h <;> first | exact h | (obtain ⟨p,h1,h2⟩:=h;exact ⟨p,h1,kb hs h2⟩) | trivial) ((Below.refl _ _).drew) ?_;simp only [bW];refine ⟨?_,?_,?_,?_,?_,?_,?_,?_,?_,?_,?_,?_,?_,?_⟩
 ·refine aa.of rfl fun T W L hag hL hJ hLs hd=>?_;have e2:=Hf hag 2;exact Hh
 ·refine aa.of rfl fun T W L hag hL hJ hLs hd=>?_;have d9:T.getD 9 undef=_:=Hg hd 0 rfl;obtain ⟨z0,z1,z2,z3,z4,z5,z6,z7⟩:=bf (HG.out W hJ);exact Hh
 ·refine aa.of rfl fun T W L hag hL hJ hLs hd=>?_;have e2:=Hf hag 2;exact Hh
 ·refine aa.of rfl fun T W L hag hL hJ hLs hd=>?_;have d11:T.getD 11 undef=_:=Hg hd 2 rfl;obtain ⟨z0,z1,z2,z3,z4,z5,z6,z7⟩:=bf (HG.out W hJ);exact Hh
 ·refine aa.of rfl fun T W L hag hL hJ hLs hd=>?_;have e2:=Hf hag 2;exact Hh
 ·refine aa.of rfl fun T W L hag hL hJ hLs hd=>?_;have d13:T.getD 13 undef=_:=Hg hd 4 rfl;obtain ⟨z0,z1,z2,z3,z4,z5,z6,z7⟩:=bf (HG.out W hJ);exact Hh
 ·refine aa.of rfl fun T W L hag hL hJ hLs hd=>?_;have e1:=Hf hag 1;exact Hh
 ·refine aa.of rfl fun T W L hag hL hJ hLs hd=>?_;have d14:T.getD 14 undef=_:=Hg hd 5 rfl;have d15:T.getD 15 undef=_:=Hg hd 6 rfl;clear hag hd;go_simp;refine (HS.out W).mono ?_;rintro e w' ⟨rfl,hb⟩;exact ⟨_,rfl,rfl,aP hJ hb,hb⟩
 ·refine aa.of rfl fun T W L hag hL hJ hLs hd=>?_;have d10:T.getD 10 undef=_:=Hg hd 1 rfl;have d12:T.getD 12 undef=_:=Hg hd 3 rfl;have d16:T.getD 16 undef=_:=Hg hd 7 rfl;clear hag hd;go_simp;refine (HR.out W hJ y HY.out).mono ?_;rintro e w' ⟨⟨v,rfl,ha⟩,hb⟩;refine ⟨_,rfl,?_,aP hJ hb,hb⟩;rcases ha with ⟨h1,_⟩ | ⟨p,b',h1,_,rfl,_,h3⟩
  ·rw [HQ.out] at h1;cases h1
  ·rw [HQ.out] at h1;injection h1 with h1;subst h1;exact ⟨_,rfl,h3⟩
 ·refine aa.of rfl fun T W L hag hL hJ hLs hd=>?_;have x17:=Hg hd 8 rfl;obtain ⟨p,(hs:T.getD 17 undef=_),hp⟩:=x17;clear hag hd;go_simp;exact ⟨_,rfl,⟨_,rfl,hp⟩,ag _⟩
 ·refine aa.of rfl fun T W L hag hL hJ hLs hd=>?_;have x8:=Hg hd 9 rfl;obtain ⟨p,(hs:T.getD 8 undef=_),hp⟩:=x8;clear hag hd;go_simp;exact ⟨_,rfl,⟨_,rfl,hp⟩,ag _⟩
 ·refine aa.of rfl fun T W L hag hL hJ hLs hd=>?_;have x8:=Hg hd 9 rfl;obtain ⟨p,(hs:T.getD 8 undef=_),hp⟩:=x8;exact Hh
 ·refine aa.of rfl fun T W L hag hL hJ hLs hd=>?_;have x18:=Hg hd 10 rfl;obtain ⟨p,(hs:T.getD 18 undef=_),hp⟩:=x18;clear hag hd;go_simp;exact ⟨_,rfl,⟨_,rfl,hp⟩,ag _⟩
 ·refine bg.of rfl fun T W L hag hLs hL hJ hd=>?_;have d19:T.getD 19 undef=_:=hd 11 _ Hb rfl;obtain ⟨f,hf,hT⟩:=aH hag;have d9:T.getD 9 undef=_:=hd 0 _ Hb rfl;have h9:=(hf 9).trans d9;have d10:T.getD 10 undef=_:=hd 1 _ Hb rfl;have h10:=(hf 10).trans d10;have d11:T.getD 11 undef=_:=hd 2 _ Hb rfl;have h11:=(hf 11).trans d11;have d12:T.getD 12 undef=_:=hd 3 _ Hb rfl;have h12:=(hf 12).trans d12;have d13:T.getD 13 undef=_:=hd 4 _ Hb rfl;have h13:=(hf 13).trans d13;have d14:T.getD 14 undef=_:=hd 5 _ Hb rfl;have h14:=(hf 14).trans d14;have d15:T.getD 15 undef=_:=hd 6 _ Hb rfl;have h15:=(hf 15).trans d15;have d16:T.getD 16 undef=_:=hd 7 _ Hb rfl;have h16:=(hf 16).trans d16;have h19:=(hf 19).trans d19;have HJ:=He hJ;have x6:=hd 12 _ Hb rfl;obtain ⟨p,(hp6:T.getD 6 undef=_),hp⟩:=x6;have h6:=(hf 6).trans hp6;have HP:=He hp;clear hp6 hp;clear hag hd d9 d10 d11 d12 d13 d14 d15 d16 d19 hJ hf;rw [hT];clear hT;simp only [List.pop_toArray,List.dropLast_cons_cons,List.dropLast_singleton,List.filterMap_cons,List.filterMap_nil,List.foldl_cons,List.foldl_nil,List.setIfInBounds_toArray,List.set_cons_succ,List.set_cons_zero,h9,h10,h11,h12,h13,h14,h15,h16,h19];simp only [h6];have hg5:=HG.out W HJ.out;have HE2:=He (kb HJ.out HE1.out);have HY1:=He (dS (bs:=b) HP.out Hb);have HB5:=He (aP HB.out HJ.out);obtain ⟨z0,z1,z2,z3,z4,z5,z6,z7⟩:=bf hg5;clear hg5 HG HP HJ HS HR HQ;have ho:=CR 0 a (some ⟨p,0,none⟩) b 64 W Ha (by constructor <;> omega) (by rw [HBB.out.1];omega) Ha HBB.out.2 HY1.out;rw [HK.out,HBB.out.1] at ho;have HO:=He ho;clear ho;go_wp2_with fail
  refine HO.out.mono ?_;rintro e W6 ⟨rfl,hb6⟩;have HE6:=He (kb hb6 HE2.out);have HB6:=He (aP HB5.out hb6);clear hb6 z0 z1 z2 z3 z4 z5 z6 z7;go_wp2_with (refine ap rfl (.tmp 4) (.tmp 25) rfl (gb+1) rfl k 0 bs ay rfl H56.out al HE6.out ?_)
  refine bodyPost_ret (aT rfl _ _ (gb+1) k bs rfl H56.out (am HE6.out)) rfl ?_;exact ⟨rfl,below_setRow HB6.out HGE.out _⟩
structure m6 (W:World) (base:Nat) (v:Value) (vs:List Value) (ls:List (List Int)):Prop where
 row:aG W (fun k=>base<=k) 22 1 v ls.length vs
 blk:∀ (i:Nat) (b:List Int),ls[i]?=some b->∃ p,vs[i]?=some (.slice (some ⟨p,0,none⟩) 64 64)/\W.heap[p]?=some (.cells (Bs b).toArray 262 (0,0))/\base<=p
theorem m6.below {W W':World} {base:Nat} {v:Value} {vs:List Value} {ls:List (List Int)} (h:m6 W base v vs ls) (hb:Below W.heap.size W W'):m6 W' base v vs ls :=
 ⟨h.row.below hb,fun i b hi=>let ⟨p,h1,h2,h3⟩:=h.blk i b hi;⟨p,h1,kb hb h2,h3⟩⟩
theorem t8:(22:TypeId)≠262:=Hd
theorem m6.push {W w3:World} {base:Nat} {v v':Value} {vs:List Value} {ls:List (List Int)} {b:List Int} {p:Nat} {o:Obj} (h:m6 W base v vs ls) (hbase:base<=W.heap.size) (hp:W.heap[p]?=some (.cells (Bs b).toArray 262 (0,0))) (hbp:base<=p)
 (h3:aG w3 (fun k=>(fun k=>base<=k) k\/(W.alloc o).heap.size<=k) 22 1 v' (ls.length+1) (vs++[.slice (some ⟨p,0,none⟩) 64 64])) (hg:(W.alloc o).grownBy w3 v.ownBlock):m6 w3 base v' (vs++[.slice (some ⟨p,0,none⟩) 64 64]) (ls++[b]):=by
 have kp:∀ {x:Nat} {c:List Int},W.heap[x]?=some (.cells (Bs c).toArray 262 (0,0))->w3.heap[x]?=some (.cells (Bs c).toArray 262 (0,0)):=fun {x c} hx=>by
  have hl:=ai hx;rw [hg.block x (by simp;omega) (fun e=>?_),Below.heap_alloc W _ x hl]
  ·exact hx
  ·rcases h.row.1.2 with ⟨h0,_⟩ | ⟨g,cap,cur,h0,_,q1,_⟩
   ·rw [h0] at e;cases e
   ·rw [h0] at e;simp [Value.ownBlock] at e;subst e;rw [q1] at hx;injection hx with hx;injection hx with _ hx
    exact absurd hx t8
 have hl:=h.row.len;refine ⟨?_,fun i c hi=>?_⟩
 ·rw [List.length_append];exact h3.owner fun x _ hx=>by
   rcases hx with hx | hx
   ·exact hx
   ·simp at hx;omega
 ·by_cases hlt:i<ls.length
  ·rw [List.getElem?_append_left hlt] at hi;obtain ⟨p',h1,h2,h4⟩:=h.blk i c hi;exact ⟨p',by rw [List.getElem?_append_left Ha];exact h1,kp h2,h4⟩
  ·rw [List.getElem?_append_right Ha] at hi;have h0:i-ls.length=0:=by
    rcases Nat.eq_zero_or_pos (i-ls.length) with h0 | h0
    ·exact h0
    ·rw [List.getElem?_eq_none (by simp;omega)] at hi;cases hi
   rw [h0] at hi;injection hi with hi;subst hi
   exact ⟨p,by rw [List.getElem?_append_right Ha,show i-vs.length=0 by omega];rfl,kp hp,hbp⟩
theorem m6.mono {W:World} {base b2:Nat} {v:Value} {vs:List Value} {ls:List (List Int)} (h:m6 W base v vs ls) (hb:b2<=base):m6 W b2 v vs ls:=⟨h.row.owner fun g _ hg=>Nat.le_trans hb hg,fun i b hi=>let ⟨p,h1,h2,h3⟩:=h.blk i b hi;⟨p,h1,h2,Nat.le_trans hb h3⟩⟩
def Jy (d:Option Addr) (gb n g k y bb:Nat) (r fr:Int) (b:List Int) (i:Nat) (v:Value) (w:World):Prop :=
 match i with
 | 0=>v=.pointer (some ⟨gb,0,none⟩)
 | 1=>v=.pointer d
 | 2=>v=.pointer (some ⟨gb,1,none⟩)
 | 3=>v=.int .i64 r
 | 4=>v=.pointer (some ⟨gb,3,none⟩)
 | 5=>v=pi 0 0 n g fr
 | 6=>v=.int .i64 (k:Int)
 | 7=>v=.int .i64 (y:Int)
 | 11=>v=.bool true
 | 8=>∃ p,v=.tuple #[.slice (some ⟨p,0,none⟩) 64 64,.bool true]/\w.heap[p]?=some (.cells (Bs b).toArray 262 (0,0))/\bb<=p
 | 9=>∃ p,v=.tuple #[.slice (some ⟨p,0,none⟩) 64 64,.bool true]/\w.heap[p]?=some (.cells (Bs b).toArray 262 (0,0))/\bb<=p
 | 10=>∃ p,v=.slice (some ⟨p,0,none⟩) 64 64/\w.heap[p]?=some (.cells (Bs b).toArray 262 (0,0))/\bb<=p
 | 12=>∃ p,v=.slice (some ⟨p,0,none⟩) 64 64/\w.heap[p]?=some (.cells (Bs b).toArray 262 (0,0))/\bb<=p
 | _=>True
theorem C7 {W:World} {d:Option Addr} {r:Int} {row:Int->Option (List Int)} (h:Rd W d r row) (n g:Nat) (fr:Int) (hg:g<=1000) (L:List (List Int)) (hL:L.length=g) (hrow:∀ i b,L[i]?=some b->row ((2+i:Nat):Int)=some b) :
 Calls Tryz.prog 159 #[jS d r n g fr] W fun e w'=>(∃ v vs,e=.returned v/\m6 w' W.heap.size v vs L)/\Below W.heap.size W w':=by
 have H0:=He h;have HRW:=He hrow;have HL:=He hL;unfold jS;clear h hrow hL;go_enter Tryz.func159,Tryz.ntmps159;go_upto_region 1 with fail
 have e0:=heap_alloc_new W (Obj.cells (bH d r n g fr) 115);have hb:Below W.heap.size W (W.alloc (Obj.cells (bH d r n g fr) 115)):=(Below.refl _ _).alloc (Nat.le_refl _) _;generalize hgb:W.heap.size=gb at *;generalize W.alloc (Obj.cells (bH d r n g fr) 115)=W1 at *;have HB:Hid (Below W.heap.size W W1):=by rw [hgb];exact hb
 have HG:Hid (∀ W',Below W1.heap.size W1 W'->W'.heap[gb]?=some (.cells (bH d r n g fr) 115 (0,0))):=fun W' h=>kb h e0;have hzg:=(bf e0).2.2.2.2.2.2.1;clear e0 hb;go_wp2;clear hzg
 go_loopw [3,10] (fun v i wr=>∃ (k:Nat) (vs:List Value),i=.int .i64 k/\k<=g/\Hid (m6 wr W1.heap.size v vs (L.take k))/\Below W1.heap.size W1 wr) (fun _ i _=>g-(intOf i).toNat)
 case atStart=>exact ⟨0,[],rfl,Ha,⟨aG.nil _ _ _ _,fun i b hi=>by simp at hi⟩,Below.refl _ _⟩
 case round =>
  obtain ⟨k,vs,rfl,hk,HLO,hbel⟩:=hrel;obtain ⟨w5,rfl⟩:∃ w5,w5=wr:=⟨wr,rfl⟩
  have HB5:=He (aP HB.out hbel);have HG5:=He (HG.out w5 hbel);have HBE:=He hbel;by_cases hlt:k<g
  ·obtain ⟨b,hb⟩:∃ b,L[k]?=some b:=⟨_,List.getElem?_eq_getElem (by rw [HL.out];exact hlt)⟩
   have hq:=HRW.out k b hb;have HLB:=He hb;have hlen:(L.take k).length=k:=by rw [List.length_take,HL.out];omega
   have hrw:=HLO.out.row;rw [hlen] at hrw;obtain ⟨A5,c5,hv5,_,_⟩:=hrw.val;rename_i v5;subst hv5;have HTX:=He hrw;obtain ⟨i0,hi0,hz0,hz1,hz2⟩:=info_parts AC;have HI:=He (And.intro hi0 (And.intro hz0 (And.intro hz1 hz2)));have HS:=He (fun W=>zu 0 0 n g fr k hg Ha W);rw [show cV 2 g k=((2+k:Nat):Int) by unfold cV;rw [if_pos Ha];omega] at HS;have HY:Hid (i64 ((2+k:Nat):Int)):=by constructor <;> omega
   have hki:(k:Int)<g:=Ha;have HR:Hid (∀ W',Below w5.heap.size w5 W'->∀ i,i64 i->_):=fun W' hW' i hi=>(H0.out.keep HB5.out) W' hW' i hi;have HG:Hid (∀ W',Below w5.heap.size w5 W'->W'.heap[gb]?=some (.cells (bH d r n g fr) 115 (0,0))):=fun W' h=>kb h HG5.out;have HQ:=He hq;have HTK:Hid (L.take (k+1)=L.take k++[b]):=au hb;have HLN:=He hlen;clear hlen hb hq hrw hbel hi0 hz0 hz1 hz2;generalize 2+k=y at *;go_upto_region 5 with fail
   refine aw (Jy d gb n g k y w5.heap.size r fr b) (fun _ W=>Below w5.heap.size w5 W) (fun _ w w'=>Below w.heap.size w w') Hc Hc (fun i j v w w' _ _ h hs=>by revert h;unfold Jy;split <;> intro h <;> first | exact h | (obtain ⟨p,h1,h2,h3⟩:=h;exact ⟨p,h1,kb hs h2,h3⟩) | trivial) ((Below.refl _ _).drew) ?_;simp only [bW];refine ⟨?_,?_,?_,?_,?_,?_,?_,?_,?_,?_,?_,?_,?_,?_⟩
   ·refine aa.of rfl fun T W L hag hL hJ hLs hd=>?_;have e1:=Hf hag 1;exact Hh
   ·refine aa.of rfl fun T W L hag hL hJ hLs hd=>?_;have d14:T.getD 14 undef=_:=Hg hd 0 rfl;obtain ⟨z0,z1,z2,z3,z4,z5,z6,z7⟩:=bf (HG.out W hJ);exact Hh
   ·refine aa.of rfl fun T W L hag hL hJ hLs hd=>?_;have e1:=Hf hag 1;exact Hh
   ·refine aa.of rfl fun T W L hag hL hJ hLs hd=>?_;have d16:T.getD 16 undef=_:=Hg hd 2 rfl;obtain ⟨z0,z1,z2,z3,z4,z5,z6,z7⟩:=bf (HG.out W hJ);exact Hh
   ·refine aa.of rfl fun T W L hag hL hJ hLs hd=>?_;have e1:=Hf hag 1;exact Hh
   ·refine aa.of rfl fun T W L hag hL hJ hLs hd=>?_;have d18:T.getD 18 undef=_:=Hg hd 4 rfl;obtain ⟨z0,z1,z2,z3,z4,z5,z6,z7⟩:=bf (HG.out W hJ);exact Hh
   ·refine aa.of rfl fun T W L hag hL hJ hLs hd=>?_;have e4:=Hf hag 4;exact Hh
   ·refine aa.of rfl fun T W L hag hL hJ hLs hd=>?_;have d19:T.getD 19 undef=_:=Hg hd 5 rfl;have d20:T.getD 20 undef=_:=Hg hd 6 rfl;clear hag hd;go_simp;refine (HS.out W).mono ?_;rintro e w' ⟨rfl,hb⟩;exact ⟨_,rfl,rfl,aP hJ hb,hb⟩
   ·refine aa.of rfl fun T W L hag hL hJ hLs hd=>?_;have d15:T.getD 15 undef=_:=Hg hd 1 rfl;have d17:T.getD 17 undef=_:=Hg hd 3 rfl;have d21:T.getD 21 undef=_:=Hg hd 7 rfl;clear hag hd;go_simp;refine (HR.out W hJ y HY.out).mono ?_;rintro e w' ⟨⟨v,rfl,ha⟩,hb⟩;refine ⟨_,rfl,?_,aP hJ hb,hb⟩;rcases ha with ⟨h1,_⟩ | ⟨p,b',h1,_,rfl,h2,h3⟩
    ·rw [HQ.out] at h1;cases h1
    ·rw [HQ.out] at h1;injection h1 with h1;subst h1;exact ⟨_,rfl,h3,Nat.le_trans hJ.size h2⟩
   ·refine aa.of rfl fun T W L hag hL hJ hLs hd=>?_;have x22:=Hg hd 8 rfl;obtain ⟨p,(hs:T.getD 22 undef=_),hp⟩:=x22;clear hag hd;go_simp;exact ⟨_,rfl,⟨_,rfl,hp⟩,ag _⟩
   ·refine aa.of rfl fun T W L hag hL hJ hLs hd=>?_;have x13:=Hg hd 9 rfl;obtain ⟨p,(hs:T.getD 13 undef=_),hp⟩:=x13;clear hag hd;go_simp;exact ⟨_,rfl,⟨_,rfl,hp⟩,ag _⟩
   ·refine aa.of rfl fun T W L hag hL hJ hLs hd=>?_;have x13:=Hg hd 9 rfl;obtain ⟨p,(hs:T.getD 13 undef=_),hp⟩:=x13;exact Hh
   ·refine aa.of rfl fun T W L hag hL hJ hLs hd=>?_;have x23:=Hg hd 10 rfl;obtain ⟨p,(hs:T.getD 23 undef=_),hp⟩:=x23;clear hag hd;go_simp;exact ⟨_,rfl,⟨_,rfl,hp⟩,ag _⟩
   ·refine bg.of rfl fun T W L hag hLs hL hJ hd=>?_;have d24:T.getD 24 undef=_:=hd 11 _ Hb rfl;obtain ⟨f,hf,hT⟩:=aH hag;have d14:T.getD 14 undef=_:=hd 0 _ Hb rfl;have h14:=(hf 14).trans d14;have d15:T.getD 15 undef=_:=hd 1 _ Hb rfl;have h15:=(hf 15).trans d15;have d16:T.getD 16 undef=_:=hd 2 _ Hb rfl;have h16:=(hf 16).trans d16;have d17:T.getD 17 undef=_:=hd 3 _ Hb rfl;have h17:=(hf 17).trans d17;have d18:T.getD 18 undef=_:=hd 4 _ Hb rfl;have h18:=(hf 18).trans d18;have d19:T.getD 19 undef=_:=hd 5 _ Hb rfl;have h19:=(hf 19).trans d19;have d20:T.getD 20 undef=_:=hd 6 _ Hb rfl;have h20:=(hf 20).trans d20;have d21:T.getD 21 undef=_:=hd 7 _ Hb rfl;have h21:=(hf 21).trans d21;have h24:=(hf 24).trans d24;have HJ:=He hJ;have x5:=hd 12 _ Hb rfl;obtain ⟨p,(hp6:T.getD 5 undef=_),hp⟩:=x5;have h5:=(hf 5).trans hp6;have HP:=He hp;clear hp6 hp;clear hag hd d14 d15 d16 d17 d18 d19 d20 d21 d24 hJ hf;rw [hT];clear hT;simp only [List.pop_toArray,List.dropLast_cons_cons,List.dropLast_singleton,List.filterMap_cons,List.filterMap_nil,List.foldl_cons,List.foldl_nil,List.setIfInBounds_toArray,List.set_cons_succ,List.set_cons_zero,h14,h15,h16,h17,h18,h19,h20,h21,h24];simp only [h5];have HB6:=He (aP HB5.out HJ.out);have HBE6:=He (aP HBE.out HJ.out);have HT6:=He (HTX.out.below HJ.out);have HLO6:=He (HLO.out.below HJ.out);have HSZ6:=He HBE6.out.size;clear HG5 HJ HS HR HQ HTX HG;go_wp2_with (at_builtin;refine pG rfl (.tmp 27) (.tmp 29) 186 rfl 22 i0 _ 1 24 Tryz.underlying186 HI.out.1 HI.out.2.1 HI.out.2.2.1 HI.out.2.2.2 rfl Hd (.slice A5 k c5) k vs rfl _ (HT6.out.below ((Below.refl _ _).alloc (Nat.le_refl _) _)) ⟨W.heap.size,0,none⟩ 1 1 [.slice (some ⟨p,0,none⟩) 64 64] rfl rfl (World.news_of_block (heap_alloc_new W _)) (fun u hu=>by rw [List.mem_singleton.1 hu];rfl) (by simp only [maxLen];omega) Ha ?_;intro v' w3 hrow3 hgr3 _;have HR3:=He hrow3;have HG3:=He hgr3;clear hrow3 hgr3)
    go_roundw
    case rel =>
     refine ⟨k+1,vs++[.slice (some ⟨p,0,none⟩) 64 64],by go_num,Ha,?_,?_⟩
     ·rw [HTK.out];exact m6.push (o:=.cells #[.slice (some ⟨p,0,none⟩) 64 64] 22) HLO6.out HSZ6.out HP.out.1 (Nat.le_trans HBE.out.size HP.out.2) (by rw [HLN.out];exact HR3.out) HG3.out
     ·exact (HBE6.out.alloc HSZ6.out _).grown HG3.out (by have:=HSZ6.out;simp;omega) (fun y hy=>HT6.out.2 y hy)
    case measure=>simp [intOf];omega
  ·obtain rfl:k=g:=Ha;have hki:¬ ((k:Int)<k):=Ha;have hs1:=HB.out.size;have hlo:=HLO.out;rw [List.take_of_length_le (by rw [HL.out];omega)] at hlo;have HF:=He (hlo.mono hs1);clear hbel hlo hs1;go_wp2;go_ret;rw [<- hgb];exact ⟨⟨_,rfl,_,HF.out⟩,HB5.out⟩
end Go.Proofs.YtegjelaejbacnaaGreat
