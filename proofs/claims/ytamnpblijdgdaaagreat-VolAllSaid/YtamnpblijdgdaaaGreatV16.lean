/- For VolAll: contracts and facts, part 16. -/
import Derived.Deep.DeepCutAuto
import Derived.StillTailTactics
import Derived.Test.YtamnpblijdgdaaaGreatV08
import Derived.Test.YtamnpblijdgdaaaGreatV12
import Derived.Test.YtamnpblijdgdaaaGreatV14
import Derived.Test.YtamnpblijdgdaaaGreatV15
namespace Go.Proofs.YtamnpblijdgdaaaGreat
open Go.ChangeShapes Go.WideShapes Go.ChangeAt Go.RowKit
set_option linter.unusedVariables false
set_option maxRecDepth 100000
def gndC (d:Option Addr) (r:Int) (n g:Nat) (f:Int):Array Value:=#[.pointer d,.int .i64 r,.int .u8 0,.int .i64 0,.int .i64 0,.int .i64 n,.int .i64 g,.int .i64 f]
theorem gndC_one (d:Option Addr) (r:Int) (n g:Nat) (f:Int):(gndC d r n g f).all (·.oneCell')=true:=by
 refine Array.all_eq_true_iff_forall_mem.2 fun v hv=>?_
 unfold gndC at hv
 simp only [List.mem_toArray,List.mem_cons,List.not_mem_nil,or_false] at hv
 rcases hv with rfl | rfl | rfl | rfl | rfl | rfl | rfl | rfl <;> rfl
theorem size82:(Tryz.prog.info? 87).map (·.size)=some 8:=by kernel_rfl
section
variable {ops:Array Oper} {rest:List Oper} {o:Oper} {a:Act} {w:World} {Q:Exit→Act→World→Prop}
theorem wpList_storeG (hgd:o.guard=none) (x y:Operand) (ho:o.op=.store 87 x y) (p:Nat) (hx:a.eval x=.pointer (some ⟨p,0,none⟩)) (cs:Array Value) (hs:cs.size=8) (h1:cs.all (·.oneCell')=true) (hy:a.eval y=.agg cs) (old:Array Value) (hso:old.size=8) (hg:w.heap[p]?=some (.cells old 87 (0,0)))
 (h:wpList Tryz.prog ops Q rest (a.put o.dst undef) (w.setRow p cs)):wpList Tryz.prog ops Q (o :: rest) a w :=
 wpList_store_row hgd 87 x y ho p _ hx hy _ _ hg (by rw [hs];exact size82) (by rw [hs,hso]) h1 h
theorem wpList_loadG (hgd:o.guard=none) (x:Operand) (ho:o.op=.load 87 x) (p:Nat) (hx:a.eval x=.pointer (some ⟨p,0,none⟩)) (cs:Array Value) (hs:cs.size=8) (hg:w.heap[p]?=some (.cells cs 87 (0,0)))
 (h:wpList Tryz.prog ops Q rest (a.put o.dst (.agg cs)) w):wpList Tryz.prog ops Q (o :: rest) a w :=
 wpList_load_row hgd 87 x ho p hx _ _ _ _ hg Tryz.underlying87 rfl (by rw [hs];exact size82) h
end
theorem results_gnd {fn:Func} {p u:Tmp} (h:fn.results=#[.cell p 87,.tmp u]) (tmps:Array Value) (w:World) (g:Nat) (cs:Array Value) (hp:tmps.getD p undef=.pointer (some ⟨g,0,none⟩)) (h8:cs.size=8) (hg:w.heap[g]?=some (.cells cs 87 (0,0))) :
 (results fn tmps).run Tryz.prog w=.ok (.tuple #[.agg cs,tmps.getD u undef]) w:=by
 rw [results_cell_tmp h,hp]
 simp only [asAddr,Sem.run_pure,Result.andThen_ok]
 rw [run_loadVar_row w g _ _ _ _ _ hg Tryz.underlying87 rfl (by rw [h8];exact size82)]
 rfl
def gndA (d:Option Addr) (r:Int) (n g:Nat) (f:Int):Value:=.agg (gndC d r n g f)
theorem groundOf_any (d:Option Addr) (r:Int) (n g:Nat) (f:Int) (hn:n≤200) (hg:g≤1000) (w:World) :
 Calls Tryz.prog 33 #[.pointer d,.int .i64 r,shQ 0 0 n g f] w fun e w'=>e=.returned (.tuple #[gndA d r n g f,.bool true])∧Below w.heap.size w w':=by
 have HP:=Lib.hid (fun W=>Put_yes 0 0 W (by omega) (by omega))
 have hd1:decide ((n:Int)<0)=false:=decide_eq_false (by omega)
 have hd2:decide (200<(n:Int))=false:=decide_eq_false (by omega)
 have hd3:decide ((g:Int)<0)=false:=decide_eq_false (by omega)
 unfold shQ gndA
 go_enter Tryz.func33,Tryz.ntmps33
 go_wp2_with fail
 have hb0:Below w.heap.size w ((w.alloc (Obj.cells #[.int .i64 0,.int .i64 0,.int .i64 n,.int .i64 g,.int .i64 f] 28)).alloc (Obj.cells #[.pointer none,.int .i64 0,.int .u8 0,.int .i64 0,.int .i64 0,.int .i64 0,.int .i64 0,.int .i64 0] 87)):=((Below.refl _ _).alloc (Nat.le_refl _) _).alloc (by simp) _
 have hs0:=heap_alloc_new w (Obj.cells #[.int .i64 0,.int .i64 0,.int .i64 n,.int .i64 g,.int .i64 f] 28)
 have hs1:=heap_alloc_new (w.alloc (Obj.cells #[.int .i64 0,.int .i64 0,.int .i64 n,.int .i64 g,.int .i64 f] 28)) (Obj.cells #[.pointer none,.int .i64 0,.int .u8 0,.int .i64 0,.int .i64 0,.int .i64 0,.int .i64 0,.int .i64 0] 87)
 have hs2:=(Below.heap_alloc (w.alloc (Obj.cells #[.int .i64 0,.int .i64 0,.int .i64 n,.int .i64 g,.int .i64 f] 28)) (Obj.cells #[.pointer none,.int .i64 0,.int .u8 0,.int .i64 0,.int .i64 0,.int .i64 0,.int .i64 0,.int .i64 0] 87) w.heap.size (by simp)).trans hs0
 have hz:(w.alloc (Obj.cells #[.int .i64 0,.int .i64 0,.int .i64 n,.int .i64 g,.int .i64 f] 28)).heap.size=w.heap.size+1:=by simp
 rw [hz] at hs1
 clear hs0 hz
 generalize (w.alloc (Obj.cells #[.int .i64 0,.int .i64 0,.int .i64 n,.int .i64 g,.int .i64 f] 28)).alloc (Obj.cells #[.pointer none,.int .i64 0,.int .u8 0,.int .i64 0,.int .i64 0,.int .i64 0,.int .i64 0,.int .i64 0] 87)=W0 at *
 refine (HP.out _).mono ?_
 rintro e w1 ⟨rfl,hb⟩
 have hs3:=kb hb hs1
 have hs4:=kb hb hs2
 have HB:=Lib.hid (keepB hb0 hb)
 have x0:=blk_cell hs4 0
 have x1:=blk_cell hs4 1
 have x2:=blk_cell hs4 2
 have x3:=blk_cell hs4 3
 have x4:=blk_cell hs4 4
 simp only [List.getElem?_toArray,List.getElem?_cons_zero,List.getElem?_cons_succ] at x0 x1 x2 x3 x4
 generalize hh0:w.heap.size=h0 at *
 have y0:w1.cell? ⟨h0+1,0,none⟩=some (.pointer none):=blk_cell hs3 0
 clear hs1 hs2 hs4 hb hb0
 go_wp2_with (refine wpList_storeG rfl (.tmp 6) (.tmp 38) rfl (h0+1) rfl (gndC d r n g f) rfl (gndC_one _ _ _ _ _) rfl _ rfl hs3 ?_)
 have hs5:=setRow_blk (D:=gndC d r n g f) hs3
 have HB2:=Lib.hid (below_setRow HB.out (show h0≤h0+1 by omega) (gndC d r n g f))
 refine bodyPost_ret (results_gnd rfl _ _ (h0+1) _ rfl rfl hs5) rfl ?_
 exact ⟨rfl,by rw [hh0];exact HB2.out⟩
theorem gbarrier_any {w0 W:World} {P:Nat→Prop} {q:Nat} {m:DM} (h:DS w0 W P q m) (r:Int) (hr:i64 r) (n g:Nat) (f:Int) (hmax:m.done.length<1000000) :
 Calls Tryz.prog 54 #[gndA (some ⟨q,0,none⟩) r n g f] W fun e w'=>e=.returned (.tuple #[])∧DS w0 w' P q (m.doBarrier r)∧Same P W w':=by
 have HD:=Lib.hid h
 have HM:=Lib.hid hmax
 clear h hmax
 unfold gndA gndC
 go_enter Tryz.func54,Tryz.ntmps54
 go_wp2_with fail
 have hb:∀ o,Below W.heap.size W (W.alloc o):=fun o=>(Below.refl _ _).alloc (Nat.le_refl _) _
 have hd:=fun o=>HD.out.below (hb o) (fun k hk=>Or.inl hk)
 refine ((hd _).barrier r hr HM.out).mono ?_
 rintro e w' ⟨rfl,hd',hs⟩
 have HS:=Lib.hid ((HD.out.same (hb _)).trans hs)
 have HD':=Lib.hid hd'
 clear hd hb hd' hs HD
 go_wp2
 go_end0
 exact ⟨rfl,HD'.out,HS.out⟩
theorem gwrite_any {w0 W:World} {P:Nat→Prop} {q:Nat} {m:DM} (h:DS w0 W P q m) (r:Int) (hr:i64 r) (n g:Nat) (f:Int) (i:Int) (hi:i64 i) (A:Option Addr) (bs:List Int) (c:Nat) (hB:BlkOk bs) (hy:Byt W A bs) (hmax:m.done.length≤1000000) :
 Calls Tryz.prog 76 #[gndA (some ⟨q,0,none⟩) r n g f,.int .i64 i,.slice A 64 c] W fun e w'=>e=.returned (.tuple #[])∧DS w0 w' P q (m.doWrite r i bs)∧Same P W w':=by
 have HD:=Lib.hid h
 have HM:=Lib.hid hmax
 have HY:=Lib.hid hy
 have HBB:=Lib.hid hB
 clear h hmax hy hB
 unfold gndA gndC
 go_enter Tryz.func76,Tryz.ntmps76
 go_wp2_with fail
 have hb:∀ o,Below W.heap.size W (W.alloc o):=fun o=>(Below.refl _ _).alloc (Nat.le_refl _) _
 have hd:=fun o=>HD.out.below (hb o) (fun k hk=>Or.inl hk)
 have hw:=fun o=>(hd o).write r i hr hi A bs c HBB.out.2 (HY.out.alloc o) (by rw [HBB.out.1];omega) HM.out
 rw [HBB.out.1] at hw
 refine (hw _).mono ?_
 rintro e w' ⟨rfl,hd',hs⟩
 have HS:=Lib.hid ((HD.out.same (hb _)).trans hs)
 have HD':=Lib.hid hd'
 clear hd hb hd' hs HD hw
 go_wp2
 go_end0
 exact ⟨rfl,HD'.out,HS.out⟩
def firstK (i:Nat):Int:=if i=0 then 7 else 0
def firstB (i:Nat):List Int:=if i=0 then zBs.set 3 1 else zBs
theorem firstB_len (i:Nat):(firstB i).length=56:=by unfold firstB;split <;> simp [zBs]
theorem firstB_ok (i:Nat):AllB (firstB i):=by
 have hz:AllB zBs:=fun x hx=>by unfold zBs at hx;rw [List.eq_of_mem_replicate hx];omega
 unfold firstB
 split
 ·intro x hx
  rcases List.mem_or_eq_of_mem_set hx with h | h
  ·exact hz x h
  ·omega
 ·exact hz
theorem alloc2 (w:World) (o1 o2:Obj):((w.alloc o1).alloc o2).heap[w.heap.size]?=some o1∧((w.alloc o1).alloc o2).heap[w.heap.size+1]?=some o2∧Below w.heap.size w ((w.alloc o1).alloc o2):=by
 have hs:(w.alloc o1).heap.size=w.heap.size+1:=by simp
 refine ⟨(Below.heap_alloc (w.alloc o1) o2 w.heap.size (by omega)).trans (heap_alloc_new w o1),?_,((Below.refl _ _).alloc (Nat.le_refl _) _).alloc (by omega) _⟩
 rw [← hs];exact heap_alloc_new (w.alloc o1) o2
theorem atFirst_any (i:Nat) (w:World):Calls Tryz.prog 36 #[.int .i64 i] w fun e w'=>e=.returned (.agg (blkA (firstK i) (firstB i)))∧Below w.heap.size w w':=by
 obtain ⟨e0,e1,hb⟩:=alloc2 w (Obj.cells (blkA 0 zBs) 71) (Obj.cells (blkA 0 zBs) 71)
 by_cases hi:i=0
 ·subst hi
  go_enter Tryz.func36,Tryz.ntmps36
  go_upto_region 3 with (refine wpList_allocB rfl rfl ?_)
  generalize hh:w.heap.size=h0 at *
  have hz:(w.alloc (Obj.cells (blkA 0 zBs) 71)).heap.size=h0+1:=by simp [hh]
  generalize (w.alloc (Obj.cells (blkA 0 zBs) 71)).alloc (Obj.cells (blkA 0 zBs) 71)=W at *
  have c0:W.cell? ⟨h0+1,0,none⟩=some (.int .i64 0):=(blk_cell e1 0).trans rfl
  have f0:W.frozen? ⟨h0+1,0,none⟩=false:=blk_free e1 0
  go_upto_region 4 with fail
  have e2:=heap_setCell_same' e1 (i:=0) (.int .i64 7)
  rw [blkA_set0] at e2
  have e3:(W.setCell ⟨h0+1,0,none⟩ (.int .i64 7)).heap[h0]?=_:=(Below.heap_setCell W ⟨h0+1,0,none⟩ _ h0 (by simp)).trans e0
  have HB:=Lib.hid (hb.setCell (p:=⟨h0+1,0,none⟩) (by simp) (.int .i64 7))
  clear c0 f0 e0 e1 hb
  generalize W.setCell ⟨h0+1,0,none⟩ (.int .i64 7)=W2 at *
  have c4:W2.cell? ⟨h0+1,4,none⟩=some (.int .u8 0):=(blk_cell e2 4).trans rfl
  have f4:W2.frozen? ⟨h0+1,4,none⟩=false:=blk_free e2 4
  go_upto_region 5 with fail
  have e4:=heap_setCell_same' e2 (i:=4) (.int .u8 1)
  rw [show (blkA 7 zBs).setIfInBounds 4 (.int .u8 1)=blkA 7 (zBs.set 3 1) from rfl] at e4
  have e5:=(Below.heap_setCell W2 ⟨h0+1,4,none⟩ (.int .u8 1) h0 (by simp)).trans e3
  have HB2:=Lib.hid (HB.out.setCell (p:=⟨h0+1,4,none⟩) (by simp) (.int .u8 1))
  clear c4 f4 e2 e3
  generalize W2.setCell ⟨h0+1,4,none⟩ (.int .u8 1)=W3 at *
  go_wp2_with (first | (refine wpList_loadB rfl (.tmp 3) rfl (h0+1) rfl 7 (zBs.set 3 1) (firstB_len 0) e4 ?_) | (refine wpList_storeB rfl (.tmp 2) (.tmp 9) rfl h0 rfl 7 0 (zBs.set 3 1) zBs rfl (firstB_len 0) zBs_len e5 ?_))
  have e6:=setRow_blk (D:=blkA 7 (zBs.set 3 1)) e5
  have HB3:=Lib.hid (below_setRow HB2.out (Nat.le_refl _) (blkA 7 (zBs.set 3 1)))
  refine bodyPost_ret (results_cell_row rfl _ _ h0 _ _ _ _ rfl e6 Tryz.underlying71 rfl (by rw [blkA_size (show (zBs.set 3 1).length=56 from rfl)];exact size24b)) rfl ?_
  exact ⟨rfl,by rw [hh];exact HB3.out⟩
 ·have hd:((i:Int)==0)=false:=by simp;omega
  have hk:firstK i=0:=by unfold firstK;rw [if_neg hi]
  have hq:firstB i=zBs:=by unfold firstB;rw [if_neg hi]
  rw [hk,hq]
  clear hk hq hi
  go_enter Tryz.func36,Tryz.ntmps36
  go_upto_region 2 with (refine wpList_allocB rfl rfl ?_)
  generalize hh:w.heap.size=h0 at *
  have hz:(w.alloc (Obj.cells (blkA 0 zBs) 71)).heap.size=h0+1:=by simp [hh]
  generalize (w.alloc (Obj.cells (blkA 0 zBs) 71)).alloc (Obj.cells (blkA 0 zBs) 71)=W at *
  go_wp2_with (first | (refine wpList_loadB rfl (.tmp 3) rfl (h0+1) rfl 0 zBs zBs_len e1 ?_) | (refine wpList_storeB rfl (.tmp 2) (.tmp 9) rfl h0 rfl 0 0 zBs zBs rfl zBs_len zBs_len e0 ?_))
  have e6:=setRow_blk (D:=blkA 0 zBs) e0
  have HB3:=Lib.hid (below_setRow hb (Nat.le_refl _) (blkA 0 zBs))
  refine bodyPost_ret (results_cell_row rfl _ _ h0 _ _ _ _ rfl e6 Tryz.underlying71 rfl (by rw [blkA_size zBs_len];exact size24b)) rfl ?_
  exact ⟨rfl,by rw [hh];exact HB3.out⟩
theorem gnd_cells {W:World} {p:Nat} {d:Option Addr} {r:Int} {n g:Nat} {f:Int} {t:TypeId} {fr:Nat × Nat} (h:W.heap[p]?=some (.cells (gndC d r n g f) t fr)) :
 W.cell? ⟨p,0,none⟩=some (.pointer d)∧W.cell? ⟨p,1,none⟩=some (.int .i64 r)∧W.cell? ⟨p,2,none⟩=some (.int .u8 0)∧W.cell? ⟨p,3,none⟩=some (.int .i64 0)∧W.cell? ⟨p,4,none⟩=some (.int .i64 0)∧W.cell? ⟨p,5,none⟩=some (.int .i64 n)∧W.cell? ⟨p,6,none⟩=some (.int .i64 g)∧W.cell? ⟨p,7,none⟩=some (.int .i64 f) :=
 ⟨(blk_cell h 0).trans rfl,(blk_cell h 1).trans rfl,(blk_cell h 2).trans rfl,(blk_cell h 3).trans rfl,(blk_cell h 4).trans rfl,(blk_cell h 5).trans rfl,(blk_cell h 6).trans rfl,(blk_cell h 7).trans rfl⟩
theorem brefl (W:World):Below W.heap.size W W:=Below.refl _ _
def VSE (q gb n g a:Nat) (r fr:Int) (A:Option Addr) (c:Nat) (i:Nat) (v:Value) (w:World):Prop :=
 match i with
 | 0=>v=.agg (gndC (some ⟨q,0,none⟩) r n g fr)
 | 1=>v=.pointer (some ⟨gb,3,none⟩)
 | 2=>v=shQ 0 0 n g fr
 | 3=>v=.int .i64 a
 | 4=>v=.int .i64 ((2+g+a:Nat):Int)
 | 5=>v=.slice A 64 c
 | _=>True
set_option maxHeartbeats 3200000 in
theorem gsettle_any {w0 W:World} {P:Nat→Prop} {q:Nat} {m:DM} (h:DS w0 W P q m) (r:Int) (hr:i64 r) (n g:Nat) (fr:Int) (hn:n≤200) (hg:g≤1000) (a:Nat) (ha:a<n) (k:Int) (bs:List Int) (hk:0≤k∧k≤7) (h56:bs.length=56) (hB:AllB bs) (hmax:m.done.length≤1000000) :
 Calls Tryz.prog 35 #[gndA (some ⟨q,0,none⟩) r n g fr,.int .i64 a,.agg (blkA k bs)] W fun e w'=>e=.returned (.tuple #[])∧DS w0 w' P q (m.doWrite r ((2+g+a:Nat):Int) (sealB 0 k a bs))∧Same P W w':=by
 have HD:=Lib.hid h
 have HM:=Lib.hid hmax
 have HSE:=Lib.hid (fun W=>seal_yes 0 k a (blkA k bs) bs W (by omega) hk (by omega) (blkA_list _ _) h56 hB)
 have HSL:=Lib.hid (sealB_length (l:=0) (k:=k) (t:=a) h56)
 have HSB:=Lib.hid (sealB_allB (l:=0) (t:=a) (by omega) hk hB)
 have HH:=Lib.hid (fun W=>Home_any 0 0 n g fr a (by omega) hg (by omega) W)
 rw [show blockV (2+g) n a=((2+g+a:Nat):Int) by unfold blockV;rw [if_pos (by omega)];omega] at HH
 have HNG:=Lib.hid (And.intro hn hg)
 have H56:=Lib.hid h56
 clear h hmax h56 hB hk
 unfold gndA
 generalize sealB 0 k a bs=sb at *
 go_enter Tryz.func35,Tryz.ntmps35
 go_upto_region 1 with fail
 obtain ⟨e0,e1,hb⟩:=alloc2 W (Obj.cells (gndC (some ⟨q,0,none⟩) r n g fr) 87) (Obj.cells (blkA k bs) 71)
 generalize hgb:W.heap.size=gb at *
 have hz:(W.alloc (Obj.cells (gndC (some ⟨q,0,none⟩) r n g fr) 87)).heap.size=gb+1:=by simp [hgb]
 generalize (W.alloc (Obj.cells (gndC (some ⟨q,0,none⟩) r n g fr) 87)).alloc (Obj.cells (blkA k bs) 71)=W1 at *
 have c2:=(gnd_cells e0).2.2.1
 have HB:Hid (Below W.heap.size W W1):=by rw [hgb];exact hb
 have HE0:=Lib.hid e0
 clear e0 hb
 go_wp2_with (refine wpList_loadB rfl (.tmp 5) rfl (gb+1) rfl k bs H56.out e1 ?_)
 refine (HSE.out _).mono ?_
 rintro e W2 ⟨v,rfl,own,hb2⟩
 obtain ⟨A,c,rfl,_,_,hby⟩:=byt_own own HSL.out
 rw [HSL.out]
 have HB2:=Lib.hid (keepB HB.out hb2)
 have HG:Hid (∀ W',Below W2.heap.size W2 W'→W'.heap[gb]?=some (.cells (gndC (some ⟨q,0,none⟩) r n g fr) 87 (0,0))):=fun W' h=>kb h (kb hb2 HE0.out)
 have HY:Hid (∀ W',Below W2.heap.size W2 W'→Byt W' A sb):=fun W' h=>hby.keep h
 clear own hby hb2 c2 e1 HE0 HB HSE
 go_upto_region 2 with fail
 refine wp_region_rgk (VSE q gb n g a r fr A c) (fun _ W=>Below W2.heap.size W2 W) (fun _ w w'=>Below w.heap.size w w') (by kernel_rfl) (by kernel_rfl) (fun i j v w w' _ _ h _=>by unfold VSE at *;exact h) ((Below.refl _ _).drew) ?_
 simp only [RAll]
 refine ⟨?_,?_,?_,?_,?_,?_,?_⟩
 ·refine RStepK.of rfl fun T W L hag hL hJ hLs hd=>?_
  have e3:T.getD 3 undef=_:=(agree_at hag 3 (by kernel_rfl)).trans rfl
  obtain ⟨z0,z1,z2,z3,z4,z5,z6,z7⟩:=gnd_cells (HG.out W hJ)
  clear hag hd
  go_simp
  first | exact ⟨_,rfl,rfl⟩ | exact ⟨_,rfl,rfl,brefl _⟩ | exact ⟨_,rfl,rfl,hJ,brefl _⟩
 ·refine RStepK.of rfl fun T W L hag hL hJ hLs hd=>?_
  have e3:T.getD 3 undef=_:=(agree_at hag 3 (by kernel_rfl)).trans rfl
  clear hag hd
  go_simp
  first | exact ⟨_,rfl,rfl⟩ | exact ⟨_,rfl,rfl,brefl _⟩ | exact ⟨_,rfl,rfl,hJ,brefl _⟩
 ·refine RStepK.of rfl fun T W L hag hL hJ hLs hd=>?_
  have d17:T.getD 17 undef=_:=hd ⟨1,.data⟩ (by simp) rfl _ rfl
  obtain ⟨z0,z1,z2,z3,z4,z5,z6,z7⟩:=gnd_cells (HG.out W hJ)
  clear hag hd
  go_simp
  first | exact ⟨_,rfl,rfl⟩ | exact ⟨_,rfl,rfl,brefl _⟩ | exact ⟨_,rfl,rfl,hJ,brefl _⟩
 ·refine RStepK.of rfl fun T W L hag hL hJ hLs hd=>?_
  have e1:T.getD 1 undef=_:=(agree_at hag 1 (by kernel_rfl)).trans rfl
  clear hag hd
  go_simp
  first | exact ⟨_,rfl,rfl⟩ | exact ⟨_,rfl,rfl,brefl _⟩ | exact ⟨_,rfl,rfl,hJ,brefl _⟩
 ·refine RStepK.of rfl fun T W L hag hL hJ hLs hd=>?_
  have d18:T.getD 18 undef=_:=hd ⟨2,.data⟩ (by simp) rfl _ rfl
  have d19:T.getD 19 undef=_:=hd ⟨3,.data⟩ (by simp) rfl _ rfl
  clear hag hd
  go_simp
  refine (HH.out W).mono ?_
  rintro e w' ⟨rfl,hb⟩
  exact ⟨_,rfl,rfl,keepB hJ hb,hb⟩
 ·refine RStepK.of rfl fun T W L hag hL hJ hLs hd=>?_
  have e6:T.getD 6 undef=_:=(agree_at hag 6 (by kernel_rfl)).trans rfl
  clear hag hd
  go_simp
  first | exact ⟨_,rfl,rfl⟩ | exact ⟨_,rfl,rfl,brefl _⟩ | exact ⟨_,rfl,rfl,hJ,brefl _⟩
 ·refine RLastK.of rfl fun T W L hag hLs hL hJ hd=>?_
  have d16:T.getD 16 undef=_:=hd 0 _ (by simp) rfl
  have d20:T.getD 20 undef=_:=hd 4 _ (by simp) rfl
  have d21:T.getD 21 undef=_:=hd 5 _ (by simp) rfl
  obtain ⟨f,hf,hT⟩:=agree_fn hag
  have h16:=(hf 16).trans d16
  have h20:=(hf 20).trans d20
  have h21:=(hf 21).trans d21
  have HJ:=Lib.hid hJ
  clear hag hd d16 d20 d21 hJ hf
  rw [hT]
  clear hT
  simp only [List.pop_toArray,List.dropLast_cons_cons,List.dropLast_singleton,List.filterMap_cons,List.filterMap_nil,List.foldl_cons,List.foldl_nil,List.setIfInBounds_toArray,List.set_cons_succ,List.set_cons_zero,h16,h20,h21]
  have hd:=HD.out.below (keepB HB2.out HJ.out) (fun k hk=>Or.inl hk)
  go_simp
  refine (gwrite_any hd r hr n g fr _ (by constructor <;> omega) A sb c ⟨HSL.out,HSB.out⟩ (HY.out W HJ.out) HM.out).mono ?_
  rintro e w' ⟨rfl,hd',hs⟩
  have HD':=Lib.hid hd'
  have HS:=Lib.hid ((HD.out.same (keepB HB2.out HJ.out)).trans hs)
  clear hd hd' hs
  go_wp2
  go_end0
  exact ⟨rfl,HD'.out,HS.out⟩
theorem DS.mono {w0 W:World} {P P':Nat→Prop} {q:Nat} {m:DM} (h:DS w0 W P q m) (hp:∀ k,P' k→P k):DS w0 W P' q m:=by
 obtain ⟨F,h1,h2,h3⟩:=h.dev
 exact ⟨⟨F,h1,h2,fun k hk=>h3 k (hp k hk)⟩,fun k hk=>h.low k (hp k hk),h.bel⟩
theorem Same.mono {P P':Nat→Prop} {w w':World} (h:Same P w w') (hp:∀ k,P' k→P k):Same P' w w':=⟨fun k hk=>h.blk k (hp k hk),h.size⟩
theorem Same.refl (P:Nat→Prop) (w:World):Same P w w:=⟨fun _ _=>rfl,Nat.le_refl _⟩
def DM.doBegin (m:DM) (r:Int) (e:Nat):DM:=((m.doBarrier r).doWrite r ((e%2:Nat):Int) (anchorB 0 e)).doBarrier r
def VNbe (q gb base n g e e2:Nat) (r fr:Int) (i:Nat) (v:Value) (w:World):Prop :=
 match i with
 | 0=>v=.agg (gndC (some ⟨q,0,none⟩) r n g fr)
 | 1 | 5=>v=.int .u32 e
 | 2=>v=.int .i64 (e2:Int)
 | 3=>v=.pointer (some ⟨gb,2,none⟩)
 | 4=>v=.int .u8 0
 | 6=>w.ownsRow base 5 1 v 64 (Bs (anchorB 0 e))
 | _=>True
set_option maxHeartbeats 3200000 in
theorem gbegin_any {w0 W:World} {P:Nat→Prop} {q:Nat} {m:DM} (h:DS w0 W P q m) (r:Int) (hr:i64 r) (n g:Nat) (fr:Int) (e:Nat) (he:e<4294967296) (hmax:m.done.length≤999990) :
 Calls Tryz.prog 37 #[gndA (some ⟨q,0,none⟩) r n g fr,.int .u32 e] W fun en w'=>en=.returned (.tuple #[])∧DS w0 w' P q (m.doBegin r e)∧Same P W w':=by
 have HD:=Lib.hid h
 have hm1:=done_doBarrier m r
 have hm2:=done_doWrite (m.doBarrier r) r ((e%2:Nat):Int) (anchorB 0 e)
 have HM:=Lib.hid (And.intro hmax (And.intro hm1 hm2))
 have HAN:=Lib.hid (fun W=>anchor_any 0 e W (by omega) he)
 have HAP:=Lib.hid (fun W=>aranchor_any (e:Int) (by omega) W)
 rw [show (e:Int)%2=((e%2:Nat):Int) by omega] at HAP
 have HE2:Hid (e%2<2):=Nat.mod_lt _ (by omega)
 clear h hmax hm1 hm2
 unfold gndA DM.doBegin
 generalize e%2=e2 at *
 go_enter Tryz.func37,Tryz.ntmps37
 go_upto_region 1 with fail
 have e0:=heap_alloc_new W (Obj.cells (gndC (some ⟨q,0,none⟩) r n g fr) 87)
 have hb:Below W.heap.size W (W.alloc (Obj.cells (gndC (some ⟨q,0,none⟩) r n g fr) 87)):=(Below.refl _ _).alloc (Nat.le_refl _) _
 have hz:(W.alloc (Obj.cells (gndC (some ⟨q,0,none⟩) r n g fr) 87)).heap.size=W.heap.size+1:=by simp
 generalize hgb:W.heap.size=gb at *
 generalize W.alloc (Obj.cells (gndC (some ⟨q,0,none⟩) r n g fr) 87)=W1 at *
 have hd1:DS w0 W1 (fun k=>P k∨k=gb) q m:=HD.out.below (by rw [hgb];exact hb) (fun k hk=>hk.elim Or.inl (fun h=>Or.inr (by omega)))
 have hs1:=HD.out.same (by rw [hgb];exact hb)
 have HD1:=Lib.hid hd1
 have HS1:=Lib.hid hs1
 clear hd1 hs1 hb hz
 go_wp2_with (refine wpList_loadG rfl (.tmp 2) rfl gb rfl (gndC (some ⟨q,0,none⟩) r n g fr) rfl e0 ?_)
 refine (gbarrier_any HD1.out r hr n g fr (by have:=HM.out.1;omega)).mono ?_
 rintro en W2 ⟨rfl,hd2,hs2⟩
 have e1:=(hs2.blk gb (Or.inr rfl)).trans e0
 have HD2:=Lib.hid hd2
 have HS2:=Lib.hid (HS1.out.trans (hs2.mono fun k hk=>Or.inl hk))
 have HG:Hid (∀ W',Below W2.heap.size W2 W'→W'.heap[gb]?=some (.cells (gndC (some ⟨q,0,none⟩) r n g fr) 87 (0,0))):=fun W' h=>kb h e1
 clear e0 hd2 hs2 e1 HS1 HD1
 go_upto_region 2 with fail
 refine wp_region_rgk (VNbe q gb W2.heap.size n g e e2 r fr) (fun _ W=>Below W2.heap.size W2 W) (fun _ w w'=>Below w.heap.size w w') (by kernel_rfl) (by kernel_rfl) (fun i j v w w' _ _ h hs=>by revert h;unfold VNbe;split <;> intro h <;> first | exact h | exact ownB h hs | trivial) ((Below.refl _ _).drew) ?_
 simp only [RAll]
 refine ⟨?_,?_,?_,?_,?_,?_,?_,?_⟩
 ·refine RStepK.of rfl fun T W L hag hL hJ hLs hd=>?_
  have e2:T.getD 2 undef=_:=(agree_at hag 2 (by kernel_rfl)).trans rfl
  obtain ⟨z0,z1,z2,z3,z4,z5,z6,z7⟩:=gnd_cells (HG.out W hJ)
  clear hag hd
  go_simp
  first | exact ⟨_,rfl,rfl⟩ | exact ⟨_,rfl,rfl,brefl _⟩ | exact ⟨_,rfl,rfl,hJ,brefl _⟩
 ·refine RStepK.of rfl fun T W L hag hL hJ hLs hd=>?_
  have e1:T.getD 1 undef=_:=(agree_at hag 1 (by kernel_rfl)).trans rfl
  clear hag hd
  go_simp
  first | exact ⟨_,rfl,rfl⟩ | exact ⟨_,rfl,rfl,brefl _⟩ | exact ⟨_,rfl,rfl,hJ,brefl _⟩
 ·refine RStepK.of rfl fun T W L hag hL hJ hLs hd=>?_
  have d7:T.getD 7 undef=_:=hd ⟨1,.data⟩ (by simp) rfl _ rfl
  clear hag hd
  go_simp
  refine (HAP.out W).mono ?_
  rintro e w' ⟨rfl,rfl⟩
  exact ⟨_,rfl,rfl,hJ,brefl _⟩
 ·refine RStepK.of rfl fun T W L hag hL hJ hLs hd=>?_
  have e2:T.getD 2 undef=_:=(agree_at hag 2 (by kernel_rfl)).trans rfl
  clear hag hd
  go_simp
  first | exact ⟨_,rfl,rfl⟩ | exact ⟨_,rfl,rfl,brefl _⟩ | exact ⟨_,rfl,rfl,hJ,brefl _⟩
 ·refine RStepK.of rfl fun T W L hag hL hJ hLs hd=>?_
  have d9:T.getD 9 undef=_:=hd ⟨3,.data⟩ (by simp) rfl _ rfl
  obtain ⟨z0,z1,z2,z3,z4,z5,z6,z7⟩:=gnd_cells (HG.out W hJ)
  clear hag hd
  go_simp
  first | exact ⟨_,rfl,rfl⟩ | exact ⟨_,rfl,rfl,brefl _⟩ | exact ⟨_,rfl,rfl,hJ,brefl _⟩
 ·refine RStepK.of rfl fun T W L hag hL hJ hLs hd=>?_
  have e1:T.getD 1 undef=_:=(agree_at hag 1 (by kernel_rfl)).trans rfl
  clear hag hd
  go_simp
  first | exact ⟨_,rfl,rfl⟩ | exact ⟨_,rfl,rfl,brefl _⟩ | exact ⟨_,rfl,rfl,hJ,brefl _⟩
 ·refine RStepK.of rfl fun T W L hag hL hJ hLs hd=>?_
  have d10:T.getD 10 undef=_:=hd ⟨4,.data⟩ (by simp) rfl _ rfl
  have d11:T.getD 11 undef=_:=hd ⟨5,.data⟩ (by simp) rfl _ rfl
  clear hag hd
  go_simp
  refine (HAN.out W).mono ?_
  rintro e w' ⟨v,rfl,own,hb⟩
  exact ⟨_,rfl,own.mono hJ.size,keepB hJ hb,hb⟩
 ·refine RLastK.of rfl fun T W L hag hLs hL hJ hd=>?_
  have d6:T.getD 6 undef=_:=hd 0 _ (by simp) rfl
  have d8:T.getD 8 undef=_:=hd 2 _ (by simp) rfl
  have x12:=hd 6 _ (by simp) rfl
  obtain ⟨f,hf,hT⟩:=agree_fn hag
  have h6:=(hf 6).trans d6
  have d7:T.getD 7 undef=_:=hd 1 _ (by simp) rfl
  have h7:=(hf 7).trans d7
  have h8:=(hf 8).trans d8
  have d9:T.getD 9 undef=_:=hd 3 _ (by simp) rfl
  have h9:=(hf 9).trans d9
  have d10:T.getD 10 undef=_:=hd 4 _ (by simp) rfl
  have h10:=(hf 10).trans d10
  have d11:T.getD 11 undef=_:=hd 5 _ (by simp) rfl
  have h11:=(hf 11).trans d11
  have HJ:=Lib.hid hJ
  have x12b:W.ownsRow W2.heap.size 5 1 (T.getD 12 undef) 64 (Bs (anchorB 0 e)):=x12
  obtain ⟨A,c,hv,_,_,hby⟩:=byt_own x12b (anchorB_length 0 e)
  rw [anchorB_length] at hv
  have h12:=(hf 12).trans hv
  have HBY:=Lib.hid hby
  clear x12 x12b hby hv
  clear hag hd d6 d7 d8 d9 d10 d11 hJ hf
  rw [hT]
  clear hT
  simp only [List.pop_toArray,List.dropLast_cons_cons,List.dropLast_singleton,List.filterMap_cons,List.filterMap_nil,List.foldl_cons,List.foldl_nil,List.setIfInBounds_toArray,List.set_cons_succ,List.set_cons_zero,h6,h7,h8,h9,h10,h11]
  simp only [h12]
  have hd:=HD2.out.below HJ.out (fun k hk=>Or.inl hk)
  go_simp
  refine (gwrite_any hd r hr n g fr e2 (by have:=HE2.out;constructor <;> omega) A (anchorB 0 e) c ⟨anchorB_length 0 e,anchorB_allB e (by omega)⟩ HBY.out (by have:=HM.out.1;have:=HM.out.2.1;omega)).mono ?_
  rintro en W3 ⟨rfl,hd3,hs3⟩
  have hgc:=HG.out W HJ.out
  have e1:=(hs3.blk gb (Or.inr rfl)).trans hgc
  have HD3:=Lib.hid hd3
  have HS3:=Lib.hid ((HS2.out.trans (HD2.out.same HJ.out |>.mono fun k hk=>Or.inl hk)).trans (hs3.mono fun k hk=>Or.inl hk))
  clear hd hd3 hs3 hgc HBY HJ h12
  go_wp2_with (refine wpList_loadG rfl (.tmp 2) rfl gb rfl (gndC (some ⟨q,0,none⟩) r n g fr) rfl e1 ?_)
  refine (gbarrier_any HD3.out r hr n g fr (by have:=HM.out.1;have:=HM.out.2.1;have:=HM.out.2.2;omega)).mono ?_
  rintro en W4 ⟨rfl,hd4,hs4⟩
  have HD4:=Lib.hid (hd4.mono fun k hk=>Or.inl hk)
  have HS4:=Lib.hid (HS3.out.trans (hs4.mono fun k hk=>Or.inl hk))
  clear hd4 hs4 e1 HD3 HS3
  go_wp2
  go_end0
  exact ⟨rfl,HD4.out,HS4.out⟩
end Go.Proofs.YtamnpblijdgdaaaGreat
