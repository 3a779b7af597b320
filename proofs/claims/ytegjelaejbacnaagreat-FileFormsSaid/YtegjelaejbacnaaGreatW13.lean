/- For FileForms: contracts and facts, part 13. -/
import Derived.Deep.DeepCutAuto
import Derived.StillTailTactics
import Derived.ArgAppend
import Derived.Lib.BufferWrite
import Derived.Test.YtegjelaejbacnaaGreatW01
import Derived.Test.YtegjelaejbacnaaGreatW02
import Derived.Test.YtegjelaejbacnaaGreatW03
set_option maxRecDepth 100000
set_option maxHeartbeats 25600000
set_option linter.unusedVariables false
open Go.ChangeShapes Go.WideShapes Go.ChangeAt Go.RowKit
namespace Go.Proofs.YtegjelaejbacnaaGreat
structure Nd where
 g:Int
 l:Int
 s:Int
 a:Int
 b:Int
 c:Int
 d:Int
 x:Int
 t:List Int
theorem Nd.ext_iff' (n m:Nd):n=m↔(n.g=m.g/\n.l=m.l/\n.s=m.s/\(n.a=m.a/\n.b=m.b/\n.c=m.c/\n.d=m.d)/\n.x=m.x/\n.t=m.t):=by
 cases n;cases m;simp only [Nd.mk.injEq];constructor <;> (intro h;simp only [h,and_self])
instance (n m:Nd):Decidable (n=m):=decidable_of_iff _ (Nd.ext_iff' n m).symm
def bD (n:Nd):Array Value:=#[.int .u32 n.g,.int .i64 n.l,.int .i64 n.s,.int .i64 n.a,.int .i64 n.b,.int .i64 n.c,.int .i64 n.d,.int .i64 n.x,.string (strOfNums n.t)]
structure mw (n:Nd):Prop where
 g:u32 n.g
 l:i64 n.l
 s:i64 n.s
 a:i64 n.a
 b:i64 n.b
 c:i64 n.c
 d:i64 n.d
 x:i64 n.x
 t:ax n.t
 tl:n.t.length<=9223372036854775807
def nd0:Nd:=⟨0,0,0,0,0,0,0,0,[]⟩
theorem Ii:mw nd0:=⟨⟨Hd,Hd⟩,⟨Hd,Hd⟩,⟨Hd,Hd⟩,⟨Hd,Hd⟩,⟨Hd,Hd⟩,⟨Hd,Hd⟩,⟨Hd,Hd⟩,⟨Hd,Hd⟩,(fun x hx=>by cases hx),Hd⟩
theorem zP (n:Nd):(bD n).all (·.oneCell')=true:=by unfold bD;simp [Value.oneCell']
theorem Gx:(Tryz.prog.info? 137).map (fun i=>(i.zero,i.size))=some (some (.agg (bD nd0)),9):=Hc
theorem sX:(Tryz.prog.info? 137).map (·.size)=some 9:=Hc
theorem Ij:Tryz.prog.built 137 []=some (bD nd0):=Hc
def aR (w:World) (p:Nat) (n:Nd):Prop:=w.heap[p]?=some (.cells (bD n) 137 (0,0))
theorem aR.below {w w':World} {p:Nat} {n:Nd} (h:aR w p n) (hb:Below w.heap.size w w'):aR w' p n:=kb hb h
theorem aR.new (w:World) (n:Nd):aR (w.alloc (Obj.cells (bD n) 137)) w.heap.size n:=heap_alloc_new _ _
theorem aR.alloc {w:World} {p:Nat} {n:Nd} (h:aR w p n) (o:Obj):aR (w.alloc o) p n:=kb (aK o) h
theorem aR.grown {w w':World} {p:Nat} {n:Nd} {r:Option Nat} (h:aR w p n) (hg:w.grownBy w' r) (hr:r≠some p):aR w' p n:=by
 unfold aR;rw [hg.block p (ai h) (fun e=>hr e.symm)];exact h
theorem aR.set {w:World} {p:Nat} {n:Nd} (h:aR w p n) (m:Nd):aR (w.setRow p (bD m)) p m:=am h
theorem aR.other {w:World} {p q:Nat} {n:Nd} (h:aR w p n) (C:Array Value) (hq:p≠q):aR (w.setRow q C) p n:=by
 unfold aR;rw [setRow_other w q p C hq];exact h
theorem aR.cell {w:World} {p:Nat} {n:Nd} (h:aR w p n) (i:Nat):w.cell? ⟨p,i,none⟩=(bD n)[i]?:=af h i
theorem aR.cells {w:World} {p:Nat} {n:Nd} (h:aR w p n):w.cell? ⟨p,0,none⟩=some (.int .u32 n.g)/\w.cell? ⟨p,1,none⟩=some (.int .i64 n.l)/\w.cell? ⟨p,2,none⟩=some (.int .i64 n.s)/\w.cell? ⟨p,7,none⟩=some (.int .i64 n.x)/\w.cell? ⟨p,8,none⟩=some (.string (strOfNums n.t)):=⟨h.cell 0,h.cell 1,h.cell 2,h.cell 7,h.cell 8⟩
section
variable {ops:Array Oper} {rest:List Oper} {o:Oper} {ac:Act} {w:World} {Q:Exit->Act->World->Prop}
theorem bA (hgd:o.guard=none) (ho:o.op=.alloc 137)
 (h:wpList Tryz.prog ops Q rest (ac.put o.dst (.pointer (some ⟨w.heap.size,0,none⟩))) (w.alloc (.cells (bD nd0) 137))):wpList Tryz.prog ops Q (o :: rest) ac w:=by
 obtain ⟨i0,hi,hz0,hz1⟩:∃ i,Tryz.prog.info? 137=some i/\i.zero=some (.agg (bD nd0))/\i.size=9:=by
  have h:=Gx;cases hq:Tryz.prog.info? 137 with
  | none=>rw [hq] at h;cases h
  | some i=>rw [hq] at h;simp only [Option.map_some,Option.some.injEq,Prod.mk.injEq] at h;exact ⟨i,rfl,h.1,h.2⟩
 exact wpList_plain hgd fun _ hK=>bV 137 ho i0 _ hi hz0 (hK _ _ h)
theorem cJ (hgd:o.guard=none) (ho:o.op=.build 137 #[])
 (h:wpList Tryz.prog ops Q rest (ac.put o.dst (.agg (bD nd0))) w):wpList Tryz.prog ops Q (o :: rest) ac w :=
 wpList_plain hgd fun _ hK=>by
  unfold Oper.wp execOp;have hb:=run_build (P:=Tryz.prog) w 137 #[] _ Ij;simp only [ho,List.map_toArray,List.map_nil,Sem.run_bind,hb,Result.andThen_ok];exact hK _ _ h
theorem aL (hgd:o.guard=none) (x y:Operand) (ho:o.op=.store 137 x y) (p:Nat) (hx:ac.eval x=.pointer (some ⟨p,0,none⟩)) (n m:Nd) (hy:ac.eval y=.agg (bD n)) (hg:aR w p m)
 (h:wpList Tryz.prog ops Q rest (ac.put o.dst undef) (w.setRow p (bD n))):wpList Tryz.prog ops Q (o :: rest) ac w :=
 wpList_store_row hgd 137 x y ho p _ hx hy _ _ hg sX rfl (zP _) h
theorem aU (hgd:o.guard=none) (x:Operand) (ho:o.op=.load 137 x) (p:Nat) (hx:ac.eval x=.pointer (some ⟨p,0,none⟩)) (n:Nd) (hg:aR w p n)
 (h:wpList Tryz.prog ops Q rest (ac.put o.dst (.agg (bD n))) w):wpList Tryz.prog ops Q (o :: rest) ac w :=
 wpList_load_row hgd 137 x ho p hx _ _ _ _ hg Tryz.underlying137 rfl sX h
theorem sY {K:Act->World->Prop} (x y:Operand) (ho:o.op=.store 137 x y) (p:Nat) (hx:ac.eval x=.pointer (some ⟨p,0,none⟩)) (n m:Nd) (hy:ac.eval y=.agg (bD n)) (hg:aR w p m)
 (h:K (ac.put o.dst undef) (w.setRow p (bD n))):o.wp Tryz.prog ac w K Q :=
 wp_store_row 137 x y ho p _ hx hy _ _ hg sX rfl (zP _) h
end
theorem yk {fn:Func} {p:Tmp} (h:fn.results=#[.cell p 137]) (tmps:Array Value) (w:World) (q:Nat) (n:Nd) (hp:tmps.getD p undef=.pointer (some ⟨q,0,none⟩)) (hg:aR w q n) :
 (results fn tmps).run Tryz.prog w=.ok (.agg (bD n)) w :=
 results_cell_row h tmps w q _ _ _ _ hp hg Tryz.underlying137 rfl sX
theorem dG {fn:Func} {p u:Tmp} (h:fn.results=#[.cell p 137,.tmp u]) (tmps:Array Value) (w:World) (q:Nat) (n:Nd) (hp:tmps.getD p undef=.pointer (some ⟨q,0,none⟩)) (hg:aR w q n) :
 (results fn tmps).run Tryz.prog w=.ok (.tuple #[.agg (bD n),tmps.getD u undef]) w:=by
 rw [results_cell_tmp h,hp];simp only [asAddr,Sem.run_pure,Result.andThen_ok];rw [run_loadVar_row w q _ _ _ _ _ hg Tryz.underlying137 rfl sX];rfl
theorem ug {fn:Func} {p:Tmp} (h:fn.results=#[.cell p 37]) (tmps:Array Value) (w:World) (g:Nat) (k:Int) (bs:List Int) (hp:tmps.getD p undef=.pointer (some ⟨g,0,none⟩)) (h56:bs.length=56) (hg:w.heap[g]?=some (.cells (ab k bs) 37 (0,0))) :
 (results fn tmps).run Tryz.prog w=.ok (.agg (ab k bs)) w :=
 results_cell_row h tmps w g _ _ _ _ hp hg Tryz.underlying37 rfl (by rw [aN h56];exact cO)
def Nd.ps (n:Nd):List Int:=[n.a,n.b,n.c,n.d,n.x]
def xB (n:Nd):Array Value:=#[.int .i64 n.a,.int .i64 n.b,.int .i64 n.c,.int .i64 n.d,.int .i64 n.x]
theorem Kz (a b c d x a' b' c' d' x':Int) (k:Nat) (w:World):(Op.equalIn (k+3) 256 (.agg #[.int .i64 a,.int .i64 b,.int .i64 c,.int .i64 d,.int .i64 x]) (.agg #[.int .i64 a',.int .i64 b',.int .i64 c',.int .i64 d',.int .i64 x'])).run Tryz.prog w=.ok (decide (a=a')&&(decide (b=b')&&(decide (c=c')&&(decide (d=d')&&decide (x=x'))))) w:=by
 have u3:=Tryz.underlying3;have a3:=Tryz.isAgg3;have z3:=Tryz.sizeOf3;obtain ⟨i,hi⟩:∃ i,Tryz.prog.info? 3=some i:=by
  cases hq:Tryz.prog.info? 3 with
  | none=>exact absurd hq (by have:(Tryz.prog.info? 3).isSome=true:=Hc
                              intro e;rw [e] at this;cases this)
  | some i=>exact ⟨i,rfl⟩
 rw [run_equalIn_array w (k+2) _ _ Tryz.underlying256 hi,EK,show List.range 5=[0,1,2,3,4] from rfl];clear hi;simp only [Op.eqItems];go_simp;by_cases h1:a=a' <;> by_cases h2:b=b' <;> by_cases h3:c=c' <;> by_cases h4:d=d' <;> by_cases h5:x=x' <;> simp [h1,h2,h3,h4,h5]
theorem Ik (k j:Int) (bs cs:List Int) (hb:bs.length=56) (hc:cs.length=56) (hB:ax bs) (hC:ax cs) (w:World):(binOp .neq 37 (.agg (ab k bs)) (.agg (ab j cs))).run Tryz.prog w=.ok (.bool (!(decide (k=j/\bs=cs)))) w:=by
 rw [o3,Jl k j bs cs hb hc hB hC w];rfl
theorem cy {ops:Array Oper} {rest:List Oper} {o:Oper} {a:Act} {w:World} {Q:Exit->Act->World->Prop} (hw:Region.wanted o (yielded ops a.tmps)=true) (x y:Operand) (t:TypeId) (ho:o.op=.binOp .neq 37 x y t) (k j:Int) (bs cs:List Int) (hx:a.eval x=.agg (ab k bs)) (hy:a.eval y=.agg (ab j cs)) (hb:bs.length=56) (hc:cs.length=56) (hB:ax bs) (hC:ax cs)
 (h:wpList Tryz.prog ops Q rest (a.put o.dst (.bool (!(decide (k=j/\bs=cs))))) w):wpList Tryz.prog ops Q (o :: rest) a w :=
 BigFrame.wpList_want hw fun _ hK=>by
  have hg:=run_eqGuard_agg (P:=Tryz.prog) w .neq 37 x y (ab k bs) (ab j cs) tT;have hr:=Ik k j bs cs hb hc hB hC w;unfold Oper.wp execOp;simp only [ho,hx,hy,Sem.run_bind,hg,hr,Result.andThen_ok];exact hK _ _ h
theorem Fo (n:Nd) (w:World):(binOp .eql 256 (.agg (xB n)) (.agg #[.int .i64 (-1),.int .i64 (-1),.int .i64 (-1),.int .i64 (-1),.int .i64 (-1)])).run Tryz.prog w=.ok (.bool (decide (n.ps=[-1,-1,-1,-1,-1]))) w:=by
 unfold xB;rw [run_eql_struct,show (10000:Nat)=9997+3 from rfl,Kz];simp only [Result.andThen_ok]
 congr 2
 rw [Bool.eq_iff_iff];unfold Nd.ps;simp
theorem Bn (x:Int) (w:World) (hx : -1<=x/\x<200):Calls Tryz.prog 180 #[.int .i64 x] w fun e w'=>e=.returned (.int .u32 (x+1))/\w=w':=by
 have h1:IntKind.i64.wrap (x - -1)=x+1:=IntWalk.i64_in _ Ha;have h2:IntKind.u32.wrap (x+1)=x+1:=IntWalk.u32_in _ Ha;go_enter Tryz.func180,Tryz.ntmps180;go_wp2;go_ret;exact ⟨rfl,rfl⟩
theorem ir (x:Int) (w:World) (hx:0<=x/\x<4294967296):Calls Tryz.prog 201 #[.int .u32 x] w fun e w'=>e=.returned (.int .i64 (x-1))/\w=w':=by
 have h1:IntKind.i64.wrap (x + -1)=x-1:=IntWalk.i64_in _ Ha;have h2:IntKind.i64.wrap x=x:=IntWalk.i64_in _ Ha;go_enter Tryz.func201,Tryz.ntmps201;go_wp2;go_ret;exact ⟨rfl,rfl⟩
theorem lx (x:Int) (w:World):Calls Tryz.prog 145 #[.int .i64 x] w fun e w'=>e=.returned (.bool (decide (1<=x/\x<200)))/\w=w':=by
 by_cases h1:1<=x
 ·have h3:decide (1<=x/\x<200)=decide (x<200):=by simp [h1]
  rw [h3];go_enter Tryz.func145,Tryz.ntmps145;go_wp2;go_ret;exact ⟨rfl,rfl⟩
 ·have h3:decide (1<=x/\x<200)=false:=by simp [h1]
  rw [h3];go_enter Tryz.func145,Tryz.ntmps145;go_wp2;go_ret;exact ⟨rfl,rfl⟩
theorem Gy:(Tryz.prog.info? 3).map (·.size)=some 1:=Hc
theorem qt:(Tryz.prog.info? 256).map (·.size)=some 5:=Hc
def z5:Array Value:=#[.int .i64 0,.int .i64 0,.int .i64 0,.int .i64 0,.int .i64 0]
theorem uh {ops:Array Oper} {rest:List Oper} {o:Oper} {a:Act} {w:World} {Q:Exit->Act->World->Prop} (hgd:o.guard=none) (s x:Operand) (ho:o.op=.call { callee:=.builtin .copy,args:=#[s,x],argTypes:=#[33,33] })
 (g p:Nat) (n:Nd) (hs:a.eval s=.slice (some ⟨g,0,none⟩) 5 5) (hg:w.heap[g]?=some (.cells z5 256 (0,0))) (hx:a.eval x=.slice (some ⟨p,3,none⟩) 4 4) (hp:aR w p n)
 (h:wpList Tryz.prog ops Q rest (a.put o.dst (goInt 4)) (w.setRow g #[.int .i64 n.a,.int .i64 n.b,.int .i64 n.c,.int .i64 n.d,.int .i64 0])):wpList Tryz.prog ops Q (o :: rest) a w :=
 wpList_plain hgd fun _ hK=>by
  have hr:=run_copy_row (P:=Tryz.prog) w 33 33 o.type 3 g 0 5 5 ⟨p,3,none⟩ 4 4 z5 256 [.int .i64 n.a,.int .i64 n.b,.int .i64 n.c,.int .i64 n.d] Tryz.underlying33 Gy hg rfl
   (fun j v hj=>by
     rw [dp,hp.cell];have hlt:=(List.getElem?_eq_some_iff.1 hj).1;simp only [List.length_cons,List.length_nil] at hlt
     match j,hlt,hj with
     | 0,_,hj=>exact hj
     | 1,_,hj=>exact hj
     | 2,_,hj=>exact hj
     | 3,_,hj=>exact hj) (show 0+4<=5 by omega) (fun v hv=>by
     simp only [List.mem_cons,List.not_mem_nil,or_false] at hv;rcases hv with rfl | rfl | rfl | rfl <;> rfl)
  unfold Oper.wp execOp;simp only [ho,resolve,invoke,builtin,Sem.run_bind,Sem.run_pure,Result.andThen_ok,List.map_toArray,List.map_cons,List.map_nil,hs,hx,hr];exact hK _ _ h
theorem zQ (n:Nd):(xB n).all (·.oneCell')=true:=by unfold xB;simp [Value.oneCell']
def I7 (n:Nd):Array Value:=#[.int .i64 n.a,.int .i64 n.b,.int .i64 n.c,.int .i64 n.d,.int .i64 0]
theorem nj (n:Nd) (w:World):Calls Tryz.prog 179 #[.agg (bD n)] w fun e w'=>e=.returned (.agg (xB n))/\Below w.heap.size w w':=by
 have HN0:=aR.new w n;have s1:(w.alloc (Obj.cells (bD n) 137)).heap.size=w.heap.size+1:=ak _ _;have B1:=aK (w:=w) (Obj.cells (bD n) 137);have HN1:=HN0.alloc (Obj.cells z5 256);have H1:=heap_alloc_new (w.alloc (Obj.cells (bD n) 137)) (Obj.cells z5 256);have B2:=B1.alloc B1.size (Obj.cells z5 256);have s2:((w.alloc (Obj.cells (bD n) 137)).alloc (Obj.cells z5 256)).heap.size=w.heap.size+1+1:=by rw [ak,s1]
 have HN2:=HN1.alloc (Obj.cells z5 256);have H2:=heap_alloc_new ((w.alloc (Obj.cells (bD n) 137)).alloc (Obj.cells z5 256)) (Obj.cells z5 256);have H1':=kb (aK (Obj.cells z5 256)) H1;have B3:=B2.alloc B2.size (Obj.cells z5 256);rw [s1] at H1';rw [s2] at H2;have HN:=He HN2;have HA:=He H1';have HC:=He H2;have HB:=He B3;clear HN0 HN1 HN2 H1 H1' H2 B1 B2 B3 s1 s2;go_enter Tryz.func179,Tryz.ntmps179;go_upto_region 2 with fail
 unfold z5 at HN HA HC HB;generalize ((w.alloc (Obj.cells (bD n) 137)).alloc _).alloc _=W at *
 go_still_tail 3,Hc
 change wpList _ _ _ _ _ W.drew;have HN':Hid (aR W.drew w.heap.size n):=HN;have HA':Hid (W.drew.heap[w.heap.size+1]?=some (.cells z5 256 (0,0))):=HA;have HC':Hid (W.drew.heap[w.heap.size+1+1]?=some (.cells z5 256 (0,0))):=HC;have HB':Hid (Below w.heap.size w W.drew):=HB.out.drew;clear HN HA HC HB;generalize W.drew=W1 at *;have HC2:=He (am (D:=I7 n) HC'.out);have HA2:Hid ((W1.setRow (w.heap.size+1+1) (I7 n)).heap[w.heap.size+1]?=some (.cells z5 256 (0,0))):=by
  unfold Hid;rw [setRow_other W1 _ _ _ Ha];exact HA'.out
 have HN2:=He (HN'.out.other (q:=w.heap.size+1+1) (I7 n) Ha);have HB2:=He (below_setRow HB'.out (show w.heap.size<=w.heap.size+1+1 by omega) (I7 n));refine uh rfl (.tmp 4) (.tmp 6) rfl (w.heap.size+1+1) w.heap.size n rfl HC'.out rfl HN'.out ?_;change wpList _ _ _ _ _ (W1.setRow (w.heap.size+1+1) (I7 n));clear HN' HA' HC' HB';generalize W1.setRow (w.heap.size+1+1) (I7 n)=W2 at *;have c4:W2.cell? ⟨w.heap.size,7,none⟩=some (.int .i64 n.x):=HN2.out.cell 7;have d4:W2.cell? ⟨w.heap.size+1+1,4,none⟩=some (.int .i64 0):=(af HC2.out 4).trans rfl;have f4:W2.frozen? ⟨w.heap.size+1+1,4,none⟩=false:=az HC2.out 4;have HC3:Hid ((W2.setCell ⟨w.heap.size+1+1,4,none⟩ (.int .i64 n.x)).heap[w.heap.size+1+1]?=some (.cells (xB n) 256 (0,0))):=ah HC2.out _;have HA3:Hid ((W2.setCell ⟨w.heap.size+1+1,4,none⟩ (.int .i64 n.x)).heap[w.heap.size+1]?=some (.cells z5 256 (0,0))):=by
  unfold Hid;rw [heap_setCell_other W2 _ _ _ (show w.heap.size+1≠w.heap.size+1+1 by omega)];exact HA2.out
 have HB3:Hid (Below w.heap.size w (W2.setCell ⟨w.heap.size+1+1,4,none⟩ (.int .i64 n.x))):=HB2.out.setCell (show w.heap.size<=w.heap.size+1+1 by omega) _;go_upto_region 4 with fail
 generalize W2.setCell ⟨w.heap.size+1+1,4,none⟩ (.int .i64 n.x)=W3 at *;go_wp2_with (first
  | (refine wpList_load_row rfl 256 (.tmp 3) rfl (w.heap.size+1+1) rfl _ _ _ _ HC3.out Tryz.underlying256 rfl qt ?_)
  | (refine wpList_store_row rfl 256 (.tmp 2) (.tmp 11) rfl (w.heap.size+1) (xB n) rfl rfl _ _ HA3.out qt rfl (zQ n) ?_))
 refine bodyPost_ret (results_cell_row rfl _ _ (w.heap.size+1) _ _ _ _ rfl (am (D:=xB n) HA3.out) Tryz.underlying256 rfl qt) rfl ?_;exact ⟨rfl,below_setRow HB3.out Ha _⟩
theorem ui (w:World):Calls Tryz.prog 206 #[] w fun e w'=>e=.returned (.agg #[.int .i64 (-1),.int .i64 (-1),.int .i64 (-1),.int .i64 (-1),.int .i64 (-1)])/\Below w.heap.size w w':=by
 have H1:=heap_alloc_new w (Obj.cells z5 256);have B1:=aK (w:=w) (Obj.cells z5 256);have H2:=heap_alloc_new (w.alloc (Obj.cells z5 256)) (Obj.cells z5 256);have H1':=kb (aK (Obj.cells z5 256)) H1;have B2:=B1.alloc B1.size (Obj.cells z5 256);rw [ak] at H2;have HA:=He H1';have hC:=H2;have hB:=B2;clear H1 B1 H2 H1' B2;go_enter Tryz.func206,Tryz.ntmps206;go_upto_region 2 with fail
 unfold z5 at HA hC hB;generalize (w.alloc _).alloc _=W at *;go_wp2_with fail
 go_loopw [2,3] (fun _ i wr=>∃ (k:Nat),i=.int .i64 k/\k<=5/\wr.heap[w.heap.size+1]?=some (.cells ((List.replicate k (Value.int .i64 (-1)))++(List.replicate (5-k) (Value.int .i64 0))).toArray 256 (0,0))/\wr.heap[w.heap.size]?=some (.cells z5 256 (0,0))/\Below w.heap.size w wr) (fun _ i _=>(5-intOf i).toNat)
 case atStart=>exact ⟨0,rfl,Ha,hC,HA.out,hB⟩
 case round =>
  obtain ⟨k,rfl,hk,hc,ha,hb⟩:=hrel;have HC:=He hc;have HA:=He ha;have HB:=He hb;clear hc ha hb;by_cases hlt:k<5
  ·have c0:wr.cell? ⟨w.heap.size+1,k,none⟩=some (.int .i64 0):=(af HC.out k).trans (by
    match k,hlt with
    | 0,_=>rfl
    | 1,_=>rfl
    | 2,_=>rfl
    | 3,_=>rfl
    | 4,_=>rfl)
   have f0:wr.frozen? ⟨w.heap.size+1,k,none⟩=false:=az HC.out k;go_wp2
   go_roundw
   case rel =>
    refine ⟨k+1,by go_num,Ha,?_,by rw [heap_setCell_other wr _ _ _ (show w.heap.size≠w.heap.size+1 by omega)];exact HA.out,HB.out.setCell (show w.heap.size<=w.heap.size+1 by omega) _⟩;rw [ah HC.out]
    congr 2
    match k,hlt with
    | 0,_=>rfl
    | 1,_=>rfl
    | 2,_=>rfl
    | 3,_=>rfl
    | 4,_=>rfl
   case measure=>simp [intOf];omega
  ·obtain rfl:k=5:=Ha;have HC2:Hid (wr.heap[w.heap.size+1]?=some (.cells #[.int .i64 (-1),.int .i64 (-1),.int .i64 (-1),.int .i64 (-1),.int .i64 (-1)] 256 (0,0))):=HC;clear HC;go_wp2_with (first
    | (refine wpList_load_row rfl 256 (.tmp 1) rfl (w.heap.size+1) rfl _ _ _ _ HC2.out Tryz.underlying256 rfl qt ?_)
    | (refine wpList_store_row rfl 256 (.tmp 0) (.tmp 9) rfl w.heap.size #[.int .i64 (-1),.int .i64 (-1),.int .i64 (-1),.int .i64 (-1),.int .i64 (-1)] rfl rfl _ _ HA.out qt rfl (zQ ⟨0,0,0,-1,-1,-1,-1,-1,[]⟩) ?_))
   refine bodyPost_ret (results_cell_row rfl _ _ w.heap.size _ _ _ _ rfl (am (D:=#[.int .i64 (-1),.int .i64 (-1),.int .i64 (-1),.int .i64 (-1),.int .i64 (-1)]) HA.out) Tryz.underlying256 rfl qt) rfl ?_;exact ⟨rfl,below_setRow HB.out (Nat.le_refl _) _⟩
theorem Bo (A:Option Addr) (xs:List Int) (n c:Nat) (v:Int) (w:World) (hn:xs.length=n) (hl:n<=100) (hy:jf w A xs) :
 Calls Tryz.prog 216 #[.slice A n c,.int .i64 v] w fun e w'=>∃ r:Int,e=.returned (.int .i64 r)/\(0<=r↔v∈xs)/\w=w':=by
 have HY:=He hy;have HN:=He hn;clear hn hy;go_enter Tryz.func216,Tryz.ntmps216;go_wp2
 go_loop [8] (fun i=>∃ k:Nat,k<=n/\i=.int .i64 k/\v ∉ xs.take k) (fun i=>n-(intOf i).toNat)
 case atStart=>exact ⟨0,Nat.zero_le _,rfl,Hb⟩
 case round =>
  obtain ⟨k,hk,rfl,hno⟩:=hrel;have HO:=He hno;clear hno;by_cases hlt:k<n
  ·obtain ⟨x,hx⟩:∃ x,xs[k]?=some x:=⟨_,List.getElem?_eq_getElem (by rw [HN.out];exact hlt)⟩
   obtain ⟨ad,rfl,hc0⟩:=HY.out k x hx;have HX:=He hx;clear hx;by_cases hv:v=x
   ·go_wp2;go_ret;refine ⟨k,rfl,?_,rfl⟩;have:=List.mem_of_getElem? HX.out;exact ⟨fun _=>by simpa [hv] using this,fun _=>Ha⟩
   ·go_wp2
    go_round
    case rel =>
     refine ⟨k+1,Ha,by go_num,?_⟩;rw [au HX.out];simp only [List.mem_append,List.mem_singleton];rintro (h | h)
     ·exact HO.out h
     ·exact hv h
    case measure=>simp [intOf];omega
  ·go_wp2;go_ret;refine ⟨-1,rfl,?_,rfl⟩;have h:=HO.out;rw [List.take_of_length_le (by rw [HN.out];omega)] at h;exact ⟨fun h1=>absurd h1 Ha,fun h1=>absurd h1 h⟩
theorem uj (A:Option Addr) (xs:List Int) (n c:Nat) (v:Int) (w:World) (hn:xs.length=n) (hl:n<=100) (hy:jf w A xs) :
 Calls Tryz.prog 213 #[.slice A n c,.int .i64 v] w fun e w'=>e=.returned (.bool (decide (v∈xs)))/\w=w':=by
 have HI:=He (Bo A xs n c v w hn hl hy);clear hn hy;go_enter Tryz.func213,Tryz.ntmps213;go_wp2_with fail
 refine HI.out.mono ?_;rintro e w1 ⟨r,rfl,hr,rfl⟩;go_wp2_with fail
 go_ret;exact ⟨aj Hb,rfl⟩
def nk (ps:List Int) (i:Nat):Prop:=ps.getD i 0 = -1\/((1<=ps.getD i 0/\ps.getD i 0<200)/\ps.getD i 0 ∉ ps.take i)
instance (ps:List Int) (i:Nat):Decidable (nk ps i):=by unfold nk;infer_instance
def Bp (ps:List Int):Prop:=∀ i,i<5->nk ps i
instance (ps:List Int):Decidable (Bp ps):=by unfold Bp;infer_instance
theorem Dn (n:Nd) {k:Nat} (h:k<5):(xB n)[k]?=some (.int .i64 (n.ps.getD k 0)):=by
 match k,h with
 | 0,_=>rfl
 | 1,_=>rfl
 | 2,_=>rfl
 | 3,_=>rfl
 | 4,_=>rfl
theorem qu (n:Nd) {k:Nat} (h:k<5) (w:World):(Instr.index 256 (.agg (xB n)) (.int .i64 k)).run Tryz.prog w=.ok (.int .i64 (n.ps.getD k 0)) w:=by
 have u3:=Tryz.underlying3;have a3:=Tryz.isAgg3;have z3:=Tryz.sizeOf3;have u5:=Tryz.underlying256;have hx:=Dn n h;have hk:(0:Int)<=k/\(k:Int)<5:=Ha;simp [Instr.index,run_underlying u5,asIntOf,part,a3,z3,h,hx]
theorem mx (t:List Int) (ht:ax t) {k:Nat} {y:Int} (h:t[k]?=some y) (w:World):(Instr.index 9 (.string (strOfNums t)) (.int .i64 k)).run Tryz.prog w=.ok (.int .u8 y) w:=by
 have hk:=(List.getElem?_eq_some_iff.1 h).1;have hy:=ht y (List.mem_of_getElem? h);rw [run_index_string w _ _ _ _ Tryz.underlying9,dif_pos ⟨Ha,by rw [strOfNums_size];omega⟩]
 congr 2
 have e1:(strOfNums t).data.toList[k]?=some (UInt8.ofNat y.toNat):=by rw [strOfNums_data,List.getElem?_map,h];rfl
 have hs:k<(strOfNums t).data.size:=by
  have:=strOfNums_size t;show k<(strOfNums t).size;omega
 have e2:(strOfNums t).data[k]'hs=UInt8.ofNat y.toNat:=by
  rw [Array.getElem?_toList,Array.getElem?_eq_getElem hs] at e1;injection e1
 show (((strOfNums t).data[(k:Int).toNat]'_).toNat:Int)=y;simp only [Int.toNat_natCast];rw [e2,UInt8.toNat_ofNat'];omega
theorem uk (p:Nat) {k:Nat} (h:k<=5) (w:World):(Instr.sliceAt 256 (.pointer (some ⟨p,0,none⟩)) none (some (.int .i64 k)) none).run Tryz.prog w=.ok (.slice (some ⟨p,0,none⟩) k 5) w:=by
 have z3:=Tryz.sizeOf3;have e1:Tryz.prog.arrayLen 256=5:=Hc;have e2:Tryz.prog.elem 256=3:=Hc;have e3:Tryz.prog.underlying 256=some (.array (Tryz.prog.arrayLen 256) (Tryz.prog.elem 256)):=Hc;rw [run_sliceAt_array_h w 256 _ e3 .i64 (k:Int) Ha (by rw [e1];omega),e1,e2];simp [z3,slicedAt,fP]
theorem rW (n:Nd) (w:World):Calls Tryz.prog 204 #[.agg (xB n)] w fun e w'=>e=.returned (.bool (decide (Bp n.ps)))/\Below w.heap.size w w':=by
 have HP:=He (heap_alloc_new w (Obj.cells (xB n) 256));have HB:=He (aK (w:=w) (Obj.cells (xB n) 256));go_enter Tryz.func204,Tryz.ntmps204;go_upto_region 1 with fail
 generalize w.alloc (Obj.cells (xB n) 256)=W at *;go_wp2_with (refine wpList_load_row rfl 256 (.tmp 1) rfl w.heap.size rfl _ _ _ _ HP.out Tryz.underlying256 rfl qt ?_)
 go_loop [6] (fun i=>∃ k:Nat,k<=5/\i=.int .i64 k/\∀ j,j<k->nk n.ps j) (fun i=>5-(intOf i).toNat)
 case atStart=>exact ⟨0,Nat.zero_le _,rfl,fun j hj=>absurd hj Ha⟩
 case round =>
  obtain ⟨k,hk,rfl,hno⟩:=hrel;have HO:=He hno;clear hno;by_cases hlt:k<5
  ·have hx:=qu n hlt W;have hsl:=uk w.heap.size hk W;have HE:Hid (nk n.ps k↔(n.ps.getD k 0 = -1\/((1<=n.ps.getD k 0/\n.ps.getD k 0<200)/\n.ps.getD k 0 ∉ n.ps.take k))):=Iff.rfl;have HY:Hid (jf W (some ⟨w.heap.size,0,none⟩) (n.ps.take k)):=fun i x hi=>by
    rw [List.getElem?_take] at hi;split at hi
    ·refine ⟨_,rfl,?_⟩;rw [fP,af HP.out,Dn n Ha];rw [List.getD,hi];rfl
    ·cases hi
   have HL:Hid ((n.ps.take k).length=k):=by unfold Hid;rw [List.length_take];exact Nat.min_eq_left (show k<=5 by omega)
   have HC:=He (fun (v:Int) c=>uj (some ⟨w.heap.size,0,none⟩) (n.ps.take k) k c v W HL.out Ha HY.out);have HNM:Hid (nk n.ps k->∀ j,j<k+1->nk n.ps j):=fun h j hj=>by
    rcases Nat.lt_or_ge j k with h1 | h1
    ·exact HO.out j h1
    ·obtain rfl:j=k:=Ha;exact h
   have HNO:Hid (¬ nk n.ps k->decide (Bp n.ps)=false):=fun h=>decide_eq_false fun hp=>h (hp k hlt);generalize n.ps.getD k 0=x at *;generalize n.ps.take k=xs at *;generalize nk n.ps k=PK at *;by_cases h1:x = -1
   ·go_wp2
    go_round
    case rel=>exact ⟨k+1,Ha,by go_num,HNM.out (HE.out.2 (Or.inl h1))⟩
    case measure=>simp [intOf];omega
   ·by_cases h2:x<1
    ·have HF:=He (HNO.out fun h=>by have:=HE.out.1 h;omega);go_wp2;go_ret;exact ⟨aj HF.out.symm,HB.out⟩
    ·by_cases h3:200<=x
     ·have HF:=He (HNO.out fun h=>by have:=HE.out.1 h;omega);go_wp2;go_ret;exact ⟨aj HF.out.symm,HB.out⟩
     ·by_cases h4:x∈xs
      ·have HF:=He (HNO.out fun h=>by
        rcases HE.out.1 h with h5 | h5
        ·exact h1 h5
        ·exact h5.2 h4)
       have HT:=He (decide_eq_true h4);clear h4;go_wp2_with fail
       refine (HC.out _ _).mono ?_;rintro e w1 ⟨rfl,rfl⟩;rw [HT.out];go_wp2;go_ret;exact ⟨aj HF.out.symm,HB.out⟩
      ·have HF:=He (HNM.out (HE.out.2 (Or.inr ⟨Ha,h4⟩)));have HT:=He (decide_eq_false h4);clear h4;go_wp2_with fail
       refine (HC.out _ _).mono ?_;rintro e w1 ⟨rfl,rfl⟩;rw [HT.out];go_wp2
       go_round
       case rel=>exact ⟨k+1,Ha,by go_num,HF.out⟩
       case measure=>simp [intOf];omega
  ·have HD:Hid (decide (Bp n.ps)=true):=decide_eq_true fun i hi=>HO.out i Ha;go_wp2;go_ret;exact ⟨aj HD.out.symm,HB.out⟩
def my (t:List Int) (i:Nat):Prop:=33<=t.getD i 0/\t.getD i 0<=126
instance (t:List Int) (i:Nat):Decidable (my t i):=by unfold my;infer_instance
def sZ (t:List Int):Prop:=(1<=t.length/\t.length<=32)/\∀ i,i<t.length->my t i
instance (t:List Int):Decidable (sZ t):=by unfold sZ;infer_instance
theorem rX (t:List Int) (w:World) (ht:ax t):Calls Tryz.prog 205 #[.string (strOfNums t)] w fun e w'=>e=.returned (.bool (decide (sZ t)))/\w=w':=by
 have hS:=strOfNums_size t;have HI:=He (fun k y h w=>mx t ht (k:=k) (y:=y) h w);have HN1:Hid (¬ (1<=t.length/\t.length<=32)->decide (sZ t)=false):=fun h=>decide_eq_false fun hp=>h hp.1;have HN2:Hid (∀ i,i<t.length->¬ my t i->decide (sZ t)=false):=fun i hi h=>decide_eq_false fun hp=>h (hp.2 i hi);have HY:Hid ((1<=t.length/\t.length<=32)->(∀ i,i<t.length->my t i)->decide (sZ t)=true):=fun h1 h2=>decide_eq_true ⟨h1,h2⟩;have HX:Hid (∀ k,k<t.length->∃ y,t[k]?=some y/\t.getD k 0=y):=fun k hk=>⟨t[k],List.getElem?_eq_getElem hk,by rw [List.getD,List.getElem?_eq_getElem hk];rfl⟩
 generalize strOfNums t=S at *;generalize hm:t.length=m at *;clear hm;generalize decide (sZ t)=D at *;by_cases h1:m<1
 ·have HD:=He (HN1.out Ha);go_enter Tryz.func205,Tryz.ntmps205;go_wp2;go_ret;exact ⟨aj HD.out.symm,rfl⟩
 ·by_cases h2:32<m
  ·have HD:=He (HN1.out Ha);go_enter Tryz.func205,Tryz.ntmps205;go_wp2;go_ret;exact ⟨aj HD.out.symm,rfl⟩
  ·have HYY:=He (HY.out Ha);clear HY HN1;go_enter Tryz.func205,Tryz.ntmps205;go_wp2
   go_loop [14] (fun i=>∃ k:Nat,k<=m/\i=.int .i64 k/\∀ j,j<k->my t j) (fun i=>m-(intOf i).toNat)
   case atStart=>exact ⟨0,Nat.zero_le _,rfl,fun j hj=>absurd hj Ha⟩
   case round =>
    obtain ⟨k,hk,rfl,hno⟩:=hrel;have HO:=He hno;clear hno;by_cases hlt:k<m
    ·obtain ⟨y,hy,hyd⟩:=HX.out k hlt;have hix:=fun w=>HI.out k y hy w;have HE:Hid (my t k↔(33<=y/\y<=126)):=by unfold Hid my;rw [hyd]
     have HNO:=He (HN2.out k hlt);clear hy hyd;by_cases h3:y<33
     ·have HF:=He (HNO.out fun h=>by have:=HE.out.1 h;omega);go_wp2;go_ret;exact ⟨aj HF.out.symm,rfl⟩
     ·by_cases h4:126<y
      ·have HF:=He (HNO.out fun h=>by have:=HE.out.1 h;omega);go_wp2;go_ret;exact ⟨aj HF.out.symm,rfl⟩
      ·have HF:Hid (∀ j,j<k+1->my t j):=fun j hj=>by
        rcases Nat.lt_or_ge j k with h5 | h5
        ·exact HO.out j h5
        ·obtain rfl:j=k:=Ha;exact HE.out.2 Ha
       go_wp2
       go_round
       case rel=>exact ⟨k+1,Ha,by go_num,HF.out⟩
       case measure=>simp [intOf];omega
    ·have HF:=He (HYY.out fun i hi=>HO.out i Ha);go_wp2;go_ret;exact ⟨aj HF.out.symm,rfl⟩
theorem lV (t:List Int) (w:World) (ht:ax t) (hl:t.length<=100):Calls Tryz.prog 84 #[.string (strOfNums t)] w fun e w'=>e=.returned (.bool (decide (sZ t)))/\w=w':=by
 have hS:=strOfNums_size t;have HI:=He (fun k y h w=>mx t ht (k:=k) (y:=y) h w);have HN1:Hid (¬ (1<=t.length/\t.length<=32)->decide (sZ t)=false):=fun h=>decide_eq_false fun hp=>h hp.1;have HN2:Hid (∀ i,i<t.length->¬ my t i->decide (sZ t)=false):=fun i hi h=>decide_eq_false fun hp=>h (hp.2 i hi);have HY:Hid ((1<=t.length/\t.length<=32)->(∀ i,i<t.length->my t i)->decide (sZ t)=true):=fun h1 h2=>decide_eq_true ⟨h1,h2⟩;have HX:Hid (∀ k,k<t.length->∃ y,t[k]?=some y/\t.getD k 0=y):=fun k hk=>⟨t[k],List.getElem?_eq_getElem hk,by rw [List.getD,List.getElem?_eq_getElem hk];rfl⟩
 generalize strOfNums t=S at *;generalize hm:t.length=m at *;clear hm;generalize decide (sZ t)=D at *;go_enter Tryz.func84,Tryz.ntmps84;go_wp2
 go_loop [3] (fun i=>∃ k:Nat,k<=m/\i=.int .i64 k/\∀ j,j<k->my t j) (fun i=>m-(intOf i).toNat)
 case atStart=>exact ⟨0,Nat.zero_le _,rfl,fun j hj=>absurd hj Ha⟩
 case round =>
  obtain ⟨k,hk,rfl,hno⟩:=hrel;have HO:=He hno;clear hno;by_cases hlt:k<m
  ·obtain ⟨y,hy,hyd⟩:=HX.out k hlt;have hix:=fun w=>HI.out k y hy w;have HE:Hid (my t k↔(33<=y/\y<=126)):=by unfold Hid my;rw [hyd]
   have HNO:=He (HN2.out k hlt);clear hy hyd;by_cases h3:y<33
   ·have HF:=He (HNO.out fun h=>by have:=HE.out.1 h;omega);go_wp2;go_ret;exact ⟨aj HF.out.symm,rfl⟩
   ·by_cases h4:126<y
    ·have HF:=He (HNO.out fun h=>by have:=HE.out.1 h;omega);go_wp2;go_ret;exact ⟨aj HF.out.symm,rfl⟩
    ·have HF:Hid (∀ j,j<k+1->my t j):=fun j hj=>by
      rcases Nat.lt_or_ge j k with h5 | h5
      ·exact HO.out j h5
      ·obtain rfl:j=k:=Ha;exact HE.out.2 Ha
     go_wp2
     go_round
     case rel=>exact ⟨k+1,Ha,by go_num,HF.out⟩
     case measure=>simp [intOf];omega
  ·have HF:=He (fun h=>HY.out h fun i hi=>HO.out i Ha);by_cases h1:1<=m
   ·by_cases h2:m<=32
    ·have HD:=He (HF.out ⟨h1,h2⟩);go_wp2;go_ret;exact ⟨aj (by first | exact HD.out.symm | (rw [HD.out];simp;omega)),rfl⟩
    ·have HD:=He (HN1.out Ha);go_wp2;go_ret;exact ⟨aj (by first | exact HD.out.symm | (rw [HD.out];simp;omega)),rfl⟩
   ·have HD:=He (HN1.out Ha);go_wp2;go_ret;exact ⟨aj (by first | exact HD.out.symm | (rw [HD.out];simp;omega)),rfl⟩
def jn:List Int:=[-1,-1,-1,-1,-1]
def aS (k:Int) (n:Nd):Prop:=(1<=n.g/\0<=n.l/\n.l<=1000)/\((k=1/\(0<=n.s/\n.s<=1120)/\n.t=[]/\Bp n.ps)\/(k=2/\n.l<=1/\n.s=0/\n.t=[]/\n.ps=jn)\/(k=3/\sZ n.t/\n.s=n.t.length/\n.ps=jn))
instance (k:Int) (n:Nd):Decidable (aS k n):=by unfold aS;infer_instance
theorem ul {t:List Int} (h:ax t):((strOfNums t).toList==([]:List UInt8))=decide (t=[]):=by
 have e:(strOfNums []).toList=([]:List UInt8):=by rw [dt];rfl
 rw [<- e];exact kZ h (fun x hx=>by cases hx)
theorem Il:Tryz.prog.eqGuardType Tryz.prog.depth 256=false:=Hc
theorem oS {ops:Array Oper} {rest:List Oper} {o:Oper} {a:Act} {w:World} {Q:Exit->Act->World->Prop} (hgd:o.guard=none) (x y:Operand) (t:TypeId) (ho:o.op=.binOp .eql 256 x y t) (n:Nd) (hx:a.eval x=.agg (xB n)) (hy:a.eval y=.agg #[.int .i64 (-1),.int .i64 (-1),.int .i64 (-1),.int .i64 (-1),.int .i64 (-1)])
 (h:wpList Tryz.prog ops Q rest (a.put o.dst (.bool (decide (n.ps=jn)))) w):wpList Tryz.prog ops Q (o :: rest) a w :=
 wpList_plain hgd fun _ hK=>by
  have hg:=run_eqGuard_agg (P:=Tryz.prog) w .eql 256 x y (xB n) #[.int .i64 (-1),.int .i64 (-1),.int .i64 (-1),.int .i64 (-1),.int .i64 (-1)] Il;have hr:=Fo n w;unfold Oper.wp execOp;simp only [ho,hx,hy,Sem.run_bind,hg,hr,Result.andThen_ok];exact hK _ _ h
theorem Do (k:Int) (n:Nd) (w:World) (hn:mw n):Calls Tryz.prog 177 #[.int .i64 k,.agg (bD n)] w fun e w'=>e=.returned (.bool (decide (aS k n)))/\Below w.heap.size w w':=by
 have HN:=He (aR.new w n);have HB:=He (aK (w:=w) (Obj.cells (bD n) 137));have hs:=ul hn.t;have HP:=He (nj n);have HM:=He (rW n);have HT:=He (fun w=>rX n.t w hn.t);have HZ:=He ui;have hsz:=strOfNums_size n.t;have hL:=He hn.l;go_enter Tryz.func177,Tryz.ntmps177;go_wp2_with fail
 obtain ⟨c0,c1,c2,c7,c8⟩:=HN.out.cells;generalize w.alloc (Obj.cells (bD n) 137)=W at *;refine jt [1,2,3,4,0] fun F here on=>?_;have HH:=He here;have HO:=He on;clear here on;have HTN:Hid (∀ b,decide (n.t=[])=b->(n.t=[]↔b=true)):=fun b h=>by subst h;simp
 generalize hbt:decide (n.t=[])=bt at hs;have HTB:=He (HTN.out bt hbt);clear hbt HTN c7;have HL1:=He (show (decide (aS k n))=decide ((1<=n.g/\0<=n.l/\n.l<=1000)/\((k=1/\(0<=n.s/\n.s<=1120)/\n.t=[]/\Bp n.ps)\/(k=2/\n.l<=1/\n.s=0/\n.t=[]/\n.ps=jn)\/(k=3/\sZ n.t/\n.s=n.t.length/\n.ps=jn))) from rfl);by_cases h1:n.g<1
 ·have hq:=h1;have HF:Hid (decide (aS k n)=false):=decide_eq_false fun h=>by unfold aS at h;omega
  go_wp2_with fail
  go_step3
  repeat refine HO.out _ _ _ _ _ Hd ?_
  refine HH.out _ _ _ _ _ rfl ?_;go_wp2_with fail
  simp only [aY];go_ret;exact ⟨aj HF.out.symm,HB.out⟩
 by_cases h2:n.l<0
 ·have hq:=h2;have HF:Hid (decide (aS k n)=false):=decide_eq_false fun h=>by unfold aS at h;omega
  go_wp2_with fail
  go_step3
  repeat refine HO.out _ _ _ _ _ Hd ?_
  refine HH.out _ _ _ _ _ rfl ?_;go_wp2_with fail
  simp only [aY];go_ret;exact ⟨aj HF.out.symm,HB.out⟩
 by_cases h3:1000<n.l
 ·have hq:=h3;have HF:Hid (decide (aS k n)=false):=decide_eq_false fun h=>by unfold aS at h;omega
  go_wp2_with fail
  go_step3
  repeat refine HO.out _ _ _ _ _ Hd ?_
  refine HH.out _ _ _ _ _ rfl ?_;go_wp2_with fail
  simp only [aY];go_ret;exact ⟨aj HF.out.symm,HB.out⟩
 by_cases k1:k=1
 ·subst k1;by_cases h4:n.s<0
  ·have hq:=h4;have HF:Hid (decide (aS 1 n)=false):=decide_eq_false fun h=>by unfold aS at h;omega
   go_wp2_with fail
   go_step3
   repeat refine HO.out _ _ _ _ _ Hd ?_
   refine HH.out _ _ _ _ _ rfl ?_;go_wp2_with fail
   go_step3
   repeat refine HO.out _ _ _ _ _ Hd ?_
   refine HH.out _ _ _ _ _ rfl ?_;go_wp2_with fail
   simp only [aY];go_ret;exact ⟨aj HF.out.symm,HB.out⟩
  by_cases h5:1120<n.s
  ·have hq:=h5;have HF:Hid (decide (aS 1 n)=false):=decide_eq_false fun h=>by unfold aS at h;omega
   go_wp2_with fail
   go_step3
   repeat refine HO.out _ _ _ _ _ Hd ?_
   refine HH.out _ _ _ _ _ rfl ?_;go_wp2_with fail
   go_step3
   repeat refine HO.out _ _ _ _ _ Hd ?_
   refine HH.out _ _ _ _ _ rfl ?_;go_wp2_with fail
   simp only [aY];go_ret;exact ⟨aj HF.out.symm,HB.out⟩
  cases bt
  ·have hq:=h5;have HF:Hid (decide (aS 1 n)=false):=decide_eq_false fun h=>by have h9:=HTB.out;unfold aS at h;rcases h.2 with h6 | h6 | h6 <;> simp_all
   go_wp2_with fail
   go_step3
   repeat refine HO.out _ _ _ _ _ Hd ?_
   refine HH.out _ _ _ _ _ rfl ?_;go_wp2_with fail
   go_step3
   repeat refine HO.out _ _ _ _ _ Hd ?_
   refine HH.out _ _ _ _ _ rfl ?_;go_wp2_with fail
   simp only [aY];go_ret;exact ⟨aj HF.out.symm,HB.out⟩
  have HF:Hid (decide (Bp n.ps)=decide (aS 1 n)):=by
   have h9:=HTB.out.2 rfl;unfold Hid;rw [decide_eq_decide];unfold aS;constructor
   ·intro h;exact ⟨⟨Ha,Ha,Ha⟩,Or.inl ⟨rfl,⟨Ha,Ha⟩,h9,h⟩⟩
   ·rintro ⟨_,h | h | h⟩
    ·exact h.2.2.2
    ·exact absurd h.1 Ha
    ·exact absurd h.1 Ha
  go_wp2_with fail
  go_step3
  repeat refine HO.out _ _ _ _ _ Hd ?_
  refine HH.out _ _ _ _ _ rfl ?_;go_wp2_with (refine aU rfl (.tmp 3) rfl w.heap.size rfl n HN.out ?_)
  refine (HP.out _).mono ?_;rintro e w1 ⟨rfl,hb1⟩;have HB1:=He (aP HB.out hb1);clear hb1;go_wp2_with fail
  refine (HM.out _).mono ?_;rintro e w2 ⟨rfl,hb2⟩;have HB2:=He (aP HB1.out hb2);clear hb2;go_wp2_with fail
  simp only [aY];go_ret;exact ⟨aj HF.out,HB2.out⟩
 by_cases k2:k=2
 ·subst k2;by_cases h4:1<n.l
  ·have hq:=h4;have HF:Hid (decide (aS 2 n)=false):=decide_eq_false fun h=>by unfold aS at h;omega
   go_wp2_with fail
   go_step3
   repeat refine HO.out _ _ _ _ _ Hd ?_
   refine HH.out _ _ _ _ _ rfl ?_;go_wp2_with fail
   go_step3
   repeat refine HO.out _ _ _ _ _ Hd ?_
   refine HH.out _ _ _ _ _ rfl ?_;go_wp2_with fail
   simp only [aY];go_ret;exact ⟨aj HF.out.symm,HB.out⟩
  by_cases h5:¬ n.s=0
  ·have hq:=h5;have HF:Hid (decide (aS 2 n)=false):=decide_eq_false fun h=>by unfold aS at h;omega
   go_wp2_with fail
   go_step3
   repeat refine HO.out _ _ _ _ _ Hd ?_
   refine HH.out _ _ _ _ _ rfl ?_;go_wp2_with fail
   go_step3
   repeat refine HO.out _ _ _ _ _ Hd ?_
   refine HH.out _ _ _ _ _ rfl ?_;go_wp2_with fail
   simp only [aY];go_ret;exact ⟨aj HF.out.symm,HB.out⟩
  have h5:n.s=0:=Ha;cases bt
  ·have hq:=h5;have HF:Hid (decide (aS 2 n)=false):=decide_eq_false fun h=>by have h9:=HTB.out;unfold aS at h;rcases h.2 with h6 | h6 | h6 <;> simp_all
   go_wp2_with fail
   go_step3
   repeat refine HO.out _ _ _ _ _ Hd ?_
   refine HH.out _ _ _ _ _ rfl ?_;go_wp2_with fail
   go_step3
   repeat refine HO.out _ _ _ _ _ Hd ?_
   refine HH.out _ _ _ _ _ rfl ?_;go_wp2_with fail
   simp only [aY];go_ret;exact ⟨aj HF.out.symm,HB.out⟩
  have HF:Hid (decide (n.ps=jn)=decide (aS 2 n)):=by
   have h9:=HTB.out.2 rfl;unfold Hid;rw [decide_eq_decide];unfold aS;constructor
   ·intro h;exact ⟨⟨Ha,Ha,Ha⟩,Or.inr (Or.inl ⟨rfl,Ha,h5,h9,h⟩)⟩
   ·rintro ⟨_,h | h | h⟩
    ·exact absurd h.1 Ha
    ·exact h.2.2.2.2
    ·exact absurd h.1 Ha
  go_wp2_with fail
  go_step3
  repeat refine HO.out _ _ _ _ _ Hd ?_
  refine HH.out _ _ _ _ _ rfl ?_;go_wp2_with fail
  go_step3
  repeat refine HO.out _ _ _ _ _ Hd ?_
  refine HH.out _ _ _ _ _ rfl ?_;go_wp2_with (refine aU rfl (.tmp 3) rfl w.heap.size rfl n HN.out ?_)
  refine (HP.out _).mono ?_;rintro e w1 ⟨rfl,hb1⟩;have HB1:=He (aP HB.out hb1);clear hb1;go_wp2_with fail
  refine (HZ.out _).mono ?_;rintro e w2 ⟨rfl,hb2⟩;have HB2:=He (aP HB1.out hb2);clear hb2;go_wp2_with (refine oS rfl (.tmp 67) (.tmp 68) _ rfl n rfl rfl ?_)
  simp only [aY];go_ret;exact ⟨aj HF.out,HB2.out⟩
 by_cases k3:k=3
 ·subst k3;have HLN:=He hsz;by_cases h4:¬ sZ n.t
  ·have HT0:=He (decide_eq_false h4);rw [HT0.out] at HT;have HF:Hid (decide (aS 3 n)=false):=decide_eq_false fun h=>by unfold aS at h;rcases h.2 with h6 | h6 | h6;exact absurd h6.1 Ha;exact absurd h6.1 Ha;exact h4 h6.2.1
   clear h4;go_wp2_with fail
   go_step3
   repeat refine HO.out _ _ _ _ _ Hd ?_
   refine HH.out _ _ _ _ _ rfl ?_;go_wp2_with fail
   refine (HT.out _).mono ?_;rintro e w1 ⟨rfl,rfl⟩;go_wp2_with fail
   go_step3
   repeat refine HO.out _ _ _ _ _ Hd ?_
   refine HH.out _ _ _ _ _ rfl ?_;go_wp2_with fail
   simp only [aY];go_ret;exact ⟨aj HF.out.symm,HB.out⟩
  have h4:sZ n.t:=Decidable.not_not.1 h4;have HT0:=He (decide_eq_true h4);rw [HT0.out] at HT;by_cases h5:¬ n.s=n.t.length
  ·have HF:Hid (decide (aS 3 n)=false):=decide_eq_false fun h=>by unfold aS at h;rcases h.2 with h6 | h6 | h6;exact absurd h6.1 Ha;exact absurd h6.1 Ha;exact h5 h6.2.2.1
   rw [<- HLN.out] at h5;clear h4 hsz HLN HL1 HTB HT0;have h5a:(n.s != ((strOfNums n.t).size:Int))=true:=by simpa using h5
   clear h5;go_wp2_with fail
   go_step3
   repeat refine HO.out _ _ _ _ _ Hd ?_
   refine HH.out _ _ _ _ _ rfl ?_;go_wp2_with fail
   refine (HT.out _).mono ?_;rintro e w1 ⟨rfl,rfl⟩;go_wp2_with fail
   go_step3
   repeat refine HO.out _ _ _ _ _ Hd ?_
   refine HH.out _ _ _ _ _ rfl ?_;go_wp2_with fail
   simp only [aY];go_ret;exact ⟨aj HF.out.symm,HB.out⟩
  have h5:n.s=n.t.length:=Ha;have HF:Hid (decide (n.ps=jn)=decide (aS 3 n)):=by
   unfold Hid;rw [decide_eq_decide];unfold aS;constructor
   ·intro h;exact ⟨⟨Ha,Ha,Ha⟩,Or.inr (Or.inr ⟨rfl,h4,h5,h⟩)⟩
   ·rintro ⟨_,h | h | h⟩
    ·exact absurd h.1 Ha
    ·exact absurd h.1 Ha
    ·exact h.2.2.2
  rw [<- HLN.out] at h5;have h5a:(n.s != ((strOfNums n.t).size:Int))=false:=by simpa using h5
  clear h4 hsz h5 HLN HL1 HTB HT0;go_wp2_with fail
  go_step3
  repeat refine HO.out _ _ _ _ _ Hd ?_
  refine HH.out _ _ _ _ _ rfl ?_;go_wp2_with fail
  refine (HT.out _).mono ?_;rintro e w1 ⟨rfl,rfl⟩;go_wp2_with fail
  go_step3;go_wp2_with (refine aU rfl (.tmp 3) rfl w.heap.size rfl n HN.out ?_)
  refine (HP.out _).mono ?_;rintro e w1 ⟨rfl,hb1⟩;have HB1:=He (aP HB.out hb1);clear hb1;go_wp2_with fail
  refine (HZ.out _).mono ?_;rintro e w2 ⟨rfl,hb2⟩;have HB2:=He (aP HB1.out hb2);clear hb2;go_wp2_with (refine oS rfl (.tmp 67) (.tmp 68) _ rfl n rfl rfl ?_)
  simp only [aY];go_ret;exact ⟨aj HF.out,HB2.out⟩
 have HF:Hid (decide (aS k n)=false):=decide_eq_false fun h=>by unfold aS at h;omega
 go_wp2_with fail
 go_step3
 repeat refine HO.out _ _ _ _ _ Hd ?_
 refine HH.out _ _ _ _ _ rfl ?_;go_wp2_with fail
 simp only [aY];go_ret;exact ⟨aj HF.out.symm,HB.out⟩
def dh (ys:List Int):List Int:=ys++List.replicate (56-ys.length) 0
theorem fH {ys:List Int} (h:ys.length<=56):(dh ys).length=56:=by unfold dh;simp;omega
theorem qv {ys:List Int} (h:ax ys):ax (dh ys):=ax.append h fun x hx=>by rw [List.eq_of_mem_replicate hx];omega
theorem pp {ys:List Int} {y:Int} (h:ys.length<56):(dh ys).set ys.length y=dh (ys++[y]):=by
 unfold dh;rw [List.length_append,List.length_singleton,show 56-ys.length=(56-(ys.length+1))+1 by omega,List.replicate_succ,List.set_append_right _ _ (Nat.le_refl _)];simp
theorem Gz (n:Nat):∀ (s i:Nat),i<s->(be n s)[i]?=some ((n/256 ^ (s-1-i)%256:Nat):Int)
 | 0,i,h=>absurd h Ha
 | s+1,0,h=>by simp [be]
 | s+1,i+1,h=>by
   show (be n s)[i]?=_;rw [Gz n s i Ha,show s+1-1-(i+1)=s-1-i by omega]
theorem um (w:World) (b o:Nat) (u:Value):w.setCells b o [u]=w.setCell ⟨b,o,none⟩ u:=by
 simp [World.setCells]
theorem rY (w:World) (ty:TypeId) (g:Nat) (k:Int) (ys:List Int) (y:Int) (a:Addr) (hg:w.heap[g]?=some (.cells (ab k (dh ys)) 37 (0,0))) (hl:ys.length<56) (ha:w.cell? a=some (.int .u8 y)) :
 (Builtin.append_ #[22,22] ty #[.slice (some ⟨g,1,none⟩) ys.length 56,.slice (some a) 1 1]).run Tryz.prog w=.ok (.slice (some ⟨g,1,none⟩) (ys.length+1) 56) (w.setCell ⟨g,1+ys.length,none⟩ (.int .u8 y)):=by
 obtain ⟨i0,hi,hz0,hz1,hz2⟩:=info_parts iT;have hp:=fH (ys:=ys) Ha;have h:=run_append_room_cells (P:=Tryz.prog) w 22 ty 5 i0 Tryz.underlying22 hi g 1 ys.length 56 a 1 1 [.int .u8 y] (by rw [hz1];rfl)
  (fun j u hj=>by
    match j,hj with
    | 0,hj=>injection hj with hj;subst hj;unfold Addr.add;simpa using ha) (fun u hu=>by simp only [List.mem_singleton] at hu;subst hu;rfl) Ha
  (fun j hj=>by
    simp only [List.length_singleton] at hj;rw [hz1,af hg,Array.getElem?_eq_getElem (by rw [aN hp];omega)];rfl)
  (fun j hj=>az hg _)
 rw [hz1,Nat.mul_one,um] at h;exact h
theorem dy {ops:Array Oper} {rest:List Oper} {o:Oper} {ac:Act} {w:World} {Q:Exit->Act->World->Prop} (hgd:o.guard=none) (s x:Operand)
 (ho:o.op=.call { callee:=.builtin .append,args:=#[s,x],argTypes:=#[22,22] })
 (g:Nat) (k:Int) (n:Nat) (ys:List Int) (y:Int) (a:Addr) (hn:ys.length=n) (hs:ac.eval s=.slice (some ⟨g,1,none⟩) n 56) (hx:ac.eval x=.slice (some a) 1 1) (hg:w.heap[g]?=some (.cells (ab k (dh ys)) 37 (0,0))) (hl:n<56) (ha:w.cell? a=some (.int .u8 y))
 (h:∀ w',w'.heap[g]?=some (.cells (ab k (dh (ys++[y]))) 37 (0,0))->w.grownBy w' (some g)->wpList Tryz.prog ops Q rest (ac.put o.dst (.slice (some ⟨g,1,none⟩) (n+1) 56)) w'):wpList Tryz.prog ops Q (o :: rest) ac w :=
 wpList_plain hgd fun _ hK=>by
  subst hn;have hr:=rY w o.type g k ys y a hg hl ha;unfold Oper.wp execOp;simp only [ho,resolve,invoke,builtin,Sem.run_bind,Sem.run_pure,Result.andThen_ok,List.map_toArray,List.map_cons,List.map_nil,hs,hx,hr];refine hK _ _ (h _ ?_ ⟨rfl,rfl,rfl,by simp [World.setCell],fun j _ hj=>heap_setCell_other _ _ _ _ (fun e=>hj (by simp [e]))⟩);rw [ah hg,ld,pp hl]
theorem aW {w w1 w2:World} {r:Option Nat} (h:w.grownBy w1 r) (h2:w1.grownBy w2 r):w.grownBy w2 r :=
 ⟨h2.os.trans h.os,h2.tape.trans h.tape,h2.output.trans h.output,Nat.le_trans h.size h2.size,fun k hk hr=>by rw [h2.block k (Nat.lt_of_lt_of_le hk h.size) hr];exact h.block k hk hr⟩
theorem gH {w w1:World} {r:Option Nat} (h:w.grownBy w1 r) (o:Obj):w.grownBy (w1.alloc o) r :=
 ⟨h.os,h.tape,h.output,by rw [ak];exact Nat.le_succ_of_le h.size,fun k hk hr=>by rw [heap_alloc_old w1 o (Nat.lt_of_lt_of_le hk h.size)];exact h.block k hk hr⟩
theorem ym (g:Nat) (k:Int) (ys:List Int) (n x s:Nat) (w:World) (hn:ys.length=n) (hg:w.heap[g]?=some (.cells (ab k (dh ys)) 37 (0,0))) (hs:s<=4) (hl:n+s<=56) (hx:x<4294967296) :
 Calls Tryz.prog 178 #[.slice (some ⟨g,1,none⟩) n 56,.int .u32 x,.int .i64 s] w fun e w'=>e=.returned (.slice (some ⟨g,1,none⟩) (n+s) 56)/\w'.heap[g]?=some (.cells (ab k (dh (ys++be x s))) 37 (0,0))/\w.grownBy w' (some g):=by
 have HG:=He hg;have HN:=He hn;clear hg hn;go_enter Tryz.func178,Tryz.ntmps178;go_wp2;refine aV (fun a' w'=>∃ j:Nat,j<=s/\Hid (w'.heap[g]?=some (.cells (ab k (dh (ys++(be x s).take (s-j)))) 37 (0,0)))/\Hid (w.grownBy w' (some g))/\∃ u3 u4 u5 u6 u7 u8 u9 u10 u11 u12 u13 u14 u15 u16 u17 u18 u19:Value,a'={ tmps:=#[.slice (some ⟨g,1,none⟩) (n+(s-j)) 56,.int .u32 x,.int .i64 j,u3,u4,u5,u6,u7,u8,u9,u10,u11,u12,u13,u14,u15,u16,u17,u18,u19],defers:=[] })
  (fun a' _=>(intOf (a'.tmps.getD 2 undef)).toNat) rfl ?_ ?_
 ·intro HF;go_wp2;go_step3;rename_i hK;refine hK _ _ (HF _ _ ⟨s,Nat.le_refl _,?_,World.grownBy.refl _ _,_,_,_,_,_,_,_,_,_,_,_,_,_,_,_,_,_,by rw [Nat.sub_self];rfl⟩);unfold Hid;rw [Nat.sub_self,List.take_zero,List.append_nil];exact HG.out
 ·rintro a' W ⟨j,hj,HGW,HB,u3,u4,u5,u6,u7,u8,u9,u10,u11,u12,u13,u14,u15,u16,u17,u18,u19,rfl⟩;by_cases hj0:j=0
  ·subst hj0;have HGF:Hid (W.heap[g]?=some (.cells (ab k (dh (ys++be x s))) 37 (0,0))):=by
    have h:=HGW.out;rw [Nat.sub_zero,List.take_of_length_le (by rw [av];omega)] at h;exact h
   rw [Nat.sub_zero];clear HGW;go_wp2_with fail
   simp only [Exit.jump];go_ret;exact ⟨rfl,HGF.out,HB.out⟩
  ·have HL:Hid ((ys++(be x s).take (s-j)).length=n+(s-j)):=by
    unfold Hid;rw [List.length_append,List.length_take,av,HN.out,Nat.min_eq_left (show s-j<=s by omega)]
   have HBY:=He (Gz x s (s-j) Ha);have HNX:Hid (∀ y:Int,(be x s)[s-j]?=some y->ys++(be x s).take (s-j)++[y]=ys++(be x s).take (s-(j-1))):=fun y h=>by
    rw [show s-(j-1)=s-j+1 by omega,au h,List.append_assoc]
   have hs1:s-1-(s-j)=j-1:=Ha;have hl2:n+(s-j)<56:=Ha;have hn2:n+(s-j)+1=n+(s-(j-1)):=Ha;rw [hs1] at HBY;have HN2:=He hn2;generalize (be x s)[s-j]?=oy at *;generalize ys++(be x s).take (s-j)=zs at *;generalize n+(s-j)=m at *;clear hn2 hs1;have h4:j=1\/j=2\/j=3\/j=4:=Ha;rcases h4 with rfl | rfl | rfl | rfl
   ·have hy:oy=some ((x:Int)%256):=by
     rw [HBY.out];simp only [Nat.reduceSub,Nat.reducePow];first | rfl | (congr 1;omega)
    have HZ:=He (HNX.out _ hy);clear HBY HNX hy hj0;go_upto_region 4 with fail
    go_wp2_with (first
     | (at_builtin
        refine dy rfl (.tmp 12) (.tmp 18) rfl g k m zs ((x:Int)%256) ⟨W.heap.size,0,none⟩ HL.out rfl rfl (kb (aK _) HGW.out) hl2 ((af (heap_alloc_new _ _) 0).trans rfl) ?_;intro w2 h1 h2;have HG2:=He h1;have HB2:=He (aW (gH HB.out _) h2);clear h1 h2 HGW HB))
    go_step3;refine ⟨rfl,⟨0,Ha,by rw [<- HZ.out];exact HG2,HB2,_,_,_,_,_,_,_,_,_,_,_,_,_,_,_,_,_,by rw [<- HN2.out];rfl⟩,?_⟩;simp [intOf]
   ·have hy:oy=some ((x:Int)/256%256):=by
     rw [HBY.out];simp only [Nat.reduceSub,Nat.reducePow];first | rfl | (congr 1;omega)
    have HZ:=He (HNX.out _ hy);clear HBY HNX hy hj0;go_upto_region 4 with fail
    go_wp2_with (first
     | (at_builtin
        refine dy rfl (.tmp 12) (.tmp 18) rfl g k m zs ((x:Int)/256%256) ⟨W.heap.size,0,none⟩ HL.out rfl rfl (kb (aK _) HGW.out) hl2 ((af (heap_alloc_new _ _) 0).trans rfl) ?_;intro w2 h1 h2;have HG2:=He h1;have HB2:=He (aW (gH HB.out _) h2);clear h1 h2 HGW HB))
    go_step3;refine ⟨rfl,⟨1,Ha,by rw [<- HZ.out];exact HG2,HB2,_,_,_,_,_,_,_,_,_,_,_,_,_,_,_,_,_,by rw [<- HN2.out];rfl⟩,?_⟩;simp [intOf]
   ·have hy:oy=some ((x:Int)/65536%256):=by
     rw [HBY.out];simp only [Nat.reduceSub,Nat.reducePow];first | rfl | (congr 1;omega)
    have HZ:=He (HNX.out _ hy);clear HBY HNX hy hj0;go_upto_region 4 with fail
    go_wp2_with (first
     | (at_builtin
        refine dy rfl (.tmp 12) (.tmp 18) rfl g k m zs ((x:Int)/65536%256) ⟨W.heap.size,0,none⟩ HL.out rfl rfl (kb (aK _) HGW.out) hl2 ((af (heap_alloc_new _ _) 0).trans rfl) ?_;intro w2 h1 h2;have HG2:=He h1;have HB2:=He (aW (gH HB.out _) h2);clear h1 h2 HGW HB))
    go_step3;refine ⟨rfl,⟨2,Ha,by rw [<- HZ.out];exact HG2,HB2,_,_,_,_,_,_,_,_,_,_,_,_,_,_,_,_,_,by rw [<- HN2.out];rfl⟩,?_⟩;simp [intOf]
   ·have hy:oy=some ((x:Int)/16777216):=by
     rw [HBY.out];simp only [Nat.reduceSub,Nat.reducePow];first | rfl | (congr 1;omega)
    have HZ:=He (HNX.out _ hy);clear HBY HNX hy hj0;go_upto_region 4 with fail
    go_wp2_with (first
     | (at_builtin
        refine dy rfl (.tmp 12) (.tmp 18) rfl g k m zs ((x:Int)/16777216) ⟨W.heap.size,0,none⟩ HL.out rfl rfl (kb (aK _) HGW.out) hl2 ((af (heap_alloc_new _ _) 0).trans rfl) ?_;intro w2 h1 h2;have HG2:=He h1;have HB2:=He (aW (gH HB.out _) h2);clear h1 h2 HGW HB))
    go_step3;refine ⟨rfl,⟨3,Ha,by rw [<- HZ.out];exact HG2,HB2,_,_,_,_,_,_,_,_,_,_,_,_,_,_,_,_,_,by rw [<- HN2.out];rfl⟩,?_⟩;simp [intOf]
def dH (n:Nd):List Int:=(be n.g.toNat 4++be n.l.toNat 2)++be n.s.toNat 4
def mK:List Int->List Int
 | []=>[]
 | x :: xs=>be (x+1).toNat 2++mK xs
theorem yo (xs ys:List Int):mK (xs++ys)=mK xs++mK ys:=by
 induction xs with
 | nil=>rfl
 | cons x xs ih=>show be (x+1).toNat 2++mK (xs++ys)=(be (x+1).toNat 2++mK xs)++mK ys;rw [ih,List.append_assoc]
theorem qw (xs:List Int) (x:Int):mK (xs++[x])=mK xs++be (x+1).toNat 2:=by rw [yo];show mK xs++(be (x+1).toNat 2++[])=_;rw [List.append_nil]
theorem kh:∀ xs:List Int,(mK xs).length=2*xs.length
 | []=>rfl
 | x :: xs=>by show (be (x+1).toNat 2++mK xs).length=_;rw [List.length_append,av,kh xs,List.length_cons];omega
theorem wh:∀ xs:List Int,ax (mK xs)
 | []=>fun x hx=>by cases hx
 | x :: xs=>ax.append (cm _ _) (wh xs)
theorem ki (n:Nd):(dH n).length=10:=by unfold dH;simp [av]
theorem yp (n:Nd):ax (dH n):=ax.append (ax.append (cm _ _) (cm _ _)) (cm _ _)
def jz (n:Nd):List Int:=dH n++mK n.ps++[(n.t.length:Int)]
def bG (n:Nd):List Int:=jz n++n.t
theorem lW (n:Nd):(jz n).length=21:=by unfold jz;rw [List.length_append,List.length_append,ki,kh,ps_len0];rfl
where ps_len0:n.ps.length=5:=rfl
theorem aS.tl {k:Int} {n:Nd} (h:aS k n):n.t.length<=32:=by
 rcases h.2 with h1 | h1 | h1
 ·rw [h1.2.2.1];decide
 ·rw [h1.2.2.2.1];decide
 ·exact h1.2.1.1.2
theorem aS.sz {k:Int} {n:Nd} (h:aS k n):0<=n.s/\n.s<=1120:=by
 have ht:=h.tl;rcases h.2 with h1 | h1 | h1 <;> omega
theorem qx:Bp jn:=Hd
theorem aS.pl' {k:Int} {n:Nd} (h:aS k n):Bp n.ps:=by
 rcases h.2 with h1 | h1 | h1
 ·exact h1.2.2.2
 ·rw [h1.2.2.2.2];exact qx
 ·rw [h1.2.2.2];exact qx
theorem aS.at_ {k:Int} {n:Nd} (h:aS k n) {i:Nat} (hi:i<5) : -1<=n.ps.getD i 0/\n.ps.getD i 0<200:=by
 rcases h.pl' i hi with h1 | h1 <;> omega
def dV (k:Int) (n:Nd):Int:=if aS k n then k else 0
def cT (k:Int) (n:Nd):List Int:=if aS k n then dh (bG n) else ay
theorem g8 (n:Nd):(bG n).length=21+n.t.length:=by unfold bG;rw [List.length_append,lW]
theorem wi {n:Nd} (h:ax n.t) (hl:n.t.length<=255):ax (bG n):=by
 refine ax.append (ax.append (ax.append (yp n) (wh _)) fun x hx=>?_) h;rw [List.mem_singleton] at hx;subst hx;omega
theorem ly {k:Int} {n:Nd}:(cT k n).length=56:=by
 unfold cT;split
 ·rename_i h;have:=h.tl;exact fH (by rw [g8];omega)
 ·exact al
theorem mz {k:Int} {n:Nd} (ht:ax n.t):ax (cT k n):=by
 unfold cT;split
 ·rename_i h;have:=h.tl;exact qv (wi ht Ha)
 ·exact dN
theorem qy {t:List Int} (h:ax t):Lib.byteCells (strOfNums t).data.toList=Bs t:=by
 rw [strOfNums_data];unfold Lib.byteCells Bs;rw [List.map_map];refine List.map_congr_left fun x hx=>?_;have:=h x hx;simp only [Function.comp_apply,UInt8.toNat_ofNat']
 congr 1
 omega
theorem Bq (w:World) (ty:TypeId) (g:Nat) (k:Int) (ys t:List Int) (hg:w.heap[g]?=some (.cells (ab k (dh ys)) 37 (0,0))) (hl:ys.length+t.length<=56) (ht:ax t) :
 (Builtin.copy_ #[22,9] ty #[.slice (some ⟨g,1+ys.length,none⟩) (56-ys.length) (56-ys.length),.string (strOfNums t)]).run Tryz.prog w=.ok (goInt t.length) (w.setRow g (ab k (dh (ys++t)))):=by
 obtain ⟨i0,hi,hz0,hz1,hz2⟩:=info_parts iT;have hp:=fH (ys:=ys) Ha;have h:=Lib.run_copy_row_string (P:=Tryz.prog) w 22 9 ty 5 g (1+ys.length) (56-ys.length) (56-ys.length) (strOfNums t) (ab k (dh ys)) 37 Tryz.underlying22 (by rw [hi];simp [hz1]) hg (by rw [strOfNums_size];omega) (by rw [strOfNums_size,aN hp];omega);rw [h,strOfNums_size,qy ht]
 congr 2
 rw [bp];unfold ab blkL dh
 congr 1
 simp only [iP,List.length_append];rw [show 1+ys.length=ys.length+1 by omega,List.take_succ_cons,show ys.length+1+t.length=(ys.length+t.length)+1 by omega,List.drop_succ_cons];have e1:(Bs ys++Bs (List.replicate (56-ys.length) 0)).take ys.length=Bs ys:=by rw [List.take_append_of_le_length (by rw [ar];omega)];exact List.take_of_length_le (by rw [ar];omega)
 have e2:(Bs ys++Bs (List.replicate (56-ys.length) 0)).drop (ys.length+t.length)=Bs (List.replicate (56-(ys.length+t.length)) 0):=by
  rw [List.drop_append,List.drop_of_length_le (by rw [ar];omega),List.nil_append,ar,show ys.length+t.length-ys.length=t.length by omega];unfold Bs;rw [<- List.map_drop,List.drop_replicate]
  congr 2;omega
 rw [e1,e2];simp [List.append_assoc]
theorem yq (g:Nat) (k:Int) (ys:List Int) (n:Nat) (x:Int) (s:Nat) (w:World) (hn:ys.length=n) (hg:w.heap[g]?=some (.cells (ab k (dh ys)) 37 (0,0))) (hs:s<=4) (hl:n+s<=56) (hx:0<=x/\x<4294967296) :
 Calls Tryz.prog 178 #[.slice (some ⟨g,1,none⟩) n 56,.int .u32 x,.int .i64 s] w fun e w'=>e=.returned (.slice (some ⟨g,1,none⟩) (n+s) 56)/\w'.heap[g]?=some (.cells (ab k (dh (ys++be x.toNat s))) 37 (0,0))/\w.grownBy w' (some g):=by
 have h:=ym g k ys n x.toNat s w hn hg hs hl Ha
 rwa [show ((x.toNat:Nat):Int)=x by omega] at h
structure PW (w:World) (p:Nat) (n:Nd) (k:Int) (ys:List Int) (W:World):Prop where
 bel:Below p w W
 at_:aR W p n
 res:W.heap[p+1]?=some (.cells (ab 0 ay) 37 (0,0))
 bd:W.heap[p+1+1]?=some (.cells (ab k (dh ys)) 37 (0,0))
theorem PW.sz {w:World} {p:Nat} {n:Nd} {k:Int} {ys:List Int} {W:World} (h:PW w p n k ys W):p+1+1<W.heap.size:=ai h.bd
theorem PW.below {w:World} {p:Nat} {n:Nd} {k:Int} {ys:List Int} {W W':World} (h:PW w p n k ys W) (hb:Below W.heap.size W W'):PW w p n k ys W' :=
 ⟨h.bel.trans (hb.mono (by have:=h.sz;omega)),h.at_.below hb,kb hb h.res,kb hb h.bd⟩
theorem PW.step {w:World} {p:Nat} {n:Nd} {k:Int} {ys zs:List Int} {W W':World} (h:PW w p n k ys W) (hb:W'.heap[p+1+1]?=some (.cells (ab k (dh zs)) 37 (0,0))) (hg:W.grownBy W' (some (p+1+1))):PW w p n k zs W' :=
 ⟨h.bel.grown hg (by have:=h.sz;omega) (fun j hj=>by injection hj with hj;omega),h.at_.grown hg (by simp;omega),by rw [hg.block _ (by have:=h.sz;omega) Hb];exact h.res,hb⟩
theorem PW.alloc {w:World} {p:Nat} {n:Nd} {k:Int} {ys:List Int} {W:World} (h:PW w p n k ys W) (o:Obj):PW w p n k ys (W.alloc o):=h.below (aK o)
theorem PW.copied {w:World} {p:Nat} {n:Nd} {k:Int} {ys zs:List Int} {W:World} (h:PW w p n k ys W):PW w p n k zs (W.setRow (p+1+1) (ab k (dh zs))) :=
 ⟨below_setRow h.bel Ha _,h.at_.other _ Ha,by rw [setRow_other W _ _ _ Ha];exact h.res,am h.bd⟩
end Go.Proofs.YtegjelaejbacnaaGreat
