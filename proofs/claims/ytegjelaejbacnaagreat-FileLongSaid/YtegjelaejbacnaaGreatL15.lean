/- For FileLong: contracts and facts, part 15. -/
import Derived.Laws.ComplexArith
import Derived.Deep.DeepCutAuto
import Derived.StillTailTactics
import Derived.Test.YtegjelaejbacnaaGreatL01
import Derived.Test.YtegjelaejbacnaaGreatL03
import Derived.Test.YtegjelaejbacnaaGreatL09
import Derived.Test.YtegjelaejbacnaaGreatL14
set_option maxRecDepth 100000
set_option maxHeartbeats 25600000
set_option linter.unusedVariables false
open Go.ChangeShapes Go.WideShapes Go.ChangeAt Go.RowKit Go
namespace Go.Proofs.YtegjelaejbacnaaGreat
def cW (bs:List Int):Nd:={ o6 bs 5 with t:=aW bs 21 (bs.getD 20 0).toNat }
def aX (k:Int) (bs:List Int):Prop:=bs.getD 20 0<=32/\aS k (cW bs)/\bH (aH (cW bs))=bs
instance (k:Int) (bs:List Int):Decidable (aX k bs):=by unfold aX;infer_instance
def bo (k:Int) (bs:List Int):Nd:=if aX k bs then cW bs else nd0
theorem mf {bs:List Int} (a:ay bs) (i:Nat):0<=bs.getD i 0/\bs.getD i 0<256:=by
 rw [List.getD];cases h:bs[i]? with
 | none=>exact ⟨Hd,Hd⟩
 | some x=>exact a x (List.mem_of_getElem? h)
theorem vJ {bs:List Int} (a:bs.length=56) (c:ay bs):jY (cW bs):=by
 have e:=fun o d=>js (o:=o) a c d;have f:=fun o d=>lB (o:=o) a c d;have b:∀ i,i<5->i64 (Ke bs i):=fun i g=>by
  have:=f (10+2*i) Ha;unfold Ke i64;omega
 refine ⟨?_,?_,?_,b 0 Ha,b 1 Ha,b 2 Ha,b 3 Ha,b 4 Ha,gZ c _ _,?_⟩
 ·have:=e 0 Ha;show u32 (aB (aW bs 0 4):Int);unfold u32;omega
 ·have:=f 4 Ha;show i64 (aB (aW bs 4 2):Int);unfold i64;omega
 ·have:=e 6 Ha;show i64 (aB (aW bs 6 4):Int);unfold i64;omega
 ·show (aW bs 21 _).length<=_;unfold aW;rw [List.length_take,List.length_drop];omega
theorem xW {k:Int} {bs:List Int} (a:bs.length=56) (b:ay bs):jY (bo k bs):=by
 unfold bo;split
 ·exact vJ a b
 ·exact Ka
theorem rH (g:Nat) {m:Nat} (h:m<=32) (w:World):(Instr.sliceAt 35 (.pointer (some ⟨g,1,none⟩)) (some (.int .i64 21)) (some (.int .i64 (21+(m:Int)))) none).run Tryz.prog w=.ok (.slice (some ⟨g,22,none⟩) m 35) w:=by
 have b:=Tryz.sizeOf5;have a:Tryz.prog.arrayLen 35=56:=Hc;have c:Tryz.prog.elem 35=5:=Hc;have d:Tryz.prog.underlying 35=some (.array (Tryz.prog.arrayLen 35) (Tryz.prog.elem 35)):=Hc;rw [run_sliceAt_array_lh w 35 _ d .i64 .i64 21 (21+(m:Int)) Ha Ha (by rw [a];omega),a,c];have e:(21+(m:Int)).toNat=21+m:=Ha;simp [b,slicedAt,cZ,e]
theorem pS {ops:Array Oper} {rest:List Oper} {o:Oper} {a:Act} {w:World} {Q:Exit->Act->World->Prop} (b:o.guard=none) (x y:Operand) (t:TypeId) (c:o.op=.binOp .neq 37 x y t) (k j:Int) (bs cs:List Int) (d:a.eval x=.agg (ab k bs)) (e:a.eval y=.agg (ab j cs)) (f:bs.length=56) (g:cs.length=56) (i:ay bs) (l:ay cs)
 (h:wpList Tryz.prog ops Q rest (a.put o.dst (.bool (!(decide (k=j/\bs=cs))))) w):wpList Tryz.prog ops Q (o :: rest) a w :=
 wpList_plain b fun _ m=>by
  have n:=run_eqGuard_agg (P:=Tryz.prog) w .neq 37 x y (ab k bs) (ab j cs) va;have p:=Kc k j bs cs f g i l w;unfold Oper.wp execOp;simp only [c,d,e,Sem.run_bind,n,p,Result.andThen_ok];exact m _ _ h
structure TW (w:World) (p:Nat) (k:Int) (bs:List Int) (m:Nd) (j:Int) (cs:List Int) (W:World):Prop where
 bel:Below p w W
 blk:W.heap[p]?=some (.cells (ab k bs) 37 (0,0))
 res:aV W (p+1) nd0
 nd:aV W (p+1+1) m
 cb:W.heap[p+1+1+1]?=some (.cells (ab j cs) 37 (0,0))
section
variable {w W W':World} {p:Nat} {k j:Int} {bs cs:List Int} {m:Nd}
theorem TW.sz (h:TW w p k bs m j cs W):p+1+1+1<W.heap.size:=ah h.cb
theorem TW.below (h:TW w p k bs m j cs W) (a:Below W.heap.size W W'):TW w p k bs m j cs W' :=
 ⟨h.bel.trans (a.mono (by have:=h.sz;omega)),kb a h.blk,h.res.below a,h.nd.below a,kb a h.cb⟩
theorem TW.setNd (h:TW w p k bs m j cs W) (a:Nd):TW w p k bs a j cs (W.setRow (p+1+1) (bF a)) :=
 ⟨below_setRow h.bel Ha _,by rw [setRow_other W _ _ _ Ha];exact h.blk,h.res.other _ Ha,h.nd.set a,by rw [setRow_other W _ _ _ Ha];exact h.cb⟩
theorem TW.setT (h:TW w p k bs m j cs W) (t:List Int):TW w p k bs { m with t:=t } j cs (W.setCell ⟨p+1+1,8,none⟩ (.string (strOfNums t))) :=
 ⟨h.bel.setCell (show p<=p+1+1 by omega) _,by rw [heap_setCell_other W _ _ _ (show p≠p+1+1 by omega)];exact h.blk,by unfold aV;rw [heap_setCell_other W _ _ _ (show p+1≠p+1+1 by omega)];exact h.res,ai h.nd _,by rw [heap_setCell_other W _ _ _ (show p+1+1+1≠p+1+1 by omega)];exact h.cb⟩
theorem TW.setCb (h:TW w p k bs m j cs W) (i:Int) (ds:List Int):TW w p k bs m i ds (W.setRow (p+1+1+1) (ab i ds)) :=
 ⟨below_setRow h.bel Ha _,by rw [setRow_other W _ _ _ Ha];exact h.blk,h.res.other _ Ha,h.nd.other _ Ha,am h.cb⟩
end
theorem uk (k:Int) (bs:List Int) (w:World) (hk:i64 k) (A:bs.length=56) (hB:ay bs):Calls Tryz.prog 130 #[.agg (ab k bs)] w fun e w'=>e=.returned (.tuple #[.agg (bF (bo k bs)),.bool (decide (aX k bs))])/\Below w.heap.size w w':=by
 have M:=vJ A hB;have N:=He (fun w=>xT k (cW bs) w M);have ad:=He (fun g w hg=>vI g k bs w A hB hg);have n:=He A;have O:=He hB;have f:Hid (TW w w.heap.size k bs nd0 0 az ((((w.alloc (Obj.cells (ab k bs) 37)).alloc (Obj.cells (bF nd0) 137)).alloc (Obj.cells (bF nd0) 137)).alloc (Obj.cells (ab 0 az) 37))):=by
  have s1:(w.alloc (Obj.cells (ab k bs) 37)).heap.size=w.heap.size+1:=al _ _;have s2:((w.alloc (Obj.cells (ab k bs) 37)).alloc (Obj.cells (bF nd0) 137)).heap.size=w.heap.size+1+1:=by rw [al,s1]
  have s3:(((w.alloc (Obj.cells (ab k bs) 37)).alloc (Obj.cells (bF nd0) 137)).alloc (Obj.cells (bF nd0) 137)).heap.size=w.heap.size+1+1+1:=by rw [al,s2]
  have B1:=aM (w:=w) (Obj.cells (ab k bs) 37);have B2:=B1.alloc B1.size (Obj.cells (bF nd0) 137);have B3:=B2.alloc B2.size (Obj.cells (bF nd0) 137);have B4:=B3.alloc B3.size (Obj.cells (ab 0 az) 37);have H0:=heap_alloc_new w (Obj.cells (ab k bs) 37);have H1:=aV.new (w.alloc (Obj.cells (ab k bs) 37)) nd0;rw [s1] at H1;have H2:=aV.new ((w.alloc (Obj.cells (ab k bs) 37)).alloc (Obj.cells (bF nd0) 137)) nd0;rw [s2] at H2;have H3:=heap_alloc_new (((w.alloc (Obj.cells (ab k bs) 37)).alloc (Obj.cells (bF nd0) 137)).alloc (Obj.cells (bF nd0) 137)) (Obj.cells (ab 0 az) 37);rw [s3] at H3;exact ⟨B4,kb (aM _) (kb (aM _) (kb (aM _) H0)),(H1.alloc _).alloc _,H2.alloc _,H3⟩
 have hy:=mf hB 20;obtain ⟨d,v⟩:∃ d:Nat,bs.getD 20 0=(d:Int):=⟨(bs.getD 20 0).toNat,Ha⟩
 have y:bs[20]?=some (d:Int):=by
  rw [<- v,List.getD,List.getElem?_eq_getElem Ha];rfl
 have R:Hid (∀ W:World,W.heap[w.heap.size]?=some (.cells (ab k bs) 37 (0,0))->W.cell? ⟨w.heap.size,21,none⟩=some (.int .u8 d)):=fun W h=>by
  rw [af h,<- Array.getElem?_toList,bu];exact kR (i:=20) y
 have an:Hid (cW bs={ o6 bs 5 with t:=aW bs 21 d }):=by unfold Hid cW;rw [v];rfl
 have o:Hid (aX k bs↔((d:Int)<=32/\aS k (cW bs)/\bH (aH (cW bs))=bs)):=by unfold Hid aX;rw [v]
 have a2:d<256:=Ha;have wy:IntKind.i64.wrap (d:Int)=d:=IntWalk.i64_in _ Ha;have a3:IntKind.i64.wrap (21+(d:Int))=21+(d:Int):=IntWalk.i64_in _ Ha;clear hk hy v y;have HY:Hid (aX k bs->bo k bs=cW bs):=fun h=>by unfold bo;rw [if_pos h]
 have B:Hid (¬ aX k bs->bo k bs=nd0):=fun h=>by unfold bo;rw [if_neg h]
 go_enter Tryz.func130,Tryz.ntmps130;go_wp2_with (first
  | (refine bC rfl rfl ?_;try simp only [al])
  | (refine aq rfl rfl ?_;try simp only [al]))
 refine fj [0] fun F z on=>?_;have HH:=He z;clear z on;go_upto_region 4 with (first
  | (refine bC rfl rfl ?_;try simp only [al])
  | (refine aq rfl rfl ?_;try simp only [al]))
 generalize (((w.alloc (Obj.cells (ab k bs) 37)).alloc (Obj.cells (bF nd0) 137)).alloc (Obj.cells (bF nd0) 137)).alloc (Obj.cells (ab 0 az) 37)=W at *;have a0:=R.out W f.out.blk;by_cases a1:32<d
 ·have hq:=a1;have b:¬ aX k bs:=fun h=>by have:=(o.out.1 h).1;omega
  have C:=He (B.out b);have H:=He (decide_eq_false b);clear b;go_wp2_with fail
  go_step3;refine HH.out _ _ _ _ _ rfl ?_;go_wp2_with (first
   | (refine cT rfl rfl ?_)
   | (refine aN rfl (.tmp 2) (.tmp 36) rfl (w.heap.size+1) rfl nd0 nd0 rfl f.out.res ?_))
  simp only [aU];refine bodyPost_ret (dP rfl _ _ (w.heap.size+1) nd0 rfl (f.out.res.set _)) rfl ?_;exact ⟨by rw [C.out,H.out];rfl,below_setRow f.out.bel Ha _⟩
 have x:=fun W=>rH w.heap.size (m:=d) Ha W;have S:=He x;clear x;go_wp2_with fail
 refine (ad.out _ _ f.out.blk).mono ?_;rintro e w1 ⟨rfl,T⟩;have I:=He (f.out.below T);clear T f a0;have p:=He (I.out.setNd (o6 bs 5));go_upto_region 7 with (refine aN rfl (.tmp 4) (.tmp 16) rfl (w.heap.size+1+1) rfl (o6 bs 5) nd0 rfl I.out.nd ?_)
 clear I;generalize w1.setRow (w.heap.size+1+1) (bF (o6 bs 5))=U at *;have x:=S.out U;have V:=dB (c:=35) (me p.out.blk 21 d) (show (aW bs 21 d).length=d from fW n.out Ha);have q:=He (p.out.setT (aW bs 21 d));rw [<- an.out] at q;have c8:=p.out.nd.cells.2.2.2.2;have f8:U.frozen? ⟨w.heap.size+1+1,8,none⟩=false:=aA p.out.nd 8;change (convert 22 9 (.slice (some ⟨w.heap.size,22,none⟩) d 35)).run Tryz.prog U=.ok (.string (strOfNums (aW bs 21 d))) U at V;go_upto_region 8 with fail
 clear p x V c8 f8 S;generalize U.setCell ⟨w.heap.size+1+1,8,none⟩ (.string (strOfNums (aW bs 21 d)))=w3 at *;have ck:w3.cell? ⟨w.heap.size,0,none⟩=some (.int .i64 k):=kX q.out.blk (bu _ _);go_wp2_with (refine aZ rfl (.tmp 4) rfl (w.heap.size+1+1) rfl (cW bs) q.out.nd ?_)
 refine (N.out _).mono ?_;rintro e w4 ⟨rfl,X⟩;have l:=He (q.out.below X);clear X q ck;by_cases s:aS k (cW bs)
 ·have r:Hid (fg k (cW bs)=k):=by unfold Hid fg;rw [if_pos s]
  have j:Hid (cX k (cW bs)=bH (aH (cW bs))):=by unfold Hid cX;rw [if_pos s]
  have Y:Hid ((bH (aH (cW bs))).length=56):=by unfold Hid;rw [<- j.out];exact kv
  have Z:Hid (ay (bH (aH (cW bs)))):=by unfold Hid;rw [<- j.out];exact ng M.t
  rw [r.out,j.out,decide_eq_true s];have K:Hid (aX k bs↔bH (aH (cW bs))=bs):=o.out.trans ⟨fun h=>h.2.2,fun h=>⟨Ha,s,h⟩⟩;clear s r j o;generalize bH (aH (cW bs))=u at *;have a:=He (l.out.setCb k u);go_upto_region 9 with (refine ap rfl (.tmp 5) (.tmp 28) rfl (w.heap.size+1+1+1) rfl k 0 u az rfl Y.out ak l.out.cb ?_)
  clear l;generalize w4.setRow (w.heap.size+1+1+1) (ab k u)=w5 at *;by_cases L:u=bs
  ·have HQ:Hid ((!(decide (k=k/\u=bs)))=false):=by unfold Hid;simp [L]
   have C:=He (HY.out (K.out.2 L));have H:=He (decide_eq_true (K.out.2 L));clear L;go_wp2_with (first
    | (refine aT rfl (.tmp 5) rfl (w.heap.size+1+1+1) rfl k u Y.out a.out.cb ?_)
    | (refine aT rfl (.tmp 1) rfl w.heap.size rfl k bs n.out a.out.blk ?_)
    | (refine pS rfl (.tmp 32) (.tmp 33) _ rfl k k u bs rfl rfl Y.out n.out Z.out O.out ?_;rw [HQ.out])
    | (refine aZ rfl (.tmp 4) rfl (w.heap.size+1+1) rfl (cW bs) a.out.nd ?_)
    | (refine aN rfl (.tmp 2) (.tmp 35) rfl (w.heap.size+1) rfl (cW bs) nd0 rfl a.out.res ?_))
   simp only [aU];refine bodyPost_ret (dP rfl _ _ (w.heap.size+1) (cW bs) rfl (a.out.res.set _)) rfl ?_;exact ⟨by rw [C.out,H.out];rfl,below_setRow a.out.bel Ha _⟩
  ·have HQ:Hid ((!(decide (k=k/\u=bs)))=true):=by unfold Hid;simp [L]
   have b:¬ aX k bs:=fun h=>L (K.out.1 h);have C:=He (B.out b);have H:=He (decide_eq_false b);clear b;clear L;go_wp2_with (first
    | (refine aT rfl (.tmp 5) rfl (w.heap.size+1+1+1) rfl k u Y.out a.out.cb ?_)
    | (refine aT rfl (.tmp 1) rfl w.heap.size rfl k bs n.out a.out.blk ?_)
    | (refine pS rfl (.tmp 32) (.tmp 33) _ rfl k k u bs rfl rfl Y.out n.out Z.out O.out ?_;rw [HQ.out])
    | (refine aZ rfl (.tmp 4) rfl (w.heap.size+1+1) rfl (cW bs) a.out.nd ?_)
    | (refine aN rfl (.tmp 2) (.tmp 35) rfl (w.heap.size+1) rfl (cW bs) nd0 rfl a.out.res ?_))
   go_step3;refine HH.out _ _ _ _ _ rfl ?_;go_wp2_with (first
    | (refine cT rfl rfl ?_)
    | (refine aN rfl (.tmp 2) (.tmp 36) rfl (w.heap.size+1) rfl nd0 nd0 rfl a.out.res ?_))
   simp only [aU];refine bodyPost_ret (dP rfl _ _ (w.heap.size+1) nd0 rfl (a.out.res.set _)) rfl ?_;exact ⟨by rw [C.out,H.out];rfl,below_setRow a.out.bel Ha _⟩
 ·have r:Hid (fg k (cW bs)=0):=by unfold Hid fg;rw [if_neg s]
  have j:Hid (cX k (cW bs)=az):=by unfold Hid cX;rw [if_neg s]
  rw [r.out,j.out,decide_eq_false s];have b:¬ aX k bs:=fun h=>s (o.out.1 h).2.1;have C:=He (B.out b);have H:=He (decide_eq_false b);clear b;clear s r j o;have a:=He (l.out.setCb 0 az);go_upto_region 9 with (refine ap rfl (.tmp 5) (.tmp 28) rfl (w.heap.size+1+1+1) rfl 0 0 az az rfl ak ak l.out.cb ?_)
  clear l;generalize w4.setRow (w.heap.size+1+1+1) (ab 0 az)=w5 at *;go_wp2_with fail
  go_step3;refine HH.out _ _ _ _ _ rfl ?_;go_wp2_with (first
   | (refine cT rfl rfl ?_)
   | (refine aN rfl (.tmp 2) (.tmp 36) rfl (w.heap.size+1) rfl nd0 nd0 rfl a.out.res ?_))
  simp only [aU];refine bodyPost_ret (dP rfl _ _ (w.heap.size+1) nd0 rfl (a.out.res.set _)) rfl ?_;exact ⟨by rw [C.out,H.out];rfl,below_setRow a.out.bel Ha _⟩
theorem rJ (g:Nat) (k:Int) (bs:List Int) (a:bs.length=56) (b:ay bs) (o m n d:Nat) (w:World) (c:w.heap[g]?=some (.cells (ab k bs) 37 (0,0))) (f:m=n) (h:o+m<=56) (i:m<=4) :
 Calls Tryz.prog 126 #[.slice (some ⟨g,1+o,none⟩) n d] w fun e w'=>e=.returned (.int .u64 (aB (aW bs o m)))/\w=w' :=
 kW _ (aW bs o m) n d w (by rw [fW a h];exact f) Ha (gZ b _ _) (me c o m)
theorem rK (g:Nat) {m:Nat} (h:m<=35) (w:World):(Instr.slice 22 (.slice (some ⟨g,1,none⟩) 56 56) (some (.int .i64 21)) (some (.int .i64 (21+(m:Int)))) none).run Tryz.prog w=.ok (.slice (some ⟨g,22,none⟩) m 35) w:=by
 have a:=Tryz.sizeOf5;have b:Tryz.prog.elem 22=5:=Hc;have c:Tryz.prog.underlying 22=some (.slice (Tryz.prog.elem 22)):=Hc;rw [run_slice_lh w 22 _ 56 56 c .i64 .i64 21 (21+(m:Int)) Ha Ha Ha,b];have d:(21+(m:Int)).toNat=21+m:=Ha;simp [a,sliced,cZ,d]
structure TR (w:World) (p q:Nat) (k:Int) (bs:List Int) (m:Nd) (W:World):Prop where
 hq:p+1<q
 bel:Below p w W
 blk:W.heap[p]?=some (.cells (ab k bs) 37 (0,0))
 res:aV W (p+1) nd0
 nd:aV W q m
section
variable {w W W':World} {p q:Nat} {k:Int} {bs:List Int} {m:Nd}
theorem TR.sz (h:TR w p q k bs m W):q<W.heap.size:=ah h.nd
theorem TR.below (h:TR w p q k bs m W) (a:Below W.heap.size W W'):TR w p q k bs m W' :=
 ⟨h.hq,h.bel.trans (a.mono (by have:=h.sz;have:=h.hq;omega)),kb a h.blk,h.res.below a,h.nd.below a⟩
theorem TR.setC (h:TR w p q k bs m W) (i:Nat) (v:Value) (a:Nd) (b:(bF m).setIfInBounds i v=bF a):TR w p q k bs a (W.setCell ⟨q,i,none⟩ v):=by
 have c:=h.hq;refine ⟨c,h.bel.setCell (show p<=q by omega) _,by rw [heap_setCell_other W _ _ _ (show p≠q by omega)];exact h.blk,by unfold aV;rw [heap_setCell_other W _ _ _ (show p+1≠q by omega)];exact h.res,?_⟩;unfold aV;rw [ai h.nd,b]
theorem TR.setT (h:TR w p q k bs m W) (t:List Int):TR w p q k bs { m with t:=t } (W.setCell ⟨q,8,none⟩ (.string (strOfNums t))):=h.setC 8 _ _ rfl
end
structure Mi (w:World) (p:Nat) (k:Int) (bs:List Int) (W:World):Prop where
 bel:Below p w W
 blk:W.heap[p]?=some (.cells (ab k bs) 37 (0,0))
 res:aV W (p+1) nd0
theorem Mi.made {w W:World} {p:Nat} {k:Int} {bs:List Int} {m:Nd} (h:Mi w p k bs W):TR w p W.heap.size k bs m ((W.alloc (.cells (bF nd0) 137)).setRow W.heap.size (bF m)):=by
 have a:p+1<W.heap.size:=ah h.res;exact ⟨a,below_setRow (h.bel.alloc Ha _) Ha _,by rw [setRow_other _ _ _ _ Ha];exact kb (aM _) h.blk,(h.res.alloc _).other _ Ha,(aV.new W nd0).set m⟩
def Mv (p:Nat) (bs:List Int) (W0:World) (i:Nat) (v:Value) (W:World):Prop :=
 match i with
 | 0 | 4 | 8=>v=.slice (some ⟨p,1,none⟩) 56 56
 | 1=>v=.slice (some ⟨p,1,none⟩) 4 56
 | 2=>v=.int .u64 (aB (aW bs 0 4))
 | 3=>v=.int .u32 (aB (aW bs 0 4))
 | 5=>v=.slice (some ⟨p,5,none⟩) 2 52
 | 6=>v=.int .u64 (aB (aW bs 4 2))
 | 7=>v=.int .i64 (aB (aW bs 4 2))
 | 9=>v=.slice (some ⟨p,7,none⟩) 4 50
 | 10=>v=.int .u64 (aB (aW bs 6 4))
 | 11=>v=.int .i64 (aB (aW bs 6 4))
 | 12=>v=.agg (bF (o6 bs 0))
 | 13=>v=.pointer (some ⟨W0.heap.size,0,none⟩)
 | _=>True
theorem rL (k:Int) (bs:List Int) (w:World) (hk:i64 k) (I:bs.length=56) (hB:ay bs):Calls Tryz.prog 125 #[.agg (ab k bs)] w fun e w'=>e=.returned (.tuple #[.agg (bF (bo k bs)),.bool (decide (aX k bs))])/\Below w.heap.size w w':=by
 have a7:=vJ I hB;have x:=He I;have ad:=He hB;have U:=He (fun o m n d W hg hn R h3=>rJ w.heap.size k bs I hB o m n d W hg hn R h3);have z:=He (fun o ho=>lB (o:=o) I hB ho);have a8:=He (fun o ho=>js (o:=o) I hB ho);have a9:IntKind.u32.wrap (aB (aW bs 0 4):Int)=aB (aW bs 0 4):=IntWalk.u32_in _ (by have:=a8.out 0 Ha;omega);have bb:IntKind.i64.wrap (aB (aW bs 4 2):Int)=aB (aW bs 4 2):=IntWalk.i64_in _ (by have:=z.out 4 Ha;omega);have bi:IntKind.i64.wrap (aB (aW bs 6 4):Int)=aB (aW bs 6 4):=IntWalk.i64_in _ (by have:=a8.out 6 Ha;omega);have hy:=mf hB 20;obtain ⟨u,S⟩:∃ u:Nat,bs.getD 20 0=(u:Int):=⟨(bs.getD 20 0).toNat,Ha⟩
 have V:bs[20]?=some (u:Int):=by
  rw [<- S,List.getD,List.getElem?_eq_getElem Ha];rfl
 have bk:Hid (∀ W:World,W.heap[w.heap.size]?=some (.cells (ab k bs) 37 (0,0))->W.cell? ⟨w.heap.size,21,none⟩=some (.int .u8 u)):=fun W h=>by
  rw [af h,<- Array.getElem?_toList,bu];exact kR (i:=20) V
 have an:Hid (cW bs={ o6 bs 5 with t:=aW bs 21 u }):=by unfold Hid cW;rw [S];rfl
 have a0:Hid (aX k bs↔((u:Int)<=32/\aS k (cW bs)/\bH (aH (cW bs))=bs)):=by unfold Hid aX;rw [S]
 have cl:u<256:=Ha;have wy:IntKind.i64.wrap (u:Int)=u:=IntWalk.i64_in _ Ha;have cn:IntKind.i64.wrap (21+(u:Int))=21+(u:Int):=IntWalk.i64_in _ Ha;have bl:Hid (u<=35->(cW bs).t.length=u):=fun h=>by rw [an.out];exact fW x.out Ha
 have X:=He (fun (h:u<=35) w=>ui k (cW bs) w a7 (by rw [bl.out h];omega));clear hk hy S V;have HY:Hid (aX k bs->bo k bs=cW bs):=fun h=>by unfold bo;rw [if_pos h]
 have a1:Hid (¬ aX k bs->bo k bs=nd0):=fun h=>by unfold bo;rw [if_neg h]
 have A:Hid (Mi w w.heap.size k bs ((w.alloc (Obj.cells (ab k bs) 37)).alloc (Obj.cells (bF nd0) 137))):=by
  have s1:(w.alloc (Obj.cells (ab k bs) 37)).heap.size=w.heap.size+1:=al _ _;have B1:=aM (w:=w) (Obj.cells (ab k bs) 37);have H1:=aV.new (w.alloc (Obj.cells (ab k bs) 37)) nd0;rw [s1] at H1;exact ⟨B1.alloc B1.size _,kb (aM _) (heap_alloc_new w _),H1⟩
 go_enter Tryz.func125,Tryz.ntmps125;go_upto_region 2 with (refine bC rfl rfl ?_;try simp only [al])
 generalize (w.alloc (Obj.cells (ab k bs) 37)).alloc (Obj.cells (bF nd0) 137)=W at *;generalize hp:w.heap.size=p at *
 go_cut [5] (fun s wx=>∃ q,s=.pointer (some ⟨q,0,none⟩)/\TR w p q k bs (o6 bs 0) wx)
 case first =>
  have K:W.drew.heap[p]?=some (.cells (ab k bs) 37 (0,0)):=A.out.blk;have B:EP W.drew false W.drew:=rfl;have bn:Hid (Mi w p k bs W.drew):=⟨A.out.bel.drew,A.out.blk,A.out.res⟩
  refine ax (Mv p bs W.drew) (fun L W2=>EP W.drew (L 13) W2) (fun _ _ _=>True) Hc Hc (fun i j v' w' cp _ _ hv _=>hv) B ?_;clear B A;generalize W.drew=W0 at *;simp only [cf];refine ⟨?_,?_,?_,?_,?_,?_,?_,?_,?_,?_,?_,?_,?_,?_,?_⟩
  ·refine aa.of rfl fun T W L hag y hJ l hd=>?_;have e4:=Hf hag 4;exact Hi
  ·refine aa.of rfl fun T W L hag y hJ l hd=>?_;have cq:T.getD 11 undef=_:=Hg hd 0 rfl;exact Hi
  ·refine aa.of rfl fun T W L hag y hJ l hd=>?_;have cr:T.getD 12 undef=_:=Hg hd 1 rfl;clear hag hd;go_simp;refine (U.out 0 4 4 56 W (hJ.blk K) rfl Ha Ha).mono ?_;rintro en w' ⟨rfl,rfl⟩;exact ⟨_,rfl,rfl,hJ⟩
  ·refine aa.of rfl fun T W L hag y hJ l hd=>?_;have cs:T.getD 13 undef=_:=Hg hd 2 rfl;have Y:=a9;exact Hi
  ·refine aa.of rfl fun T W L hag y hJ l hd=>?_;have e4:=Hf hag 4;exact Hi
  ·refine aa.of rfl fun T W L hag y hJ l hd=>?_;have cu:T.getD 15 undef=_:=Hg hd 4 rfl;exact Hi
  ·refine aa.of rfl fun T W L hag y hJ l hd=>?_;have cv:T.getD 16 undef=_:=Hg hd 5 rfl;clear hag hd;go_simp;refine (U.out 4 2 2 52 W (hJ.blk K) rfl Ha Ha).mono ?_;rintro en w' ⟨rfl,rfl⟩;exact ⟨_,rfl,rfl,hJ⟩
  ·refine aa.of rfl fun T W L hag y hJ l hd=>?_;have cw:T.getD 17 undef=_:=Hg hd 6 rfl;have Y:=bb;exact Hi
  ·refine aa.of rfl fun T W L hag y hJ l hd=>?_;have e4:=Hf hag 4;exact Hi
  ·refine aa.of rfl fun T W L hag y hJ l hd=>?_;have cx:T.getD 19 undef=_:=Hg hd 8 rfl;exact Hi
  ·refine aa.of rfl fun T W L hag y hJ l hd=>?_;have cz:T.getD 20 undef=_:=Hg hd 9 rfl;clear hag hd;go_simp;refine (U.out 6 4 4 50 W (hJ.blk K) rfl Ha Ha).mono ?_;rintro en w' ⟨rfl,rfl⟩;exact ⟨_,rfl,rfl,hJ⟩
  ·refine aa.of rfl fun T W L hag y hJ l hd=>?_;have cA:T.getD 21 undef=_:=Hg hd 10 rfl;have Y:=bi;exact Hi
  ·refine aa.of rfl fun T W L hag y hJ l hd=>?_;have b5:T.getD 14 undef=_:=Hg hd 3 rfl;have b6:T.getD 18 undef=_:=Hg hd 7 rfl;have b8:T.getD 22 undef=_:=Hg hd 11 rfl;clear hag hd;have cP:=fun W=>run_build (P:=Tryz.prog) W 137 #[(0,.int .u32 (aB (aW bs 0 4))),(1,.int .i64 (aB (aW bs 4 2))),(2,.int .i64 (aB (aW bs 6 4)))] _ (Bp _ _ _);simp only [Array.getD_eq_getD_getElem?] at b5 b6 b8;go_simp;exact ⟨_,rfl,rfl⟩
  ·refine aa.of rfl fun T W L hag y hJ l hd=>?_;have B:W=W0:=by have h:=hJ;unfold EP at h;rw [show L 13=false from y] at h;exact h
   subst B;clear hag hd;refine uj rfl ?_;exact ⟨_,rfl,rfl,rfl,trivial⟩
  ·refine bm.of rfl fun T W L hag l y hJ hd=>?_;have d5:T.getD 5 undef=_:=hd 13 _ Hb rfl;have bt:T.getD 23 undef=_:=hd 12 _ Hb rfl;obtain ⟨f,hf,hT⟩:=aJ hag;have h5:=(hf 5).trans d5;have b9:=(hf 23).trans bt;have HJ:=He hJ;clear hag hd d5 bt hJ hf;rw [hT];clear hT;simp only [List.pop_toArray,List.dropLast_cons_cons,List.dropLast_singleton,List.filterMap_cons,List.filterMap_nil,List.foldl_cons,List.foldl_nil,List.setIfInBounds_toArray,List.set_cons_succ,List.set_cons_zero,h5,b9];have B:W=W0.alloc (.cells (bF nd0) 137):=by have h:=HJ.out;unfold EP at h;rw [show L 13=true from l 13 Hd] at h;exact h
   subst B;have ca:=aV.new W0 nd0;refine ue (.tmp 5) (.tmp 23) rfl W0.heap.size rfl (o6 bs 0) nd0 rfl ca ?_;rename_i cb c1;go_wp2_with fail
   refine cb _ _ ?_
   repeat apply Exists.intro
   exact ⟨⟨_,rfl,bn.out.made⟩,rfl⟩
 case rest =>
  obtain ⟨q,rfl,bx⟩:=hcut;have b0:=He bx;clear bx A a9 bb bi;go_wp2_with fail
  go_loopw [6] (fun i wr=>∃ j:Nat,j<=4/\i=.int .i64 j/\Hid (TR w p q k bs (o6 bs j) wr)) (fun i _=>(4-intOf i).toNat)
  case atStart=>exact ⟨0,Ha,rfl,b0⟩
  case round =>
   obtain ⟨j,hj,rfl,a⟩:=hrel;clear b0;have h4:j=0\/j=1\/j=2\/j=3\/j=4:=Ha;rcases h4 with rfl | rfl | rfl | rfl | rfl
   ·have hv:=z.out 10 Ha;have M:IntKind.i64.wrap (aB (aW bs 10 2):Int)=aB (aW bs 10 2):=IntWalk.i64_in _ Ha;have N:IntKind.i64.wrap ((aB (aW bs 10 2):Int)-1)=(aB (aW bs 10 2):Int)-1:=IntWalk.i64_in _ Ha;have c0:wr.cell? ⟨q,3,none⟩=some (.int .i64 0):=(a.out.nd.cell 3).trans rfl;have f0:wr.frozen? ⟨q,3,none⟩=false:=aA a.out.nd 3;have g:Hid (TR w p q k bs (o6 bs 1) (wr.setCell ⟨q,3,none⟩ (.int .i64 ((aB (aW bs 10 2):Int)-1)))):=a.out.setC 3 _ _ rfl;go_wp2_with fail
    refine (U.out 10 2 2 46 wr a.out.blk rfl Ha Ha).mono ?_;rintro e w2 ⟨rfl,rfl⟩;go_wp2_with fail
    go_roundw
    case rel=>exact ⟨1,Ha,rfl,g⟩
    case measure=>simp [intOf]
   ·have hv:=z.out 12 Ha;have M:IntKind.i64.wrap (aB (aW bs 12 2):Int)=aB (aW bs 12 2):=IntWalk.i64_in _ Ha;have N:IntKind.i64.wrap ((aB (aW bs 12 2):Int)-1)=(aB (aW bs 12 2):Int)-1:=IntWalk.i64_in _ Ha;have c0:wr.cell? ⟨q,4,none⟩=some (.int .i64 0):=(a.out.nd.cell 4).trans rfl;have f0:wr.frozen? ⟨q,4,none⟩=false:=aA a.out.nd 4;have g:Hid (TR w p q k bs (o6 bs 2) (wr.setCell ⟨q,4,none⟩ (.int .i64 ((aB (aW bs 12 2):Int)-1)))):=a.out.setC 4 _ _ rfl;go_wp2_with fail
    refine (U.out 12 2 2 44 wr a.out.blk rfl Ha Ha).mono ?_;rintro e w2 ⟨rfl,rfl⟩;go_wp2_with fail
    go_roundw
    case rel=>exact ⟨2,Ha,rfl,g⟩
    case measure=>simp [intOf]
   ·have hv:=z.out 14 Ha;have M:IntKind.i64.wrap (aB (aW bs 14 2):Int)=aB (aW bs 14 2):=IntWalk.i64_in _ Ha;have N:IntKind.i64.wrap ((aB (aW bs 14 2):Int)-1)=(aB (aW bs 14 2):Int)-1:=IntWalk.i64_in _ Ha;have c0:wr.cell? ⟨q,5,none⟩=some (.int .i64 0):=(a.out.nd.cell 5).trans rfl;have f0:wr.frozen? ⟨q,5,none⟩=false:=aA a.out.nd 5;have g:Hid (TR w p q k bs (o6 bs 3) (wr.setCell ⟨q,5,none⟩ (.int .i64 ((aB (aW bs 14 2):Int)-1)))):=a.out.setC 5 _ _ rfl;go_wp2_with fail
    refine (U.out 14 2 2 42 wr a.out.blk rfl Ha Ha).mono ?_;rintro e w2 ⟨rfl,rfl⟩;go_wp2_with fail
    go_roundw
    case rel=>exact ⟨3,Ha,rfl,g⟩
    case measure=>simp [intOf]
   ·have hv:=z.out 16 Ha;have M:IntKind.i64.wrap (aB (aW bs 16 2):Int)=aB (aW bs 16 2):=IntWalk.i64_in _ Ha;have N:IntKind.i64.wrap ((aB (aW bs 16 2):Int)-1)=(aB (aW bs 16 2):Int)-1:=IntWalk.i64_in _ Ha;have c0:wr.cell? ⟨q,6,none⟩=some (.int .i64 0):=(a.out.nd.cell 6).trans rfl;have f0:wr.frozen? ⟨q,6,none⟩=false:=aA a.out.nd 6;have g:Hid (TR w p q k bs (o6 bs 4) (wr.setCell ⟨q,6,none⟩ (.int .i64 ((aB (aW bs 16 2):Int)-1)))):=a.out.setC 6 _ _ rfl;go_wp2_with fail
    refine (U.out 16 2 2 40 wr a.out.blk rfl Ha Ha).mono ?_;rintro e w2 ⟨rfl,rfl⟩;go_wp2_with fail
    go_roundw
    case rel=>exact ⟨4,Ha,rfl,g⟩
    case measure=>simp [intOf]
   ·have hv:=z.out 18 Ha;have M:IntKind.i64.wrap (aB (aW bs 18 2):Int)=aB (aW bs 18 2):=IntWalk.i64_in _ Ha;have N:IntKind.i64.wrap ((aB (aW bs 18 2):Int)-1)=(aB (aW bs 18 2):Int)-1:=IntWalk.i64_in _ Ha;have c0:wr.cell? ⟨q,7,none⟩=some (.int .i64 0):=(a.out.nd.cell 7).trans rfl;have f0:wr.frozen? ⟨q,7,none⟩=false:=aA a.out.nd 7;have g:Hid (TR w p q k bs (o6 bs 5) (wr.setCell ⟨q,7,none⟩ (.int .i64 ((aB (aW bs 18 2):Int)-1)))):=a.out.setC 7 _ _ rfl;go_wp2_with fail
    refine (U.out 18 2 2 38 wr a.out.blk rfl Ha Ha).mono ?_;rintro e w2 ⟨rfl,rfl⟩;go_upto_region 8 with fail
    clear a hv M N c0 f0;generalize wr.setCell ⟨q,7,none⟩ (.int .i64 ((aB (aW bs 18 2):Int)-1))=w3 at *;have cc:=bk.out w3 g.out.blk;by_cases cg:35<u
    ·have hq:=cg;have v:¬ aX k bs:=fun h=>by have:=(a0.out.1 h).1;omega
     have HE:=He (a1.out v);have HD:=He (decide_eq_false v);clear v;go_wp2_with (first
      | (refine cT rfl rfl ?_)
      | (refine aN rfl (.tmp 2) (.tmp 53) rfl (p+1) rfl nd0 nd0 rfl g.out.res ?_))
     refine bodyPost_ret (dP rfl _ _ (p+1) nd0 rfl (g.out.res.set _)) rfl ?_;exact ⟨by rw [HE.out,HD.out];rfl,by first | exact below_setRow g.out.bel Ha _ | (rw [hp];exact below_setRow g.out.bel Ha _)⟩
    have ch:=fun W=>rK p (m:=u) Ha W;have b1:=dB (c:=35) (me g.out.blk 21 u) (show (aW bs 21 u).length=u from fW x.out Ha);change (convert 22 9 (.slice (some ⟨p,22,none⟩) u 35)).run Tryz.prog w3=.ok (.string (strOfNums (aW bs 21 u))) w3 at b1;have c8:=g.out.nd.cells.2.2.2.2;have f8:w3.frozen? ⟨q,8,none⟩=false:=aA g.out.nd 8;have O:=He (g.out.setT (aW bs 21 u));rw [<- an.out] at O;have b2:=He (X.out Ha);go_upto_region 11 with fail
    clear g ch b1 c8 f8 cc X bl;generalize w3.setCell ⟨q,8,none⟩ (.string (strOfNums (aW bs 21 u)))=w4 at *;have ck:w4.cell? ⟨p,0,none⟩=some (.int .i64 k):=kX O.out.blk (bu _ _);go_wp2_with (refine aZ rfl (.tmp 5) rfl q rfl (cW bs) O.out.nd ?_)
    refine (b2.out _).mono ?_;rintro e w5 ⟨rfl,b3⟩;have b4:=He (O.out.below b3);clear b3 O ck;have HL:Hid ((cX k (cW bs)).length=56):=kv;have a2:Hid (ay (cX k (cW bs))):=ng a7.t;have a3:Hid (aX k bs↔(u<=32/\aS k (cW bs)/\(fg k (cW bs)=k/\cX k (cW bs)=bs))):=a0.out.trans (by
     constructor
     ·rintro ⟨h1,R,h3⟩;exact ⟨Ha,R,by unfold fg;rw [if_pos R],by unfold cX;rw [if_pos R];exact h3⟩
     ·rintro ⟨h1,R,h3,h4⟩;refine ⟨Ha,R,?_⟩;unfold cX at h4;rw [if_pos R] at h4;exact h4)
    have ci:Hid (aS k (cW bs)->u<=32):=fun h=>by
     have h1:=h.tl;rw [an.out] at h1;have R:(aW bs 21 u).length=u:=fW x.out Ha;show u<=32;rw [<- R];exact h1
    clear a0 b2;generalize fg k (cW bs)=C at *;generalize cX k (cW bs)=H at *;have b:=He (b4.out.below (below_setRow (aM (w:=w5) (Obj.cells (ab 0 az) 37)) (Nat.le_refl _) (ab C H)));have a4:=heap_alloc_new w5 (Obj.cells (ab 0 az) 37);have a5:=He (am (D:=ab C H) a4);go_upto_region 12 with (first
     | (refine aq rfl rfl ?_)
     | (refine ap rfl (.tmp 7) (.tmp 68) rfl w5.heap.size rfl C 0 H az rfl HL.out ak a4 ?_))
    clear a4 b4;generalize (w5.alloc (Obj.cells (ab 0 az) 37)).setRow w5.heap.size (ab C H)=w6 at *;generalize w5.heap.size=r at *;by_cases Z:aS k (cW bs)
    ·rw [decide_eq_true Z];by_cases hc:C=k/\H=bs
     ·have HQ:Hid ((!(decide (C=k/\H=bs)))=false):=by unfold Hid;simp [hc]
      have a6:=a3.out.2 ⟨ci.out Z,Z,hc⟩;have HE:=He (HY.out a6);have HD:=He (decide_eq_true a6);clear a6 hc Z;go_wp2_with (first
       | (refine aQ Hl (.tmp 7) rfl r rfl C H HL.out a5.out ?_)
       | (refine aQ Hl (.tmp 1) rfl p rfl k bs x.out b.out.blk ?_)
       | (refine cI Hl (.tmp 73) (.tmp 74) _ rfl C k H bs rfl rfl HL.out x.out a2.out ad.out ?_;rw [HQ.out])
       | (refine cT rfl rfl ?_)
       | (refine aN rfl (.tmp 2) (.tmp 77) rfl (p+1) rfl nd0 nd0 rfl b.out.res ?_)
       | (refine aZ rfl (.tmp 5) rfl q rfl (cW bs) b.out.nd ?_)
       | (refine aN rfl (.tmp 2) (.tmp 78) rfl (p+1) rfl (cW bs) nd0 rfl b.out.res ?_))
      refine bodyPost_ret (dP rfl _ _ (p+1) (cW bs) rfl (b.out.res.set _)) rfl ?_;exact ⟨by rw [HE.out,HD.out];rfl,by first | exact below_setRow b.out.bel Ha _ | (rw [hp];exact below_setRow b.out.bel Ha _)⟩
     ·have HQ:Hid ((!(decide (C=k/\H=bs)))=true):=by unfold Hid;simp [hc]
      have v:¬ aX k bs:=fun h=>hc (a3.out.1 h).2.2;have HE:=He (a1.out v);have HD:=He (decide_eq_false v);clear v;clear hc Z;go_wp2_with (first
       | (refine aQ Hl (.tmp 7) rfl r rfl C H HL.out a5.out ?_)
       | (refine aQ Hl (.tmp 1) rfl p rfl k bs x.out b.out.blk ?_)
       | (refine cI Hl (.tmp 73) (.tmp 74) _ rfl C k H bs rfl rfl HL.out x.out a2.out ad.out ?_;rw [HQ.out])
       | (refine cT rfl rfl ?_)
       | (refine aN rfl (.tmp 2) (.tmp 77) rfl (p+1) rfl nd0 nd0 rfl b.out.res ?_)
       | (refine aZ rfl (.tmp 5) rfl q rfl (cW bs) b.out.nd ?_)
       | (refine aN rfl (.tmp 2) (.tmp 78) rfl (p+1) rfl (cW bs) nd0 rfl b.out.res ?_))
      refine bodyPost_ret (dP rfl _ _ (p+1) nd0 rfl (b.out.res.set _)) rfl ?_;exact ⟨by rw [HE.out,HD.out];rfl,by first | exact below_setRow b.out.bel Ha _ | (rw [hp];exact below_setRow b.out.bel Ha _)⟩
    ·rw [decide_eq_false Z];have v:¬ aX k bs:=fun h=>Z (a3.out.1 h).2.1;have HE:=He (a1.out v);have HD:=He (decide_eq_false v);clear v;clear Z;have HQ:Hid (True):=trivial;go_wp2_with (first
      | (refine aQ Hl (.tmp 7) rfl r rfl C H HL.out a5.out ?_)
      | (refine aQ Hl (.tmp 1) rfl p rfl k bs x.out b.out.blk ?_)
      | (refine cI Hl (.tmp 73) (.tmp 74) _ rfl C k H bs rfl rfl HL.out x.out a2.out ad.out ?_;rw [HQ.out])
      | (refine cT rfl rfl ?_)
      | (refine aN rfl (.tmp 2) (.tmp 77) rfl (p+1) rfl nd0 nd0 rfl b.out.res ?_)
      | (refine aZ rfl (.tmp 5) rfl q rfl (cW bs) b.out.nd ?_)
      | (refine aN rfl (.tmp 2) (.tmp 78) rfl (p+1) rfl (cW bs) nd0 rfl b.out.res ?_))
     refine bodyPost_ret (dP rfl _ _ (p+1) nd0 rfl (b.out.res.set _)) rfl ?_;exact ⟨by rw [HE.out,HD.out];rfl,by first | exact below_setRow b.out.bel Ha _ | (rw [hp];exact below_setRow b.out.bel Ha _)⟩
section
variable {H:Type} {enc:TypeId × Value->H} {w:World} {base:Nat} {spare:Nat->Bool} {held:Bool}
end
theorem av (x s:Nat) (r:List Int) (o m:Nat):aW (be x s++r) (s+o) m=aW r o m:=by
 unfold aW;have h:=au x s;rw [List.drop_append,List.drop_of_length_le Ha,List.nil_append,h,Nat.add_sub_cancel_left]
theorem dQ (x s:Nat) (r:List Int):aW (be x s++r) 0 s=be x s:=by
 unfold aW;rw [List.drop_zero];exact List.take_left' (au x s)
theorem ul (n:Nd):bH (aH n)=be n.g.toNat 4++(be n.l.toNat 2++(be n.s.toNat 4++(be (n.a+1).toNat 2++(be (n.b+1).toNat 2++(be (n.c+1).toNat 2++(be (n.d+1).toNat 2++(be (n.x+1).toNat 2++((n.t.length:Int) :: (n.t++List.replicate (56-(aH n).length) 0))))))))):=by
 unfold bH;generalize List.replicate (56-(aH n).length) (0:Int)=z;unfold aH i2 dw Nd.ps;simp only [mI,List.append_assoc,List.append_nil,List.nil_append,List.cons_append]
theorem EQ {k:Int} {n:Nd} (h:aS k n) (C:jY n):cW (bH (aH n))=n:=by
 have f:=ul n;have e:=fun i H=>h.at_ (i:=i) H;have I:=h.sz;have V:=h.1;have K:=h.tl;have W:=C.g.2;have j:∀ x:Nat,x<65536->aB (be x 2)=x:=fun x p=>nD 2 x p;have B:∀ x:Nat,x<4294967296->aB (be x 4)=x:=fun x p=>nD 4 x p;have L:=e 0 Ha;have M:=e 1 Ha;have N:=e 2 Ha;have O:=e 3 Ha;have R:=e 4 Ha;have S:aW (bH (aH n)) 0 4=be n.g.toNat 4:=by rw [f];exact dQ _ 4 _
 have T:aW (bH (aH n)) 4 2=be n.l.toNat 2:=by rw [f];exact (av _ 4 _ 0 2).trans (dQ _ 2 _)
 have U:aW (bH (aH n)) 6 4=be n.s.toNat 4:=by rw [f];exact (av _ 4 _ 2 4).trans ((av _ 2 _ 0 4).trans (dQ _ 4 _))
 have q:aW (bH (aH n)) 10 2=be (n.a+1).toNat 2:=by rw [f];exact (av _ 4 _ 6 2).trans ((av _ 2 _ 4 2).trans ((av _ 4 _ 0 2).trans (dQ _ 2 _)))
 have r:aW (bH (aH n)) 12 2=be (n.b+1).toNat 2:=by rw [f];exact (av _ 4 _ 8 2).trans ((av _ 2 _ 6 2).trans ((av _ 4 _ 2 2).trans ((av _ 2 _ 0 2).trans (dQ _ 2 _))))
 have u:aW (bH (aH n)) 14 2=be (n.c+1).toNat 2:=by rw [f];exact (av _ 4 _ 10 2).trans ((av _ 2 _ 8 2).trans ((av _ 4 _ 4 2).trans ((av _ 2 _ 2 2).trans ((av _ 2 _ 0 2).trans (dQ _ 2 _)))))
 have v:aW (bH (aH n)) 16 2=be (n.d+1).toNat 2:=by rw [f];exact (av _ 4 _ 12 2).trans ((av _ 2 _ 10 2).trans ((av _ 4 _ 6 2).trans ((av _ 2 _ 4 2).trans ((av _ 2 _ 2 2).trans ((av _ 2 _ 0 2).trans (dQ _ 2 _))))))
 have w:aW (bH (aH n)) 18 2=be (n.x+1).toNat 2:=by rw [f];exact (av _ 4 _ 14 2).trans ((av _ 2 _ 12 2).trans ((av _ 4 _ 8 2).trans ((av _ 2 _ 6 2).trans ((av _ 2 _ 4 2).trans ((av _ 2 _ 2 2).trans ((av _ 2 _ 0 2).trans (dQ _ 2 _)))))))
 have s20:∀ m,aW (bH (aH n)) 20 m=aW ((n.t.length:Int) :: (n.t++List.replicate (56-(aH n).length) 0)) 0 m:=fun m=>by
  rw [f];exact (av _ 4 _ 16 m).trans ((av _ 2 _ 14 m).trans ((av _ 4 _ 10 m).trans ((av _ 2 _ 8 m).trans ((av _ 2 _ 6 m).trans ((av _ 2 _ 4 m).trans ((av _ 2 _ 2 m).trans (av _ 2 _ 0 m)))))))
 have y:∀ m,aW (bH (aH n)) 21 m=aW ((n.t.length:Int) :: (n.t++List.replicate (56-(aH n).length) 0)) 1 m:=fun m=>by
  rw [f];exact (av _ 4 _ 17 m).trans ((av _ 2 _ 15 m).trans ((av _ 4 _ 11 m).trans ((av _ 2 _ 9 m).trans ((av _ 2 _ 7 m).trans ((av _ 2 _ 5 m).trans ((av _ 2 _ 3 m).trans (av _ 2 _ 1 m)))))))
 have z:(bH (aH n)).getD 20 0=(n.t.length:Int):=by
  have A:=congrArg (fun l:List Int=>l[0]?) (s20 1);unfold aW at A;simp only [List.getElem?_take,if_pos (show (0:Nat)<1 by omega),List.getElem?_drop,Nat.add_zero,List.getElem?_cons_zero] at A;rw [List.getD,A];rfl
 rw [Nd.ext_iff'];refine ⟨?_,?_,?_,⟨?_,?_,?_,?_⟩,?_,?_⟩
 ·show (aB (aW (bH (aH n)) 0 4):Int)=n.g;rw [S,B _ Ha];omega
 ·show (aB (aW (bH (aH n)) 4 2):Int)=n.l;rw [T,j _ Ha];omega
 ·show (aB (aW (bH (aH n)) 6 4):Int)=n.s;rw [U,B _ Ha];omega
 ·show (aB (aW (bH (aH n)) 10 2):Int)-1=n.a;have o : -1<=n.a/\n.a<200:=L;rw [q,j _ Ha];omega
 ·show (aB (aW (bH (aH n)) 12 2):Int)-1=n.b;have o : -1<=n.b/\n.b<200:=M;rw [r,j _ Ha];omega
 ·show (aB (aW (bH (aH n)) 14 2):Int)-1=n.c;have o : -1<=n.c/\n.c<200:=N;rw [u,j _ Ha];omega
 ·show (aB (aW (bH (aH n)) 16 2):Int)-1=n.d;have o : -1<=n.d/\n.d<200:=O;rw [v,j _ Ha];omega
 ·show (aB (aW (bH (aH n)) 18 2):Int)-1=n.x;have o : -1<=n.x/\n.x<200:=R;rw [w,j _ Ha];omega
 ·show aW (bH (aH n)) 21 ((bH (aH n)).getD 20 0).toNat=n.t;rw [z,Int.toNat_natCast,y];unfold aW;rw [List.drop_succ_cons,List.drop_zero];exact List.take_left
theorem CW {k:Int} {n:Nd} (h:aS k n) (f:jY n):aX k (bH (aH n))/\bo k (bH (aH n))=n:=by
 have a:=EQ h f;have g:=h.tl;have b:(bH (aH n)).getD 20 0<=32:=by
  have e:=congrArg Nd.t a;have j:aW (bH (aH n)) 21 ((bH (aH n)).getD 20 0).toNat=n.t:=e;have l:=ul n;have c:(bH (aH n))[20]?=some (n.t.length:Int):=by
   unfold bH aH i2;have i:(dw n++mI n.ps).length=20:=by rw [List.length_append,jd,jr];rfl
   rw [List.append_assoc,List.append_assoc,List.getElem?_append_right Ha,i];rfl
  rw [List.getD,c];show (n.t.length:Int)<=32;omega
 have d:aX k (bH (aH n)):=⟨b,by rw [a];exact h,by rw [a]⟩
 exact ⟨d,by unfold bo;rw [if_pos d,a]⟩
end Go.Proofs.YtegjelaejbacnaaGreat
namespace Go.Proofs.YtegjelaejbacnaaGreat.Fx
def fi (x:Int):Nat:=floatOfInt .f64 x
theorem ES (x:Int):fi x=Ieee.double.nearest (decide (x<0)) x.natAbs 0:=rfl
theorem Il (r:Nat):Ieee.double.word true r=r+2 ^ 63:=by unfold Ieee.Format.word;simp [show Ieee.double.signWeight=2 ^ 63 from rfl];try omega
theorem qu (r:Nat):Ieee.double.word false r=r:=by unfold Ieee.Format.word;simp
theorem ol (neg:Bool) (n:Nat) (p:Int):Ieee.double.nearest neg n p=Ieee.double.word neg (Ieee.double.nearest false n p):=by
 unfold Ieee.Format.nearest;by_cases h:n=0
 ·rw [if_pos h,if_pos h,qu]
 ·rw [if_neg h,if_neg h,qu];have:∀ a b,Ieee.Toward.even.cut neg a b=Ieee.Toward.even.cut false a b:=fun a b=>rfl;simp only [this]
theorem um (neg:Bool) (r m:Nat) (p:Int) (g:r<2 ^ 63) (h:Ieee.double.read r=.number false m p):Ieee.double.read (Ieee.double.word neg r)=.number neg m p:=by
 cases neg with
 | false=>rw [qu];exact h
 | true =>
   rw [Il];unfold Ieee.Format.read at h ⊢;have s:Ieee.double.signWeight=2 ^ 63:=rfl;simp only [s] at h ⊢;have c:(r+2 ^ 63)/2 ^ 63=1:=Ha;have d:(r+2 ^ 63)%2 ^ 63=r:=Ha;have e:r/2 ^ 63=0:=Ha;have f:r%2 ^ 63=r:=Ha;rw [c,d];rw [e,f] at h;split
   ·rename_i a;rw [if_pos a] at h;simp only [Ieee.Datum.number.injEq] at h;rw [h.2.1,h.2.2];rfl
   ·rename_i a;rw [if_neg a] at h;split
    ·rename_i b;rw [if_pos b] at h;simp only [Ieee.Datum.number.injEq] at h;rw [h.2.1,h.2.2];rfl
    ·rename_i b;rw [if_neg b] at h;split at h <;> cases h
theorem Im (n:Nat) (h:n<2 ^ 53):fb n<2 ^ 63:=by
 rw [fb_eq n h];unfold qy;split
 ·omega
 ·rename_i a;have c:n.log2<=52:=by have:=(Nat.log2_lt a).2 h;omega
  have d:n*2 ^ (52-n.log2)<2 ^ 53:=by
   have b:=Nat.lt_log2_self (n:=n);have:n*2 ^ (52-n.log2)<2 ^ (n.log2+1)*2 ^ (52-n.log2):=Nat.mul_lt_mul_of_pos_right b (Nat.two_pow_pos _)
   rwa [<- Nat.pow_add,show n.log2+1+(52-n.log2)=53 by omega] at this
  have:(n.log2+1022)*2 ^ 52<=1074*2 ^ 52:=Nat.mul_le_mul_right _ Ha;omega
theorem nj (x:Int) (h:x.natAbs<2 ^ 53):∃ k:Nat,Ieee.double.read (fi x)=.number (decide (x<0)) (x.natAbs*2 ^ k) (-(k:Int)):=by
 obtain ⟨k,_,a⟩:=jH x.natAbs h;refine ⟨k,?_⟩;rw [ES,ol];refine um _ _ _ _ ?_ ?_
 ·have:=Im x.natAbs h;rw [fb_eq _ h] at this;have e:=kD x.natAbs 0 h Ha;simp only [Nat.pow_zero,Nat.mul_one] at e;rw [show (-((0:Nat):Int))=0 from rfl] at e;rw [e];exact this
 ·have e:fb x.natAbs=Ieee.double.nearest false x.natAbs 0:=by
   show Ieee.double.nearest (decide ((x.natAbs:Int)<0)) ((x.natAbs:Int)).natAbs 0=_;rw [show decide ((x.natAbs:Int)<0)=false by simp,Int.natAbs_natCast]
  rw [<- e];exact a
theorem zT (x:Int) (h:2 ^ 53<=x.natAbs) (V:x.natAbs<=2 ^ 63):∃ m e:Nat,2 ^ 52<=m/\Ieee.double.read (fi x)=.number (decide (x<0)) m (e:Int):=by
 generalize z:x.natAbs=n at *;have o:n≠0:=Ha;have A:53<=n.log2:=by
  have:=(Nat.le_log2 o (k:=53)).2 h;exact this
 have B:n.log2<=63:=by
  have W:=Nat.log2_self_le o;have:2 ^ n.log2<2 ^ 64:=Ha;have:=(Nat.pow_lt_pow_iff_right (a:=2) Ha).1 this;omega
 have p:=Nat.log2_self_le o;have r:=Nat.lt_log2_self (n:=n);obtain ⟨q,v⟩:∃ q,q=Ieee.Toward.even.cut false n (n.log2-52):=⟨_,rfl⟩
 have g:2 ^ 52<=q/\q<=2 ^ 53:=by
  have w:2 ^ 52<=n/2 ^ (n.log2-52)/\n/2 ^ (n.log2-52)<2 ^ 53:=by
   constructor
   ·rw [Nat.le_div_iff_mul_le (Nat.two_pow_pos _),<- Nat.pow_add,show 52+(n.log2-52)=n.log2 by omega];exact p
   ·rw [Nat.div_lt_iff_lt_mul (Nat.two_pow_pos _),<- Nat.pow_add,show 53+(n.log2-52)=n.log2+1 by omega];exact r
  rw [v];unfold Ieee.Toward.cut;have j:min (n.log2-52) (n.log2+2)=n.log2-52:=Ha;simp only [j,Nat.one_shiftLeft];generalize n/2 ^ (n.log2-52)=lo at *;have:=Bool.toNat_le (c:=(decide (2 ^ (n.log2-52)<2*(n%2 ^ (n.log2-52)))||(2 ^ (n.log2-52)==2*(n%2 ^ (n.log2-52))&&lo%2==1)));omega
 have d:Ieee.double.nearest false n 0=(n.log2+1022)*2 ^ 52+q:=by
  unfold Ieee.Format.nearest;rw [if_neg o];have C:max ((0:Int)+(n.log2:Nat)-(Ieee.double.fractionBits:Nat)) Ieee.double.leastPlace=(n.log2:Int)-52:=by
   rw [lp,show (Ieee.double.fractionBits:Int)=52 from rfl];omega
  simp only [C];have H:((n.log2:Int)-52-Ieee.double.leastPlace).toNat=n.log2+1022:=by rw [lp];omega
  have I:Ieee.double.binade=2 ^ 52:=rfl;have K:((0:Int)-((n.log2:Int)-52)).toNat=0:=Ha;have M:(((n.log2:Int)-52)-0).toNat=n.log2-52:=Ha;rw [H,I,K,M,Nat.shiftLeft_eq,Nat.pow_zero,Nat.mul_one,<- v];have l:Ieee.double.infRung=2047*2 ^ 52:=Hd;have:(n.log2+1022)*2 ^ 52<=1085*2 ^ 52:=Nat.mul_le_mul_right _ Ha;rw [l,Nat.min_eq_left (Nat.le_trans (Nat.add_le_add this g.2) Hd),qu]
 have f:∃ m e:Nat,2 ^ 52<=m/\Ieee.double.read ((n.log2+1022)*2 ^ 52+q)=.number false m (e:Int):=by
  generalize n.log2=L at *;unfold Ieee.Format.read;have s:Ieee.double.signWeight=2 ^ 63:=rfl;have b:Ieee.double.binade=2 ^ 52:=rfl;have i:Ieee.double.infRung=2047*2 ^ 52:=Hd;simp only [s,b,i,lp];have y:(L+1022)*2 ^ 52<=1085*2 ^ 52:=Nat.mul_le_mul_right _ Ha;have N:1075*2 ^ 52<=(L+1022)*2 ^ 52:=Nat.mul_le_mul_right _ Ha;have O:((L+1022)*2 ^ 52+q)/2 ^ 63=0:=Ha;have R:((L+1022)*2 ^ 52+q)%2 ^ 63=(L+1022)*2 ^ 52+q:=Ha;rw [O,R,if_neg Ha,if_pos Ha];by_cases S:q=2 ^ 53
  ·have t:((L+1022)*2 ^ 52+q)/2 ^ 52=L+1024:=Ha;have T:((L+1022)*2 ^ 52+q)%2 ^ 52=0:=Ha;rw [T,t];refine ⟨2 ^ 52+0,L-51,Ha,?_⟩;have u:(-1074:Int)+((L+1024-1:Nat):Int)=((L-51:Nat):Int):=Ha;rw [u];rfl
  ·have t:((L+1022)*2 ^ 52+q)/2 ^ 52=L+1023:=Ha;rw [t];refine ⟨2 ^ 52+((L+1022)*2 ^ 52+q)%2 ^ 52,L-52,Nat.le_add_right _ _,?_⟩;have u:(-1074:Int)+((L+1023-1:Nat):Int)=((L-52:Nat):Int):=Ha;rw [u];rfl
 obtain ⟨m,e,y,U⟩:=f;refine ⟨m,e,y,?_⟩;rw [ES,ol,z,d];refine um _ _ _ _ ?_ U;have:(n.log2+1022)*2 ^ 52<=1085*2 ^ 52:=Nat.mul_le_mul_right _ Ha;omega
theorem rM {a b c d:Int} (h:a<b↔c<d) (g:a=b↔c=d):compare a b=compare c d:=by
 show compareOfLessAndEq a b=compareOfLessAndEq c d;unfold compareOfLessAndEq;by_cases e:c<d
 ·rw [if_pos e,if_pos (h.2 e)]
 ·rw [if_neg e,if_neg (fun q=>e (h.1 q))];by_cases f:c=d
  ·rw [if_pos f,if_pos (g.2 f)]
  ·rw [if_neg f,if_neg (fun q=>f (g.1 q))]
theorem o7 (x:Int) (u:Nat) (m:Nat):Ieee.signed (decide (x<0)) m u=if x<0 then -((m*2 ^ u:Nat):Int) else ((m*2 ^ u:Nat):Int):=by
 by_cases h:x<0
 ·rw [decide_eq_true h,if_pos h,wK]
 ·rw [decide_eq_false h,if_neg h,kY]
theorem rN (x:Int) (t:Nat):(if x<0 then -((x.natAbs*t:Nat):Int) else ((x.natAbs*t:Nat):Int))=x*(t:Int):=by
 split
 ·rw [Int.natCast_mul,<- Int.neg_mul];congr 1;omega
 ·rw [Int.natCast_mul];congr 1;omega
theorem rO (x y:Int) (c:x.natAbs<=2 ^ 63) (r:y.natAbs<=100000):FloatKind.f64.format.order (fi x) (fi y)=some (compare x y):=by
 obtain ⟨j,hj⟩:=nj y Ha;show Ieee.Format.order Ieee.double _ _=_;unfold Ieee.Format.order;by_cases d:x.natAbs<2 ^ 53
 ·obtain ⟨k,a⟩:=nj x d;rw [a,hj];unfold Ieee.Datum.order;simp only [vb,Mf,Mg,o7,pA _ k _ (Nat.le_max_left k j),pA _ j _ (Nat.le_max_right k j),rN]
  congr 1
  have p:(0:Int)<((2 ^ (max k j):Nat):Int):=by have:=Nat.two_pow_pos (max k j);omega
  generalize ((2 ^ (max k j):Nat):Int)=t at *;refine rM ⟨fun h=>Int.lt_of_mul_lt_mul_right h Ha,fun h=>Int.mul_lt_mul_of_pos_right h p⟩ ⟨fun h=>Int.eq_of_mul_eq_mul_right Ha h,fun h=>by rw [h]⟩
 ·obtain ⟨m,e,s,a⟩:=zT x Ha c;rw [a,hj];unfold Ieee.Datum.order;have f:min (e:Int) (-(j:Int)) = -(j:Int):=Ha;have g:((e:Int) - -(j:Int)).toNat=e+j:=Ha;have i:(-(j:Int) - -(j:Int)).toNat=0:=Ha;simp only [f,g,i,o7,Nat.pow_zero,Nat.mul_one,rN]
  congr 1
  have p:(0:Int)<((2 ^ j:Nat):Int):=by have:=Nat.two_pow_pos j;omega
  have u:(100001:Int)*((2 ^ j:Nat):Int)<=((m*2 ^ (e+j):Nat):Int):=by
   have l:100001*2 ^ j<=m*2 ^ (e+j):=by
    have n:2 ^ j<=2 ^ (e+j):=Nat.pow_le_pow_right Ha Ha;exact Nat.mul_le_mul Ha n
   have b:=Int.ofNat_le.2 l;rw [Int.natCast_mul] at b;exact b
  have o:y*((2 ^ j:Nat):Int)<=100000*((2 ^ j:Nat):Int):=Int.mul_le_mul_of_nonneg_right Ha Ha;have q:(-100000)*((2 ^ j:Nat):Int)<=y*((2 ^ j:Nat):Int):=Int.mul_le_mul_of_nonneg_right Ha Ha;generalize ((2 ^ j:Nat):Int)=t at *;generalize y*t=v at *;generalize ((m*2 ^ (e+j):Nat):Int)=M at *;by_cases h:x<0
  ·rw [if_pos h];exact rM ⟨fun _=>Ha,fun _=>Ha⟩ ⟨fun _=>Ha,fun _=>Ha⟩
  ·rw [if_neg h];exact rM ⟨fun _=>Ha,fun _=>Ha⟩ ⟨fun _=>Ha,fun _=>Ha⟩
theorem kM (x y:Int):compare x y=if x<y then .lt else if x=y then .eq else .gt:=rfl
theorem LI (x y:Int) (b:x.natAbs<=2 ^ 63) (c:y.natAbs<=100000):(FloatKind.f64.format.order (fi x) (fi y)==some .lt)=decide (x<y):=by
 rw [rO x y b c,kM];by_cases h:x<y
 ·rw [if_pos h,decide_eq_true h];rfl
 ·rw [if_neg h,decide_eq_false h];by_cases a:x=y
  ·rw [if_pos a];rfl
  ·rw [if_neg a];rfl
theorem EU (x:Int) (h:x.natAbs<2 ^ 53):(FloatKind.f64.decode (fi x)).toInt .zero=some x:=by
 obtain ⟨k,c⟩:=nj x h;show (Ieee.double.read (fi x)).toInt .zero=_;rw [c];unfold Ieee.Datum.toInt Ieee.Datum.integral;have d:(-(k:Int)).toNat=0:=Ha;have e:(- -(k:Int)).toNat=k:=Ha;simp only [d,e,Nat.shiftLeft_eq,Nat.pow_zero,Nat.mul_one];have a:∀ n:Bool,Ieee.Toward.zero.cut n (x.natAbs*2 ^ k) k=x.natAbs:=by
  intro n;have f:Ieee.Toward.zero.cut n (x.natAbs*2 ^ k) k=Ieee.Toward.zero.cut false (x.natAbs*2 ^ k) k:=rfl;rw [f];by_cases b:x.natAbs=0
  ·rw [b];unfold Ieee.Toward.cut;simp
  ·exact lW .zero x.natAbs k (Or.inl (Nat.mul_ne_zero (by have:=Nat.two_pow_pos k;omega) b))
 rw [a,o7];have:=rN x 1;simp only [Nat.pow_zero,Nat.mul_one] at this ⊢;rw [this];simp
theorem EW (q:IntKind) (x:Int) (h:x.natAbs<2 ^ 53) (a:q.min<=x) (b:x<=q.max):floatToIntVal .f64 (fi x) q=some x:=by
 unfold floatToIntVal;rw [EU x h];dsimp only;rw [if_pos ⟨a,b⟩]
theorem Jw (n:Nat):fi n=fb n:=rfl
theorem qv:fi 0=0:=(Jw 0).trans vc
end Go.Proofs.YtegjelaejbacnaaGreat.Fx
namespace Go.Proofs.YtegjelaejbacnaaGreat
open Fx
theorem xX:fi 56=4633078116657397760:=by rw [show (56:Int)=((56:Nat):Int) from rfl,Jw,fb_eq 56 Ha];decide
theorem Io:(List.range 2400).all (fun n=>decide (FloatKind.f64.format.sub (fi ((n:Int)-1200)) (fi 56)=some (fi ((n:Int)-1200-56))))=true:=by decide +kernel
theorem EX (x:Int) (h : -1200<=x/\x<1200):FloatKind.f64.format.sub (fi x) 4633078116657397760=some (fi (x-56)):=by
 have a:=List.all_eq_true.1 Io (x+1200).toNat (List.mem_range.2 Ha);have b:=of_decide_eq_true a
 rwa [show (((x+1200).toNat:Nat):Int)=x+1200 by omega,show x+1200-1200=x by omega,xX] at b
def o8 (a b:Int):Value:=.complex .f64 (fi a) (fi b)
theorem Kf {P:Program} (x:Int) (h:x.natAbs<=100000) (d:Array TypeId) (t:TypeId) (w:World):(Builtin.max_ d t #[.float .f64 (fi x),.float .f64 0]).run P w=.ok (.float .f64 (fi (if x<0 then 0 else x))) w:=by
 have a:=rO x 0 Ha Hd;rw [qv] at a;rcases Int.lt_trichotomy x 0 with b | b | b
 ·have c:compare x 0=.lt:=by rw [kM,if_pos b]
  rw [c] at a;simp [Builtin.max_,Builtin.max2,a,b,qv]
 ·have c:compare x 0=.eq:=by rw [kM,if_neg Ha,if_pos b]
  rw [c] at a;subst b;rw [qv] at a ⊢;simp [Builtin.max_,Builtin.max2,a,qv]
 ·have c:compare x 0=.gt:=by rw [kM,if_neg Ha,if_neg Ha]
  rw [c] at a;simp [Builtin.max_,Builtin.max2,a,show ¬ x<0 by omega]
theorem Kg {P:Program} (x:Int) (h:x.natAbs<=100000) (d:Array TypeId) (t:TypeId) (w:World):(Builtin.min_ d t #[.float .f64 (fi x),.float .f64 4633078116657397760]).run P w=.ok (.float .f64 (fi (if x<56 then x else 56))) w:=by
 have a:=rO x 56 Ha Hd;rw [xX] at a;rcases Int.lt_trichotomy x 56 with b | b | b
 ·have c:compare x 56=.lt:=by rw [kM,if_pos b]
  rw [c] at a;simp [Builtin.min_,Builtin.min2,a,b]
 ·have c:compare x 56=.eq:=by rw [kM,if_neg Ha,if_pos b]
  rw [c] at a;subst b;rw [xX] at a ⊢;simp [Builtin.min_,Builtin.min2,a,xX]
 ·have c:compare x 56=.gt:=by rw [kM,if_neg Ha,if_neg Ha]
  rw [c] at a;simp [Builtin.min_,Builtin.min2,a,show ¬ x<56 by omega,xX]
theorem CX (a b:Int) (w:World):Calls Tryz.prog 133 #[.int .i64 a,.int .i64 b] w fun e w'=>e=.returned (o8 a b)/\w=w':=by
 unfold o8 fi;go_enter Tryz.func133,Tryz.ntmps133;go_wp2;go_ret;exact ⟨rfl,rfl⟩
theorem Ip (a b:Int) (d:a.natAbs<=1200) (f:b.natAbs<=1200) (w:World):Calls Tryz.prog 134 #[o8 a b] w fun e w'=>e=.returned (o8 (if a<0 then 0 else a) (if b<56 then b else 56))/\w=w':=by
 have g:=fun c t w=>Kf (P:=Tryz.prog) a Ha c t w;have h:=fun c t w=>Kg (P:=Tryz.prog) b Ha c t w;unfold o8;generalize fi (if a<0 then 0 else a)=i at *;generalize fi (if b<56 then b else 56)=rb at *;go_enter Tryz.func134,Tryz.ntmps134;go_wp2;go_ret;exact ⟨rfl,rfl⟩
theorem xY (a b:Int) (c:a.natAbs<=1200) (d:b.natAbs<=1200) (w:World):Calls Tryz.prog 135 #[o8 a b] w fun e w'=>e=.returned (.bool (decide (a<b)))/\w=w':=by
 have f:=LI a b Ha Ha;unfold o8;go_enter Tryz.func135,Tryz.ntmps135;go_wp2;go_ret;exact ⟨rfl,rfl⟩
theorem zU (a b:Int) (f:a.natAbs<=1150) (g:b.natAbs<=1150) (w:World):Calls Tryz.prog 137 #[o8 a b] w fun e w'=>e=.returned (o8 (a-56) (b-56))/\w=w':=by
 have h:=fun w:World=>run_complex_sum (P:=Tryz.prog) w .sub (.inr rfl) 177 .f64 (fi a) (fi b) 4633078116657397760 4633078116657397760 (fi (a-56)) (fi (b-56)) (by
  have c:floatBits .sub .f64 (fi a) 4633078116657397760=some (fi (a-56)):=EX a Ha;have d:floatBits .sub .f64 (fi b) 4633078116657397760=some (fi (b-56)):=EX b Ha;unfold cSumBits;rw [c,d];rfl)
 unfold o8;go_enter Tryz.func137,Tryz.ntmps137;go_wp2;go_ret;exact ⟨rfl,rfl⟩
def jt (k a b:Int):Array Value:=#[.int .i64 k,.int .i64 a,.int .i64 b]
theorem zV:(Tryz.prog.info? 152).map (·.size)=some 3:=Hc
theorem zX {c:Func} {p:Tmp} (h:c.results=#[.cell p 152]) (tmps:Array Value) (w:World) (g:Nat) (k a b:Int) (hp:tmps.getD p undef=.pointer (some ⟨g,0,none⟩)) (d:w.heap[g]?=some (.cells (jt k a b) 152 (0,0))) :
 (results c tmps).run Tryz.prog w=.ok (.agg (jt k a b)) w :=
 results_cell_row h tmps w g _ _ _ _ hp d Tryz.underlying152 rfl zV
theorem xZ (k a b:Int) (f:a.natAbs<=1200) (g:b.natAbs<=1200) (w:World):Calls Tryz.prog 136 #[.int .i64 k,o8 a b] w fun e w'=>e=.returned (.agg (jt k a b))/\Below w.heap.size w w':=by
 have c:IntKind.i64.min = -9223372036854775808:=rfl;have d:IntKind.i64.max=9223372036854775807:=rfl;have h:=fun w:World=>run_convert_float_int w 175 3 .f64 .i64 _ _ (P:=Tryz.prog) Hc Tryz.underlying3 (EW .i64 a Ha Ha Ha);have i:=fun w:World=>run_convert_float_int w 175 3 .f64 .i64 _ _ (P:=Tryz.prog) Hc Tryz.underlying3 (EW .i64 b Ha Ha Ha);unfold o8;go_enter Tryz.func136,Tryz.ntmps136;go_wp2;refine bodyPost_ret (zX rfl _ _ w.heap.size k a b rfl (heap_alloc_new _ _)) rfl ?_;exact ⟨rfl,aM _⟩
abbrev Pc:=Nat × Nat × Nat
def encP (p:Pc):List Value:=[.int .i64 p.1,.int .i64 p.2.1,.int .i64 p.2.2]
theorem CY (l:List Pc):lu encP 3 l:=fun x _=>rfl
theorem EY (p:Pc):∀ v∈encP p,v.oneCell'=true:=fun v a=>by
 unfold encP at a;simp only [List.mem_cons,List.not_mem_nil,or_false] at a;rcases a with rfl | rfl | rfl <;> rfl
def pN (o e:Nat):Nat:=if e<=o then 0 else (e-1)/56-o/56+1
def Kh (o e i:Nat):Pc:=(o/56+i,if i=0 then o%56 else 0,if i+1=pN o e then (e-1)%56+1 else 56)
def pL (o e:Nat):List Pc:=(List.range (pN o e)).map (Kh o e)
theorem dG (o e:Nat):(pL o e).length=pN o e:=by unfold pL;simp
theorem EZ (o e i:Nat):(pL o e)[i]?=if i<pN o e then some (Kh o e i) else none:=by
 unfold pL;rw [List.getElem?_map];by_cases h:i<pN o e
 ·rw [List.getElem?_range h,if_pos h];rfl
 ·rw [List.getElem?_eq_none (by simp;omega),if_neg h];rfl
theorem Bq (o e:Nat) (h:e<=1120):pN o e<=20:=by unfold pN;split <;> omega
theorem Iq (o e k:Nat) (a b:Int) (d:o<=e) (i:e<=1120) (j:a=(o:Int)-56*k) (l:b=(e:Int)-56*k) (h:(if a<0 then 0 else a)<(if b<56 then b else 56)) :
 ∃ x y:Nat,(if a<0 then 0 else a)=x/\(if b<56 then b else 56)=y/\(pL o e).take (k+1-o/56)=(pL o e).take (k-o/56)++[(k,x,y)]/\((pL o e).take (k-o/56)).length=k-o/56:=by
 have m:o/56<=k:=by split at h <;> split at h <;> omega
 have f:o<e:=by split at h <;> split at h <;> omega
 have g:56*k<e:=by split at h <;> split at h <;> omega
 have c:pN o e=(e-1)/56-o/56+1:=by unfold pN;rw [if_neg Ha]
 refine ⟨(if a<0 then 0 else a).toNat,(if b<56 then b else 56).toNat,by split <;> omega,by split at h <;> split at h <;> omega,?_,by rw [List.length_take,dG,c];omega⟩;rw [show k+1-o/56=k-o/56+1 by omega];refine aw ?_;rw [EZ,if_pos Ha]
 congr 1
 unfold Kh;rw [c];refine Prod.ext (by show o/56+(k-o/56)=k;omega) (Prod.ext ?_ ?_)
 ·show (if k-o/56=0 then o%56 else 0)=(if a<0 then 0 else a).toNat;split <;> split <;> omega
 ·show (if k-o/56+1=(e-1)/56-o/56+1 then (e-1)%56+1 else 56)=(if b<56 then b else 56).toNat;split <;> split <;> omega
theorem Ir (o e k:Nat) (a b:Int) (c:o<=e) (d:e<=1120) (f:a=(o:Int)-56*k) (g:b=(e:Int)-56*k) (h:¬ (if a<0 then 0 else a)<(if b<56 then b else 56)) :
 (pL o e).take (k+1-o/56)=(pL o e).take (k-o/56):=by
 by_cases i:k<o/56
 ·rw [show k+1-o/56=0 by omega,show k-o/56=0 by omega]
 ·have j:pN o e<=k-o/56:=by
   unfold pN;split
   ·omega
   ·split at h <;> split at h <;> omega
  rw [List.take_of_length_le (by rw [dG];omega),List.take_of_length_le (by rw [dG];omega)]
theorem Ki (o e:Nat) (a:e<=1120):(pL o e).take (20-o/56)=pL o e:=by
 refine List.take_of_length_le ?_;rw [dG];unfold pN;split <;> omega
theorem E3:(Tryz.prog.info? 152).map (fun i=>(i.zero,i.size,i.bytes))=some (some (.agg (jt 0 0 0)),3,24):=Hc
theorem ya {ops:Array Oper} {rest:List Oper} {o:Oper} {a:Act} {w:World} {Q:Exit->Act->World->Prop} (b:o.guard=none) (x:Operand) (e:o.op=.buildSlice 149 1 #[(0,x)]) (k y z:Int) (f:a.eval x=.agg (jt k y z))
 (h:wpList Tryz.prog ops Q rest (a.put o.dst (.slice (some ⟨w.heap.size,0,none⟩) 1 1)) (w.alloc (.cells (jt k y z) 152))):wpList Tryz.prog ops Q (o :: rest) a w:=by
 obtain ⟨g,i,c,d,j⟩:=info_parts E3;exact wpList_plain b fun _ l=>gH 149 x e 152 g _ 3 Tryz.underlying149 i c d Hd Hd _ f rfl (l _ _ h)
theorem E4 (w:World) (ty:TypeId) (base:Nat) (v:Value) (n:Nat) (l:List Pc) (b:w.ownsRow base 152 3 v n (rowL encP l)) (g c:Nat) (p:Pc) (h:w.heap[g]?=some (.cells (encP p).toArray 152 (0,0)))
 (i:n+1<=1000) (a:base<=w.heap.size) :
 ∃ v' w',(Builtin.append_ #[149,149] ty #[v,.slice (some ⟨g,0,none⟩) 1 c]).run Tryz.prog w=.ok v' w'/\w'.ownsRow base 152 3 v' (n+1) (rowL encP (l++[p]))/\w.grownBy w' v.ownBlock:=by
 obtain ⟨k,m,d,e,f⟩:=info_parts E3;obtain ⟨v',w',o,q,r,s,h5⟩:=run_append_own_at (P:=Tryz.prog) w base 149 ty 152 k _ 3 24 Tryz.underlying149 m d e f rfl Hd v n _ b ⟨g,0,none⟩ 1 c (encP p) rfl
  (fun j u hj=>by
    rw [dU,af h,List.getElem?_toArray];exact hj) (EY p) (by simp only [maxLen];omega) Ha a
 exact ⟨v',w',o,by rw [lx];simpa [rowL] using q,r⟩
theorem yb (w:World) {ops:Array Oper} {rest:List Oper} {o:Oper} {a:Act} {Q:Exit->Act->World->Prop} (j:o.guard=none) (s x:Operand)
 (m:o.op=.call { callee:=.builtin .append,args:=#[s,x],argTypes:=#[149,149] })
 (b:Nat) (v:Value) (n:Nat) (l:List Pc) (q:a.eval s=v) (e:w.ownsRow b 152 3 v n (rowL encP l)) (g c:Nat) (p:Pc) (r:a.eval x=.slice (some ⟨g,0,none⟩) 1 c) (t:w.heap[g]?=some (.cells (encP p).toArray 152 (0,0)))
 (k:n+1<=1000) (d:b<=w.heap.size)
 (h:∀ i f,f.ownsRow b 152 3 i (n+1) (rowL encP (l++[p]))->w.grownBy f v.ownBlock->wpList Tryz.prog ops Q rest (a.put o.dst i) f):wpList Tryz.prog ops Q (o :: rest) a w :=
 wpList_plain j fun _ u=>by
  obtain ⟨i,f,y,z,A⟩:=E4 w o.type b v n l e g c p t k d;unfold Oper.wp execOp;simp only [m,resolve,invoke,builtin,Sem.run_bind,Sem.run_pure,Result.andThen_ok,List.map_toArray,List.map_cons,List.map_nil,q,r,y];exact u _ _ (h i f z A)
end Go.Proofs.YtegjelaejbacnaaGreat
