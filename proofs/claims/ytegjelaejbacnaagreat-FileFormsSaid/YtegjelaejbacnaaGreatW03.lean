/- For FileForms: contracts and facts, part 3. -/
import Derived.Laws.CopyRow
import Derived.Laws.ResultCell
import Derived.Laws.Tables
import Derived.Laws.Rows
import Derived.Laws.StructEq
import Derived.Laws.BitsAllLaws
import Derived.Stop.BytesEq
import Derived.Laws.FloatArith
import Derived.Laws.Cover3
import Derived.Lib.Hide
import Derived.Laws.BitsLemmas
import Derived.Laws.ShiftsVar
import Derived.Deep.DeepCutAuto
import Derived.Test.YtegjelaejbacnaaGreatW01
import Derived.Test.YtegjelaejbacnaaGreatW02
set_option maxRecDepth 100000
set_option maxHeartbeats 25600000
set_option linter.unusedVariables false
open Go.ChangeShapes Go.WideShapes Go.ChangeAt Go.RowKit Go
namespace Go.Proofs.YtegjelaejbacnaaGreat
def blkL (k:Int) (bs:List Int):List Value:=.int .i64 k :: Bs bs
theorem dp (g o i:Nat):(⟨g,o,none⟩:Addr).add i=⟨g,o+i,none⟩:=by unfold Addr.add;split <;> simp_all
theorem CC {W:World} {g:Nat} {C:Array Value} {t:TypeId} {fr:Nat × Nat} {k:Int} {bs:List Int} (h:W.heap[g]?=some (.cells C t fr)) (hc:C.toList=blkL k bs):dD W (some ⟨g,1,none⟩) bs:=by
 intro i x hi;refine ⟨_,rfl,?_⟩;rw [dp,cell_of_row _ _ _ _ _ _ h,<- Array.getElem?_toList,hc,Nat.add_comm];exact ku hi
theorem ky {W:World} {g:Nat} {C:Array Value} {t:TypeId} {fr:Nat × Nat} {k:Int} {bs:List Int} (h:W.heap[g]?=some (.cells C t fr)) (hc:C.toList=blkL k bs):W.cell? ⟨g,0,none⟩=some (.int .i64 k):=by
 rw [cell_of_row _ _ _ _ _ _ h,<- Array.getElem?_toList,hc];rfl
def u32 (g:Int):Prop:=0<=g/\g<=4294967295
theorem o3 {P:Program} (w:World) (t:TypeId) (xs ys:Array Value):(binOp .neq t (.agg xs) (.agg ys)).run P w=((Op.equalIn 10000 t (.agg xs) (.agg ys)).run P w).andThen fun b w'=>.ok (.bool (!b)) w':=by
 simp only [binOp];simp [Op.equal,Op.maxDepth]
theorem am {w:World} {g:Nat} {C D:Array Value} {t:TypeId} {fr:Nat × Nat} (h:w.heap[g]?=some (.cells C t fr)):(w.setRow g D).heap[g]?=some (.cells D t fr):=setRow_heap w g C D t fr h
theorem below_setRow {B g:Nat} {w W:World} (h:Below B w W) (hg:B<=g) (D:Array Value):Below B w (W.setRow g D) :=
 ⟨h.os,h.tape,h.output,by simpa using h.size,fun k hk=>by rw [setRow_other W g k D Ha];exact h.block k hk⟩
def ay:List Int:=List.replicate 56 0
def ab (k:Int) (bs:List Int):Array Value:=(blkL k bs).toArray
theorem bp (k:Int) (bs:List Int):(ab k bs).toList=blkL k bs:=by unfold ab;simp
theorem aN {k:Int} {bs:List Int} (h:bs.length=56):(ab k bs).size=57:=by unfold ab blkL;simp [ar,h]
theorem jL (k:Int) (bs:List Int):(ab k bs).all (·.oneCell')=true:=by
 refine Array.all_eq_true_iff_forall_mem.2 fun v hv=>?_;unfold ab blkL at hv;simp only [List.mem_toArray,List.mem_cons] at hv;rcases hv with rfl | hv
 ·rfl
 ·exact gQ bs v hv
theorem al:ay.length=56:=by unfold ay;simp
theorem xJ:(Tryz.prog.info? 37).map (fun i=>(i.zero,i.size,i.bytes))=some (some (.agg (ab 0 ay)),57,64):=Hc
theorem cO:(Tryz.prog.info? 37).map (·.size)=some 57:=Hc
theorem EJ:Tryz.prog.built 37 []=some (ab 0 ay):=Hc
section
variable {ops:Array Oper} {rest:List Oper} {o:Oper} {a:Act} {w:World} {Q:Exit->Act->World->Prop}
theorem aq (hgd:o.guard=none) (ho:o.op=.alloc 37)
 (h:wpList Tryz.prog ops Q rest (a.put o.dst (.pointer (some ⟨w.heap.size,0,none⟩))) (w.alloc (.cells (ab 0 ay) 37))):wpList Tryz.prog ops Q (o :: rest) a w:=by
 obtain ⟨i0,hi,hz0,hz1,hz2⟩:=info_parts xJ;exact wpList_plain hgd fun _ hK=>bV 37 ho i0 _ hi hz0 (hK _ _ h)
theorem bJ (hgd:o.guard=none) (ho:o.op=.build 37 #[])
 (h:wpList Tryz.prog ops Q rest (a.put o.dst (.agg (ab 0 ay))) w):wpList Tryz.prog ops Q (o :: rest) a w :=
 wpList_plain hgd fun _ hK=>by
  unfold Oper.wp execOp;have hb:=run_build (P:=Tryz.prog) w 37 #[] _ EJ;simp only [ho,List.map_toArray,List.map_nil,Sem.run_bind,hb,Result.andThen_ok];exact hK _ _ h
theorem aQ (hgd:o.guard=none) (x:Operand) (ho:o.op=.load 37 x) (g:Nat) (hx:a.eval x=.pointer (some ⟨g,0,none⟩)) (k:Int) (bs:List Int) (h56:bs.length=56) (hg:w.heap[g]?=some (.cells (ab k bs) 37 (0,0)))
 (h:wpList Tryz.prog ops Q rest (a.put o.dst (.agg (ab k bs))) w):wpList Tryz.prog ops Q (o :: rest) a w :=
 wpList_load_row hgd 37 x ho g hx _ _ _ _ hg Tryz.underlying37 rfl (by rw [aN h56];exact cO) h
theorem ap (hgd:o.guard=none) (x y:Operand) (ho:o.op=.store 37 x y) (g:Nat) (hx:a.eval x=.pointer (some ⟨g,0,none⟩)) (k j:Int) (bs cs:List Int) (hy:a.eval y=.agg (ab k bs)) (h56:bs.length=56) (h56':cs.length=56) (hg:w.heap[g]?=some (.cells (ab j cs) 37 (0,0)))
 (h:wpList Tryz.prog ops Q rest (a.put o.dst undef) (w.setRow g (ab k bs))):wpList Tryz.prog ops Q (o :: rest) a w :=
 wpList_store_row hgd 37 x y ho g _ hx hy _ _ hg (by rw [aN h56];exact cO) (by rw [aN h56,aN h56']) (jL _ _) h
end
theorem aT {fn:Func} {p u:Tmp} (h:fn.results=#[.cell p 37,.tmp u]) (tmps:Array Value) (w:World) (g:Nat) (k:Int) (bs:List Int) (hp:tmps.getD p undef=.pointer (some ⟨g,0,none⟩)) (h56:bs.length=56) (hg:w.heap[g]?=some (.cells (ab k bs) 37 (0,0))) :
 (results fn tmps).run Tryz.prog w=.ok (.tuple #[.agg (ab k bs),tmps.getD u undef]) w:=by
 rw [results_cell_tmp h,hp];simp only [asAddr,Sem.run_pure,Result.andThen_ok];rw [run_loadVar_row w g _ _ _ _ _ hg Tryz.underlying37 rfl (by rw [aN h56];exact cO)];rfl
theorem CD (x:Int):Tryz.prog.built 37 [(0,.int .i64 x)]=some (ab x ay):=Hc
theorem iX {ops:Array Oper} {rest:List Oper} {o:Oper} {a:Act} {w:World} {Q:Exit->Act->World->Prop} (hgd:o.guard=none) (x:Operand) (k:Int) (ho:o.op=.build 37 #[(0,x)]) (hx:a.eval x=.int .i64 k)
 (h:wpList Tryz.prog ops Q rest (a.put o.dst (.agg (ab k ay))) w):wpList Tryz.prog ops Q (o :: rest) a w :=
 wpList_plain hgd fun _ hK=>by
  unfold Oper.wp execOp;have hb:=run_build (P:=Tryz.prog) w 37 #[(0,.int .i64 k)] _ (CD k);simp only [ho,List.map_toArray,List.map_cons,List.map_nil,hx,Sem.run_bind,hb,Result.andThen_ok];exact hK _ _ h
theorem ld (k:Int) (bs:List Int) (j:Nat) (x:Int):(ab k bs).setIfInBounds (1+j) (.int .u8 x)=ab k (bs.set j x):=by
 unfold ab blkL;rw [Nat.add_comm];simp [<- Cy]
def I4 (bs:List Int):List UInt8:=bs.map fun n=>UInt8.ofNat n.toNat
theorem zm {bs:List Int} (h:ax bs):Bs bs=(I4 bs).map Extern.Stop.cell:=by
 unfold Bs I4;rw [List.map_map];refine List.map_congr_left fun x hx=>?_;have hb:=h x hx;simp only [Function.comp_apply,Extern.Stop.cell,UInt8.toNat_ofNat']
 congr 1
 show x=((x.toNat%256:Nat):Int)
 omega
theorem GV {α:Type}:∀ {l:List α},l.length=2->∃ a b,l=[a,b]
 | [a,b],_=>⟨a,b,rfl⟩
 | [],h=>by cases h
 | [_],h=>by cases h
 | _ :: _ :: _ :: _,h=>by simp at h
theorem Jl (k j:Int) (bs cs:List Int) (hb:bs.length=56) (hc:cs.length=56) (hB:ax bs) (hC:ax cs) (w:World) :
 (Op.equalIn 10000 37 (.agg (ab k bs)) (.agg (ab j cs))).run Tryz.prog w=.ok (decide (k=j/\bs=cs)) w:=by
 have hS:Tryz.prog.underlying 37=some (.struct (Tryz.prog.fieldsOf 37)):=Hc;have hp:Tryz.prog.stoodInHeld 37=false:=Hc;have u3:=Tryz.underlying3;have a3:=Tryz.isAgg3;have z3:=Tryz.sizeOf3;have a22:=Tryz.isAgg35;have z22:=Tryz.sizeOf35;rw [show (10000:Nat)=9999+1 from rfl,run_equalIn_struct w 9999 37 _ _ hS hp];clear hS hp;have p1:∀ (k:Int) (bs:List Int) w,bs.length=56->(part 35 (ab k bs) 1).run Tryz.prog w=.ok (.agg (Bs bs).toArray) w:=fun k bs w h=>by
  have e:(ab k bs).extract 1 57=(Bs bs).toArray:=by
   have hl:(Bs bs).length=56:=by rw [ar,h]
   unfold ab blkL;simp [<- hl]
  simp [part,a22,z22,e,aN h]
 have p0:∀ (k:Int) (bs:List Int) w,(part 3 (ab k bs) 0).run Tryz.prog w=.ok (.int .i64 k) w:=fun k bs w=>by
  simp [part,a3,ab,blkL]
 have he:∀ w,(Op.equalIn 9999 35 (.agg (Bs bs).toArray) (.agg (Bs cs).toArray)).run Tryz.prog w=.ok (decide (bs=cs)) w:=fun w=>by
  have h:=run_equalIn_bytes (P:=Tryz.prog) w 9997 35 5 56 Tryz.underlying35 Tryz.underlying5 (fun w=>Tryz.sizeOf5 w) (I4 bs) (I4 cs) (by unfold I4;simp [hb]) (by unfold I4;simp [hc]);rw [<- zm hB,<- zm hC] at h;rw [show (9999:Nat)=9997+2 from rfl,h]
  congr 1
  rw [Bool.eq_iff_iff];simp only [beq_iff_eq,decide_eq_true_eq];exact ⟨j0 hB hC,fun h=>by rw [h]⟩
 have hf : (Tryz.prog.fieldsOf 37).toList.map (fun f => (f.name, f.type, f.offset)) = [("Kind", 3, 0), ("Body", 35, 1)] := by kernel_rfl
 revert hf;generalize (Tryz.prog.fieldsOf 37).toList=fs;intro hf;obtain ⟨f0,f1,rfl⟩:=GV (show fs.length=2 by simpa using congrArg List.length hf);simp only [List.map_cons,List.map_nil,List.cons.injEq,Prod.mk.injEq,and_true] at hf;obtain ⟨⟨n0,t0,o0⟩,⟨n1,t1,o1⟩⟩:=hf;have q0:∀ (k:Int) (bs:List Int) w,(part f0.type (ab k bs) f0.offset).run Tryz.prog w=.ok (.int .i64 k) w:=fun k bs w=>by rw [t0,o0];exact p0 k bs w
 have q1:∀ (k:Int) (bs:List Int) w,bs.length=56->(part f1.type (ab k bs) f1.offset).run Tryz.prog w=.ok (.agg (Bs bs).toArray) w:=fun k bs w h=>by rw [t1,o1];exact p1 k bs w h
 have e0:∀ w,(Op.equalIn 9999 f0.type (.int .i64 k) (.int .i64 j)).run Tryz.prog w=.ok (k==j) w:=fun w=>by
  rw [t0];exact run_equalIn_int (P:=Tryz.prog) w 9998 3 .i64 .i64 k j Tryz.underlying3
 have e1:∀ w,(Op.equalIn 9999 f1.type (.agg (Bs bs).toArray) (.agg (Bs cs).toArray)).run Tryz.prog w=.ok (decide (bs=cs)) w:=fun w=>by
  rw [t1];exact he w
 have m0 : f0.name ≠ "_" := by rw [n0]; decide
 have m1 : f1.name ≠ "_" := by rw [n1]; decide
 clear p0 p1 he n0 t0 o0 n1 t1 o1 u3 a3 z3 a22 z22;simp only [Op.eqFields,if_pos m0,if_pos m1,Sem.run_bind,q0,Result.andThen_ok,e0];by_cases hk:k=j
 ·subst hk;by_cases hq:bs=cs
  ·subst hq;simp [e1,Sem.run_bind,q1 _ _ _ hb]
  ·simp [e1,Sem.run_bind,q1 _ _ _ hb,q1 _ _ _ hc,hq]
 ·simp [hk]
theorem dN:ax ay:=fun x hx=>by unfold ay at hx;rw [List.eq_of_mem_replicate hx];omega
theorem CE {bs:List Int} (h:ax bs) (i:Nat) {y:Int} (hy:0<=y/\y<256):ax (bs.set i y):=fun x hx=>by
 rcases List.mem_or_eq_of_mem_set hx with h1 | rfl
 ·exact h x h1
 ·exact hy
theorem tT:Tryz.prog.eqGuardType Tryz.prog.depth 37=false:=Hc
section
variable {ops:Array Oper} {rest:List Oper} {o:Oper} {a:Act} {w:World} {Q:Exit->Act->World->Prop}
theorem aO (hw:Region.wanted o (yielded ops a.tmps)=true) (x:Operand) (ho:o.op=.load 37 x) (g:Nat) (hx:a.eval x=.pointer (some ⟨g,0,none⟩)) (k:Int) (bs:List Int) (h56:bs.length=56) (hg:w.heap[g]?=some (.cells (ab k bs) 37 (0,0)))
 (h:wpList Tryz.prog ops Q rest (a.put o.dst (.agg (ab k bs))) w):wpList Tryz.prog ops Q (o :: rest) a w :=
 BigFrame.wpList_want hw fun _ hK=>wp_load_row 37 x ho g hx _ _ _ _ hg Tryz.underlying37 rfl (by rw [aN h56];exact cO) (hK _ _ h)
end
section
variable {H:Type} {enc:TypeId × Value->H} {w:World} {base:Nat} {spare:Nat->Bool} {held:Bool}
theorem EK:Tryz.prog.cellsOf 3=1:=Hc
end
theorem kb {W W':World} {g:Nat} {o:Obj} (hb:Below W.heap.size W W') (h:W.heap[g]?=some o):W'.heap[g]?=some o:=by rw [hb.block _ (ai h)];exact h
theorem aK {w:World} (o:Obj):Below w.heap.size w (w.alloc o):=(Below.refl _ _).alloc (Nat.le_refl _) _
end Go.Proofs.YtegjelaejbacnaaGreat
namespace Go.Proofs.YtegjelaejbacnaaGreat.Fx
def fb (n:Nat):Nat:=floatOfInt .f64 (n:Int)
def pz (n:Nat):Nat:=if n=0 then 0 else (n.log2+1022)*2 ^ 52+n*2 ^ (52-n.log2)
theorem lp:Ieee.double.leastPlace = -1074:=Hd
theorem mN (n k:Nat) (h:n≠0):(n*2 ^ k).log2=n.log2+k:=by
 have h1:=Nat.log2_self_le h;have h2:=Nat.lt_log2_self (n:=n);have hne:n*2 ^ k≠0:=by
  have:=Nat.two_pow_pos k;exact Nat.mul_ne_zero h Ha
 refine (Nat.log2_eq_iff hne).2 ⟨?_,?_⟩
 ·rw [Nat.pow_add];exact Nat.mul_le_mul_right _ h1
 ·rw [show n.log2+k+1=(n.log2+1)+k by omega,Nat.pow_add];exact Nat.mul_lt_mul_of_pos_right h2 (Nat.two_pow_pos k)
theorem li (way:Ieee.Toward) (m d:Nat) (hd:2 ^ d*m≠0\/d=0):Ieee.Toward.cut way false (m*2 ^ d) d=m:=by
 have hmin:min d ((m*2 ^ d).log2+2)=d:=by
  by_cases h0:d=0
  ·omega
  ·have hm:m≠0:=by rcases hd with h | h
                   ·intro e;rw [e] at h;simp at h
                   ·omega
   rw [mN m d hm];omega
 unfold Ieee.Toward.cut;simp only [hmin,Nat.one_shiftLeft];have p:=Nat.two_pow_pos d;have a:m*2 ^ d/2 ^ d=m:=Nat.mul_div_cancel _ p;have b:m*2 ^ d%2 ^ d=0:=Nat.mul_mod_left _ _;rw [a,b];have c2:(2 ^ d==2*0)=false:=Hb;cases way <;> simp [c2]
theorem j4 (n k:Nat) (h:n<2 ^ 53) (hk:k<=1074):Ieee.double.nearest false (n*2 ^ k) (-(k:Int))=pz n:=by
 unfold Ieee.Format.nearest pz;by_cases h0:n=0
 ·subst h0;simp [Ieee.Format.word]
 ·have hne:n*2 ^ k≠0:=Nat.mul_ne_zero h0 (by have:=Nat.two_pow_pos k;omega);have hL:n.log2<=52:=by have:=(Nat.log2_lt h0).2 h;omega
  rw [if_neg hne,if_neg h0,mN n k h0];have hl:max (-(k:Int)+((n.log2+k:Nat):Int)-(Ieee.double.fractionBits:Nat)) Ieee.double.leastPlace=(n.log2:Int)-52:=by
   rw [lp,show (Ieee.double.fractionBits:Int)=52 from rfl];omega
  simp only [hl];have a1:((n.log2:Int)-52-Ieee.double.leastPlace).toNat=n.log2+1022:=by rw [lp];omega
  have a4:Ieee.double.binade=2 ^ 52:=rfl;rw [a1,a4];have hcut:Ieee.Toward.even.cut false ((n*2 ^ k) <<< (-(k:Int)-((n.log2:Int)-52)).toNat) (((n.log2:Int)-52) - -(k:Int)).toNat=n*2 ^ (52-n.log2):=by
   by_cases hc:k+n.log2<=52
   ·have e1:(-(k:Int)-((n.log2:Int)-52)).toNat=52-n.log2-k:=Ha;have e2:(((n.log2:Int)-52) - -(k:Int)).toNat=0:=Ha;rw [e1,e2,Nat.shiftLeft_eq];have e3:n*2 ^ k*2 ^ (52-n.log2-k)=n*2 ^ (52-n.log2):=by
     rw [Nat.mul_assoc,<- Nat.pow_add];congr 2;omega
    rw [e3];have:=li .even (n*2 ^ (52-n.log2)) 0 (Or.inr rfl);simpa using this
   ·have e1:(-(k:Int)-((n.log2:Int)-52)).toNat=0:=Ha;have e2:(((n.log2:Int)-52) - -(k:Int)).toNat=k-(52-n.log2):=Ha;rw [e1,e2,Nat.shiftLeft_eq,Nat.pow_zero,Nat.mul_one];have e3:n*2 ^ k=n*2 ^ (52-n.log2)*2 ^ (k-(52-n.log2)):=by
     rw [Nat.mul_assoc,<- Nat.pow_add];congr 2;omega
    rw [e3];refine li .even _ _ (Or.inl (Nat.mul_ne_zero ?_ (Nat.mul_ne_zero h0 ?_)))
    ·have:=Nat.two_pow_pos (k-(52-n.log2));omega
    ·have:=Nat.two_pow_pos (52-n.log2);omega
  rw [hcut];have hinf:Ieee.double.infRung=2047*2 ^ 52:=Hd;have hb:n*2 ^ (52-n.log2)<2 ^ 53:=by
   have h2:=Nat.lt_log2_self (n:=n);have:n*2 ^ (52-n.log2)<2 ^ (n.log2+1)*2 ^ (52-n.log2):=Nat.mul_lt_mul_of_pos_right h2 (Nat.two_pow_pos _)
   rwa [<- Nat.pow_add,show n.log2+1+(52-n.log2)=53 by omega] at this
  rw [hinf,Nat.min_eq_left Ha];simp [Ieee.Format.word]
theorem fb_eq (n:Nat) (h:n<2 ^ 53):fb n=pz n:=by
 have:=j4 n 0 h Ha;rw [<- this];show Ieee.double.nearest (decide ((n:Int)<0)) (n:Int).natAbs 0=_;rw [show decide ((n:Int)<0)=false by simp];simp
theorem jh (n:Nat) (h:n<2 ^ 53):∃ k:Nat,k<=1074/\Ieee.double.read (fb n)=.number false (n*2 ^ k) (-(k:Int)):=by
 rw [fb_eq n h];unfold pz;by_cases h0:n=0
 ·subst h0;have hr:Ieee.double.read 0=.number false 0 (-1074):=Hd;obtain ⟨k,hk⟩:∃ k:Nat,k=1074:=⟨_,rfl⟩
  refine ⟨k,Ha,?_⟩;rw [if_pos rfl,Nat.zero_mul,hr,hk];rfl
 ·rw [if_neg h0];have hL:n.log2<=52:=by have:=(Nat.log2_lt h0).2 h;omega
  refine ⟨52-n.log2,Ha,?_⟩;have hb:n*2 ^ (52-n.log2)<2 ^ 53:=by
   have h2:=Nat.lt_log2_self (n:=n);have:n*2 ^ (52-n.log2)<2 ^ (n.log2+1)*2 ^ (52-n.log2):=Nat.mul_lt_mul_of_pos_right h2 (Nat.two_pow_pos _)
   rwa [<- Nat.pow_add,show n.log2+1+(52-n.log2)=53 by omega] at this
  have ha:2 ^ 52<=n*2 ^ (52-n.log2):=by
   have h2:=Nat.log2_self_le h0;have:2 ^ n.log2*2 ^ (52-n.log2)<=n*2 ^ (52-n.log2):=Nat.mul_le_mul_right _ h2
   rwa [<- Nat.pow_add,show n.log2+(52-n.log2)=52 by omega] at this
  generalize n*2 ^ (52-n.log2)=m at *;generalize n.log2=L at *;unfold Ieee.Format.read;have s:Ieee.double.signWeight=2 ^ 63:=rfl;have b:Ieee.double.binade=2 ^ 52:=rfl;have i:Ieee.double.infRung=2047*2 ^ 52:=Hd;simp only [s,b,i,lp];have q1:((L+1022)*2 ^ 52+m)/2 ^ 63=0:=Ha;have q2:((L+1022)*2 ^ 52+m)%2 ^ 63=(L+1022)*2 ^ 52+m:=Ha;rw [q1,q2];rw [if_neg Ha,if_pos Ha];have q3:((L+1022)*2 ^ 52+m)%2 ^ 52=m-2 ^ 52:=Ha;have q4:((L+1022)*2 ^ 52+m)/2 ^ 52=L+1023:=Ha;rw [q3,q4];have q5:2 ^ 52+(m-2 ^ 52)=m:=Ha;rw [q5];have q6:(-1074:Int)+((L+1023-1:Nat):Int) = -((52-L:Nat):Int):=Ha;rw [q6];rfl
theorem oD (a k m:Nat) (h:k<=m):a*2 ^ k*2 ^ (m-k)=a*2 ^ m:=by
 rw [Nat.mul_assoc,<- Nat.pow_add];congr 2;omega
theorem kz (m u:Nat):Ieee.signed false m u=((m*2 ^ u:Nat):Int):=by unfold Ieee.signed;rw [if_neg Hd,Nat.shiftLeft_eq]
theorem uZ (m u:Nat):Ieee.signed true m u = -((m*2 ^ u:Nat):Int):=by unfold Ieee.signed;rw [if_pos rfl,Nat.shiftLeft_eq]
theorem tU (k j:Nat):min (-(k:Int)) (-(j:Int)) = -((max k j:Nat):Int):=Ha
theorem Kh (k j:Nat):(-(k:Int) - -((max k j:Nat):Int)).toNat=max k j-k:=Ha
theorem Ki (k j:Nat):(-(j:Int) - -((max k j:Nat):Int)).toNat=max k j-j:=Ha
theorem xK (a b:Nat) (h:a+b<2 ^ 53):FloatKind.f64.format.add (fb a) (fb b)=some (fb (a+b)):=by
 obtain ⟨k,hk,ha⟩:=jh a Ha;obtain ⟨j,hj,hb⟩:=jh b Ha;show Ieee.Format.add Ieee.double _ _=_;unfold Ieee.Format.add;rw [ha,hb];unfold Ieee.Datum.sum;simp only [tU,Kh,Ki,kz,oD a k _ (Nat.le_max_left k j),oD b j _ (Nat.le_max_right k j)];have e:((a*2 ^ (max k j):Nat):Int)+((b*2 ^ (max k j):Nat):Int)=(((a+b)*2 ^ (max k j):Nat):Int):=by rw [Nat.add_mul];omega
 rw [e];have s:(if (((a+b)*2 ^ (max k j):Nat):Int)=0 then (false&&false) else decide ((((a+b)*2 ^ (max k j):Nat):Int)<0))=false:=by
  split
  ·rfl
  ·simp only [decide_eq_false_iff_not];omega
 rw [s,Int.natAbs_natCast];show some (Ieee.double.nearest false _ _)=_;rw [j4 _ _ h Ha,fb_eq _ h]
theorem GW (a b:Nat) (h:a<2 ^ 53) (hb':b<=a):FloatKind.f64.format.sub (fb a) (fb b)=some (fb (a-b)):=by
 obtain ⟨k,hk,ha⟩:=jh a Ha;obtain ⟨j,hj,hb⟩:=jh b Ha;show Ieee.Format.sub Ieee.double _ _=_;unfold Ieee.Format.sub;rw [ha,hb];unfold Ieee.Datum.opposite Ieee.Datum.sum;simp only [Bool.not_false,tU,Kh,Ki,kz,uZ,oD a k _ (Nat.le_max_left k j),oD b j _ (Nat.le_max_right k j)];have e:((a*2 ^ (max k j):Nat):Int) + -((b*2 ^ (max k j):Nat):Int)=(((a-b)*2 ^ (max k j):Nat):Int):=by
  rw [Nat.sub_mul];have:=Nat.mul_le_mul_right (2 ^ (max k j)) hb';omega
 rw [e];have s:(if (((a-b)*2 ^ (max k j):Nat):Int)=0 then (false&&true) else decide ((((a-b)*2 ^ (max k j):Nat):Int)<0))=false:=by
  split
  ·rfl
  ·simp only [decide_eq_false_iff_not];omega
 rw [s,Int.natAbs_natCast];show some (Ieee.double.nearest false _ _)=_;rw [j4 _ _ Ha Ha,fb_eq _ Ha]
theorem order_fb (a b:Nat) (h:a<2 ^ 53) (h':b<2 ^ 53):FloatKind.f64.format.order (fb a) (fb b)=some (compare a b):=by
 obtain ⟨k,hk,ha⟩:=jh a Ha;obtain ⟨j,hj,hb⟩:=jh b Ha;show Ieee.Format.order Ieee.double _ _=_;unfold Ieee.Format.order;rw [ha,hb];unfold Ieee.Datum.order;simp only [tU,Kh,Ki,kz,oD a k _ (Nat.le_max_left k j),oD b j _ (Nat.le_max_right k j)]
 congr 1
 have p:=Nat.two_pow_pos (max k j);have h1:∀ x y:Nat,compare ((x*2 ^ (max k j):Nat):Int) ((y*2 ^ (max k j):Nat):Int)=compare x y:=by
  intro x y;rcases Nat.lt_trichotomy x y with g | g | g
  ·have g1:x*2 ^ (max k j)<y*2 ^ (max k j):=Nat.mul_lt_mul_of_pos_right g p;rw [Nat.compare_eq_lt.2 g];show compareOfLessAndEq _ _=_;unfold compareOfLessAndEq;rw [if_pos Ha]
  ·subst g;simp
  ·have g1:y*2 ^ (max k j)<x*2 ^ (max k j):=Nat.mul_lt_mul_of_pos_right g p;rw [Nat.compare_eq_gt.2 g];show compareOfLessAndEq _ _=_;unfold compareOfLessAndEq;rw [if_neg Ha,if_neg Ha]
 exact h1 a b
theorem toInt_fb (n:Nat) (h:n<2 ^ 53):(FloatKind.f64.decode (fb n)).toInt .zero=some (n:Int):=by
 obtain ⟨k,hk,ha⟩:=jh n h;show (Ieee.double.read (fb n)).toInt .zero=_;rw [ha];unfold Ieee.Datum.toInt Ieee.Datum.integral;have e1:(-(k:Int)).toNat=0:=Ha;have e2:(- -(k:Int)).toNat=k:=Ha;simp only [e1,e2,Nat.shiftLeft_eq,Nat.pow_zero,Nat.mul_one];have hc:Ieee.Toward.zero.cut false (n*2 ^ k) k=n:=by
  by_cases h0:n=0
  ·subst h0;unfold Ieee.Toward.cut;simp
  ·exact li .zero n k (Or.inl (Nat.mul_ne_zero (by have:=Nat.two_pow_pos k;omega) h0))
 rw [hc,kz];simp
theorem CF (n:Nat) (h:n<2 ^ 32):floatToIntVal .f64 (fb n) .u32=some (n:Int):=by
 unfold floatToIntVal;rw [toInt_fb n Ha];dsimp only
 rw [if_pos ⟨by have:IntKind.u32.min=0:=rfl
                omega,by have:IntKind.u32.max=4294967295:=rfl
                         omega⟩]
theorem Gp (a b:Nat) (h:a<2 ^ 53) (h':b<2 ^ 53):(FloatKind.f64.format.order (fb a) (fb b)==some .gt||FloatKind.f64.format.order (fb a) (fb b)==some .eq)=decide (b<=a):=by
 rw [order_fb a b h h'];rcases Nat.lt_trichotomy a b with g | g | g
 ·rw [Nat.compare_eq_lt.2 g];simp;omega
 ·subst g;simp
 ·rw [Nat.compare_eq_gt.2 g];simp;omega
theorem tV:fb 0=0:=by rw [fb_eq 0 Ha];rfl
theorem GX:fb 1=4607182418800017408:=by rw [fb_eq 1 Ha];decide
theorem CG:fb 65521=4679237951253643264:=by rw [fb_eq 65521 Ha];decide
end Go.Proofs.YtegjelaejbacnaaGreat.Fx
namespace Go.Proofs.YtegjelaejbacnaaGreat
structure dd where
 r:Nat
 i:Nat
 b:List Int
structure DM where
 now:List (List (List Int))
 sure:List (List (List Int))
 done:List dd
 uns:List Nat
 stops:Bool
 left:Nat
def dC (row:List (List Int)):List Value:=row.flatMap Bs
def dd.cs (x:dd):List Value:=.complex .f64 (Fx.fb x.r) (Fx.fb x.i) :: Bs x.b
def ie (l:List dd):List Value:=l.flatMap dd.cs
def rH (l:List Nat):List Value:=l.map fun (n:Nat)=>.int .i64 n
def cG (b:List Int):Prop:=b.length=64/\ax b
structure DM.Ok (m:DM):Prop where
 pos:0<m.now.length
 few:m.now.length<=8
 sureLen:m.sure.length=m.now.length
 unsLen:m.uns.length=m.now.length
 rows:∀ (r:Nat) (row:List (List Int)),m.now[r]?=some row->row.length<=1000/\(∀ b∈row,cG b)
 sures:∀ (r:Nat) (row:List (List Int)),m.sure[r]?=some row->(∃ row':List (List Int),m.now[r]?=some row'/\row.length=row'.length)/\(∀ b∈row,cG b)
 dones:∀ x∈m.done,(∃ row:List (List Int),m.now[x.r]?=some row/\(x.i<row.length\/x.i=65535))/\cG x.b
 unss:∀ (r u:Nat),m.uns[r]?=some u->u<=m.done.length
 left:m.left<=9223372036854775807
inductive de | none | hd | nowT | sureT | done | uns | now (r:Nat) | sure (r:Nat)
structure jd where
 sNow:Value
 sSure:Value
 sDone:Value
 sUns:Value
structure DevRaw (w:World) (O:Nat->de) (hp:Nat) (L:jd) (m:DM):Prop where
 hd:w.heap[hp]?=some (.cells #[L.sNow,L.sSure,L.sDone,L.sUns,.bool m.stops,.int .i64 m.left] 173 (0,0))
 ohd:O hp=.hd
 now:cf w (fun k=>O k=.nowT) (fun r k=>O k=.now r) 174 262 64 dC L.sNow m.now
 sure:cf w (fun k=>O k=.sureT) (fun r k=>O k=.sure r) 174 262 64 dC L.sSure m.sure
 done:aG w (fun k=>O k=.done) 281 65 L.sDone m.done.length (ie m.done)
 uns:aG w (fun k=>O k=.uns) 3 1 L.sUns m.uns.length (rH m.uns)
structure df (w:World) (O:Nat->de) (hp:Nat) (L:jd) (m:DM):Prop extends DevRaw w O hp L m where
 ok:m.Ok
section
variable {w w':World} {O:Nat->de} {hp:Nat} {L:jd} {m:DM}
theorem DevRaw.lt (h:DevRaw w O hp L m):hp<w.heap.size:=ai h.hd
theorem DevRaw.keep (h:DevRaw w O hp L m) (hk:∀ k,k<w.heap.size->O k≠.none->w'.heap[k]?=w.heap[k]?):DevRaw w' O hp L m where
 hd:=by rw [hk hp (ai h.hd) (by rw [h.ohd];simp)];exact h.hd
 ohd:=h.ohd
 now:=h.now.keep fun k hk' ho=>hk k hk' (by rcases ho with ho | ⟨r,ho⟩ <;> rw [ho] <;> simp)
 sure:=h.sure.keep fun k hk' ho=>hk k hk' (by rcases ho with ho | ⟨r,ho⟩ <;> rw [ho] <;> simp)
 done:=h.done.keep fun k hk' ho=>hk k hk' (by rw [ho];simp)
 uns:=h.uns.keep fun k hk' ho=>hk k hk' (by rw [ho];simp)
theorem df.keep (h:df w O hp L m) (hk:∀ k,k<w.heap.size->O k≠.none->w'.heap[k]?=w.heap[k]?):df w' O hp L m:=⟨h.toDevRaw.keep hk,h.ok⟩
theorem df.below (h:df w O hp L m) (hb:Below w.heap.size w w'):df w' O hp L m:=h.keep fun k hk _=>hb.block k hk
theorem df.drewN (h:df w O hp L m) (n:Nat):df (w.drewN n) O hp L m:=h.keep fun _ _ _=>rfl
theorem DevRaw.c0 (h:DevRaw w O hp L m):w.cell? ⟨hp,0,none⟩=some L.sNow:=af h.hd 0
theorem DevRaw.c1 (h:DevRaw w O hp L m):w.cell? ⟨hp,1,none⟩=some L.sSure:=af h.hd 1
theorem DevRaw.c2 (h:DevRaw w O hp L m):w.cell? ⟨hp,2,none⟩=some L.sDone:=af h.hd 2
theorem DevRaw.c3 (h:DevRaw w O hp L m):w.cell? ⟨hp,3,none⟩=some L.sUns:=af h.hd 3
theorem DevRaw.c4 (h:DevRaw w O hp L m):w.cell? ⟨hp,4,none⟩=some (.bool m.stops):=af h.hd 4
theorem DevRaw.c5 (h:DevRaw w O hp L m):w.cell? ⟨hp,5,none⟩=some (.int .i64 m.left):=af h.hd 5
theorem DevRaw.f (h:DevRaw w O hp L m) (i:Nat):w.frozen? ⟨hp,i,none⟩=false:=az h.hd i
theorem DevRaw.tail (h:DevRaw w O hp L m) (s:Bool) (l:Nat) (hw:w'.heap[hp]?=some (.cells #[L.sNow,L.sSure,L.sDone,L.sUns,.bool s,.int .i64 l] 173 (0,0)))
 (ho:∀ k,k<w.heap.size->k≠hp->w'.heap[k]?=w.heap[k]?):DevRaw w' O hp L { m with stops:=s,left:=l } where
 hd:=hw
 ohd:=h.ohd
 now:=h.now.keep fun k hk ho'=>ho k hk (fun e=>by subst e;have:=h.ohd;rcases ho' with ho' | ⟨r,ho'⟩ <;> rw [ho'] at this <;> cases this)
 sure:=h.sure.keep fun k hk ho'=>ho k hk (fun e=>by subst e;have:=h.ohd;rcases ho' with ho' | ⟨r,ho'⟩ <;> rw [ho'] at this <;> cases this)
 done:=h.done.keep fun k hk ho'=>ho k hk (fun e=>by subst e;have:=h.ohd;rw [ho'] at this;cases this)
 uns:=h.uns.keep fun k hk ho'=>ho k hk (fun e=>by subst e;have:=h.ohd;rw [ho'] at this;cases this)
end
def pe (w:World) (F:Nat->Prop) (hp:Nat) (m:DM):Prop:=∃ O L,df w O hp L m/\(∀ k,F k↔O k≠de.none)/\∀ k,F k->k<w.heap.size
theorem pe.keep {w w':World} {F:Nat->Prop} {hp:Nat} {m:DM} (h:pe w F hp m) (hk:∀ k,k<w.heap.size->F k->w'.heap[k]?=w.heap[k]?) (hs:w.heap.size<=w'.heap.size):pe w' F hp m:=by
 obtain ⟨O,L,h1,h2,h3⟩:=h;exact ⟨O,L,h1.keep fun k hk' ho=>hk k hk' ((h2 k).2 ho),h2,fun k hk=>Nat.lt_of_lt_of_le (h3 k hk) hs⟩
theorem pe.below {w w':World} {F:Nat->Prop} {hp:Nat} {m:DM} (h:pe w F hp m) (hb:Below w.heap.size w w'):pe w' F hp m:=h.keep (fun k hk _=>hb.block k hk) hb.size
theorem pe.touch {w w':World} {F G:Nat->Prop} {hp:Nat} {m:DM} (h:pe w F hp m) (ht:aD G w w') (hd:∀ k,F k->¬ G k):pe w' F hp m:=h.keep (fun k hk hf=>ht.block k hk (hd k hf)) ht.size
def jM (m:DM) (r:Int):Bool:=decide (0<=r)&&decide (r<m.now.length)
theorem gZ {w:World} {O:Nat->de} {hp:Nat} {L:jd} {m:DM} (h:df w O hp L m) (r:Int) (hr:i64 r) :
 Calls Tryz.prog 207 #[.pointer (some ⟨hp,0,none⟩),.int .i64 r] w fun e w'=>e=.returned (.bool (jM m r))/\w=w':=by
 obtain ⟨A,cap,hv,hc1,hc2⟩:=h.now.val;have c0:=h.c0;have hf:=h.ok.few;rw [hv] at c0;unfold jM;clear h hv;generalize m.now.length=n at *;by_cases h0:0<=r
 ·have d0:decide (0<=r)=true:=by simpa using h0
  by_cases h1:r<n
  ·go_enter Tryz.func207,Tryz.ntmps207;go_wp2;go_ret;exact ⟨aj (by simp <;> omega),rfl⟩
  ·go_enter Tryz.func207,Tryz.ntmps207;go_wp2;go_ret;exact ⟨aj (by simp <;> omega),rfl⟩
 ·go_enter Tryz.func207,Tryz.ntmps207;go_wp2;go_ret;exact ⟨aj (by simp <;> omega),rfl⟩
def aF (m:DM):Bool:=m.stops&&decide (m.left=0)
theorem ji {w:World} {O:Nat->de} {hp:Nat} {L:jd} {m:DM} (h:df w O hp L m) :
 Calls Tryz.prog 209 #[.pointer (some ⟨hp,0,none⟩)] w fun e w'=>e=.returned (.bool (aF m))/\w=w':=by
 have c4:=h.c4;have c5:=h.c5;unfold aF;clear h;generalize m.stops=s at *;generalize m.left=l at *;cases s
 ·go_enter Tryz.func209,Tryz.ntmps209;go_wp2;go_ret;exact ⟨rfl,rfl⟩
 ·by_cases hl:l=0
  ·subst hl;go_enter Tryz.func209,Tryz.ntmps209;go_wp2;go_ret;exact ⟨rfl,rfl⟩
  ·have hl1:(l==0)=false:=by simpa using hl
   have hl2:((l:Int)==0)=false:=by simpa using hl
   go_enter Tryz.func209,Tryz.ntmps209;go_wp2;go_ret;exact ⟨by simp [hl],rfl⟩
theorem nP (w:World) (r i:Nat) :
 Calls Tryz.prog 185 #[.int .i64 r,.int .i64 i] w fun e w'=>e=.returned (.complex .f64 (Fx.fb r) (Fx.fb i))/\w=w':=by
 go_enter Tryz.func185,Tryz.ntmps185;go_wp2;go_ret;exact ⟨rfl,rfl⟩
def tW (l:List (List (List Int))) (r:Nat):Nat:=(l.getD r []).length
def ig (m:DM) (r i:Int):Bool:=jM m r&&(decide (0<=i)&&decide (i<tW m.now r.toNat))
theorem jN {l:List (List (List Int))} {r:Nat} {row:List (List Int)} (h:l[r]?=some row):tW l r=row.length:=by unfold tW;rw [List.getD,h];rfl
theorem gw {w:World} {O:Nat->de} {hp:Nat} {L:jd} {m:DM} (h:df w O hp L m) (r i:Int) (hr:i64 r) (hi:i64 i) :
 Calls Tryz.prog 183 #[.pointer (some ⟨hp,0,none⟩),.int .i64 r,.int .i64 i] w fun e w'=>e=.returned (.bool (ig m r i))/\w=w':=by
 have HH:=He h;have HR:=He (gZ h r hr);by_cases hq:jM m r=true
 ·have hq':=hq;unfold jM at hq';simp only [Bool.and_eq_true,decide_eq_true_eq] at hq';obtain ⟨h0,h1⟩:=hq';obtain ⟨rn,rfl⟩:∃ rn:Nat,r=(rn:Int):=⟨r.toNat,Ha⟩
  obtain ⟨row,hrow⟩:∃ row,m.now[rn]?=some row:=⟨_,List.getElem?_eq_getElem Ha⟩
  obtain ⟨g,cap,u,hv,_,_,hc,_,hra⟩:=h.now.row hrow;obtain ⟨A,c2,rfl,k1,k2⟩:=hra.val;have c0:=h.c0;rw [hv] at c0;have few:=h.ok.few;have hl:=(h.ok.rows _ _ hrow).1;have eq:ig m rn i=(decide (0<=i)&&decide (i<row.length)):=by
   unfold ig;rw [hq,Int.toNat_natCast,jN hrow,Bool.true_and]
  rw [eq];rw [hq] at HR;clear h hv hra hrow eq hq;generalize row.length=n at *;generalize m.now.length=R at *;by_cases i0:0<=i
  ·have d0:decide (0<=i)=true:=by simpa using i0
   by_cases i1:i<n
   ·go_enter Tryz.func183,Tryz.ntmps183;go_wp2_with fail
    refine HR.out.mono ?_;rintro e w' ⟨rfl,rfl⟩;go_wp2;go_ret;exact ⟨aj (by simp <;> omega),rfl⟩
   ·go_enter Tryz.func183,Tryz.ntmps183;go_wp2_with fail
    refine HR.out.mono ?_;rintro e w' ⟨rfl,rfl⟩;go_wp2;go_ret;exact ⟨aj (by simp <;> omega),rfl⟩
  ·go_enter Tryz.func183,Tryz.ntmps183;go_wp2_with fail
   refine HR.out.mono ?_;rintro e w' ⟨rfl,rfl⟩;go_wp2;go_ret;exact ⟨aj (by simp <;> omega),rfl⟩
 ·have hq1:jM m r=false:=by simpa using hq
  have eq:ig m r i=false:=by unfold ig;rw [hq1];rfl
  rw [eq];rw [hq1] at HR;clear h eq hq hq1;go_enter Tryz.func183,Tryz.ntmps183;go_wp2_with fail
  refine HR.out.mono ?_;rintro e w' ⟨rfl,rfl⟩;go_wp2;go_ret;exact ⟨rfl,rfl⟩
theorem mO (n:Nat) (h:n<2 ^ 53):floatToIntVal .f64 (Fx.fb n) .i64=some (n:Int):=by
 unfold floatToIntVal;rw [Fx.toInt_fb n h];dsimp only
 rw [if_pos ⟨by have:IntKind.i64.min = -9223372036854775808:=rfl
                omega,by have:IntKind.i64.max=9223372036854775807:=rfl
                         omega⟩]
theorem Gq (a b:Nat) (h:a<2 ^ 53) (h':b<2 ^ 53):(FloatKind.f64.format.order (Fx.fb a) (Fx.fb b)==some .eq)=decide (a=b):=by
 rw [Fx.order_fb a b h h'];rcases Nat.lt_trichotomy a b with g | g | g
 ·rw [Nat.compare_eq_lt.2 g];simp;omega
 ·subst g;simp
 ·rw [Nat.compare_eq_gt.2 g];simp;omega
theorem GY:Fx.fb 65535=4679239875398991872:=by rw [Fx.fb_eq 65535 Ha];decide
theorem kA (w:World) (g cap n r i g' n' cap':Nat) (hr:r<n) (hi:i<n') (hn:n<=1000) (hn':n'<=1000) (hc:w.cell? ⟨g,r,none⟩=some (.slice (some ⟨g',0,none⟩) n' cap')) :
 Calls Tryz.prog 184 #[.slice (some ⟨g,0,none⟩) n cap,.complex .f64 (Fx.fb r) (Fx.fb i)] w fun e w'=>e=.returned (.pointer (some ⟨g',i*64,none⟩))/\w=w':=by
 have v1:=fun w:World=>run_convert_float_int w 175 3 .f64 .i64 _ _ (P:=Tryz.prog) Hc Tryz.underlying3 (mO r Ha);have v2:=fun w:World=>run_convert_float_int w 175 3 .f64 .i64 _ _ (P:=Tryz.prog) Hc Tryz.underlying3 (mO i Ha);go_enter Tryz.func184,Tryz.ntmps184;go_wp2;go_ret;exact ⟨rfl,rfl⟩
theorem xL (w:World) (n:Int) (hn:i64 n) :
 Calls Tryz.prog 147 #[.int .i64 n] w fun e w'=>e=.returned (.bool (decide (n<1)||decide (1000<n)))/\w=w':=by
 by_cases h1:n<1
 ·go_enter Tryz.func147,Tryz.ntmps147;go_wp2;go_ret;exact ⟨aj (by simp <;> omega),rfl⟩
 ·have d1:decide (n<1)=false:=by simpa using h1
  go_enter Tryz.func147,Tryz.ntmps147;go_wp2;go_ret;exact ⟨aj Hb,rfl⟩
theorem pA (w:World) (n:Int) :
 Calls Tryz.prog 211 #[.int .i64 n] w fun e w'=>e=.returned (.bool true)/\w=w':=by
 go_enter Tryz.func211,Tryz.ntmps211;go_wp2;go_ret;exact ⟨rfl,rfl⟩
def fS (l:List dd) (r i:Nat):Nat:=i+(l.drop i).findIdx (fun x=>x.r==r)
theorem sj (l:List dd) (r:Nat):fS l r l.length=l.length:=by unfold fS;simp
theorem pB {l:List dd} {r i:Nat} {x:dd} (h:l[i]?=some x) (hr:x.r=r):fS l r i=i:=by
 unfold fS;have hlt:=(List.getElem?_eq_some_iff.1 h).1;rw [List.drop_eq_getElem_cons hlt,(List.getElem?_eq_some_iff.1 h).2,List.findIdx_cons];simp [hr]
theorem va {l:List dd} {r i:Nat} {x:dd} (h:l[i]?=some x) (hr:x.r≠r):fS l r i=fS l r (i+1):=by
 unfold fS;have hlt:=(List.getElem?_eq_some_iff.1 h).1;rw [List.drop_eq_getElem_cons hlt,(List.getElem?_eq_some_iff.1 h).2,List.findIdx_cons,show (x.r==r)=false by simpa using hr];simp only [cond_false];omega
theorem CH {l:List dd} {r i:Nat} (h:i<=l.length):i<=fS l r i/\fS l r i<=l.length:=by
 unfold fS;have:=List.findIdx_le_length (xs:=l.drop i) (p:=fun x=>x.r==r);simp at this;omega
theorem CI {l:List dd} {r i:Nat} (h:fS l r i<l.length):∃ x,l[fS l r i]?=some x/\x.r=r:=by
 unfold fS at h ⊢;have h1:(l.drop i).findIdx (fun x=>x.r==r)<(l.drop i).length:=by simp;omega
 have h2:=List.findIdx_getElem (w:=h1);refine ⟨_,List.getElem?_eq_getElem h,?_⟩;simp only [List.getElem_drop] at h2;simpa using h2
theorem Ax (l:List dd) (h:∀ x∈l,x.b.length=64) (i:Nat):(ie l).drop (i*65)=ie (l.drop i):=by
 induction i generalizing l with
 | zero=>simp
 | succ i ih =>
   cases l with
   | nil=>simp [ie]
   | cons x l =>
     have hx:(dd.cs x).length=65:=by unfold dd.cs;simp [ar,h x Hb]
     have e:ie (x :: l)=dd.cs x++ie l:=by unfold ie;rw [List.flatMap_cons]
     rw [e,show (i+1)*65=(dd.cs x).length+i*65 by omega,<- List.drop_drop,List.drop_left,ih l (fun y hy=>h y (by simp [hy]))];rfl
theorem EL {l:List dd} (h:∀ x∈l,x.b.length=64) {i:Nat} {x:dd} (hx:l[i]?=some x) (j:Nat) (hj:j<65):(ie l)[i*65+j]?=(dd.cs x)[j]?:=by
 rw [<- List.getElem?_drop,Ax l h];have hlt:=(List.getElem?_eq_some_iff.1 hx).1;rw [List.drop_eq_getElem_cons hlt,(List.getElem?_eq_some_iff.1 hx).2];have hl:(dd.cs x).length=65:=by unfold dd.cs;simp [ar,h x (List.mem_of_getElem? hx)]
 have e:ie (x :: l.drop (i+1))=dd.cs x++ie (l.drop (i+1)):=by unfold ie;rw [List.flatMap_cons]
 rw [e,List.getElem?_append_left Ha]
theorem DM.Ok.blk {m:DM} (h:m.Ok):∀ x∈m.done,x.b.length=64:=fun x hx=>(h.dones x hx).2.1
theorem DM.Ok.done_r {m:DM} (h:m.Ok) {x:dd} (hx:x∈m.done):x.r<m.now.length/\x.i<=65535:=by
 obtain ⟨⟨row,h1,h2⟩,_⟩:=h.dones x hx;have:=(h.rows _ _ h1).1;exact ⟨(List.getElem?_eq_some_iff.1 h1).1,Ha⟩
theorem df.doneAt {w:World} {O:Nat->de} {hp:Nat} {L:jd} {m:DM} (h:df w O hp L m) {i:Nat} {x:dd} (hx:m.done[i]?=some x) :
 ∃ g cap,L.sDone=.slice (some ⟨g,0,none⟩) m.done.length cap/\O g=.done/\m.done.length<=cap/\cap<=9223372036854775807/\w.cell? ⟨g,i*65,none⟩=some (.complex .f64 (Fx.fb x.r) (Fx.fb x.i))/\w.rangeAt g (i*65+1) (Bs x.b)/\w.rangeAt g (i*65) (dd.cs x):=by
 have hlt:=(List.getElem?_eq_some_iff.1 hx).1;have h64:=h.ok.blk x (List.mem_of_getElem? hx);obtain ⟨g,cap,hv,ho,hg,hn,hm,hc,hf⟩:=h.done.pos Ha;have all:∀ j,j<65->w.cell? ⟨g,i*65+j,none⟩=(dd.cs x)[j]?:=fun j hj=>by rw [hc _ Ha,EL h.ok.blk hx j hj]
 refine ⟨g,cap,hv,ho,hn,hm,all 0 Ha,fun j v hj=>?_,fun j v hj=>?_⟩
 ·have hl:=(List.getElem?_eq_some_iff.1 hj).1;rw [ar] at hl;rw [show i*65+1+j=i*65+(j+1) by omega,all _ Ha];exact hj
 ·have hl:=(List.getElem?_eq_some_iff.1 hj).1;unfold dd.cs at hl;simp [ar] at hl;rw [all _ Ha];exact hj
theorem CJ {w:World} {O:Nat->de} {hp:Nat} {L:jd} {m:DM} (h:df w O hp L m) (r i:Nat) (hr:r<m.now.length) (hi:i<=m.done.length) (hm:m.done.length<=1000000) :
 Calls Tryz.prog 215 #[.pointer (some ⟨hp,0,none⟩),.int .i64 r,.int .i64 i] w fun e w'=>e=.returned (.int .i64 (fS m.done r i))/\w=w':=by
 obtain ⟨A,cap,hv,hc1,hc2⟩:=h.done.val;have c2:=h.c2;rw [hv] at c2;have few:=h.ok.few;have H:=He h;have HV:=He hv;clear h hv;generalize hn:m.done.length=n at *;generalize hR:m.now.length=R at *;have HN:=He hn;have HR:=He hR;clear hn hR;go_enter Tryz.func215,Tryz.ntmps215;go_wp2;refine aV (fun a' w'=>w'=w/\∃ k:Nat,k<=n/\Hid (fS m.done r k=fS m.done r i)/\∃ u7 u8 u9 u10 u11 u12 u13 u14 u15 u16 u17 u18 u19 u20 u21 u22 u23 u24 u25 u26 u27 u28 u29 u30:Value,a'={ tmps:=#[.pointer (some ⟨hp,0,none⟩),.int .i64 r,.int .i64 k,undef,undef,undef,.int .i64 0,u7,u8,u9,u10,u11,u12,u13,u14,u15,u16,u17,u18,u19,u20,u21,u22,u23,u24,u25,u26,u27,u28,u29,u30],defers:=[] })
  (fun a' _=>n-(intOf (a'.tmps.getD 2 undef)).toNat) rfl ?_ ?_
 ·intro HF;go_wp2;go_step3;rename_i hK;exact hK _ _ (HF _ _ ⟨rfl,i,hi,rfl,_,_,_,_,_,_,_,_,_,_,_,_,_,_,_,_,_,_,_,_,_,_,_,_,rfl⟩)
 ·rintro a' w' ⟨rfl,k,hk,HE,u7,u8,u9,u10,u11,u12,u13,u14,u15,u16,u17,u18,u19,u20,u21,u22,u23,u24,u25,u26,u27,u28,u29,u30,rfl⟩;by_cases hkn:k=n
  ·subst hkn;go_wp2;simp only [Exit.jump];go_ret;exact ⟨kX (by rw [<- HE.out,<- HN.out,sj]),rfl⟩
  ·have hkl:k<n:=Ha;have hq:((k:Int)==n)=false:=by simp;omega
   obtain ⟨x,hx⟩:∃ x,m.done[k]?=some x:=⟨_,List.getElem?_eq_getElem (by rw [HN.out];exact hkl)⟩
   obtain ⟨g,cap',hv,_,_,_,e0,_,_⟩:=H.out.doneAt hx;have hv2:=HV.out;rw [hv] at hv2;injection hv2 with e1 e2 e3
   subst e1;subst e3;have hxr:=H.out.ok.done_r (List.mem_of_getElem? hx);rw [HR.out] at hxr;have ef:=Gq x.r r Ha Ha;have HX:=He hx;have hfr:floatOfInt .f64 (r:Int)=Fx.fb r:=rfl;clear e2 hv hx;by_cases hxq:x.r=r
   ·rw [decide_eq_true hxq] at ef;have HQ:=He hxq;clear hxq;go_wp2;simp only [Exit.jump];go_ret;exact ⟨kX (by rw [<- HE.out,pB HX.out HQ.out]),rfl⟩
   ·rw [decide_eq_false hxq] at ef;have HQ:=He hxq;clear hxq;go_wp2;go_step3;refine ⟨rfl,⟨rfl,k+1,Ha,He ?_,_,_,_,_,_,_,_,_,_,_,_,_,_,_,_,_,_,_,_,_,_,_,_,_,rfl⟩,?_⟩
    ·rw [<- HE.out,va HX.out HQ.out]
    ·simp [intOf];omega
def dq (n:Int):Bool:=decide (n<1)||decide (1000<n)
theorem rJ (A:Option Addr) (zs:List Int) (c:Nat) (w:World) (hB:CB zs) (hy:jf w A zs) (hl:zs.length<=1000000) :
 Calls Tryz.prog 174 #[.slice A zs.length c,.func (.func 147) #[] #[]] w fun e w'=>(∃ k:Int,(0<=k↔zs.any dq=true)/\i64 k/\e=.returned (.int .i64 k))/\w=w':=by
 have HY:=He hy;have HB:=He hB;clear hy hB;generalize hn:zs.length=n at *;have HN:=He hn;clear hn;go_enter Tryz.func174,Tryz.ntmps174;go_wp2
 go_loop [8] (fun i=>∃ k:Nat,k<=n/\i=.int .i64 k/\Hid ((zs.take k).any dq=false)) (fun i=>n-(intOf i).toNat)
 case atStart=>exact ⟨0,Nat.zero_le _,rfl,He Hb⟩
 case round =>
  obtain ⟨k,hk,rfl,HK⟩:=hrel;by_cases hlt:k<n
  ·obtain ⟨x,hx⟩:∃ x,zs[k]?=some x:=⟨_,List.getElem?_eq_getElem (by rw [HN.out];exact hlt)⟩
   obtain ⟨a,rfl,hc⟩:=HY.out _ _ hx;have hxi:=HB.out x (List.mem_of_getElem? hx);have HX:=He hx;have HM:=He (xL w x hxi);clear hx;have e:(decide (x<1)||decide (1000<x))=dq x:=rfl;rw [e] at HM;clear e;cases hq:dq x
   ·have HQ:=He hq;rw [hq] at HM;clear hq;go_wp2_with fail
    refine HM.out.mono ?_;rintro e w' ⟨rfl,rfl⟩;go_wp2
    go_round
    case rel=>exact ⟨k+1,Ha,by go_num,He (by rw [au HX.out,List.any_append,HK.out];simp [HQ.out])⟩
    case measure=>simp [intOf];omega
   ·have HQ:=He hq;rw [hq] at HM;clear hq;go_wp2_with fail
    refine HM.out.mono ?_;rintro e w' ⟨rfl,rfl⟩;go_wp2;go_ret;refine ⟨⟨k,?_,by constructor <;> omega,rfl⟩,rfl⟩;constructor
    ·intro _;exact List.any_eq_true.2 ⟨x,List.mem_of_getElem? HX.out,HQ.out⟩
    ·intro _;omega
  ·obtain rfl:k=n:=Ha;go_wp2;go_ret;refine ⟨⟨-1,?_,by constructor <;> omega,rfl⟩,rfl⟩;have:=HK.out;rw [List.take_of_length_le (by rw [HN.out];exact Nat.le_refl _)] at this;constructor
   ·intro h;omega
   ·rintro ⟨x,h1,h2⟩;rw [List.any_eq_true.2 ⟨x,h1,h2⟩] at this;cases this
theorem nQ (A:Option Addr) (zs:List Int) (c:Nat) (w:World) (hB:CB zs) (hy:jf w A zs) (hl:zs.length<=1000000) :
 Calls Tryz.prog 139 #[.slice A zs.length c,.func (.func 147) #[] #[]] w fun e w'=>e=.returned (.bool (zs.any dq))/\w=w':=by
 have HF:=He (rJ A zs c w hB hy hl);clear hB hy;generalize zs.length=n at *;generalize zs.any dq=b at *;go_enter Tryz.func139,Tryz.ntmps139;go_wp2_with fail
 refine HF.out.mono ?_;rintro e w' ⟨⟨k,hk,hi,rfl⟩,rfl⟩;have HK:=He hk;clear hk;go_wp2;go_ret;refine ⟨aj ?_,rfl⟩;rw [Bool.eq_iff_iff,decide_eq_true_eq];exact HK.out
def mP (zs:List Int):Bool:=decide (0<zs.length)&&(decide (zs.length<=8)&&!zs.any dq)
theorem CK (A:Option Addr) (zs:List Int) (c:Nat) (w:World) (hB:CB zs) (hy:jf w A zs) (hl:zs.length<=1000000) :
 Calls Tryz.prog 90 #[.slice A zs.length c] w fun e w'=>e=.returned (.bool (mP zs))/\w=w':=by
 have HF:=He (nQ A zs c w hB hy hl);unfold mP;clear hB hy;generalize zs.length=n at *;generalize zs.any dq=b at *;by_cases h0:n<1
 ·go_enter Tryz.func90,Tryz.ntmps90;go_wp2;go_ret;exact ⟨aj (by simp;omega),rfl⟩
 ·have d0:decide ((n:Int)<1)=false:=by simp;omega
  by_cases h8:8<n
  ·have d8:decide (8<(n:Int))=true:=by simp;omega
   go_enter Tryz.func90,Tryz.ntmps90;go_wp2;go_ret;exact ⟨aj (by simp;omega),rfl⟩
  ·have d8:decide (8<(n:Int))=false:=by simp;omega
   go_enter Tryz.func90,Tryz.ntmps90;go_wp2_with fail
   refine HF.out.mono ?_;rintro e w' ⟨rfl,rfl⟩;go_wp2;go_ret;exact ⟨aj (by cases b <;> simp <;> omega),rfl⟩
theorem vb (l:List (List Int)) (h:∀ x∈l,x.length=64):(dC l).length=l.length*64:=by
 induction l with
 | nil=>rfl
 | cons x l ih =>
   have:=ih (fun y hy=>h y (by simp [hy]));have hx:=h x Hb;unfold dC at this ⊢;rw [List.flatMap_cons,List.length_append,this,ar,hx,List.length_cons];omega
theorem sk (l:List (List Int)) (h:∀ x∈l,x.length=64) (i:Nat):(dC l).drop (i*64)=dC (l.drop i):=by
 induction i generalizing l with
 | zero=>simp
 | succ i ih =>
   cases l with
   | nil=>simp [dC]
   | cons x l =>
     have hx:(Bs x).length=64:=by simp [ar,h x Hb]
     have e:dC (x :: l)=Bs x++dC l:=by unfold dC;rw [List.flatMap_cons]
     rw [e,show (i+1)*64=(Bs x).length+i*64 by omega,<- List.drop_drop,List.drop_left,ih l (fun y hy=>h y (by simp [hy]))];rfl
theorem EM {l:List (List Int)} (h:∀ x∈l,x.length=64) {i:Nat} {x:List Int} (hx:l[i]?=some x) (j:Nat) (hj:j<64):(dC l)[i*64+j]?=(Bs x)[j]?:=by
 rw [<- List.getElem?_drop,sk l h];have hlt:=(List.getElem?_eq_some_iff.1 hx).1;rw [List.drop_eq_getElem_cons hlt,(List.getElem?_eq_some_iff.1 hx).2];have hl:(Bs x).length=64:=by simp [ar,h x (List.mem_of_getElem? hx)]
 have e:dC (x :: l.drop (i+1))=Bs x++dC (l.drop (i+1)):=by unfold dC;rw [List.flatMap_cons]
 rw [e,List.getElem?_append_left Ha]
theorem cf.blk {w:World} {OT:Nat->Prop} {OR:Nat->Nat->Prop} {ET ER:TypeId} {v:Value} {rows:List (List (List Int))} (h:cf w OT OR ET ER 64 dC v rows) {r i:Nat} {row:List (List Int)} {b:List Int}
 (hr:rows[r]?=some row) (hb:row[i]?=some b) (h64:∀ x∈row,x.length=64) :
 ∃ g cap g' cap',v=.slice (some ⟨g,0,none⟩) rows.length cap/\OT g/\OR r g'/\g<w.heap.size/\g'<w.heap.size/\w.cell? ⟨g,r,none⟩=some (.slice (some ⟨g',0,none⟩) row.length cap')/\w.rangeAt g' (i*64) (Bs b) /\
  aG w (OR r) ER 64 (.slice (some ⟨g',0,none⟩) row.length cap') row.length (dC row):=by
 obtain ⟨g,cap,u,hv,ho,hg,hc,hf,hra⟩:=h.row hr;have hlt:=(List.getElem?_eq_some_iff.1 hb).1;obtain ⟨g',cap',rfl,ho',hg',hn,hm,hc',hf'⟩:=hra.pos Ha;refine ⟨g,cap,g',cap',hv,ho,ho',hg,hg',hc,fun j x hj=>?_,hra⟩;have hl:=(List.getElem?_eq_some_iff.1 hj).1;have:=h64 b (List.mem_of_getElem? hb);rw [ar] at hl;rw [hc' _ Ha,EM h64 hb j Ha];exact hj
theorem xM:(Tryz.prog.info? 262).map (fun i=>(i.zero,i.size,i.bytes))=some (some (.agg (Array.replicate 64 (.int .u8 0))),64,64):=Hc
theorem me:(Tryz.prog.info? 262).map (·.size)=some 64:=Hc
def vc (hp r i g B:Nat) (sNow:Value) (b:List Int) (k:Nat) (v:Value) (w:World):Prop :=
 match k with
 | 0 | 1 | 2=>v=.pointer (some ⟨hp,0,none⟩)
 | 3=>v=sNow
 | 4=>v=.int .i64 r
 | 5=>v=.int .i64 i
 | 6=>v=.complex .f64 (Fx.fb r) (Fx.fb i)
 | 7 | 8=>v=.pointer (some ⟨g,i*64,none⟩)
 | 9=>v=.agg (Bs b).toArray
 | 10=>∃ q C,v=.pointer (some ⟨q,0,none⟩)/\B<=q/\C.size=64/\w.heap[q]?=some (.cells C 262 (0,0))
 | _=>True
theorem vc.on {hp r i g B:Nat} {sNow:Value} {b:List Int} {k:Nat} {v:Value} {w w':World} (h:vc hp r i g B sNow b k v w) (hg:w.grownBy w' none):vc hp r i g B sNow b k v w':=by
 unfold vc at *;split <;> try exact h
 ·obtain ⟨q,C,e,h1,h2,h3⟩:=h;exact ⟨q,C,e,h1,h2,by rw [hg.block q (ai h3) Hb];exact h3⟩
 ·trivial
theorem CL {w:World} {O:Nat->de} {hp:Nat} {L:jd} {m:DM} (h:df w O hp L m) (r i:Nat) {row:List (List Int)} {b:List Int} (hr:m.now[r]?=some row) (hb:row[i]?=some b) :
 Calls Tryz.prog 151 #[.pointer (some ⟨hp,0,none⟩),.int .i64 r,.int .i64 i] w fun e w'=>(∃ q,e=.returned (.tuple #[.slice (some ⟨q,0,none⟩) 64 64,.bool true])/\w.heap.size<=q/\w'.heap[q]?=some (.cells (Bs b).toArray 262 (0,0)))/\Below w.heap.size w w':=by
 have HH:=He h;have hok:=h.ok.rows _ _ hr;have h64:∀ x∈row,x.length=64:=fun x hx=>(hok.2 x hx).1;have hn1:=hok.1;have hrl:=(List.getElem?_eq_some_iff.1 hr).1;have hil:=(List.getElem?_eq_some_iff.1 hb).1;have few:=h.ok.few;have hbl:(Bs b).length=64:=by rw [ar];exact h64 b (List.mem_of_getElem? hb)
 have hB:=He (gw h r i (by constructor <;> omega) (by constructor <;> omega));have hbt:ig m r i=true:=by
  unfold ig jM;rw [Int.toNat_natCast,jN hr];simp;omega
 rw [hbt] at hB;clear hbt;have BLK:Hid (∀ W,Below w.heap.size w W->∃ g cap g' cap',L.sNow=.slice (some ⟨g,0,none⟩) m.now.length cap/\W.cell? ⟨g,r,none⟩=some (.slice (some ⟨g',0,none⟩) row.length cap')/\W.rangeAt g' (i*64) (Bs b)):=fun W hW=>by
  obtain ⟨g,cap,g',cap',hv,_,_,_,_,hc,hra,_⟩:=(h.below hW).now.blk hr hb h64;exact ⟨g,cap,g',cap',hv,hc,hra⟩
 obtain ⟨g,cap,g',cap',hv,_,_,hgl,hgl',hc,hra,_⟩:=h.now.blk hr hb h64;have HV:=He hv;have HC:=He hc;have HRA:=He hra;have HBL:=He hbl;clear h hr hb h64 hok hv hc hra hbl;generalize hR:m.now.length=R at *;generalize hn:row.length=n at *;have HR:=He hR;have HNN:=He hn;clear hR hn;go_enter Tryz.func151,Tryz.ntmps151;go_wp2_with fail
 refine hB.out.mono ?_;rintro e w' ⟨rfl,rfl⟩;go_wp2_with fail
 go_upto_region 3 with fail
 go_cut [8] (fun s wx=>∃ q:Nat,s=.pointer (some ⟨q,0,none⟩)/\w.heap.size<=q/\Below w.heap.size w wx/\wx.heap[q]?=some (.cells (Bs b).toArray 262 (0,0)))
 case first =>
  have grefl:∀ W:World,W.grownBy W none:=fun W=>World.grownBy.refl W _;refine iI (vc hp r i g' w.heap.size L.sNow b) (Below w.heap.size w) (fun w w'=>w.grownBy w' none) Hc Hc (fun j v w w' h hg=>h.on hg) ((Below.refl _ _).drew) ?_;simp only [bW];refine ⟨?_,?_,?_,?_,?_,?_,?_,?_,?_,?_,?_,?_⟩
  ·refine aA.of rfl fun T W hag hJ hd=>?_;have e0:=Hf hag 0;exact Hi
  ·refine aA.of rfl fun T W hag hJ hd=>?_;have d14:T.getD 14 undef=_:=Hg hd 0 rfl;exact Hi
  ·refine aA.of rfl fun T W hag hJ hd=>?_;have d15:T.getD 15 undef=_:=Hg hd 1 rfl;exact Hi
  ·refine aA.of rfl fun T W hag hJ hd=>?_;have d16:T.getD 16 undef=_:=Hg hd 2 rfl;have fct0:=(HH.out.below hJ).c0;exact Hi
  ·refine aA.of rfl fun T W hag hJ hd=>?_;have e1:=Hf hag 1;exact Hi
  ·refine aA.of rfl fun T W hag hJ hd=>?_;have e2:=Hf hag 2;exact Hi
  ·refine aA.of rfl fun T W hag hJ hd=>?_;have d18:T.getD 18 undef=_:=Hg hd 4 rfl;have d19:T.getD 19 undef=_:=Hg hd 5 rfl;clear hag hd;go_simp;refine (nP W r i).mono ?_;rintro e w' ⟨rfl,rfl⟩;exact ⟨_,rfl,rfl,hJ,grefl _⟩
  ·refine aA.of rfl fun T W hag hJ hd=>?_;have d17:T.getD 17 undef=_:=Hg hd 3 rfl;have d20:T.getD 20 undef=_:=Hg hd 6 rfl;rw [HV.out] at d17;clear hag hd;go_simp;refine (kA W g cap R r i g' n cap' hrl hil Ha hn1 (cF hJ HC.out)).mono ?_;rintro e w' ⟨rfl,rfl⟩;exact ⟨_,rfl,rfl,hJ,grefl _⟩
  ·refine aA.of rfl fun T W hag hJ hd=>?_;have d21:T.getD 21 undef=_:=Hg hd 7 rfl;exact Hi
  ·refine aA.of rfl fun T W hag hJ hd=>?_;have d22:T.getD 22 undef=_:=Hg hd 8 rfl;refine wp_load_mid 262 (.tmp 22) rfl g' (i*64) d22 (Bs b) _ (fun j v hj=>cF hJ (HRA.out j v hj)) Tryz.underlying262 rfl (by rw [HBL.out];exact me) ?_;exact ⟨_,rfl,rfl,hJ,grefl _⟩
  ·refine aA.of rfl fun T W hag hJ hd=>?_;obtain ⟨i0,hi,hz0,hz1,hz2⟩:=info_parts xM;refine bV 262 rfl i0 _ hi hz0 ?_;refine ⟨_,rfl,⟨W.heap.size,_,rfl,hJ.size,?_,heap_alloc_new W _⟩,hJ.alloc hJ.size _,World.grownBy_alloc W _ _⟩;simp [Value.cells]
  ·refine jK.of rfl fun T W hag hJ hd=>?_;obtain ⟨q,C,(e8:T.getD 8 undef=_),hq,hCs,hqc⟩:=hd 10 _ Hb rfl;have d23:T.getD 23 undef=_:=hd 9 _ Hb rfl;refine wp_store_mid 262 (.tmp 8) (.tmp 23) rfl q 0 _ e8 d23 (fun j hj=>?_) (by simp only [List.size_toArray,HBL.out];exact me) (all_oneCell_toArray (gQ b)) ?_
   ·simp only [List.size_toArray,HBL.out] at hj;rw [Nat.zero_add,af hqc j,az hqc j];exact ⟨by rw [Array.getElem?_eq_getElem Ha];rfl,rfl⟩
   ·have hblk:=gY q 262 (Bs b) 0 W C.toList (by simpa using hqc) (by rw [HBL.out];simp [hCs]);rw [l9 _ _ (by rw [HBL.out];simp [hCs])] at hblk;have hbel:Below w.heap.size w (W.setCells q 0 (Bs b)) :=
     ((aD.of_below hJ (fun _=>False)).trans' ((aD.refl (fun k=>k=q) W).setCells rfl 0 (Bs b)) (fun x hx=>Or.inr Ha)).below (Nat.le_refl _) (fun k hk=>hk.elim)
    have HM:=He (And.intro hq (And.intro hbel hblk));obtain ⟨f,hf,hT⟩:=aH hag;have h8:f 8=_:=(hf 8).trans e8;generalize (W.setCells q 0 (Bs b))=W2 at *;clear hag hd d23 e8 hf hqc hblk hbel;rw [hT];clear hT;simp only [List.filterMap_cons,List.filterMap_nil,List.foldl_cons,List.foldl_nil,List.setIfInBounds_toArray,List.set_cons_succ,List.set_cons_zero,h8];rename_i hJc hKc;go_wp2_with fail
    refine hJc _ _ ?_
    repeat apply Exists.intro
    exact ⟨⟨q,rfl,HM.out⟩,rfl⟩
 case rest =>
  obtain ⟨q,rfl,hq,hb,hc⟩:=hcut;have HM:=He (And.intro hq (And.intro hb hc));clear hq hb hc;go_wp2
  go_ret2
  exact ⟨⟨q,rfl,HM.out.1,HM.out.2.2⟩,HM.out.2.1⟩
theorem EN {w:World} {O:Nat->de} {hp:Nat} {L:jd} {m:DM} (h:df w O hp L m) (r i:Int) (hr:i64 r) (hi:i64 i) (hb:ig m r i=false) :
 Calls Tryz.prog 151 #[.pointer (some ⟨hp,0,none⟩),.int .i64 r,.int .i64 i] w fun e w'=>e=.returned (.tuple #[.slice none 0 0,.bool false])/\w=w':=by
 have hB:=He (gw h r i hr hi);rw [hb] at hB;clear h hb;go_enter Tryz.func151,Tryz.ntmps151;go_wp2_with fail
 refine hB.out.mono ?_;rintro e w' ⟨rfl,rfl⟩;go_wp2
 go_ret2
 exact ⟨rfl,rfl⟩
theorem CM (l:List (List Int)) (h:∀ x∈l,x.length=64) (i:Nat) (b:List Int) (hi:i<l.length) (hb:b.length=64):dC (l.set i b)=splice (dC l) (i*64) (Bs b):=by
 unfold splice;have e1:(dC l).take (i*64)=dC (l.take i):=by
  have h1:dC l=dC (l.take i)++dC (l.drop i):=by unfold dC;rw [<- List.flatMap_append,List.take_append_drop]
  have h2:(dC (l.take i)).length=i*64:=by rw [vb _ (fun x hx=>h x (List.mem_of_mem_take hx)),List.length_take];congr 1;omega
  rw [h1,<- h2,List.take_left]
 have e2:(dC l).drop (i*64+(Bs b).length)=dC (l.drop (i+1)):=by rw [ar,hb,show i*64+64=(i+1)*64 by omega,sk l h]
 rw [e1,e2,List.set_eq_take_append_cons_drop,if_pos hi];unfold dC;rw [List.flatMap_append,List.flatMap_cons]
theorem cf.setBlk {w:World} {OT:Nat->Prop} {OR:Nat->Nat->Prop} {ET ER:TypeId} {v:Value} {rows:List (List (List Int))} (h:cf w OT OR ET ER 64 dC v rows) {r i:Nat} {row:List (List Int)}
 (hr:rows[r]?=some row) (hi:i<row.length) (h64:∀ x∈row,x.length=64) (b:List Int) (hb:b.length=64) {g cap g' n' cap':Nat} (hv:v=.slice (some ⟨g,0,none⟩) rows.length cap)
 (hc:w.cell? ⟨g,r,none⟩=some (.slice (some ⟨g',0,none⟩) n' cap')) (hT:¬ OT g') (hR:∀ r',r'≠r->¬ OR r' g'):cf (w.setCells g' (i*64) (Bs b)) OT OR ET ER 64 dC v (rows.set r (row.set i b)):=by
 obtain ⟨vs,h1,h2⟩:=h;obtain ⟨u,hu,h3⟩:=h2 r row hr;subst hv;have hu2:=h1.one hu;rw [hu2] at hc;injection hc with hc
 subst hc;obtain ⟨_,_,e3,_,_⟩:=h3.val;injection e3 with _ e3 _
 subst e3;have oth:∀ k,k≠g'->(w.setCells g' (i*64) (Bs b)).heap[k]?=w.heap[k]?:=fun k hk=>bq g' _ _ _ k hk;refine ⟨vs,?_,fun r' row' hr'=>?_⟩
 ·rw [List.length_set];exact h1.keep fun k _ ho=>oth k (fun e=>hT (e ▸ ho))
 ·by_cases e:r'=r
  ·subst e;rw [List.getElem?_set_self (List.getElem?_eq_some_iff.1 hr).1] at hr';injection hr' with hr'
   subst hr';refine ⟨_,hu,?_⟩;rw [List.length_set,CM row h64 i b hi hb];exact h3.storedMany (i*64) (Bs b) (by rw [ar,hb];omega)
  ·rw [List.getElem?_set_ne (fun h=>e h.symm)] at hr';obtain ⟨u',hu',h4⟩:=h2 r' row' hr';exact ⟨u',hu',h4.keep fun k _ ho=>oth k (fun e'=>hR r' e (e' ▸ ho))⟩
theorem dD.addr {w:World} {A:Option Addr} {bs:List Int} (h:dD w A bs) (h0:0<bs.length):∃ g o,A=some ⟨g,o,none⟩/\w.rangeAt g o (Bs bs):=by
 obtain ⟨x,hx⟩:∃ x,bs[0]?=some x:=⟨_,List.getElem?_eq_getElem h0⟩
 obtain ⟨⟨g,o,s⟩,rfl,hc⟩:=h 0 x hx;have hs:s=none:=by
  unfold World.cell? Addr.add at hc;simp only [if_true] at hc;cases s with
  | none=>rfl
  | some _=>split at hc <;> simp at hc
 subst hs;refine ⟨g,o,rfl,fun j v hj=>?_⟩;have hl:=(List.getElem?_eq_some_iff.1 hj).1;rw [ar] at hl;obtain ⟨a,e,h2⟩:=h j _ (List.getElem?_eq_getElem hl);injection e with e;subst e
 rw [Addr.add_mid] at h2;rw [h2];unfold Bs at hj;rw [List.getElem?_map,List.getElem?_eq_getElem hl] at hj;exact hj
theorem pC:(Tryz.prog.info? 281).map (fun i=>(i.zero,i.size,i.bytes))=some (some (.agg (#[.complex .f64 0 0]++Array.replicate 64 (.int .u8 0))),65,80):=Hc
theorem CN:(Tryz.prog.info? 281).map (·.size)=some 65:=Hc
theorem zn (parts:List (Nat × Value)):Tryz.prog.built 281 parts=Instr.fill (#[(0,1),(1,64)][·]?) (#[.complex .f64 0 0]++Array.replicate 64 (.int .u8 0)) parts:=Hc
theorem vd (r i:Nat) (b:List Int) (hb:b.length=64):Tryz.prog.built 281 [(0,.complex .f64 (Fx.fb r) (Fx.fb i)),(1,.agg (Bs b).toArray)]=some (dd.cs ⟨r,i,b⟩).toArray:=by
 rw [zn,ge (off:=0) (size:=1) rfl rfl Hb,ge (off:=1) (size:=64) rfl (by simp [Value.cells,ar,hb]) (by simp [splice,Value.cells])];unfold Instr.fill
 congr 1
 unfold splice dd.cs;simp [Value.cells,ar,hb]
theorem vf (r i:Nat):Tryz.prog.built 281 [(0,.complex .f64 (Fx.fb r) (Fx.fb i))]=some (dd.cs ⟨r,i,List.replicate 64 0⟩).toArray:=by
 rw [zn,ge (off:=0) (size:=1) rfl rfl Hb];unfold Instr.fill
 congr 1
theorem oE {P:Program} {o:Oper} {a:Act} {w:World} {K:Act->World->Prop} {Q:Exit->Act->World->Prop} (t:TypeId) (parts:Array (Nat × Operand)) (ho:o.op=.build t parts) (cells:Array Value)
 (hf:P.built t (parts.map fun (i,x)=>(i,a.eval x)).toList=some cells) (h:K (a.put o.dst (.agg cells)) w):o.wp P a w K Q:=by
 refine wp_build t parts ho (by rw [hf];rfl) ?_;rw [hf];exact h
theorem dd.cs_length {x:dd} (h:x.b.length=64):x.cs.length=65:=by unfold dd.cs;simp [ar,h]
theorem dd.cs_one (x:dd):∀ u∈x.cs,u.oneCell'=true:=by
 intro u hu;unfold dd.cs at hu;rcases List.mem_cons.1 hu with rfl | hu
 ·rfl
 ·exact gQ _ u hu
theorem Ay (l:List dd) (x:dd):ie (l++[x])=ie l++x.cs:=by unfold ie;simp
noncomputable def fL (O:Nat->de) (B:Nat) (v:Value):Nat->de:=fun k=>open Classical in if B<=k/\v.ownBlock=some k then .done else O k
theorem fC {O:Nat->de} {B:Nat} {v:Value} {k:Nat} (h:k<B):fL O B v k=O k:=by unfold fL;rw [if_neg (fun h'=>Ha)]
theorem DevRaw.push {w w':World} {O:Nat->de} {hp:Nat} {L:jd} {m:DM} (h:DevRaw w O hp L m) (x:dd) (v:Value)
 (hd:w'.heap[hp]?=some (.cells #[L.sNow,L.sSure,v,L.sUns,.bool m.stops,.int .i64 m.left] 173 (0,0)))
 (hk:∀ k,k<w.heap.size->k≠hp->O k≠.done->w'.heap[k]?=w.heap[k]?)
 (hv:aG w' (fun k=>O k=.done\/w.heap.size<=k) 281 65 v (m.done.length+1) (ie m.done++x.cs)) :
 DevRaw w' (fL O w.heap.size v) hp { L with sDone:=v } { m with done:=m.done++[x] } where
 hd:=hd
 ohd:=by rw [fC (ai h.hd)];exact h.ohd
 now:=(h.now.owner (OT':=fun k=>fL O w.heap.size v k=.nowT) (OR':=fun r k=>fL O w.heap.size v k=.now r) (fun k hk ho=>by rw [fC hk];exact ho) (fun r k hk ho=>by rw [fC hk];exact ho)).keep fun k hk' ho=>by
  rw [fC hk'] at ho;exact hk k hk' (fun e=>by subst e;have:=h.ohd;rcases ho with ho | ⟨r,ho⟩ <;> rw [ho] at this <;> cases this) (by rcases ho with ho | ⟨r,ho⟩ <;> rw [ho] <;> simp)
 sure:=(h.sure.owner (OT':=fun k=>fL O w.heap.size v k=.sureT) (OR':=fun r k=>fL O w.heap.size v k=.sure r) (fun k hk ho=>by rw [fC hk];exact ho) (fun r k hk ho=>by rw [fC hk];exact ho)).keep fun k hk' ho=>by
  rw [fC hk'] at ho;exact hk k hk' (fun e=>by subst e;have:=h.ohd;rcases ho with ho | ⟨r,ho⟩ <;> rw [ho] at this <;> cases this) (by rcases ho with ho | ⟨r,ho⟩ <;> rw [ho] <;> simp)
 done:=by
  show aG w' _ _ 65 v (m.done++[x]).length (ie (m.done++[x]));rw [Ay,List.length_append];refine ⟨hv.1,fun g hg=>?_⟩;rcases hv.2 g hg with h1 | h1
  ·unfold fL;split
   ·rfl
   ·exact h1
  ·unfold fL;rw [if_pos ⟨h1,hg⟩]
 uns:=(h.uns.owner (Own':=fun k=>fL O w.heap.size v k=.uns) (fun k hk ho=>by rw [fC hk];exact ho)).keep fun k hk' ho=>by
  rw [fC hk'] at ho;exact hk k hk' (fun e=>by subst e;have:=h.ohd;rw [ho] at this;cases this) (by rw [ho];simp)
theorem iY {O:Nat->de} {B:Nat} {v:Value} {k:Nat} (h:fL O B v k≠.none):O k≠.none\/(B<=k/\v.ownBlock=some k):=by
 unfold fL at h;split at h
 ·rename_i h';exact Or.inr h'
 ·exact Or.inl h
def f7 (w w':World) (F:Nat->Prop) (hp:Nat) (m:DM):Prop:=∃ F',pe w' F' hp m/\aD F w w'/\∀ k,F' k->F k\/w.heap.size<=k
end Go.Proofs.YtegjelaejbacnaaGreat
