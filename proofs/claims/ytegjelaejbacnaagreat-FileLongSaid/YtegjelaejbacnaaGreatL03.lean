/- For FileLong: contracts and facts, part 3. -/
import Derived.Laws.CopyRow
import Derived.Laws.ResultCell
import Derived.Laws.Tables
import Derived.Laws.Rows
import Derived.Laws.StructEq
import Derived.Laws.BitsAllLaws
import Derived.Stop.BytesEq
import Derived.Laws.FloatArith
import Derived.Laws.Cover3
import Derived.Lib.Hide
import Derived.Laws.BitsLemmas
import Derived.Laws.ShiftsVar
import Derived.Deep.DeepCutAuto
import Derived.Test.YtegjelaejbacnaaGreatL01
import Derived.Test.YtegjelaejbacnaaGreatL02
set_option maxRecDepth 100000
set_option maxHeartbeats 25600000
set_option linter.unusedVariables false
open Go.ChangeShapes Go.WideShapes Go.ChangeAt Go.RowKit Go
namespace Go.Proofs.YtegjelaejbacnaaGreat
def blkL (k:Int) (bs:List Int):List Value:=.int .i64 k :: Bs bs
theorem cZ (g o i:Nat):(⟨g,o,none⟩:Addr).add i=⟨g,o+i,none⟩:=by unfold Addr.add;split <;> simp_all
theorem DY {W:World} {g:Nat} {C:Array Value} {t:TypeId} {a:Nat × Nat} {k:Int} {bs:List Int} (h:W.heap[g]?=some (.cells C t a)) (b:C.toList=blkL k bs):dK W (some ⟨g,1,none⟩) bs:=by
 intro i x c;refine ⟨_,rfl,?_⟩;rw [cZ,cell_of_row _ _ _ _ _ _ h,<- Array.getElem?_toList,b,Nat.add_comm];exact kR c
theorem kX {W:World} {g:Nat} {C:Array Value} {t:TypeId} {a:Nat × Nat} {k:Int} {bs:List Int} (h:W.heap[g]?=some (.cells C t a)) (b:C.toList=blkL k bs):W.cell? ⟨g,0,none⟩=some (.int .i64 k):=by
 rw [cell_of_row _ _ _ _ _ _ h,<- Array.getElem?_toList,b];rfl
def u32 (g:Int):Prop:=0<=g/\g<=4294967295
theorem qb {P:Program} (w:World) (t:TypeId) (xs ys:Array Value):(binOp .neq t (.agg xs) (.agg ys)).run P w=((Op.equalIn 10000 t (.agg xs) (.agg ys)).run P w).andThen fun b w'=>.ok (.bool (!b)) w':=by
 simp only [binOp];simp [Op.equal,Op.maxDepth]
theorem am {w:World} {g:Nat} {C D:Array Value} {t:TypeId} {a:Nat × Nat} (h:w.heap[g]?=some (.cells C t a)):(w.setRow g D).heap[g]?=some (.cells D t a):=setRow_heap w g C D t a h
theorem below_setRow {B g:Nat} {w W:World} (h:Below B w W) (b:B<=g) (D:Array Value):Below B w (W.setRow g D) :=
 ⟨h.os,h.tape,h.output,by simpa using h.size,fun k a=>by rw [setRow_other W g k D Ha];exact h.block k a⟩
def az:List Int:=List.replicate 56 0
def ab (k:Int) (bs:List Int):Array Value:=(blkL k bs).toArray
theorem bu (k:Int) (bs:List Int):(ab k bs).toList=blkL k bs:=by unfold ab;simp
theorem aP {k:Int} {bs:List Int} (h:bs.length=56):(ab k bs).size=57:=by unfold ab blkL;simp [ar,h]
theorem ke (k:Int) (bs:List Int):(ab k bs).all (·.oneCell')=true:=by
 refine Array.all_eq_true_iff_forall_mem.2 fun v a=>?_;unfold ab blkL at a;simp only [List.mem_toArray,List.mem_cons] at a;rcases a with rfl | a
 ·rfl
 ·exact io bs v a
theorem ak:az.length=56:=by unfold az;simp
theorem zj:(Tryz.prog.info? 37).map (fun i=>(i.zero,i.size,i.bytes))=some (some (.agg (ab 0 az)),57,64):=Hc
theorem db:(Tryz.prog.info? 37).map (·.size)=some 57:=Hc
theorem GG:Tryz.prog.built 37 []=some (ab 0 az):=Hc
section
variable {ops:Array Oper} {rest:List Oper} {o:Oper} {a:Act} {w:World} {Q:Exit->Act->World->Prop}
theorem aq (b:o.guard=none) (d:o.op=.alloc 37)
 (h:wpList Tryz.prog ops Q rest (a.put o.dst (.pointer (some ⟨w.heap.size,0,none⟩))) (w.alloc (.cells (ab 0 az) 37))):wpList Tryz.prog ops Q (o :: rest) a w:=by
 obtain ⟨e,f,c,g,i⟩:=info_parts zj;exact wpList_plain b fun _ j=>ce 37 d e _ f c (j _ _ h)
theorem bN (b:o.guard=none) (c:o.op=.build 37 #[])
 (h:wpList Tryz.prog ops Q rest (a.put o.dst (.agg (ab 0 az))) w):wpList Tryz.prog ops Q (o :: rest) a w :=
 wpList_plain b fun _ d=>by
  unfold Oper.wp execOp;have e:=run_build (P:=Tryz.prog) w 37 #[] _ GG;simp only [c,List.map_toArray,List.map_nil,Sem.run_bind,e,Result.andThen_ok];exact d _ _ h
theorem aT (b:o.guard=none) (x:Operand) (d:o.op=.load 37 x) (g:Nat) (e:a.eval x=.pointer (some ⟨g,0,none⟩)) (k:Int) (bs:List Int) (c:bs.length=56) (f:w.heap[g]?=some (.cells (ab k bs) 37 (0,0)))
 (h:wpList Tryz.prog ops Q rest (a.put o.dst (.agg (ab k bs))) w):wpList Tryz.prog ops Q (o :: rest) a w :=
 wpList_load_row b 37 x d g e _ _ _ _ f Tryz.underlying37 rfl (by rw [aP c];exact db) h
theorem ap (d:o.guard=none) (x y:Operand) (e:o.op=.store 37 x y) (g:Nat) (f:a.eval x=.pointer (some ⟨g,0,none⟩)) (k j:Int) (bs cs:List Int) (i:a.eval y=.agg (ab k bs)) (b:bs.length=56) (c:cs.length=56) (l:w.heap[g]?=some (.cells (ab j cs) 37 (0,0)))
 (h:wpList Tryz.prog ops Q rest (a.put o.dst undef) (w.setRow g (ab k bs))):wpList Tryz.prog ops Q (o :: rest) a w :=
 wpList_store_row d 37 x y e g _ f i _ _ l (by rw [aP b];exact db) (by rw [aP b,aP c]) (ke _ _) h
end
theorem aY {b:Func} {p u:Tmp} (h:b.results=#[.cell p 37,.tmp u]) (tmps:Array Value) (w:World) (g:Nat) (k:Int) (bs:List Int) (hp:tmps.getD p undef=.pointer (some ⟨g,0,none⟩)) (a:bs.length=56) (c:w.heap[g]?=some (.cells (ab k bs) 37 (0,0))) :
 (results b tmps).run Tryz.prog w=.ok (.tuple #[.agg (ab k bs),tmps.getD u undef]) w:=by
 rw [results_cell_tmp h,hp];simp only [asAddr,Sem.run_pure,Result.andThen_ok];rw [run_loadVar_row w g _ _ _ _ _ c Tryz.underlying37 rfl (by rw [aP a];exact db)];rfl
theorem DZ (x:Int):Tryz.prog.built 37 [(0,.int .i64 x)]=some (ab x az):=Hc
theorem jl {ops:Array Oper} {rest:List Oper} {o:Oper} {a:Act} {w:World} {Q:Exit->Act->World->Prop} (b:o.guard=none) (x:Operand) (k:Int) (c:o.op=.build 37 #[(0,x)]) (d:a.eval x=.int .i64 k)
 (h:wpList Tryz.prog ops Q rest (a.put o.dst (.agg (ab k az))) w):wpList Tryz.prog ops Q (o :: rest) a w :=
 wpList_plain b fun _ e=>by
  unfold Oper.wp execOp;have f:=run_build (P:=Tryz.prog) w 37 #[(0,.int .i64 k)] _ (DZ k);simp only [c,List.map_toArray,List.map_cons,List.map_nil,d,Sem.run_bind,f,Result.andThen_ok];exact e _ _ h
theorem lV (k:Int) (bs:List Int) (j:Nat) (x:Int):(ab k bs).setIfInBounds (1+j) (.int .u8 x)=ab k (bs.set j x):=by
 unfold ab blkL;rw [Nat.add_comm];simp [<- DU]
def KY (bs:List Int):List UInt8:=bs.map fun n=>UInt8.ofNat n.toNat
theorem AP {bs:List Int} (h:ay bs):Bs bs=(KY bs).map Extern.Stop.cell:=by
 unfold Bs KY;rw [List.map_map];refine List.map_congr_left fun x a=>?_;have b:=h x a;simp only [Function.comp_apply,Extern.Stop.cell,UInt8.toNat_ofNat']
 congr 1
 show x=((x.toNat%256:Nat):Int)
 omega
theorem JQ {α:Type}:∀ {l:List α},l.length=2->∃ a b,l=[a,b]
 | [a,b],_=>⟨a,b,rfl⟩
 | [],h=>by cases h
 | [_],h=>by cases h
 | _ :: _ :: _ :: _,h=>by simp at h
theorem Ld (k j:Int) (bs cs:List Int) (i:bs.length=56) (o:cs.length=56) (p:ay bs) (q:ay cs) (w:World) :
 (Op.equalIn 10000 37 (.agg (ab k bs)) (.agg (ab j cs))).run Tryz.prog w=.ok (decide (k=j/\bs=cs)) w:=by
 have r:Tryz.prog.underlying 37=some (.struct (Tryz.prog.fieldsOf 37)):=Hc;have s:Tryz.prog.stoodInHeld 37=false:=Hc;have I:=Tryz.underlying3;have t:=Tryz.isAgg3;have K:=Tryz.sizeOf3;have a:=Tryz.isAgg35;have b:=Tryz.sizeOf35;rw [show (10000:Nat)=9999+1 from rfl,run_equalIn_struct w 9999 37 _ _ r s];clear r s;have u:∀ (k:Int) (bs:List Int) w,bs.length=56->(part 35 (ab k bs) 1).run Tryz.prog w=.ok (.agg (Bs bs).toArray) w:=fun k bs w h=>by
  have e:(ab k bs).extract 1 57=(Bs bs).toArray:=by
   have L:(Bs bs).length=56:=by rw [ar,h]
   unfold ab blkL;simp [<- L]
  simp [part,a,b,e,aP h]
 have v:∀ (k:Int) (bs:List Int) w,(part 3 (ab k bs) 0).run Tryz.prog w=.ok (.int .i64 k) w:=fun k bs w=>by
  simp [part,t,ab,blkL]
 have x:∀ w,(Op.equalIn 9999 35 (.agg (Bs bs).toArray) (.agg (Bs cs).toArray)).run Tryz.prog w=.ok (decide (bs=cs)) w:=fun w=>by
  have h:=run_equalIn_bytes (P:=Tryz.prog) w 9997 35 5 56 Tryz.underlying35 Tryz.underlying5 (fun w=>Tryz.sizeOf5 w) (KY bs) (KY cs) (by unfold KY;simp [i]) (by unfold KY;simp [o]);rw [<- AP p,<- AP q] at h;rw [show (9999:Nat)=9997+2 from rfl,h]
  congr 1
  rw [Bool.eq_iff_iff];simp only [beq_iff_eq,decide_eq_true_eq];exact ⟨kz p q,fun h=>by rw [h]⟩
 have c : (Tryz.prog.fieldsOf 37).toList.map (fun f => (f.name, f.type, f.offset)) = [("Kind", 3, 0), ("Body", 35, 1)] := by kernel_rfl
 revert c;generalize (Tryz.prog.fieldsOf 37).toList=M;intro c;obtain ⟨d,g,rfl⟩:=JQ (show M.length=2 by simpa using congrArg List.length c);simp only [List.map_cons,List.map_nil,List.cons.injEq,Prod.mk.injEq,and_true] at c;obtain ⟨⟨y,l,o0⟩,⟨z,m,A⟩⟩:=c;have N:∀ (k:Int) (bs:List Int) w,(part d.type (ab k bs) d.offset).run Tryz.prog w=.ok (.int .i64 k) w:=fun k bs w=>by rw [l,o0];exact v k bs w
 have n:∀ (k:Int) (bs:List Int) w,bs.length=56->(part g.type (ab k bs) g.offset).run Tryz.prog w=.ok (.agg (Bs bs).toArray) w:=fun k bs w h=>by rw [m,A];exact u k bs w h
 have O:∀ w,(Op.equalIn 9999 d.type (.int .i64 k) (.int .i64 j)).run Tryz.prog w=.ok (k==j) w:=fun w=>by
  rw [l];exact run_equalIn_int (P:=Tryz.prog) w 9998 3 .i64 .i64 k j Tryz.underlying3
 have B:∀ w,(Op.equalIn 9999 g.type (.agg (Bs bs).toArray) (.agg (Bs cs).toArray)).run Tryz.prog w=.ok (decide (bs=cs)) w:=fun w=>by
  rw [m];exact x w
 have R : d.name ≠ "_" := by rw [y]; decide
 have S : g.name ≠ "_" := by rw [z]; decide
 clear v u x y l o0 z m A I t K a b;simp only [Op.eqFields,if_pos R,if_pos S,Sem.run_bind,N,Result.andThen_ok,O];by_cases C:k=j
 ·subst C;by_cases H:bs=cs
  ·subst H;simp [B,Sem.run_bind,n _ _ _ i]
  ·simp [B,Sem.run_bind,n _ _ _ i,n _ _ _ o,H]
 ·simp [C]
theorem fc:ay az:=fun x a=>by unfold az at a;rw [List.eq_of_mem_replicate a];omega
theorem D0 {bs:List Int} (h:ay bs) (i:Nat) {y:Int} (a:0<=y/\y<256):ay (bs.set i y):=fun x b=>by
 rcases List.mem_or_eq_of_mem_set b with c | rfl
 ·exact h x c
 ·exact a
theorem va:Tryz.prog.eqGuardType Tryz.prog.depth 37=false:=Hc
section
variable {ops:Array Oper} {rest:List Oper} {o:Oper} {a:Act} {w:World} {Q:Exit->Act->World->Prop}
theorem aQ (c:Region.wanted o (yielded ops a.tmps)=true) (x:Operand) (d:o.op=.load 37 x) (g:Nat) (e:a.eval x=.pointer (some ⟨g,0,none⟩)) (k:Int) (bs:List Int) (b:bs.length=56) (f:w.heap[g]?=some (.cells (ab k bs) 37 (0,0)))
 (h:wpList Tryz.prog ops Q rest (a.put o.dst (.agg (ab k bs))) w):wpList Tryz.prog ops Q (o :: rest) a w :=
 BigFrame.wpList_want c fun _ i=>wp_load_row 37 x d g e _ _ _ _ f Tryz.underlying37 rfl (by rw [aP b];exact db) (i _ _ h)
end
section
variable {H:Type} {enc:TypeId × Value->H} {w:World} {base:Nat} {spare:Nat->Bool} {held:Bool}
theorem GH:Tryz.prog.cellsOf 3=1:=Hc
end
theorem kb {W W':World} {g:Nat} {o:Obj} (a:Below W.heap.size W W') (h:W.heap[g]?=some o):W'.heap[g]?=some o:=by rw [a.block _ (ah h)];exact h
theorem aM {w:World} (o:Obj):Below w.heap.size w (w.alloc o):=(Below.refl _ _).alloc (Nat.le_refl _) _
end Go.Proofs.YtegjelaejbacnaaGreat
namespace Go.Proofs.YtegjelaejbacnaaGreat.Fx
def fb (n:Nat):Nat:=floatOfInt .f64 (n:Int)
def qy (n:Nat):Nat:=if n=0 then 0 else (n.log2+1022)*2 ^ 52+n*2 ^ (52-n.log2)
theorem lp:Ieee.double.leastPlace = -1074:=Hd
theorem nH (n k:Nat) (h:n≠0):(n*2 ^ k).log2=n.log2+k:=by
 have b:=Nat.log2_self_le h;have c:=Nat.lt_log2_self (n:=n);have a:n*2 ^ k≠0:=by
  have:=Nat.two_pow_pos k;exact Nat.mul_ne_zero h Ha
 refine (Nat.log2_eq_iff a).2 ⟨?_,?_⟩
 ·rw [Nat.pow_add];exact Nat.mul_le_mul_right _ b
 ·rw [show n.log2+k+1=(n.log2+1)+k by omega,Nat.pow_add];exact Nat.mul_lt_mul_of_pos_right c (Nat.two_pow_pos k)
theorem lW (c:Ieee.Toward) (m d:Nat) (hd:2 ^ d*m≠0\/d=0):Ieee.Toward.cut c false (m*2 ^ d) d=m:=by
 have f:min d ((m*2 ^ d).log2+2)=d:=by
  by_cases j:d=0
  ·omega
  ·have g:m≠0:=by rcases hd with h | h
                  ·intro e;rw [e] at h;simp at h
                  ·omega
   rw [nH m d g];omega
 unfold Ieee.Toward.cut;simp only [f,Nat.one_shiftLeft];have p:=Nat.two_pow_pos d;have a:m*2 ^ d/2 ^ d=m:=Nat.mul_div_cancel _ p;have b:m*2 ^ d%2 ^ d=0:=Nat.mul_mod_left _ _;rw [a,b];have i:(2 ^ d==2*0)=false:=Hb;cases c <;> simp [i]
theorem kD (n k:Nat) (h:n<2 ^ 53) (m:k<=1074):Ieee.double.nearest false (n*2 ^ k) (-(k:Int))=qy n:=by
 unfold Ieee.Format.nearest qy;by_cases a:n=0
 ·subst a;simp [Ieee.Format.word]
 ·have c:n*2 ^ k≠0:=Nat.mul_ne_zero a (by have:=Nat.two_pow_pos k;omega);have o:n.log2<=52:=by have:=(Nat.log2_lt a).2 h;omega
  rw [if_neg c,if_neg a,nH n k a];have g:max (-(k:Int)+((n.log2+k:Nat):Int)-(Ieee.double.fractionBits:Nat)) Ieee.double.leastPlace=(n.log2:Int)-52:=by
   rw [lp,show (Ieee.double.fractionBits:Int)=52 from rfl];omega
  simp only [g];have i:((n.log2:Int)-52-Ieee.double.leastPlace).toNat=n.log2+1022:=by rw [lp];omega
  have j:Ieee.double.binade=2 ^ 52:=rfl;rw [i,j];have hcut:Ieee.Toward.even.cut false ((n*2 ^ k) <<< (-(k:Int)-((n.log2:Int)-52)).toNat) (((n.log2:Int)-52) - -(k:Int)).toNat=n*2 ^ (52-n.log2):=by
   by_cases p:k+n.log2<=52
   ·have d:(-(k:Int)-((n.log2:Int)-52)).toNat=52-n.log2-k:=Ha;have e:(((n.log2:Int)-52) - -(k:Int)).toNat=0:=Ha;rw [d,e,Nat.shiftLeft_eq];have f:n*2 ^ k*2 ^ (52-n.log2-k)=n*2 ^ (52-n.log2):=by
     rw [Nat.mul_assoc,<- Nat.pow_add];congr 2;omega
    rw [f];have:=lW .even (n*2 ^ (52-n.log2)) 0 (Or.inr rfl);simpa using this
   ·have d:(-(k:Int)-((n.log2:Int)-52)).toNat=0:=Ha;have e:(((n.log2:Int)-52) - -(k:Int)).toNat=k-(52-n.log2):=Ha;rw [d,e,Nat.shiftLeft_eq,Nat.pow_zero,Nat.mul_one];have f:n*2 ^ k=n*2 ^ (52-n.log2)*2 ^ (k-(52-n.log2)):=by
     rw [Nat.mul_assoc,<- Nat.pow_add];congr 2;omega
    rw [f];refine lW .even _ _ (Or.inl (Nat.mul_ne_zero ?_ (Nat.mul_ne_zero a ?_)))
    ·have:=Nat.two_pow_pos (k-(52-n.log2));omega
    ·have:=Nat.two_pow_pos (52-n.log2);omega
  rw [hcut];have b:Ieee.double.infRung=2047*2 ^ 52:=Hd;have q:n*2 ^ (52-n.log2)<2 ^ 53:=by
   have l:=Nat.lt_log2_self (n:=n);have:n*2 ^ (52-n.log2)<2 ^ (n.log2+1)*2 ^ (52-n.log2):=Nat.mul_lt_mul_of_pos_right l (Nat.two_pow_pos _)
   rwa [<- Nat.pow_add,show n.log2+1+(52-n.log2)=53 by omega] at this
  rw [b,Nat.min_eq_left Ha];simp [Ieee.Format.word]
theorem fb_eq (n:Nat) (h:n<2 ^ 53):fb n=qy n:=by
 have:=kD n 0 h Ha;rw [<- this];show Ieee.double.nearest (decide ((n:Int)<0)) (n:Int).natAbs 0=_;rw [show decide ((n:Int)<0)=false by simp];simp
theorem jH (n:Nat) (h:n<2 ^ 53):∃ k:Nat,k<=1074/\Ieee.double.read (fb n)=.number false (n*2 ^ k) (-(k:Int)):=by
 rw [fb_eq n h];unfold qy;by_cases a:n=0
 ·subst a;have d:Ieee.double.read 0=.number false 0 (-1074):=Hd;obtain ⟨k,e⟩:∃ k:Nat,k=1074:=⟨_,rfl⟩
  refine ⟨k,Ha,?_⟩;rw [if_pos rfl,Nat.zero_mul,d,e];rfl
 ·rw [if_neg a];have q:n.log2<=52:=by have:=(Nat.log2_lt a).2 h;omega
  refine ⟨52-n.log2,Ha,?_⟩;have r:n*2 ^ (52-n.log2)<2 ^ 53:=by
   have c:=Nat.lt_log2_self (n:=n);have:n*2 ^ (52-n.log2)<2 ^ (n.log2+1)*2 ^ (52-n.log2):=Nat.mul_lt_mul_of_pos_right c (Nat.two_pow_pos _)
   rwa [<- Nat.pow_add,show n.log2+1+(52-n.log2)=53 by omega] at this
  have t:2 ^ 52<=n*2 ^ (52-n.log2):=by
   have c:=Nat.log2_self_le a;have:2 ^ n.log2*2 ^ (52-n.log2)<=n*2 ^ (52-n.log2):=Nat.mul_le_mul_right _ c
   rwa [<- Nat.pow_add,show n.log2+(52-n.log2)=52 by omega] at this
  generalize n*2 ^ (52-n.log2)=m at *;generalize n.log2=L at *;unfold Ieee.Format.read;have s:Ieee.double.signWeight=2 ^ 63:=rfl;have b:Ieee.double.binade=2 ^ 52:=rfl;have i:Ieee.double.infRung=2047*2 ^ 52:=Hd;simp only [s,b,i,lp];have f:((L+1022)*2 ^ 52+m)/2 ^ 63=0:=Ha;have g:((L+1022)*2 ^ 52+m)%2 ^ 63=(L+1022)*2 ^ 52+m:=Ha;rw [f,g];rw [if_neg Ha,if_pos Ha];have j:((L+1022)*2 ^ 52+m)%2 ^ 52=m-2 ^ 52:=Ha;have l:((L+1022)*2 ^ 52+m)/2 ^ 52=L+1023:=Ha;rw [j,l];have o:2 ^ 52+(m-2 ^ 52)=m:=Ha;rw [o];have p:(-1074:Int)+((L+1023-1:Nat):Int) = -((52-L:Nat):Int):=Ha;rw [p];rfl
theorem pA (a k m:Nat) (h:k<=m):a*2 ^ k*2 ^ (m-k)=a*2 ^ m:=by
 rw [Nat.mul_assoc,<- Nat.pow_add];congr 2;omega
theorem kY (m u:Nat):Ieee.signed false m u=((m*2 ^ u:Nat):Int):=by unfold Ieee.signed;rw [if_neg Hd,Nat.shiftLeft_eq]
theorem wK (m u:Nat):Ieee.signed true m u = -((m*2 ^ u:Nat):Int):=by unfold Ieee.signed;rw [if_pos rfl,Nat.shiftLeft_eq]
theorem vb (k j:Nat):min (-(k:Int)) (-(j:Int)) = -((max k j:Nat):Int):=Ha
theorem Mf (k j:Nat):(-(k:Int) - -((max k j:Nat):Int)).toNat=max k j-k:=Ha
theorem Mg (k j:Nat):(-(j:Int) - -((max k j:Nat):Int)).toNat=max k j-j:=Ha
theorem zk (a b:Nat) (h:a+b<2 ^ 53):FloatKind.f64.format.add (fb a) (fb b)=some (fb (a+b)):=by
 obtain ⟨k,f,c⟩:=jH a Ha;obtain ⟨j,hj,d⟩:=jH b Ha;show Ieee.Format.add Ieee.double _ _=_;unfold Ieee.Format.add;rw [c,d];unfold Ieee.Datum.sum;simp only [vb,Mf,Mg,kY,pA a k _ (Nat.le_max_left k j),pA b j _ (Nat.le_max_right k j)];have e:((a*2 ^ (max k j):Nat):Int)+((b*2 ^ (max k j):Nat):Int)=(((a+b)*2 ^ (max k j):Nat):Int):=by rw [Nat.add_mul];omega
 rw [e];have s:(if (((a+b)*2 ^ (max k j):Nat):Int)=0 then (false&&false) else decide ((((a+b)*2 ^ (max k j):Nat):Int)<0))=false:=by
  split
  ·rfl
  ·simp only [decide_eq_false_iff_not];omega
 rw [s,Int.natAbs_natCast];show some (Ieee.double.nearest false _ _)=_;rw [kD _ _ h Ha,fb_eq _ h]
theorem JR (a b:Nat) (h:a<2 ^ 53) (c:b<=a):FloatKind.f64.format.sub (fb a) (fb b)=some (fb (a-b)):=by
 obtain ⟨k,g,d⟩:=jH a Ha;obtain ⟨j,hj,f⟩:=jH b Ha;show Ieee.Format.sub Ieee.double _ _=_;unfold Ieee.Format.sub;rw [d,f];unfold Ieee.Datum.opposite Ieee.Datum.sum;simp only [Bool.not_false,vb,Mf,Mg,kY,wK,pA a k _ (Nat.le_max_left k j),pA b j _ (Nat.le_max_right k j)];have e:((a*2 ^ (max k j):Nat):Int) + -((b*2 ^ (max k j):Nat):Int)=(((a-b)*2 ^ (max k j):Nat):Int):=by
  rw [Nat.sub_mul];have:=Nat.mul_le_mul_right (2 ^ (max k j)) c;omega
 rw [e];have s:(if (((a-b)*2 ^ (max k j):Nat):Int)=0 then (false&&true) else decide ((((a-b)*2 ^ (max k j):Nat):Int)<0))=false:=by
  split
  ·rfl
  ·simp only [decide_eq_false_iff_not];omega
 rw [s,Int.natAbs_natCast];show some (Ieee.double.nearest false _ _)=_;rw [kD _ _ Ha Ha,fb_eq _ Ha]
theorem order_fb (a b:Nat) (h:a<2 ^ 53) (i:b<2 ^ 53):FloatKind.f64.format.order (fb a) (fb b)=some (compare a b):=by
 obtain ⟨k,l,c⟩:=jH a Ha;obtain ⟨j,hj,d⟩:=jH b Ha;show Ieee.Format.order Ieee.double _ _=_;unfold Ieee.Format.order;rw [c,d];unfold Ieee.Datum.order;simp only [vb,Mf,Mg,kY,pA a k _ (Nat.le_max_left k j),pA b j _ (Nat.le_max_right k j)]
 congr 1
 have p:=Nat.two_pow_pos (max k j);have e:∀ x y:Nat,compare ((x*2 ^ (max k j):Nat):Int) ((y*2 ^ (max k j):Nat):Int)=compare x y:=by
  intro x y;rcases Nat.lt_trichotomy x y with g | g | g
  ·have f:x*2 ^ (max k j)<y*2 ^ (max k j):=Nat.mul_lt_mul_of_pos_right g p;rw [Nat.compare_eq_lt.2 g];show compareOfLessAndEq _ _=_;unfold compareOfLessAndEq;rw [if_pos Ha]
  ·subst g;simp
  ·have f:y*2 ^ (max k j)<x*2 ^ (max k j):=Nat.mul_lt_mul_of_pos_right g p;rw [Nat.compare_eq_gt.2 g];show compareOfLessAndEq _ _=_;unfold compareOfLessAndEq;rw [if_neg Ha,if_neg Ha]
 exact e a b
theorem toInt_fb (n:Nat) (h:n<2 ^ 53):(FloatKind.f64.decode (fb n)).toInt .zero=some (n:Int):=by
 obtain ⟨k,f,b⟩:=jH n h;show (Ieee.double.read (fb n)).toInt .zero=_;rw [b];unfold Ieee.Datum.toInt Ieee.Datum.integral;have c:(-(k:Int)).toNat=0:=Ha;have d:(- -(k:Int)).toNat=k:=Ha;simp only [c,d,Nat.shiftLeft_eq,Nat.pow_zero,Nat.mul_one];have e:Ieee.Toward.zero.cut false (n*2 ^ k) k=n:=by
  by_cases a:n=0
  ·subst a;unfold Ieee.Toward.cut;simp
  ·exact lW .zero n k (Or.inl (Nat.mul_ne_zero (by have:=Nat.two_pow_pos k;omega) a))
 rw [e,kY];simp
theorem D3 (n:Nat) (h:n<2 ^ 32):floatToIntVal .f64 (fb n) .u32=some (n:Int):=by
 unfold floatToIntVal;rw [toInt_fb n Ha];dsimp only
 rw [if_pos ⟨by have:IntKind.u32.min=0:=rfl
                omega,by have:IntKind.u32.max=4294967295:=rfl
                         omega⟩]
theorem Jk (a b:Nat) (h:a<2 ^ 53) (c:b<2 ^ 53):(FloatKind.f64.format.order (fb a) (fb b)==some .gt||FloatKind.f64.format.order (fb a) (fb b)==some .eq)=decide (b<=a):=by
 rw [order_fb a b h c];rcases Nat.lt_trichotomy a b with g | g | g
 ·rw [Nat.compare_eq_lt.2 g];simp;omega
 ·subst g;simp
 ·rw [Nat.compare_eq_gt.2 g];simp;omega
theorem vc:fb 0=0:=by rw [fb_eq 0 Ha];rfl
theorem JS:fb 1=4607182418800017408:=by rw [fb_eq 1 Ha];decide
theorem D4:fb 65521=4679237951253643264:=by rw [fb_eq 65521 Ha];decide
end Go.Proofs.YtegjelaejbacnaaGreat.Fx
namespace Go.Proofs.YtegjelaejbacnaaGreat
structure dr where
 r:Nat
 i:Nat
 b:List Int
structure DM where
 now:List (List (List Int))
 sure:List (List (List Int))
 done:List dr
 uns:List Nat
 stops:Bool
 left:Nat
def dM (row:List (List Int)):List Value:=row.flatMap Bs
def dr.cs (x:dr):List Value:=.complex .f64 (Fx.fb x.r) (Fx.fb x.i) :: Bs x.b
def iM (l:List dr):List Value:=l.flatMap dr.cs
def sK (l:List Nat):List Value:=l.map fun (n:Nat)=>.int .i64 n
def cQ (b:List Int):Prop:=b.length=64/\ay b
structure DM.Ok (m:DM):Prop where
 pos:0<m.now.length
 few:m.now.length<=8
 sureLen:m.sure.length=m.now.length
 unsLen:m.uns.length=m.now.length
 rows:∀ (r:Nat) (row:List (List Int)),m.now[r]?=some row->row.length<=1000/\(∀ b∈row,cQ b)
 sures:∀ (r:Nat) (row:List (List Int)),m.sure[r]?=some row->(∃ row':List (List Int),m.now[r]?=some row'/\row.length=row'.length)/\(∀ b∈row,cQ b)
 dones:∀ x∈m.done,(∃ row:List (List Int),m.now[x.r]?=some row/\(x.i<row.length\/x.i=65535))/\cQ x.b
 unss:∀ (r u:Nat),m.uns[r]?=some u->u<=m.done.length
 left:m.left<=9223372036854775807
inductive dt | none | hd | nowT | sureT | done | uns | now (r:Nat) | sure (r:Nat)
structure jC where
 sNow:Value
 sSure:Value
 sDone:Value
 sUns:Value
structure DevRaw (w:World) (O:Nat->dt) (hp:Nat) (L:jC) (m:DM):Prop where
 hd:w.heap[hp]?=some (.cells #[L.sNow,L.sSure,L.sDone,L.sUns,.bool m.stops,.int .i64 m.left] 173 (0,0))
 ohd:O hp=.hd
 now:cC w (fun k=>O k=.nowT) (fun r k=>O k=.now r) 174 262 64 dM L.sNow m.now
 sure:cC w (fun k=>O k=.sureT) (fun r k=>O k=.sure r) 174 262 64 dM L.sSure m.sure
 done:aI w (fun k=>O k=.done) 281 65 L.sDone m.done.length (iM m.done)
 uns:aI w (fun k=>O k=.uns) 3 1 L.sUns m.uns.length (sK m.uns)
structure du (w:World) (O:Nat->dt) (hp:Nat) (L:jC) (m:DM):Prop extends DevRaw w O hp L m where
 ok:m.Ok
section
variable {w w':World} {O:Nat->dt} {hp:Nat} {L:jC} {m:DM}
theorem DevRaw.lt (h:DevRaw w O hp L m):hp<w.heap.size:=ah h.hd
theorem DevRaw.keep (h:DevRaw w O hp L m) (c:∀ k,k<w.heap.size->O k≠.none->w'.heap[k]?=w.heap[k]?):DevRaw w' O hp L m where
 hd:=by rw [c hp (ah h.hd) (by rw [h.ohd];simp)];exact h.hd
 ohd:=h.ohd
 now:=h.now.keep fun k a b=>c k a (by rcases b with b | ⟨r,b⟩ <;> rw [b] <;> simp)
 sure:=h.sure.keep fun k a b=>c k a (by rcases b with b | ⟨r,b⟩ <;> rw [b] <;> simp)
 done:=h.done.keep fun k a b=>c k a (by rw [b];simp)
 uns:=h.uns.keep fun k a b=>c k a (by rw [b];simp)
theorem du.keep (h:du w O hp L m) (a:∀ k,k<w.heap.size->O k≠.none->w'.heap[k]?=w.heap[k]?):du w' O hp L m:=⟨h.toDevRaw.keep a,h.ok⟩
theorem du.below (h:du w O hp L m) (a:Below w.heap.size w w'):du w' O hp L m:=h.keep fun k b _=>a.block k b
theorem du.drewN (h:du w O hp L m) (n:Nat):du (w.drewN n) O hp L m:=h.keep fun _ _ _=>rfl
theorem DevRaw.c0 (h:DevRaw w O hp L m):w.cell? ⟨hp,0,none⟩=some L.sNow:=af h.hd 0
theorem DevRaw.c1 (h:DevRaw w O hp L m):w.cell? ⟨hp,1,none⟩=some L.sSure:=af h.hd 1
theorem DevRaw.c2 (h:DevRaw w O hp L m):w.cell? ⟨hp,2,none⟩=some L.sDone:=af h.hd 2
theorem DevRaw.c3 (h:DevRaw w O hp L m):w.cell? ⟨hp,3,none⟩=some L.sUns:=af h.hd 3
theorem DevRaw.c4 (h:DevRaw w O hp L m):w.cell? ⟨hp,4,none⟩=some (.bool m.stops):=af h.hd 4
theorem DevRaw.c5 (h:DevRaw w O hp L m):w.cell? ⟨hp,5,none⟩=some (.int .i64 m.left):=af h.hd 5
theorem DevRaw.f (h:DevRaw w O hp L m) (i:Nat):w.frozen? ⟨hp,i,none⟩=false:=aA h.hd i
theorem DevRaw.tail (h:DevRaw w O hp L m) (s:Bool) (l:Nat) (d:w'.heap[hp]?=some (.cells #[L.sNow,L.sSure,L.sDone,L.sUns,.bool s,.int .i64 l] 173 (0,0)))
 (c:∀ k,k<w.heap.size->k≠hp->w'.heap[k]?=w.heap[k]?):DevRaw w' O hp L { m with stops:=s,left:=l } where
 hd:=d
 ohd:=h.ohd
 now:=h.now.keep fun k b a=>c k b (fun e=>by subst e;have:=h.ohd;rcases a with a | ⟨r,a⟩ <;> rw [a] at this <;> cases this)
 sure:=h.sure.keep fun k b a=>c k b (fun e=>by subst e;have:=h.ohd;rcases a with a | ⟨r,a⟩ <;> rw [a] at this <;> cases this)
 done:=h.done.keep fun k b a=>c k b (fun e=>by subst e;have:=h.ohd;rw [a] at this;cases this)
 uns:=h.uns.keep fun k b a=>c k b (fun e=>by subst e;have:=h.ohd;rw [a] at this;cases this)
end
def qn (w:World) (F:Nat->Prop) (hp:Nat) (m:DM):Prop:=∃ O L,du w O hp L m/\(∀ k,F k↔O k≠dt.none)/\∀ k,F k->k<w.heap.size
theorem qn.keep {w w':World} {F:Nat->Prop} {hp:Nat} {m:DM} (h:qn w F hp m) (a:∀ k,k<w.heap.size->F k->w'.heap[k]?=w.heap[k]?) (d:w.heap.size<=w'.heap.size):qn w' F hp m:=by
 obtain ⟨O,L,e,c,f⟩:=h;exact ⟨O,L,e.keep fun k b g=>a k b ((c k).2 g),c,fun k a=>Nat.lt_of_lt_of_le (f k a) d⟩
theorem qn.below {w w':World} {F:Nat->Prop} {hp:Nat} {m:DM} (h:qn w F hp m) (a:Below w.heap.size w w'):qn w' F hp m:=h.keep (fun k b _=>a.block k b) a.size
theorem qn.touch {w w':World} {F G:Nat->Prop} {hp:Nat} {m:DM} (h:qn w F hp m) (a:aE G w w') (hd:∀ k,F k->¬ G k):qn w' F hp m:=h.keep (fun k b c=>a.block k b (hd k c)) a.size
def kf (m:DM) (r:Int):Bool:=decide (0<=r)&&decide (r<m.now.length)
theorem iE {w:World} {O:Nat->dt} {hp:Nat} {L:jC} {m:DM} (h:du w O hp L m) (r:Int) (i:i64 r) :
 Calls Tryz.prog 207 #[.pointer (some ⟨hp,0,none⟩),.int .i64 r] w fun e w'=>e=.returned (.bool (kf m r))/\w=w':=by
 obtain ⟨A,b,a,c,d⟩:=h.now.val;have f:=h.c0;have j:=h.ok.few;rw [a] at f;unfold kf;clear h a;generalize m.now.length=n at *;by_cases g:0<=r
 ·have d0:decide (0<=r)=true:=by simpa using g
  by_cases k:r<n
  ·go_enter Tryz.func207,Tryz.ntmps207;go_wp2;go_ret;exact ⟨aj (by simp <;> omega),rfl⟩
  ·go_enter Tryz.func207,Tryz.ntmps207;go_wp2;go_ret;exact ⟨aj (by simp <;> omega),rfl⟩
 ·go_enter Tryz.func207,Tryz.ntmps207;go_wp2;go_ret;exact ⟨aj (by simp <;> omega),rfl⟩
def aG (m:DM):Bool:=m.stops&&decide (m.left=0)
theorem jI {w:World} {O:Nat->dt} {hp:Nat} {L:jC} {m:DM} (h:du w O hp L m) :
 Calls Tryz.prog 209 #[.pointer (some ⟨hp,0,none⟩)] w fun e w'=>e=.returned (.bool (aG m))/\w=w':=by
 have d:=h.c4;have f:=h.c5;unfold aG;clear h;generalize m.stops=s at *;generalize m.left=l at *;cases s
 ·go_enter Tryz.func209,Tryz.ntmps209;go_wp2;go_ret;exact ⟨rfl,rfl⟩
 ·by_cases a:l=0
  ·subst a;go_enter Tryz.func209,Tryz.ntmps209;go_wp2;go_ret;exact ⟨rfl,rfl⟩
  ·have b:(l==0)=false:=by simpa using a
   have c:((l:Int)==0)=false:=by simpa using a
   go_enter Tryz.func209,Tryz.ntmps209;go_wp2;go_ret;exact ⟨by simp [a],rfl⟩
theorem oI (w:World) (r i:Nat) :
 Calls Tryz.prog 185 #[.int .i64 r,.int .i64 i] w fun e w'=>e=.returned (.complex .f64 (Fx.fb r) (Fx.fb i))/\w=w':=by
 go_enter Tryz.func185,Tryz.ntmps185;go_wp2;go_ret;exact ⟨rfl,rfl⟩
def vd (l:List (List (List Int))) (r:Nat):Nat:=(l.getD r []).length
def iN (m:DM) (r i:Int):Bool:=kf m r&&(decide (0<=i)&&decide (i<vd m.now r.toNat))
theorem kh {l:List (List (List Int))} {r:Nat} {row:List (List Int)} (h:l[r]?=some row):vd l r=row.length:=by unfold vd;rw [List.getD,h];rfl
theorem gP {w:World} {O:Nat->dt} {hp:Nat} {L:jC} {m:DM} (h:du w O hp L m) (r i:Int) (q:i64 r) (x:i64 i) :
 Calls Tryz.prog 183 #[.pointer (some ⟨hp,0,none⟩),.int .i64 r,.int .i64 i] w fun e w'=>e=.returned (.bool (iN m r i))/\w=w':=by
 have y:=He h;have f:=He (iE h r q);by_cases j:kf m r=true
 ·have c:=j;unfold kf at c;simp only [Bool.and_eq_true,decide_eq_true_eq] at c;obtain ⟨z,B⟩:=c;obtain ⟨o,rfl⟩:∃ o:Nat,r=(o:Int):=⟨r.toNat,Ha⟩
  obtain ⟨b,a⟩:∃ b,m.now[o]?=some b:=⟨_,List.getElem?_eq_getElem Ha⟩
  obtain ⟨g,s,u,p,_,_,C,_,k⟩:=h.now.row a;obtain ⟨A,H,rfl,I,K⟩:=k.val;have t:=h.c0;rw [p] at t;have few:=h.ok.few;have M:=(h.ok.rows _ _ a).1;have l:iN m o i=(decide (0<=i)&&decide (i<b.length)):=by
   unfold iN;rw [j,Int.toNat_natCast,kh a,Bool.true_and]
  rw [l];rw [j] at f;clear h p k a l j;generalize b.length=n at *;generalize m.now.length=R at *;by_cases v:0<=i
  ·have d0:decide (0<=i)=true:=by simpa using v
   by_cases N:i<n
   ·go_enter Tryz.func183,Tryz.ntmps183;go_wp2_with fail
    refine f.out.mono ?_;rintro e w' ⟨rfl,rfl⟩;go_wp2;go_ret;exact ⟨aj (by simp <;> omega),rfl⟩
   ·go_enter Tryz.func183,Tryz.ntmps183;go_wp2_with fail
    refine f.out.mono ?_;rintro e w' ⟨rfl,rfl⟩;go_wp2;go_ret;exact ⟨aj (by simp <;> omega),rfl⟩
  ·go_enter Tryz.func183,Tryz.ntmps183;go_wp2_with fail
   refine f.out.mono ?_;rintro e w' ⟨rfl,rfl⟩;go_wp2;go_ret;exact ⟨aj (by simp <;> omega),rfl⟩
 ·have d:kf m r=false:=by simpa using j
  have l:iN m r i=false:=by unfold iN;rw [d];rfl
  rw [l];rw [d] at f;clear h l j d;go_enter Tryz.func183,Tryz.ntmps183;go_wp2_with fail
  refine f.out.mono ?_;rintro e w' ⟨rfl,rfl⟩;go_wp2;go_ret;exact ⟨rfl,rfl⟩
theorem nI (n:Nat) (h:n<2 ^ 53):floatToIntVal .f64 (Fx.fb n) .i64=some (n:Int):=by
 unfold floatToIntVal;rw [Fx.toInt_fb n h];dsimp only
 rw [if_pos ⟨by have:IntKind.i64.min = -9223372036854775808:=rfl
                omega,by have:IntKind.i64.max=9223372036854775807:=rfl
                         omega⟩]
theorem Jl (a b:Nat) (h:a<2 ^ 53) (c:b<2 ^ 53):(FloatKind.f64.format.order (Fx.fb a) (Fx.fb b)==some .eq)=decide (a=b):=by
 rw [Fx.order_fb a b h c];rcases Nat.lt_trichotomy a b with g | g | g
 ·rw [Nat.compare_eq_lt.2 g];simp;omega
 ·subst g;simp
 ·rw [Nat.compare_eq_gt.2 g];simp;omega
theorem JT:Fx.fb 65535=4679239875398991872:=by rw [Fx.fb_eq 65535 Ha];decide
theorem kZ (w:World) (g cap n r i c b a:Nat) (f:r<n) (h:i<b) (j:n<=1000) (d:b<=1000) (k:w.cell? ⟨g,r,none⟩=some (.slice (some ⟨c,0,none⟩) b a)) :
 Calls Tryz.prog 184 #[.slice (some ⟨g,0,none⟩) n cap,.complex .f64 (Fx.fb r) (Fx.fb i)] w fun e w'=>e=.returned (.pointer (some ⟨c,i*64,none⟩))/\w=w':=by
 have l:=fun w:World=>run_convert_float_int w 175 3 .f64 .i64 _ _ (P:=Tryz.prog) Hc Tryz.underlying3 (nI r Ha);have m:=fun w:World=>run_convert_float_int w 175 3 .f64 .i64 _ _ (P:=Tryz.prog) Hc Tryz.underlying3 (nI i Ha);go_enter Tryz.func184,Tryz.ntmps184;go_wp2;go_ret;exact ⟨rfl,rfl⟩
theorem zm (w:World) (n:Int) (b:i64 n) :
 Calls Tryz.prog 147 #[.int .i64 n] w fun e w'=>e=.returned (.bool (decide (n<1)||decide (1000<n)))/\w=w':=by
 by_cases a:n<1
 ·go_enter Tryz.func147,Tryz.ntmps147;go_wp2;go_ret;exact ⟨aj (by simp <;> omega),rfl⟩
 ·have c:decide (n<1)=false:=by simpa using a
  go_enter Tryz.func147,Tryz.ntmps147;go_wp2;go_ret;exact ⟨aj Hb,rfl⟩
theorem qz (w:World) (n:Int) :
 Calls Tryz.prog 211 #[.int .i64 n] w fun e w'=>e=.returned (.bool true)/\w=w':=by
 go_enter Tryz.func211,Tryz.ntmps211;go_wp2;go_ret;exact ⟨rfl,rfl⟩
def go (l:List dr) (r i:Nat):Nat:=i+(l.drop i).findIdx (fun x=>x.r==r)
theorem tz (l:List dr) (r:Nat):go l r l.length=l.length:=by unfold go;simp
theorem qA {l:List dr} {r i:Nat} {x:dr} (h:l[i]?=some x) (b:x.r=r):go l r i=i:=by
 unfold go;have a:=(List.getElem?_eq_some_iff.1 h).1;rw [List.drop_eq_getElem_cons a,(List.getElem?_eq_some_iff.1 h).2,List.findIdx_cons];simp [b]
theorem wL {l:List dr} {r i:Nat} {x:dr} (h:l[i]?=some x) (b:x.r≠r):go l r i=go l r (i+1):=by
 unfold go;have a:=(List.getElem?_eq_some_iff.1 h).1;rw [List.drop_eq_getElem_cons a,(List.getElem?_eq_some_iff.1 h).2,List.findIdx_cons,show (x.r==r)=false by simpa using b];simp only [cond_false];omega
theorem D5 {l:List dr} {r i:Nat} (h:i<=l.length):i<=go l r i/\go l r i<=l.length:=by
 unfold go;have:=List.findIdx_le_length (xs:=l.drop i) (p:=fun x=>x.r==r);simp at this;omega
theorem D6 {l:List dr} {r i:Nat} (h:go l r i<l.length):∃ x,l[go l r i]?=some x/\x.r=r:=by
 unfold go at h ⊢;have b:(l.drop i).findIdx (fun x=>x.r==r)<(l.drop i).length:=by simp;omega
 have a:=List.findIdx_getElem (w:=b);refine ⟨_,List.getElem?_eq_getElem h,?_⟩;simp only [List.getElem_drop] at a;simpa using a
theorem B9 (l:List dr) (h:∀ x∈l,x.b.length=64) (i:Nat):(iM l).drop (i*65)=iM (l.drop i):=by
 induction i generalizing l with
 | zero=>simp
 | succ i ih =>
   cases l with
   | nil=>simp [iM]
   | cons x l =>
     have c:(dr.cs x).length=65:=by unfold dr.cs;simp [ar,h x Hb]
     have e:iM (x :: l)=dr.cs x++iM l:=by unfold iM;rw [List.flatMap_cons]
     rw [e,show (i+1)*65=(dr.cs x).length+i*65 by omega,<- List.drop_drop,List.drop_left,ih l (fun y a=>h y (by simp [a]))];rfl
theorem GI {l:List dr} (h:∀ x∈l,x.b.length=64) {i:Nat} {x:dr} (a:l[i]?=some x) (j:Nat) (hj:j<65):(iM l)[i*65+j]?=(dr.cs x)[j]?:=by
 rw [<- List.getElem?_drop,B9 l h];have c:=(List.getElem?_eq_some_iff.1 a).1;rw [List.drop_eq_getElem_cons c,(List.getElem?_eq_some_iff.1 a).2];have d:(dr.cs x).length=65:=by unfold dr.cs;simp [ar,h x (List.mem_of_getElem? a)]
 have e:iM (x :: l.drop (i+1))=dr.cs x++iM (l.drop (i+1)):=by unfold iM;rw [List.flatMap_cons]
 rw [e,List.getElem?_append_left Ha]
theorem DM.Ok.blk {m:DM} (h:m.Ok):∀ x∈m.done,x.b.length=64:=fun x a=>(h.dones x a).2.1
theorem DM.Ok.done_r {m:DM} (h:m.Ok) {x:dr} (b:x∈m.done):x.r<m.now.length/\x.i<=65535:=by
 obtain ⟨⟨c,a,d⟩,_⟩:=h.dones x b;have:=(h.rows _ _ a).1;exact ⟨(List.getElem?_eq_some_iff.1 a).1,Ha⟩
theorem du.doneAt {w:World} {O:Nat->dt} {hp:Nat} {L:jC} {m:DM} (h:du w O hp L m) {i:Nat} {x:dr} (d:m.done[i]?=some x) :
 ∃ g cap,L.sDone=.slice (some ⟨g,0,none⟩) m.done.length cap/\O g=.done/\m.done.length<=cap/\cap<=9223372036854775807/\w.cell? ⟨g,i*65,none⟩=some (.complex .f64 (Fx.fb x.r) (Fx.fb x.i))/\w.rangeAt g (i*65+1) (Bs x.b)/\w.rangeAt g (i*65) (dr.cs x):=by
 have e:=(List.getElem?_eq_some_iff.1 d).1;have f:=h.ok.blk x (List.mem_of_getElem? d);obtain ⟨g,cap,k,l,q,n,o,p,s⟩:=h.done.pos Ha;have a:∀ j,j<65->w.cell? ⟨g,i*65+j,none⟩=(dr.cs x)[j]?:=fun j hj=>by rw [p _ Ha,GI h.ok.blk d j hj]
 refine ⟨g,cap,k,l,n,o,a 0 Ha,fun j v hj=>?_,fun j v hj=>?_⟩
 ·have c:=(List.getElem?_eq_some_iff.1 hj).1;rw [ar] at c;rw [show i*65+1+j=i*65+(j+1) by omega,a _ Ha];exact hj
 ·have c:=(List.getElem?_eq_some_iff.1 hj).1;unfold dr.cs at c;simp [ar] at c;rw [a _ Ha];exact hj
theorem D7 {w:World} {O:Nat->dt} {hp:Nat} {L:jC} {m:DM} (h:du w O hp L m) (r i:Nat) (hr:r<m.now.length) (hi:i<=m.done.length) (hm:m.done.length<=1000000) :
 Calls Tryz.prog 215 #[.pointer (some ⟨hp,0,none⟩),.int .i64 r,.int .i64 i] w fun e w'=>e=.returned (.int .i64 (go m.done r i))/\w=w':=by
 obtain ⟨A,an,b,a0,a1⟩:=h.done.val;have c2:=h.c2;rw [b] at c2;have few:=h.ok.few;have H:=He h;have HV:=He b;clear h b;generalize hn:m.done.length=n at *;generalize hR:m.now.length=R at *;have HN:=He hn;have HR:=He hR;clear hn hR;go_enter Tryz.func215,Tryz.ntmps215;go_wp2;refine bq (fun U w'=>w'=w/\∃ k:Nat,k<=n/\Hid (go m.done r k=go m.done r i)/\∃ u7 u8 u9 c d f j l o p q s t u v y z B C I K M N S:Value,U={ tmps:=#[.pointer (some ⟨hp,0,none⟩),.int .i64 r,.int .i64 k,undef,undef,undef,.int .i64 0,u7,u8,u9,c,d,f,j,l,o,p,q,s,t,u,v,y,z,B,C,I,K,M,N,S],defers:=[] })
  (fun U _=>n-(intOf (U.tmps.getD 2 undef)).toNat) rfl ?_ ?_
 ·intro HF;go_wp2;go_step3;rename_i hK;exact hK _ _ (HF _ _ ⟨rfl,i,hi,rfl,_,_,_,_,_,_,_,_,_,_,_,_,_,_,_,_,_,_,_,_,_,_,_,_,rfl⟩)
 ·rintro U w' ⟨rfl,k,hk,W,u7,u8,u9,c,d,f,j,l,o,p,q,s,t,u,v,y,z,B,C,I,K,M,N,S,rfl⟩;by_cases X:k=n
  ·subst X;go_wp2;simp only [Exit.jump];go_ret;exact ⟨lR (by rw [<- W.out,<- HN.out,tz]),rfl⟩
  ·have Y:k<n:=Ha;have hq:((k:Int)==n)=false:=by simp;omega
   obtain ⟨x,V⟩:∃ x,m.done[k]?=some x:=⟨_,List.getElem?_eq_getElem (by rw [HN.out];exact Y)⟩
   obtain ⟨g,ad,b,_,_,_,e0,_,_⟩:=H.out.doneAt V;have T:=HV.out;rw [b] at T;injection T with e1 e2 e3
   subst e1;subst e3;have Z:=H.out.ok.done_r (List.mem_of_getElem? V);rw [HR.out] at Z;have ef:=Jl x.r r Ha Ha;have HX:=He V;have a2:floatOfInt .f64 (r:Int)=Fx.fb r:=rfl;clear e2 b V;by_cases a:x.r=r
   ·rw [decide_eq_true a] at ef;have HQ:=He a;clear a;go_wp2;simp only [Exit.jump];go_ret;exact ⟨lR (by rw [<- W.out,qA HX.out HQ.out]),rfl⟩
   ·rw [decide_eq_false a] at ef;have HQ:=He a;clear a;go_wp2;go_step3;refine ⟨rfl,⟨rfl,k+1,Ha,He ?_,_,_,_,_,_,_,_,_,_,_,_,_,_,_,_,_,_,_,_,_,_,_,_,_,rfl⟩,?_⟩
    ·rw [<- W.out,wL HX.out HQ.out]
    ·simp [intOf];omega
def dx (n:Int):Bool:=decide (n<1)||decide (1000<n)
theorem sL (A:Option Addr) (b:List Int) (c:Nat) (w:World) (o:DX b) (p:jF w A b) (z:b.length<=1000000) :
 Calls Tryz.prog 174 #[.slice A b.length c,.func (.func 147) #[] #[]] w fun e w'=>(∃ k:Int,(0<=k↔b.any dx=true)/\i64 k/\e=.returned (.int .i64 k))/\w=w':=by
 have u:=He p;have HB:=He o;clear p o;generalize q:b.length=n at *;have r:=He q;clear q;go_enter Tryz.func174,Tryz.ntmps174;go_wp2
 go_loop [8] (fun i=>∃ k:Nat,k<=n/\i=.int .i64 k/\Hid ((b.take k).any dx=false)) (fun i=>n-(intOf i).toNat)
 case atStart=>exact ⟨0,Nat.zero_le _,rfl,He Hb⟩
 case round =>
  obtain ⟨k,B,rfl,s⟩:=hrel;by_cases j:k<n
  ·obtain ⟨x,g⟩:∃ x,b[k]?=some x:=⟨_,List.getElem?_eq_getElem (by rw [r.out];exact j)⟩
   obtain ⟨a,rfl,C⟩:=u.out _ _ g;have l:=HB.out x (List.mem_of_getElem? g);have t:=He g;have f:=He (zm w x l);clear g;have e:(decide (x<1)||decide (1000<x))=dx x:=rfl;rw [e] at f;clear e;cases d:dx x
   ·have m:=He d;rw [d] at f;clear d;go_wp2_with fail
    refine f.out.mono ?_;rintro e w' ⟨rfl,rfl⟩;go_wp2
    go_round
    case rel=>exact ⟨k+1,Ha,by go_num,He (by rw [aw t.out,List.any_append,s.out];simp [m.out])⟩
    case measure=>simp [intOf];omega
   ·have m:=He d;rw [d] at f;clear d;go_wp2_with fail
    refine f.out.mono ?_;rintro e w' ⟨rfl,rfl⟩;go_wp2;go_ret;refine ⟨⟨k,?_,by constructor <;> omega,rfl⟩,rfl⟩;constructor
    ·intro _;exact List.any_eq_true.2 ⟨x,List.mem_of_getElem? t.out,m.out⟩
    ·intro _;omega
  ·obtain rfl:k=n:=Ha;go_wp2;go_ret;refine ⟨⟨-1,?_,by constructor <;> omega,rfl⟩,rfl⟩;have:=s.out;rw [List.take_of_length_le (by rw [r.out];exact Nat.le_refl _)] at this;constructor
   ·intro h;omega
   ·rintro ⟨x,v,y⟩;rw [List.any_eq_true.2 ⟨x,v,y⟩] at this;cases this
theorem oJ (A:Option Addr) (a:List Int) (c:Nat) (w:World) (d:DX a) (f:jF w A a) (h:a.length<=1000000) :
 Calls Tryz.prog 139 #[.slice A a.length c,.func (.func 147) #[] #[]] w fun e w'=>e=.returned (.bool (a.any dx))/\w=w':=by
 have i:=He (sL A a c w d f h);clear d f;generalize a.length=n at *;generalize a.any dx=b at *;go_enter Tryz.func139,Tryz.ntmps139;go_wp2_with fail
 refine i.out.mono ?_;rintro e w' ⟨⟨k,g,l,rfl⟩,rfl⟩;have j:=He g;clear g;go_wp2;go_ret;refine ⟨aj ?_,rfl⟩;rw [Bool.eq_iff_iff,decide_eq_true_eq];exact j.out
def nJ (a:List Int):Bool:=decide (0<a.length)&&(decide (a.length<=8)&&!a.any dx)
theorem D8 (A:Option Addr) (a:List Int) (c:Nat) (w:World) (d:DX a) (f:jF w A a) (g:a.length<=1000000) :
 Calls Tryz.prog 90 #[.slice A a.length c] w fun e w'=>e=.returned (.bool (nJ a))/\w=w':=by
 have h:=He (oJ A a c w d f g);unfold nJ;clear d f;generalize a.length=n at *;generalize a.any dx=b at *;by_cases j:n<1
 ·go_enter Tryz.func90,Tryz.ntmps90;go_wp2;go_ret;exact ⟨aj (by simp;omega),rfl⟩
 ·have d0:decide ((n:Int)<1)=false:=by simp;omega
  by_cases k:8<n
  ·have i:decide (8<(n:Int))=true:=by simp;omega
   go_enter Tryz.func90,Tryz.ntmps90;go_wp2;go_ret;exact ⟨aj (by simp;omega),rfl⟩
  ·have i:decide (8<(n:Int))=false:=by simp;omega
   go_enter Tryz.func90,Tryz.ntmps90;go_wp2_with fail
   refine h.out.mono ?_;rintro e w' ⟨rfl,rfl⟩;go_wp2;go_ret;exact ⟨aj (by cases b <;> simp <;> omega),rfl⟩
theorem wM (l:List (List Int)) (h:∀ x∈l,x.length=64):(dM l).length=l.length*64:=by
 induction l with
 | nil=>rfl
 | cons x l ih =>
   have:=ih (fun y a=>h y (by simp [a]));have b:=h x Hb;unfold dM at this ⊢;rw [List.flatMap_cons,List.length_append,this,ar,b,List.length_cons];omega
theorem tA (l:List (List Int)) (h:∀ x∈l,x.length=64) (i:Nat):(dM l).drop (i*64)=dM (l.drop i):=by
 induction i generalizing l with
 | zero=>simp
 | succ i ih =>
   cases l with
   | nil=>simp [dM]
   | cons x l =>
     have b:(Bs x).length=64:=by simp [ar,h x Hb]
     have e:dM (x :: l)=Bs x++dM l:=by unfold dM;rw [List.flatMap_cons]
     rw [e,show (i+1)*64=(Bs x).length+i*64 by omega,<- List.drop_drop,List.drop_left,ih l (fun y a=>h y (by simp [a]))];rfl
theorem GJ {l:List (List Int)} (h:∀ x∈l,x.length=64) {i:Nat} {x:List Int} (a:l[i]?=some x) (j:Nat) (hj:j<64):(dM l)[i*64+j]?=(Bs x)[j]?:=by
 rw [<- List.getElem?_drop,tA l h];have b:=(List.getElem?_eq_some_iff.1 a).1;rw [List.drop_eq_getElem_cons b,(List.getElem?_eq_some_iff.1 a).2];have c:(Bs x).length=64:=by simp [ar,h x (List.mem_of_getElem? a)]
 have e:dM (x :: l.drop (i+1))=Bs x++dM (l.drop (i+1)):=by unfold dM;rw [List.flatMap_cons]
 rw [e,List.getElem?_append_left Ha]
theorem cC.blk {w:World} {o:Nat->Prop} {f:Nat->Nat->Prop} {q p:TypeId} {v:Value} {rows:List (List (List Int))} (h:cC w o f q p 64 dM v rows) {r i:Nat} {row:List (List Int)} {b:List Int}
 (s:rows[r]?=some row) (k:row[i]?=some b) (d:∀ x∈row,x.length=64) :
 ∃ g cap c a,v=.slice (some ⟨g,0,none⟩) rows.length cap/\o g/\f r c/\g<w.heap.size/\c<w.heap.size/\w.cell? ⟨g,r,none⟩=some (.slice (some ⟨c,0,none⟩) row.length a)/\w.rangeAt c (i*64) (Bs b) /\
  aI w (f r) p 64 (.slice (some ⟨c,0,none⟩) row.length a) row.length (dM row):=by
 obtain ⟨g,cap,u,t,y,z,A,I,e⟩:=h.row s;have B:=(List.getElem?_eq_some_iff.1 k).1;obtain ⟨c,a,rfl,l,m,K,L,n,C⟩:=e.pos Ha;refine ⟨g,cap,c,a,t,y,l,z,m,A,fun j x hj=>?_,e⟩;have H:=(List.getElem?_eq_some_iff.1 hj).1;have:=d b (List.mem_of_getElem? k);rw [ar] at H;rw [n _ Ha,GJ d k j Ha];exact hj
theorem zn:(Tryz.prog.info? 262).map (fun i=>(i.zero,i.size,i.bytes))=some (some (.agg (Array.replicate 64 (.int .u8 0))),64,64):=Hc
theorem mR:(Tryz.prog.info? 262).map (·.size)=some 64:=Hc
def wN (hp r i g B:Nat) (a:Value) (b:List Int) (k:Nat) (v:Value) (w:World):Prop :=
 match k with
 | 0 | 1 | 2=>v=.pointer (some ⟨hp,0,none⟩)
 | 3=>v=a
 | 4=>v=.int .i64 r
 | 5=>v=.int .i64 i
 | 6=>v=.complex .f64 (Fx.fb r) (Fx.fb i)
 | 7 | 8=>v=.pointer (some ⟨g,i*64,none⟩)
 | 9=>v=.agg (Bs b).toArray
 | 10=>∃ q C,v=.pointer (some ⟨q,0,none⟩)/\B<=q/\C.size=64/\w.heap[q]?=some (.cells C 262 (0,0))
 | _=>True
theorem wN.on {hp r i g B:Nat} {a:Value} {b:List Int} {k:Nat} {v:Value} {w w':World} (h:wN hp r i g B a b k v w) (d:w.grownBy w' none):wN hp r i g B a b k v w':=by
 unfold wN at *;split <;> try exact h
 ·obtain ⟨q,C,e,f,j,c⟩:=h;exact ⟨q,C,e,f,j,by rw [d.block q (ah c) Hb];exact c⟩
 ·trivial
theorem D9 {w:World} {O:Nat->dt} {hp:Nat} {L:jC} {m:DM} (h:du w O hp L m) (r i:Nat) {row:List (List Int)} {b:List Int} (H:m.now[r]?=some row) (u:row[i]?=some b) :
 Calls Tryz.prog 151 #[.pointer (some ⟨hp,0,none⟩),.int .i64 r,.int .i64 i] w fun e w'=>(∃ q,e=.returned (.tuple #[.slice (some ⟨q,0,none⟩) 64 64,.bool true])/\w.heap.size<=q/\w'.heap[q]?=some (.cells (Bs b).toArray 262 (0,0)))/\Below w.heap.size w w':=by
 have HH:=He h;have A:=h.ok.rows _ _ H;have p:∀ x∈row,x.length=64:=fun x hx=>(A.2 x hx).1;have U:=A.1;have V:=(List.getElem?_eq_some_iff.1 H).1;have X:=(List.getElem?_eq_some_iff.1 u).1;have few:=h.ok.few;have I:(Bs b).length=64:=by rw [ar];exact p b (List.mem_of_getElem? u)
 have hB:=He (gP h r i (by constructor <;> omega) (by constructor <;> omega));have K:iN m r i=true:=by
  unfold iN kf;rw [Int.toNat_natCast,kh H];simp;omega
 rw [K] at hB;clear K;have a3:Hid (∀ W,Below w.heap.size w W->∃ g d y a,L.sNow=.slice (some ⟨g,0,none⟩) m.now.length d/\W.cell? ⟨g,r,none⟩=some (.slice (some ⟨y,0,none⟩) row.length a)/\W.rangeAt y (i*64) (Bs b)):=fun W hW=>by
  obtain ⟨g,d,y,a,S,_,_,_,_,B,t,_⟩:=(h.below hW).now.blk H u p;exact ⟨g,d,y,a,S,B,t⟩
 obtain ⟨g,d,y,a,S,_,_,a4,a1,B,t,_⟩:=h.now.blk H u p;have HV:=He S;have HC:=He B;have Y:=He t;have l:=He I;clear h H u p A S B t I;generalize hR:m.now.length=R at *;generalize hn:row.length=n at *;have HR:=He hR;have a5:=He hn;clear hR hn;go_enter Tryz.func151,Tryz.ntmps151;go_wp2_with fail
 refine hB.out.mono ?_;rintro e w' ⟨rfl,rfl⟩;go_wp2_with fail
 go_upto_region 3 with fail
 go_cut [8] (fun s wx=>∃ q:Nat,s=.pointer (some ⟨q,0,none⟩)/\w.heap.size<=q/\Below w.heap.size w wx/\wx.heap[q]?=some (.cells (Bs b).toArray 262 (0,0)))
 case first =>
  have c:∀ W:World,W.grownBy W none:=fun W=>World.grownBy.refl W _;refine i7 (wN hp r i y w.heap.size L.sNow b) (Below w.heap.size w) (fun w w'=>w.grownBy w' none) Hc Hc (fun j v w w' h hg=>h.on hg) ((Below.refl _ _).drew) ?_;simp only [cf];refine ⟨?_,?_,?_,?_,?_,?_,?_,?_,?_,?_,?_,?_⟩
  ·refine aC.of rfl fun T W hag hJ hd=>?_;have e0:=Hf hag 0;exact Hi
  ·refine aC.of rfl fun T W hag hJ hd=>?_;have a6:T.getD 14 undef=_:=Hg hd 0 rfl;exact Hi
  ·refine aC.of rfl fun T W hag hJ hd=>?_;have a7:T.getD 15 undef=_:=Hg hd 1 rfl;exact Hi
  ·refine aC.of rfl fun T W hag hJ hd=>?_;have a8:T.getD 16 undef=_:=Hg hd 2 rfl;have a2:=(HH.out.below hJ).c0;exact Hi
  ·refine aC.of rfl fun T W hag hJ hd=>?_;have e1:=Hf hag 1;exact Hi
  ·refine aC.of rfl fun T W hag hJ hd=>?_;have e2:=Hf hag 2;exact Hi
  ·refine aC.of rfl fun T W hag hJ hd=>?_;have a9:T.getD 18 undef=_:=Hg hd 4 rfl;have bb:T.getD 19 undef=_:=Hg hd 5 rfl;clear hag hd;go_simp;refine (oI W r i).mono ?_;rintro e w' ⟨rfl,rfl⟩;exact ⟨_,rfl,rfl,hJ,c _⟩
  ·refine aC.of rfl fun T W hag hJ hd=>?_;have Z:T.getD 17 undef=_:=Hg hd 3 rfl;have bi:T.getD 20 undef=_:=Hg hd 6 rfl;rw [HV.out] at Z;clear hag hd;go_simp;refine (kZ W g d R r i y n a V X Ha U (cO hJ HC.out)).mono ?_;rintro e w' ⟨rfl,rfl⟩;exact ⟨_,rfl,rfl,hJ,c _⟩
  ·refine aC.of rfl fun T W hag hJ hd=>?_;have bk:T.getD 21 undef=_:=Hg hd 7 rfl;exact Hi
  ·refine aC.of rfl fun T W hag hJ hd=>?_;have ad:T.getD 22 undef=_:=Hg hd 8 rfl;refine wp_load_mid 262 (.tmp 22) rfl y (i*64) ad (Bs b) _ (fun j v hj=>cO hJ (Y.out j v hj)) Tryz.underlying262 rfl (by rw [l.out];exact mR) ?_;exact ⟨_,rfl,rfl,hJ,c _⟩
  ·refine aC.of rfl fun T W hag hJ hd=>?_;obtain ⟨i0,hi,an,bl,bn⟩:=info_parts zn;refine ce 262 rfl i0 _ hi an ?_;refine ⟨_,rfl,⟨W.heap.size,_,rfl,hJ.size,?_,heap_alloc_new W _⟩,hJ.alloc hJ.size _,World.grownBy_alloc W _ _⟩;simp [Value.cells]
  ·refine kd.of rfl fun T W hag hJ hd=>?_;obtain ⟨q,C,(e8:T.getD 8 undef=_),hq,hCs,hqc⟩:=hd 10 _ Hb rfl;have M:T.getD 23 undef=_:=hd 9 _ Hb rfl;refine wp_store_mid 262 (.tmp 8) (.tmp 23) rfl q 0 _ e8 M (fun j hj=>?_) (by simp only [List.size_toArray,l.out];exact mR) (all_oneCell_toArray (io b)) ?_
   ·simp only [List.size_toArray,l.out] at hj;rw [Nat.zero_add,af hqc j,aA hqc j];exact ⟨by rw [Array.getElem?_eq_getElem Ha];rfl,rfl⟩
   ·have o:=iD q 262 (Bs b) 0 W C.toList (by simpa using hqc) (by rw [l.out];simp [hCs]);rw [mO _ _ (by rw [l.out];simp [hCs])] at o;have z:Below w.heap.size w (W.setCells q 0 (Bs b)) :=
     ((aE.of_below hJ (fun _=>False)).trans' ((aE.refl (fun k=>k=q) W).setCells rfl 0 (Bs b)) (fun x hx=>Or.inr Ha)).below (Nat.le_refl _) (fun k hk=>hk.elim)
    have N:=He (And.intro hq (And.intro z o));obtain ⟨f,hf,hT⟩:=aJ hag;have h8:f 8=_:=(hf 8).trans e8;generalize (W.setCells q 0 (Bs b))=W2 at *;clear hag hd M e8 hf hqc o z;rw [hT];clear hT;simp only [List.filterMap_cons,List.filterMap_nil,List.foldl_cons,List.foldl_nil,List.setIfInBounds_toArray,List.set_cons_succ,List.set_cons_zero,h8];rename_i a0 bs;go_wp2_with fail
    refine a0 _ _ ?_
    repeat apply Exists.intro
    exact ⟨⟨q,rfl,N.out⟩,rfl⟩
 case rest =>
  obtain ⟨q,rfl,hq,u,B⟩:=hcut;have N:=He (And.intro hq (And.intro u B));clear hq u B;go_wp2
  go_ret2
  exact ⟨⟨q,rfl,N.out.1,N.out.2.2⟩,N.out.2.1⟩
theorem GK {w:World} {O:Nat->dt} {hp:Nat} {L:jC} {m:DM} (h:du w O hp L m) (r i:Int) (c:i64 r) (d:i64 i) (a:iN m r i=false) :
 Calls Tryz.prog 151 #[.pointer (some ⟨hp,0,none⟩),.int .i64 r,.int .i64 i] w fun e w'=>e=.returned (.tuple #[.slice none 0 0,.bool false])/\w=w':=by
 have b:=He (gP h r i c d);rw [a] at b;clear h a;go_enter Tryz.func151,Tryz.ntmps151;go_wp2_with fail
 refine b.out.mono ?_;rintro e w' ⟨rfl,rfl⟩;go_wp2
 go_ret2
 exact ⟨rfl,rfl⟩
theorem Ea (l:List (List Int)) (h:∀ x∈l,x.length=64) (i:Nat) (b:List Int) (a:i<l.length) (c:b.length=64):dM (l.set i b)=splice (dM l) (i*64) (Bs b):=by
 unfold splice;have d:(dM l).take (i*64)=dM (l.take i):=by
  have e:dM l=dM (l.take i)++dM (l.drop i):=by unfold dM;rw [<- List.flatMap_append,List.take_append_drop]
  have f:(dM (l.take i)).length=i*64:=by rw [wM _ (fun x g=>h x (List.mem_of_mem_take g)),List.length_take];congr 1;omega
  rw [e,<- f,List.take_left]
 have j:(dM l).drop (i*64+(Bs b).length)=dM (l.drop (i+1)):=by rw [ar,c,show i*64+64=(i+1)*64 by omega,tA l h]
 rw [d,j,List.set_eq_take_append_cons_drop,if_pos a];unfold dM;rw [List.flatMap_append,List.flatMap_cons]
theorem cC.setBlk {w:World} {n:Nat->Prop} {o:Nat->Nat->Prop} {z A:TypeId} {v:Value} {rows:List (List (List Int))} (h:cC w n o z A 64 dM v rows) {r i:Nat} {row:List (List Int)}
 (B:rows[r]?=some row) (M:i<row.length) (p:∀ x∈row,x.length=64) (b:List Int) (C:b.length=64) {g cap c N f:Nat} (O:v=.slice (some ⟨g,0,none⟩) rows.length cap)
 (m:w.cell? ⟨g,r,none⟩=some (.slice (some ⟨c,0,none⟩) N f)) (R:¬ n c) (S:∀ d,d≠r->¬ o d c):cC (w.setCells c (i*64) (Bs b)) n o z A 64 dM v (rows.set r (row.set i b)):=by
 obtain ⟨T,H,I⟩:=h;obtain ⟨u,K,L⟩:=I r row B;subst O;have q:=H.one K;rw [q] at m;injection m with m
 subst m;obtain ⟨_,_,s,_,_⟩:=L.val;injection s with _ s _
 subst s;have j:∀ k,k≠c->(w.setCells c (i*64) (Bs b)).heap[k]?=w.heap[k]?:=fun k U=>bv c _ _ _ k U;refine ⟨T,?_,fun d l a=>?_⟩
 ·rw [List.length_set];exact H.keep fun k _ t=>j k (fun e=>R (e ▸ t))
 ·by_cases e:d=r
  ·subst e;rw [List.getElem?_set_self (List.getElem?_eq_some_iff.1 B).1] at a;injection a with a
   subst a;refine ⟨_,K,?_⟩;rw [List.length_set,Ea row p i b M C];exact L.storedMany (i*64) (Bs b) (by rw [ar,C];omega)
  ·rw [List.getElem?_set_ne (fun h=>e h.symm)] at a;obtain ⟨V,y,W⟩:=I d l a;exact ⟨V,y,W.keep fun k _ t=>j k (fun X=>S d e (X ▸ t))⟩
theorem dK.addr {w:World} {A:Option Addr} {bs:List Int} (h:dK w A bs) (f:0<bs.length):∃ g o,A=some ⟨g,o,none⟩/\w.rangeAt g o (Bs bs):=by
 obtain ⟨x,i⟩:∃ x,bs[0]?=some x:=⟨_,List.getElem?_eq_getElem f⟩
 obtain ⟨⟨g,o,s⟩,rfl,b⟩:=h 0 x i;have k:s=none:=by
  unfold World.cell? Addr.add at b;simp only [if_true] at b;cases s with
  | none=>rfl
  | some _=>split at b <;> simp at b
 subst k;refine ⟨g,o,rfl,fun j v hj=>?_⟩;have c:=(List.getElem?_eq_some_iff.1 hj).1;rw [ar] at c;obtain ⟨a,e,d⟩:=h j _ (List.getElem?_eq_getElem c);injection e with e;subst e
 rw [Addr.add_mid] at d;rw [d];unfold Bs at hj;rw [List.getElem?_map,List.getElem?_eq_getElem c] at hj;exact hj
theorem qB:(Tryz.prog.info? 281).map (fun i=>(i.zero,i.size,i.bytes))=some (some (.agg (#[.complex .f64 0 0]++Array.replicate 64 (.int .u8 0))),65,80):=Hc
theorem Eb:(Tryz.prog.info? 281).map (·.size)=some 65:=Hc
theorem AQ (a:List (Nat × Value)):Tryz.prog.built 281 a=Instr.fill (#[(0,1),(1,64)][·]?) (#[.complex .f64 0 0]++Array.replicate 64 (.int .u8 0)) a:=Hc
theorem wO (r i:Nat) (b:List Int) (a:b.length=64):Tryz.prog.built 281 [(0,.complex .f64 (Fx.fb r) (Fx.fb i)),(1,.agg (Bs b).toArray)]=some (dr.cs ⟨r,i,b⟩).toArray:=by
 rw [AQ,gG (off:=0) (size:=1) rfl rfl Hb,gG (off:=1) (size:=64) rfl (by simp [Value.cells,ar,a]) (by simp [splice,Value.cells])];unfold Instr.fill
 congr 1
 unfold splice dr.cs;simp [Value.cells,ar,a]
theorem wP (r i:Nat):Tryz.prog.built 281 [(0,.complex .f64 (Fx.fb r) (Fx.fb i))]=some (dr.cs ⟨r,i,List.replicate 64 0⟩).toArray:=by
 rw [AQ,gG (off:=0) (size:=1) rfl rfl Hb];unfold Instr.fill
 congr 1
theorem pB {P:Program} {o:Oper} {a:Act} {w:World} {K:Act->World->Prop} {Q:Exit->Act->World->Prop} (t:TypeId) (b:Array (Nat × Operand)) (e:o.op=.build t b) (c:Array Value)
 (d:P.built t (b.map fun (i,x)=>(i,a.eval x)).toList=some c) (h:K (a.put o.dst (.agg c)) w):o.wp P a w K Q:=by
 refine wp_build t b e (by rw [d];rfl) ?_;rw [d];exact h
theorem dr.cs_length {x:dr} (h:x.b.length=64):x.cs.length=65:=by unfold dr.cs;simp [ar,h]
theorem dr.cs_one (x:dr):∀ u∈x.cs,u.oneCell'=true:=by
 intro u a;unfold dr.cs at a;rcases List.mem_cons.1 a with rfl | a
 ·rfl
 ·exact io _ u a
theorem Ca (l:List dr) (x:dr):iM (l++[x])=iM l++x.cs:=by unfold iM;simp
noncomputable def f7 (O:Nat->dt) (B:Nat) (v:Value):Nat->dt:=fun k=>open Classical in if B<=k/\v.ownBlock=some k then .done else O k
theorem fP {O:Nat->dt} {B:Nat} {v:Value} {k:Nat} (h:k<B):f7 O B v k=O k:=by unfold f7;rw [if_neg (fun a=>Ha)]
theorem DevRaw.push {w w':World} {O:Nat->dt} {hp:Nat} {L:jC} {m:DM} (h:DevRaw w O hp L m) (x:dr) (v:Value)
 (hd:w'.heap[hp]?=some (.cells #[L.sNow,L.sSure,v,L.sUns,.bool m.stops,.int .i64 m.left] 173 (0,0)))
 (c:∀ k,k<w.heap.size->k≠hp->O k≠.done->w'.heap[k]?=w.heap[k]?)
 (f:aI w' (fun k=>O k=.done\/w.heap.size<=k) 281 65 v (m.done.length+1) (iM m.done++x.cs)) :
 DevRaw w' (f7 O w.heap.size v) hp { L with sDone:=v } { m with done:=m.done++[x] } where
 hd:=hd
 ohd:=by rw [fP (ah h.hd)];exact h.ohd
 now:=(h.now.owner (OT':=fun k=>f7 O w.heap.size v k=.nowT) (OR':=fun r k=>f7 O w.heap.size v k=.now r) (fun k c a=>by rw [fP c];exact a) (fun r k c a=>by rw [fP c];exact a)).keep fun k b a=>by
  rw [fP b] at a;exact c k b (fun e=>by subst e;have:=h.ohd;rcases a with a | ⟨r,a⟩ <;> rw [a] at this <;> cases this) (by rcases a with a | ⟨r,a⟩ <;> rw [a] <;> simp)
 sure:=(h.sure.owner (OT':=fun k=>f7 O w.heap.size v k=.sureT) (OR':=fun r k=>f7 O w.heap.size v k=.sure r) (fun k c a=>by rw [fP c];exact a) (fun r k c a=>by rw [fP c];exact a)).keep fun k b a=>by
  rw [fP b] at a;exact c k b (fun e=>by subst e;have:=h.ohd;rcases a with a | ⟨r,a⟩ <;> rw [a] at this <;> cases this) (by rcases a with a | ⟨r,a⟩ <;> rw [a] <;> simp)
 done:=by
  show aI w' _ _ 65 v (m.done++[x]).length (iM (m.done++[x]));rw [Ca,List.length_append];refine ⟨f.1,fun g i=>?_⟩;rcases f.2 g i with d | d
  ·unfold f7;split
   ·rfl
   ·exact d
  ·unfold f7;rw [if_pos ⟨d,i⟩]
 uns:=(h.uns.owner (Own':=fun k=>f7 O w.heap.size v k=.uns) (fun k c a=>by rw [fP c];exact a)).keep fun k b a=>by
  rw [fP b] at a;exact c k b (fun e=>by subst e;have:=h.ohd;rw [a] at this;cases this) (by rw [a];simp)
theorem jm {O:Nat->dt} {B:Nat} {v:Value} {k:Nat} (h:f7 O B v k≠.none):O k≠.none\/(B<=k/\v.ownBlock=some k):=by
 unfold f7 at h;split at h
 ·rename_i a;exact Or.inr a
 ·exact Or.inl h
def gD (w w':World) (F:Nat->Prop) (hp:Nat) (m:DM):Prop:=∃ a,qn w' a hp m/\aE F w w'/\∀ k,a k->F k\/w.heap.size<=k
end Go.Proofs.YtegjelaejbacnaaGreat
