/- For FileLong: contracts and facts, part 13. -/
import Derived.ArgAppend
import Derived.Lib.BufferWrite
import Derived.Lib.AppendStr
import Derived.Test.YtegjelaejbacnaaGreatL01
import Derived.Test.YtegjelaejbacnaaGreatL02
import Derived.Test.YtegjelaejbacnaaGreatL12
set_option maxRecDepth 100000
set_option maxHeartbeats 25600000
set_option linter.unusedVariables false
open Go.ChangeShapes Go.WideShapes Go.ChangeAt Go.RowKit
namespace Go.Proofs.YtegjelaejbacnaaGreat
def jN:List Int:=[-1,-1,-1,-1,-1]
def aS (k:Int) (n:Nd):Prop:=(1<=n.g/\0<=n.l/\n.l<=1000)/\((k=1/\(0<=n.s/\n.s<=1120)/\n.t=[]/\CS n.ps)\/(k=2/\n.l<=1/\n.s=0/\n.t=[]/\n.ps=jN)\/(k=3/\uf n.t/\n.s=n.t.length/\n.ps=jN))
instance (k:Int) (n:Nd):Decidable (aS k n):=by unfold aS;infer_instance
theorem vF {t:List Int} (h:ay t):((strOfNums t).toList==([]:List UInt8))=decide (t=[]):=by
 have e:(strOfNums []).toList=([]:List UInt8):=by rw [dA];rfl
 rw [<- e];exact lT h (fun x a=>by cases a)
theorem Kd:Tryz.prog.eqGuardType Tryz.prog.depth 256=false:=Hc
theorem pR {ops:Array Oper} {rest:List Oper} {o:Oper} {a:Act} {w:World} {Q:Exit->Act->World->Prop} (b:o.guard=none) (x y:Operand) (t:TypeId) (c:o.op=.binOp .eql 256 x y t) (n:Nd) (d:a.eval x=.agg (yY n)) (e:a.eval y=.agg #[.int .i64 (-1),.int .i64 (-1),.int .i64 (-1),.int .i64 (-1),.int .i64 (-1)])
 (h:wpList Tryz.prog ops Q rest (a.put o.dst (.bool (decide (n.ps=jN)))) w):wpList Tryz.prog ops Q (o :: rest) a w :=
 wpList_plain b fun _ f=>by
  have g:=run_eqGuard_agg (P:=Tryz.prog) w .eql 256 x y (yY n) #[.int .i64 (-1),.int .i64 (-1),.int .i64 (-1),.int .i64 (-1),.int .i64 (-1)] Kd;have i:=Ij n w;unfold Oper.wp execOp;simp only [c,d,e,Sem.run_bind,g,i,Result.andThen_ok];exact f _ _ h
theorem EN (k:Int) (n:Nd) (w:World) (L:jY n):Calls Tryz.prog 177 #[.int .i64 k,.agg (bF n)] w fun e w'=>e=.returned (.bool (decide (aS k n)))/\Below w.heap.size w w':=by
 have K:=He (aV.new w n);have HB:=He (aM (w:=w) (Obj.cells (bF n) 137));have U:=vF L.t;have M:=He (n9 n);have V:=He (sY n);have z:=He (fun w=>sZ n.t w L.t);have R:=He vC;have y:=strOfNums_size n.t;have hL:=He L.l;go_enter Tryz.func177,Tryz.ntmps177;go_wp2_with fail
 obtain ⟨c0,c1,c2,X,c8⟩:=K.out.cells;generalize w.alloc (Obj.cells (bF n) 137)=W at *;refine fj [1,2,3,4,0] fun F v S=>?_;have c:=He v;have d:=He S;clear v S;have A:Hid (∀ b,decide (n.t=[])=b->(n.t=[]↔b=true)):=fun b h=>by subst h;simp
 generalize B:decide (n.t=[])=N at U;have m:=He (A.out N B);clear B A X;have C:=He (show (decide (aS k n))=decide ((1<=n.g/\0<=n.l/\n.l<=1000)/\((k=1/\(0<=n.s/\n.s<=1120)/\n.t=[]/\CS n.ps)\/(k=2/\n.l<=1/\n.s=0/\n.t=[]/\n.ps=jN)\/(k=3/\uf n.t/\n.s=n.t.length/\n.ps=jN))) from rfl);by_cases Y:n.g<1
 ·have x:=Y;have a:Hid (decide (aS k n)=false):=decide_eq_false fun h=>by unfold aS at h;omega
  go_wp2_with fail
  go_step3
  repeat refine d.out _ _ _ _ _ Hd ?_
  refine c.out _ _ _ _ _ rfl ?_;go_wp2_with fail
  simp only [aU];go_ret;exact ⟨aj a.out.symm,HB.out⟩
 by_cases Z:n.l<0
 ·have x:=Z;have a:Hid (decide (aS k n)=false):=decide_eq_false fun h=>by unfold aS at h;omega
  go_wp2_with fail
  go_step3
  repeat refine d.out _ _ _ _ _ Hd ?_
  refine c.out _ _ _ _ _ rfl ?_;go_wp2_with fail
  simp only [aU];go_ret;exact ⟨aj a.out.symm,HB.out⟩
 by_cases h3:1000<n.l
 ·have x:=h3;have a:Hid (decide (aS k n)=false):=decide_eq_false fun h=>by unfold aS at h;omega
  go_wp2_with fail
  go_step3
  repeat refine d.out _ _ _ _ _ Hd ?_
  refine c.out _ _ _ _ _ rfl ?_;go_wp2_with fail
  simp only [aU];go_ret;exact ⟨aj a.out.symm,HB.out⟩
 by_cases k1:k=1
 ·subst k1;by_cases o:n.s<0
  ·have x:=o;have a:Hid (decide (aS 1 n)=false):=decide_eq_false fun h=>by unfold aS at h;omega
   go_wp2_with fail
   go_step3
   repeat refine d.out _ _ _ _ _ Hd ?_
   refine c.out _ _ _ _ _ rfl ?_;go_wp2_with fail
   go_step3
   repeat refine d.out _ _ _ _ _ Hd ?_
   refine c.out _ _ _ _ _ rfl ?_;go_wp2_with fail
   simp only [aU];go_ret;exact ⟨aj a.out.symm,HB.out⟩
  by_cases h5:1120<n.s
  ·have x:=h5;have a:Hid (decide (aS 1 n)=false):=decide_eq_false fun h=>by unfold aS at h;omega
   go_wp2_with fail
   go_step3
   repeat refine d.out _ _ _ _ _ Hd ?_
   refine c.out _ _ _ _ _ rfl ?_;go_wp2_with fail
   go_step3
   repeat refine d.out _ _ _ _ _ Hd ?_
   refine c.out _ _ _ _ _ rfl ?_;go_wp2_with fail
   simp only [aU];go_ret;exact ⟨aj a.out.symm,HB.out⟩
  cases N
  ·have x:=h5;have a:Hid (decide (aS 1 n)=false):=decide_eq_false fun h=>by have H:=m.out;unfold aS at h;rcases h.2 with f | f | f <;> simp_all
   go_wp2_with fail
   go_step3
   repeat refine d.out _ _ _ _ _ Hd ?_
   refine c.out _ _ _ _ _ rfl ?_;go_wp2_with fail
   go_step3
   repeat refine d.out _ _ _ _ _ Hd ?_
   refine c.out _ _ _ _ _ rfl ?_;go_wp2_with fail
   simp only [aU];go_ret;exact ⟨aj a.out.symm,HB.out⟩
  have a:Hid (decide (CS n.ps)=decide (aS 1 n)):=by
   have H:=m.out.2 rfl;unfold Hid;rw [decide_eq_decide];unfold aS;constructor
   ·intro h;exact ⟨⟨Ha,Ha,Ha⟩,Or.inl ⟨rfl,⟨Ha,Ha⟩,H,h⟩⟩
   ·rintro ⟨_,h | h | h⟩
    ·exact h.2.2.2
    ·exact absurd h.1 Ha
    ·exact absurd h.1 Ha
  go_wp2_with fail
  go_step3
  repeat refine d.out _ _ _ _ _ Hd ?_
  refine c.out _ _ _ _ _ rfl ?_;go_wp2_with (refine aZ rfl (.tmp 3) rfl w.heap.size rfl n K.out ?_)
  refine (M.out _).mono ?_;rintro e I ⟨rfl,i⟩;have p:=He (aR HB.out i);clear i;go_wp2_with fail
  refine (V.out _).mono ?_;rintro e T ⟨rfl,j⟩;have q:=He (aR p.out j);clear j;go_wp2_with fail
  simp only [aU];go_ret;exact ⟨aj a.out,q.out⟩
 by_cases k2:k=2
 ·subst k2;by_cases o:1<n.l
  ·have x:=o;have a:Hid (decide (aS 2 n)=false):=decide_eq_false fun h=>by unfold aS at h;omega
   go_wp2_with fail
   go_step3
   repeat refine d.out _ _ _ _ _ Hd ?_
   refine c.out _ _ _ _ _ rfl ?_;go_wp2_with fail
   go_step3
   repeat refine d.out _ _ _ _ _ Hd ?_
   refine c.out _ _ _ _ _ rfl ?_;go_wp2_with fail
   simp only [aU];go_ret;exact ⟨aj a.out.symm,HB.out⟩
  by_cases h5:¬ n.s=0
  ·have x:=h5;have a:Hid (decide (aS 2 n)=false):=decide_eq_false fun h=>by unfold aS at h;omega
   go_wp2_with fail
   go_step3
   repeat refine d.out _ _ _ _ _ Hd ?_
   refine c.out _ _ _ _ _ rfl ?_;go_wp2_with fail
   go_step3
   repeat refine d.out _ _ _ _ _ Hd ?_
   refine c.out _ _ _ _ _ rfl ?_;go_wp2_with fail
   simp only [aU];go_ret;exact ⟨aj a.out.symm,HB.out⟩
  have h5:n.s=0:=Ha;cases N
  ·have x:=h5;have a:Hid (decide (aS 2 n)=false):=decide_eq_false fun h=>by have H:=m.out;unfold aS at h;rcases h.2 with f | f | f <;> simp_all
   go_wp2_with fail
   go_step3
   repeat refine d.out _ _ _ _ _ Hd ?_
   refine c.out _ _ _ _ _ rfl ?_;go_wp2_with fail
   go_step3
   repeat refine d.out _ _ _ _ _ Hd ?_
   refine c.out _ _ _ _ _ rfl ?_;go_wp2_with fail
   simp only [aU];go_ret;exact ⟨aj a.out.symm,HB.out⟩
  have a:Hid (decide (n.ps=jN)=decide (aS 2 n)):=by
   have H:=m.out.2 rfl;unfold Hid;rw [decide_eq_decide];unfold aS;constructor
   ·intro h;exact ⟨⟨Ha,Ha,Ha⟩,Or.inr (Or.inl ⟨rfl,Ha,h5,H,h⟩)⟩
   ·rintro ⟨_,h | h | h⟩
    ·exact absurd h.1 Ha
    ·exact h.2.2.2.2
    ·exact absurd h.1 Ha
  go_wp2_with fail
  go_step3
  repeat refine d.out _ _ _ _ _ Hd ?_
  refine c.out _ _ _ _ _ rfl ?_;go_wp2_with fail
  go_step3
  repeat refine d.out _ _ _ _ _ Hd ?_
  refine c.out _ _ _ _ _ rfl ?_;go_wp2_with (refine aZ rfl (.tmp 3) rfl w.heap.size rfl n K.out ?_)
  refine (M.out _).mono ?_;rintro e I ⟨rfl,i⟩;have p:=He (aR HB.out i);clear i;go_wp2_with fail
  refine (R.out _).mono ?_;rintro e T ⟨rfl,j⟩;have q:=He (aR p.out j);clear j;go_wp2_with (refine pR rfl (.tmp 67) (.tmp 68) _ rfl n rfl rfl ?_)
  simp only [aU];go_ret;exact ⟨aj a.out,q.out⟩
 by_cases k3:k=3
 ·subst k3;have u:=He y;by_cases o:¬ uf n.t
  ·have r:=He (decide_eq_false o);rw [r.out] at z;have a:Hid (decide (aS 3 n)=false):=decide_eq_false fun h=>by unfold aS at h;rcases h.2 with f | f | f;exact absurd f.1 Ha;exact absurd f.1 Ha;exact o f.2.1
   clear o;go_wp2_with fail
   go_step3
   repeat refine d.out _ _ _ _ _ Hd ?_
   refine c.out _ _ _ _ _ rfl ?_;go_wp2_with fail
   refine (z.out _).mono ?_;rintro e I ⟨rfl,rfl⟩;go_wp2_with fail
   go_step3
   repeat refine d.out _ _ _ _ _ Hd ?_
   refine c.out _ _ _ _ _ rfl ?_;go_wp2_with fail
   simp only [aU];go_ret;exact ⟨aj a.out.symm,HB.out⟩
  have o:uf n.t:=Decidable.not_not.1 o;have r:=He (decide_eq_true o);rw [r.out] at z;by_cases h5:¬ n.s=n.t.length
  ·have a:Hid (decide (aS 3 n)=false):=decide_eq_false fun h=>by unfold aS at h;rcases h.2 with f | f | f;exact absurd f.1 Ha;exact absurd f.1 Ha;exact h5 f.2.2.1
   rw [<- u.out] at h5;clear o y u C m r;have O:(n.s != ((strOfNums n.t).size:Int))=true:=by simpa using h5
   clear h5;go_wp2_with fail
   go_step3
   repeat refine d.out _ _ _ _ _ Hd ?_
   refine c.out _ _ _ _ _ rfl ?_;go_wp2_with fail
   refine (z.out _).mono ?_;rintro e I ⟨rfl,rfl⟩;go_wp2_with fail
   go_step3
   repeat refine d.out _ _ _ _ _ Hd ?_
   refine c.out _ _ _ _ _ rfl ?_;go_wp2_with fail
   simp only [aU];go_ret;exact ⟨aj a.out.symm,HB.out⟩
  have h5:n.s=n.t.length:=Ha;have a:Hid (decide (n.ps=jN)=decide (aS 3 n)):=by
   unfold Hid;rw [decide_eq_decide];unfold aS;constructor
   ·intro h;exact ⟨⟨Ha,Ha,Ha⟩,Or.inr (Or.inr ⟨rfl,o,h5,h⟩)⟩
   ·rintro ⟨_,h | h | h⟩
    ·exact absurd h.1 Ha
    ·exact absurd h.1 Ha
    ·exact h.2.2.2
  rw [<- u.out] at h5;have O:(n.s != ((strOfNums n.t).size:Int))=false:=by simpa using h5
  clear o y h5 u C m r;go_wp2_with fail
  go_step3
  repeat refine d.out _ _ _ _ _ Hd ?_
  refine c.out _ _ _ _ _ rfl ?_;go_wp2_with fail
  refine (z.out _).mono ?_;rintro e I ⟨rfl,rfl⟩;go_wp2_with fail
  go_step3;go_wp2_with (refine aZ rfl (.tmp 3) rfl w.heap.size rfl n K.out ?_)
  refine (M.out _).mono ?_;rintro e I ⟨rfl,i⟩;have p:=He (aR HB.out i);clear i;go_wp2_with fail
  refine (R.out _).mono ?_;rintro e T ⟨rfl,j⟩;have q:=He (aR p.out j);clear j;go_wp2_with (refine pR rfl (.tmp 67) (.tmp 68) _ rfl n rfl rfl ?_)
  simp only [aU];go_ret;exact ⟨aj a.out,q.out⟩
 have a:Hid (decide (aS k n)=false):=decide_eq_false fun h=>by unfold aS at h;omega
 go_wp2_with fail
 go_step3
 repeat refine d.out _ _ _ _ _ Hd ?_
 refine c.out _ _ _ _ _ rfl ?_;go_wp2_with fail
 simp only [aU];go_ret;exact ⟨aj a.out.symm,HB.out⟩
def bH (ys:List Int):List Int:=ys++List.replicate (56-ys.length) 0
theorem fV {ys:List Int} (h:ys.length<=56):(bH ys).length=56:=by unfold bH;simp;omega
theorem rA {ys:List Int} (h:ay ys):ay (bH ys):=ay.append h fun x a=>by rw [List.eq_of_mem_replicate a];omega
theorem qt {ys:List Int} {y:Int} (h:ys.length<56):(bH ys).set ys.length y=bH (ys++[y]):=by
 unfold bH;rw [List.length_append,List.length_singleton,show 56-ys.length=(56-(ys.length+1))+1 by omega,List.replicate_succ,List.set_append_right _ _ (Nat.le_refl _)];simp
theorem Ju (n:Nat):∀ (s i:Nat),i<s->(be n s)[i]?=some ((n/256 ^ (s-1-i)%256:Nat):Int)
 | 0,i,h=>absurd h Ha
 | s+1,0,h=>by simp [be]
 | s+1,i+1,h=>by
   show (be n s)[i]?=_;rw [Ju n s i Ha,show s+1-1-(i+1)=s-1-i by omega]
theorem vG (w:World) (b o:Nat) (u:Value):w.setCells b o [u]=w.setCell ⟨b,o,none⟩ u:=by
 simp [World.setCells]
theorem s5 (w:World) (ty:TypeId) (g:Nat) (k:Int) (ys:List Int) (y:Int) (a:Addr) (c:w.heap[g]?=some (.cells (ab k (bH ys)) 37 (0,0))) (o:ys.length<56) (e:w.cell? a=some (.int .u8 y)) :
 (Builtin.append_ #[22,22] ty #[.slice (some ⟨g,1,none⟩) ys.length 56,.slice (some a) 1 1]).run Tryz.prog w=.ok (.slice (some ⟨g,1,none⟩) (ys.length+1) 56) (w.setCell ⟨g,1+ys.length,none⟩ (.int .u8 y)):=by
 obtain ⟨f,i,l,b,m⟩:=info_parts jE;have n:=fV (ys:=ys) Ha;have h:=run_append_room_cells (P:=Tryz.prog) w 22 ty 5 f Tryz.underlying22 i g 1 ys.length 56 a 1 1 [.int .u8 y] (by rw [b];rfl)
  (fun j u hj=>by
    match j,hj with
    | 0,hj=>injection hj with hj;subst hj;unfold Addr.add;simpa using e) (fun u d=>by simp only [List.mem_singleton] at d;subst d;rfl) Ha
  (fun j hj=>by
    simp only [List.length_singleton] at hj;rw [b,af c,Array.getElem?_eq_getElem (by rw [aP n];omega)];rfl)
  (fun j hj=>aA c _)
 rw [b,Nat.mul_one,vG] at h;exact h
theorem dF {ops:Array Oper} {rest:List Oper} {o:Oper} {ac:Act} {w:World} {Q:Exit->Act->World->Prop} (c:o.guard=none) (s x:Operand)
 (l:o.op=.call { callee:=.builtin .append,args:=#[s,x],argTypes:=#[22,22] })
 (g:Nat) (k:Int) (n:Nat) (b:List Int) (y:Int) (a:Addr) (m:b.length=n) (p:ac.eval s=.slice (some ⟨g,1,none⟩) n 56) (q:ac.eval x=.slice (some a) 1 1) (f:w.heap[g]?=some (.cells (ab k (bH b)) 37 (0,0))) (i:n<56) (r:w.cell? a=some (.int .u8 y))
 (h:∀ d,d.heap[g]?=some (.cells (ab k (bH (b++[y]))) 37 (0,0))->w.grownBy d (some g)->wpList Tryz.prog ops Q rest (ac.put o.dst (.slice (some ⟨g,1,none⟩) (n+1) 56)) d):wpList Tryz.prog ops Q (o :: rest) ac w :=
 wpList_plain c fun _ t=>by
  subst m;have u:=s5 w o.type g k b y a f i r;unfold Oper.wp execOp;simp only [l,resolve,invoke,builtin,Sem.run_bind,Sem.run_pure,Result.andThen_ok,List.map_toArray,List.map_cons,List.map_nil,p,q,u];refine t _ _ (h _ ?_ ⟨rfl,rfl,rfl,by simp [World.setCell],fun j _ hj=>heap_setCell_other _ _ _ _ (fun e=>hj (by simp [e]))⟩);rw [ai f,lV,qt i]
theorem ba {w b c:World} {r:Option Nat} (h:w.grownBy b r) (a:b.grownBy c r):w.grownBy c r :=
 ⟨a.os.trans h.os,a.tape.trans h.tape,a.output.trans h.output,Nat.le_trans h.size a.size,fun k d e=>by rw [a.block k (Nat.lt_of_lt_of_le d h.size) e];exact h.block k d e⟩
theorem gY {w a:World} {r:Option Nat} (h:w.grownBy a r) (o:Obj):w.grownBy (a.alloc o) r :=
 ⟨h.os,h.tape,h.output,by rw [al];exact Nat.le_succ_of_le h.size,fun k b c=>by rw [heap_alloc_old a o (Nat.lt_of_lt_of_le b h.size)];exact h.block k b c⟩
theorem zP (g:Nat) (k:Int) (ys:List Int) (n x s:Nat) (w:World) (X:ys.length=n) (Y:w.heap[g]?=some (.cells (ab k (bH ys)) 37 (0,0))) (hs:s<=4) (hl:n+s<=56) (hx:x<4294967296) :
 Calls Tryz.prog 178 #[.slice (some ⟨g,1,none⟩) n 56,.int .u32 x,.int .i64 s] w fun e w'=>e=.returned (.slice (some ⟨g,1,none⟩) (n+s) 56)/\w'.heap[g]?=some (.cells (ab k (bH (ys++be x s))) 37 (0,0))/\w.grownBy w' (some g):=by
 have HG:=He Y;have HN:=He X;clear Y X;go_enter Tryz.func178,Tryz.ntmps178;go_wp2;refine bq (fun O w'=>∃ j:Nat,j<=s/\Hid (w'.heap[g]?=some (.cells (ab k (bH (ys++(be x s).take (s-j)))) 37 (0,0)))/\Hid (w.grownBy w' (some g))/\∃ Z u4 u5 u6 u7 u8 u9 u v z A B C H I K L:Value,O={ tmps:=#[.slice (some ⟨g,1,none⟩) (n+(s-j)) 56,.int .u32 x,.int .i64 j,Z,u4,u5,u6,u7,u8,u9,u,v,z,A,B,C,H,I,K,L],defers:=[] })
  (fun O _=>(intOf (O.tmps.getD 2 undef)).toNat) rfl ?_ ?_
 ·intro HF;go_wp2;go_step3;rename_i hK;refine hK _ _ (HF _ _ ⟨s,Nat.le_refl _,?_,World.grownBy.refl _ _,_,_,_,_,_,_,_,_,_,_,_,_,_,_,_,_,_,by rw [Nat.sub_self];rfl⟩);unfold Hid;rw [Nat.sub_self,List.take_zero,List.append_nil];exact HG.out
 ·rintro O W ⟨j,hj,a,HB,Z,u4,u5,u6,u7,u8,u9,u,v,z,A,B,C,H,I,K,L,rfl⟩;by_cases i:j=0
  ·subst i;have U:Hid (W.heap[g]?=some (.cells (ab k (bH (ys++be x s))) 37 (0,0))):=by
    have h:=a.out;rw [Nat.sub_zero,List.take_of_length_le (by rw [au];omega)] at h;exact h
   rw [Nat.sub_zero];clear a;go_wp2_with fail
   simp only [Exit.jump];go_ret;exact ⟨rfl,U.out,HB.out⟩
  ·have R:Hid ((ys++(be x s).take (s-j)).length=n+(s-j)):=by
    unfold Hid;rw [List.length_append,List.length_take,au,HN.out,Nat.min_eq_left (show s-j<=s by omega)]
   have b:=He (Ju x s (s-j) Ha);have c:Hid (∀ y:Int,(be x s)[s-j]?=some y->ys++(be x s).take (s-j)++[y]=ys++(be x s).take (s-(j-1))):=fun y h=>by
    rw [show s-(j-1)=s-j+1 by omega,aw h,List.append_assoc]
   have M:s-1-(s-j)=j-1:=Ha;have q:n+(s-j)<56:=Ha;have N:n+(s-j)+1=n+(s-(j-1)):=Ha;rw [M] at b;have r:=He N;generalize (be x s)[s-j]?=S at *;generalize ys++(be x s).take (s-j)=T at *;generalize n+(s-j)=m at *;clear N M;have h4:j=1\/j=2\/j=3\/j=4:=Ha;rcases h4 with rfl | rfl | rfl | rfl
   ·have l:S=some ((x:Int)%256):=by
     rw [b.out];simp only [Nat.reduceSub,Nat.reducePow];first | rfl | (congr 1;omega)
    have t:=He (c.out _ l);clear b c l i;go_upto_region 4 with fail
    go_wp2_with (first
     | (at_builtin
        refine dF rfl (.tmp 12) (.tmp 18) rfl g k m T ((x:Int)%256) ⟨W.heap.size,0,none⟩ R.out rfl rfl (kb (aM _) a.out) q ((af (heap_alloc_new _ _) 0).trans rfl) ?_;intro V o p;have d:=He o;have f:=He (ba (gY HB.out _) p);clear o p a HB))
    go_step3;refine ⟨rfl,⟨0,Ha,by rw [<- t.out];exact d,f,_,_,_,_,_,_,_,_,_,_,_,_,_,_,_,_,_,by rw [<- r.out];rfl⟩,?_⟩;simp [intOf]
   ·have l:S=some ((x:Int)/256%256):=by
     rw [b.out];simp only [Nat.reduceSub,Nat.reducePow];first | rfl | (congr 1;omega)
    have t:=He (c.out _ l);clear b c l i;go_upto_region 4 with fail
    go_wp2_with (first
     | (at_builtin
        refine dF rfl (.tmp 12) (.tmp 18) rfl g k m T ((x:Int)/256%256) ⟨W.heap.size,0,none⟩ R.out rfl rfl (kb (aM _) a.out) q ((af (heap_alloc_new _ _) 0).trans rfl) ?_;intro V o p;have d:=He o;have f:=He (ba (gY HB.out _) p);clear o p a HB))
    go_step3;refine ⟨rfl,⟨1,Ha,by rw [<- t.out];exact d,f,_,_,_,_,_,_,_,_,_,_,_,_,_,_,_,_,_,by rw [<- r.out];rfl⟩,?_⟩;simp [intOf]
   ·have l:S=some ((x:Int)/65536%256):=by
     rw [b.out];simp only [Nat.reduceSub,Nat.reducePow];first | rfl | (congr 1;omega)
    have t:=He (c.out _ l);clear b c l i;go_upto_region 4 with fail
    go_wp2_with (first
     | (at_builtin
        refine dF rfl (.tmp 12) (.tmp 18) rfl g k m T ((x:Int)/65536%256) ⟨W.heap.size,0,none⟩ R.out rfl rfl (kb (aM _) a.out) q ((af (heap_alloc_new _ _) 0).trans rfl) ?_;intro V o p;have d:=He o;have f:=He (ba (gY HB.out _) p);clear o p a HB))
    go_step3;refine ⟨rfl,⟨2,Ha,by rw [<- t.out];exact d,f,_,_,_,_,_,_,_,_,_,_,_,_,_,_,_,_,_,by rw [<- r.out];rfl⟩,?_⟩;simp [intOf]
   ·have l:S=some ((x:Int)/16777216):=by
     rw [b.out];simp only [Nat.reduceSub,Nat.reducePow];first | rfl | (congr 1;omega)
    have t:=He (c.out _ l);clear b c l i;go_upto_region 4 with fail
    go_wp2_with (first
     | (at_builtin
        refine dF rfl (.tmp 12) (.tmp 18) rfl g k m T ((x:Int)/16777216) ⟨W.heap.size,0,none⟩ R.out rfl rfl (kb (aM _) a.out) q ((af (heap_alloc_new _ _) 0).trans rfl) ?_;intro V o p;have d:=He o;have f:=He (ba (gY HB.out _) p);clear o p a HB))
    go_step3;refine ⟨rfl,⟨3,Ha,by rw [<- t.out];exact d,f,_,_,_,_,_,_,_,_,_,_,_,_,_,_,_,_,_,by rw [<- r.out];rfl⟩,?_⟩;simp [intOf]
def dw (n:Nd):List Int:=(be n.g.toNat 4++be n.l.toNat 2)++be n.s.toNat 4
def mI:List Int->List Int
 | []=>[]
 | x :: xs=>be (x+1).toNat 2++mI xs
theorem zQ (xs ys:List Int):mI (xs++ys)=mI xs++mI ys:=by
 induction xs with
 | nil=>rfl
 | cons x xs ih=>show be (x+1).toNat 2++mI (xs++ys)=(be (x+1).toNat 2++mI xs)++mI ys;rw [ih,List.append_assoc]
theorem rB (xs:List Int) (x:Int):mI (xs++[x])=mI xs++be (x+1).toNat 2:=by rw [zQ];show mI xs++(be (x+1).toNat 2++[])=_;rw [List.append_nil]
theorem jr:∀ xs:List Int,(mI xs).length=2*xs.length
 | []=>rfl
 | x :: xs=>by show (be (x+1).toNat 2++mI xs).length=_;rw [List.length_append,au,jr xs,List.length_cons];omega
theorem xP:∀ xs:List Int,ay (mI xs)
 | []=>fun x a=>by cases a
 | x :: xs=>ay.append (cF _ _) (xP xs)
theorem jd (n:Nd):(dw n).length=10:=by unfold dw;simp [au]
theorem zR (n:Nd):ay (dw n):=ay.append (ay.append (cF _ _) (cF _ _)) (cF _ _)
def i2 (n:Nd):List Int:=dw n++mI n.ps++[(n.t.length:Int)]
def aH (n:Nd):List Int:=i2 n++n.t
theorem mJ (n:Nd):(i2 n).length=21:=by unfold i2;rw [List.length_append,List.length_append,jd,jr,ps_len0];rfl
where ps_len0:n.ps.length=5:=rfl
theorem aS.tl {k:Int} {n:Nd} (h:aS k n):n.t.length<=32:=by
 rcases h.2 with a | a | a
 ·rw [a.2.2.1];decide
 ·rw [a.2.2.2.1];decide
 ·exact a.2.1.1.2
theorem aS.sz {k:Int} {n:Nd} (h:aS k n):0<=n.s/\n.s<=1120:=by
 have b:=h.tl;rcases h.2 with a | a | a <;> omega
theorem rC:CS jN:=Hd
theorem aS.pl' {k:Int} {n:Nd} (h:aS k n):CS n.ps:=by
 rcases h.2 with a | a | a
 ·exact a.2.2.2
 ·rw [a.2.2.2.2];exact rC
 ·rw [a.2.2.2];exact rC
theorem aS.at_ {k:Int} {n:Nd} (h:aS k n) {i:Nat} (a:i<5) : -1<=n.ps.getD i 0/\n.ps.getD i 0<200:=by
 rcases h.pl' i a with b | b <;> omega
def fg (k:Int) (n:Nd):Int:=if aS k n then k else 0
def cX (k:Int) (n:Nd):List Int:=if aS k n then bH (aH n) else az
theorem iI (n:Nd):(aH n).length=21+n.t.length:=by unfold aH;rw [List.length_append,mJ]
theorem xQ {n:Nd} (h:ay n.t) (b:n.t.length<=255):ay (aH n):=by
 refine ay.append (ay.append (ay.append (zR n) (xP _)) fun x a=>?_) h;rw [List.mem_singleton] at a;subst a;omega
theorem kv {k:Int} {n:Nd}:(cX k n).length=56:=by
 unfold cX;split
 ·rename_i h;have:=h.tl;exact fV (by rw [iI];omega)
 ·exact ak
theorem ng {k:Int} {n:Nd} (a:ay n.t):ay (cX k n):=by
 unfold cX;split
 ·rename_i h;have:=h.tl;exact rA (xQ a Ha)
 ·exact fc
theorem rD {t:List Int} (h:ay t):Lib.byteCells (strOfNums t).data.toList=Bs t:=by
 rw [strOfNums_data];unfold Lib.byteCells Bs;rw [List.map_map];refine List.map_congr_left fun x a=>?_;have:=h x a;simp only [Function.comp_apply,UInt8.toNat_ofNat']
 congr 1
 omega
theorem CT (w:World) (ty:TypeId) (g:Nat) (k:Int) (ys t:List Int) (b:w.heap[g]?=some (.cells (ab k (bH ys)) 37 (0,0))) (m:ys.length+t.length<=56) (c:ay t) :
 (Builtin.copy_ #[22,9] ty #[.slice (some ⟨g,1+ys.length,none⟩) (56-ys.length) (56-ys.length),.string (strOfNums t)]).run Tryz.prog w=.ok (goInt t.length) (w.setRow g (ab k (bH (ys++t)))):=by
 obtain ⟨n,d,e,a,f⟩:=info_parts jE;have i:=fV (ys:=ys) Ha;have h:=Lib.run_copy_row_string (P:=Tryz.prog) w 22 9 ty 5 g (1+ys.length) (56-ys.length) (56-ys.length) (strOfNums t) (ab k (bH ys)) 37 Tryz.underlying22 (by rw [d];simp [a]) b (by rw [strOfNums_size];omega) (by rw [strOfNums_size,aP i];omega);rw [h,strOfNums_size,rD c]
 congr 2
 rw [bu];unfold ab blkL bH
 congr 1
 simp only [je,List.length_append];rw [show 1+ys.length=ys.length+1 by omega,List.take_succ_cons,show ys.length+1+t.length=(ys.length+t.length)+1 by omega,List.drop_succ_cons];have j:(Bs ys++Bs (List.replicate (56-ys.length) 0)).take ys.length=Bs ys:=by rw [List.take_append_of_le_length (by rw [ar];omega)];exact List.take_of_length_le (by rw [ar];omega)
 have l:(Bs ys++Bs (List.replicate (56-ys.length) 0)).drop (ys.length+t.length)=Bs (List.replicate (56-(ys.length+t.length)) 0):=by
  rw [List.drop_append,List.drop_of_length_le (by rw [ar];omega),List.nil_append,ar,show ys.length+t.length-ys.length=t.length by omega];unfold Bs;rw [<- List.map_drop,List.drop_replicate]
  congr 2;omega
 rw [j,l];simp [List.append_assoc]
theorem zS (g:Nat) (k:Int) (ys:List Int) (n:Nat) (x:Int) (s:Nat) (w:World) (a:ys.length=n) (b:w.heap[g]?=some (.cells (ab k (bH ys)) 37 (0,0))) (c:s<=4) (d:n+s<=56) (f:0<=x/\x<4294967296) :
 Calls Tryz.prog 178 #[.slice (some ⟨g,1,none⟩) n 56,.int .u32 x,.int .i64 s] w fun e w'=>e=.returned (.slice (some ⟨g,1,none⟩) (n+s) 56)/\w'.heap[g]?=some (.cells (ab k (bH (ys++be x.toNat s))) 37 (0,0))/\w.grownBy w' (some g):=by
 have h:=zP g k ys n x.toNat s w a b c d Ha
 rwa [show ((x.toNat:Nat):Int)=x by omega] at h
structure PW (w:World) (p:Nat) (n:Nd) (k:Int) (ys:List Int) (W:World):Prop where
 bel:Below p w W
 at_:aV W p n
 res:W.heap[p+1]?=some (.cells (ab 0 az) 37 (0,0))
 bd:W.heap[p+1+1]?=some (.cells (ab k (bH ys)) 37 (0,0))
theorem PW.sz {w:World} {p:Nat} {n:Nd} {k:Int} {ys:List Int} {W:World} (h:PW w p n k ys W):p+1+1<W.heap.size:=ah h.bd
theorem PW.below {w:World} {p:Nat} {n:Nd} {k:Int} {ys:List Int} {W W':World} (h:PW w p n k ys W) (a:Below W.heap.size W W'):PW w p n k ys W' :=
 ⟨h.bel.trans (a.mono (by have:=h.sz;omega)),h.at_.below a,kb a h.res,kb a h.bd⟩
theorem PW.step {w:World} {p:Nat} {n:Nd} {k:Int} {ys b:List Int} {W W':World} (h:PW w p n k ys W) (c:W'.heap[p+1+1]?=some (.cells (ab k (bH b)) 37 (0,0))) (a:W.grownBy W' (some (p+1+1))):PW w p n k b W' :=
 ⟨h.bel.grown a (by have:=h.sz;omega) (fun j hj=>by injection hj with hj;omega),h.at_.grown a (by simp;omega),by rw [a.block _ (by have:=h.sz;omega) Hb];exact h.res,c⟩
theorem PW.alloc {w:World} {p:Nat} {n:Nd} {k:Int} {ys:List Int} {W:World} (h:PW w p n k ys W) (o:Obj):PW w p n k ys (W.alloc o):=h.below (aM o)
theorem PW.copied {w:World} {p:Nat} {n:Nd} {k:Int} {ys a:List Int} {W:World} (h:PW w p n k ys W):PW w p n k a (W.setRow (p+1+1) (ab k (bH a))) :=
 ⟨below_setRow h.bel Ha _,h.at_.other _ Ha,by rw [setRow_other W _ _ _ Ha];exact h.res,am h.bd⟩
theorem aV.nts {w:World} {p:Nat} {n:Nd} (h:aV w p n):jF w (some ⟨p,3,none⟩) [n.a,n.b,n.c,n.d]:=fun i x e=>by
 refine ⟨_,rfl,?_⟩;rw [cZ,h.cell];have f:=(List.getElem?_eq_some_iff.1 e).1;simp only [List.length_cons,List.length_nil] at f
 match i,f,e with
 | 0,_,e=>injection e with e;subst e;rfl
 | 1,_,e=>injection e with e;subst e;rfl
 | 2,_,e=>injection e with e;subst e;rfl
 | 3,_,e=>injection e with e;subst e;rfl
structure MO (w:World) (p:Nat) (n:Nd) (W:World):Prop where
 bel:Below p w W
 sz:p+1<=W.heap.size
 at_:aV W p n
def K2 (p:Nat) (n:Nd) (i:Nat) (v:Value) (W:World):Prop :=
 match i with
 | 1=>v=.pointer (some ⟨p,3,none⟩)
 | 2=>v=.slice (some ⟨p,3,none⟩) 4 4
 | 4=>v=.pointer (some ⟨p,7,none⟩)
 | 5=>v=.int .i64 n.x
 | 0=>(∃ g,v=.slice (some ⟨g,0,none⟩) 0 0/\p+1<=g/\W.heap[g]?=some (.cells #[] 3 (0,0)))
 | 3=>W.ownsRow (p+1) 3 1 v 4 (Is [n.a,n.b,n.c,n.d])
 | 6=>(∃ g,v=.slice (some ⟨g,0,none⟩) 1 1/\W.heap[g]?=some (.cells #[.int .i64 n.x] 3 (0,0)))
 | 7=>W.ownsRow (p+1) 3 1 v 5 (Is n.ps)
 | _=>True
def LD (i:Nat) (w w':World):Prop:=if i=7 then bV 4 5 w w' else w.grownBy w' none
theorem K2.on {p:Nat} {n:Nd} {i j:Nat} {v:Value} {w w':World} (c:i≠j) (h:K2 p n j v w) (a:LD i w w'):K2 p n j v w':=by
 unfold LD at a;by_cases d:i=7
 ·rw [if_pos d] at a;unfold K2 at *;split <;> try exact h
  ·obtain ⟨g,e,f,b⟩:=h;exact ⟨g,e,f,a.small _ _ _ _ b Hd⟩
  ·exact iL h a Hd
  ·obtain ⟨g,e,b⟩:=h;exact ⟨g,e,a.small _ _ _ _ b (show 1<5 by omega)⟩
  ·exact absurd d c
  ·trivial
 ·rw [if_neg d] at a;unfold K2 at *;split <;> try exact h
  ·obtain ⟨g,e,f,b⟩:=h;exact ⟨g,e,f,by rw [a.block g (ah b) Hb];exact b⟩
  ·exact World.ownsRow.kept h a (by cases v.ownBlock <;> simp)
  ·obtain ⟨g,e,b⟩:=h;exact ⟨g,e,by rw [a.block g (ah b) Hb];exact b⟩
  ·exact World.ownsRow.kept h a (by cases v.ownBlock <;> simp)
  ·trivial
theorem ug:CS jN:=Hd
theorem aS.pl {k:Int} {n:Nd} (h:aS k n):CS n.ps:=by
 rcases h.2 with a | a | a
 ·exact a.2.2.2
 ·rw [a.2.2.2.2];exact ug
 ·rw [a.2.2.2];exact ug
theorem ni (n:Nd):n.ps.length=5:=rfl
theorem Ik (n:Nd):n.ps=jN↔∀ j,j<5->n.ps.getD j 0 = -1:=by
 constructor
 ·intro h j hj;rw [h]
  match j,hj with
  | 0,_=>rfl
  | 1,_=>rfl
  | 2,_=>rfl
  | 3,_=>rfl
  | 4,_=>rfl
 ·intro h;have a:=h 0 Ha;have b:=h 1 Ha;have c:=h 2 Ha;have d:=h 3 Ha;have e:=h 4 Ha;unfold Nd.ps jN at *;simp only [List.getD_cons_zero,List.getD_cons_succ] at a b c d e;rw [a,b,c,d,e]
theorem CV (k:Int) (n:Nd) (w:World) (hn:jY n) (htl:n.t.length<=100):Calls Tryz.prog 127 #[.int .i64 k,.agg (bF n)] w fun e w'=>e=.returned (.bool (decide (aS k n)))/\Below w.heap.size w w':=by
 have HN:=He (aV.new w n);have HB:=He (aM (w:=w) (Obj.cells (bF n) 137));have hs:=vF hn.t;have HT:=He (fun w=>mH n.t w hn.t htl);have HMA:=He mc;have hsz:=strOfNums_size n.t;have HS:Hid (w.heap.size+1<=(w.alloc (Obj.cells (bF n) 137)).heap.size):=by unfold Hid;rw [al];exact Nat.le_refl _
 go_enter Tryz.func127,Tryz.ntmps127;go_upto_region 1 with fail
 obtain ⟨c0,c1,c2,c7,c8⟩:=HN.out.cells;generalize w.alloc (Obj.cells (bF n) 137)=W at *;have HTN:Hid (∀ b,decide (n.t=[])=b->(n.t=[]↔b=true)):=fun b h=>by subst h;simp
 generalize hbt:decide (n.t=[])=bt at hs;have HTB:=He (HTN.out bt hbt);clear hbt HTN c7;by_cases h1:n.g<1
 ·have HF:Hid (decide (aS k n)=false):=decide_eq_false fun h=>by unfold aS at h;omega
  go_wp2_with fail
  go_ret;exact ⟨aj HF.out.symm,HB.out⟩
 by_cases h2:n.l<0
 ·have HF:Hid (decide (aS k n)=false):=decide_eq_false fun h=>by unfold aS at h;omega
  go_wp2_with fail
  go_ret;exact ⟨aj HF.out.symm,HB.out⟩
 by_cases h3:1000<n.l
 ·have HF:Hid (decide (aS k n)=false):=decide_eq_false fun h=>by unfold aS at h;omega
  go_wp2_with fail
  go_ret;exact ⟨aj HF.out.symm,HB.out⟩
 go_upto_region 3 with fail
 generalize hp:w.heap.size=p at *
 go_cut [5] (fun s wx=>wx.ownsRow (p+1) 3 1 s 5 (Is n.ps)/\Below p w wx/\aV wx p n)
 case first =>
  have hJ0:MO w p n W.drew:=⟨HB.out.drew,HS.out,HN.out⟩
  refine ax (K2 p n) (fun _ W=>MO w p n W) LD Hc Hc (fun i j v' w' w'' hij hind h hg=>h.on hij hg) hJ0 ?_;have srefl:∀ (i:Nat) (W:World),LD i W W:=fun i W=>by unfold LD;split;exact bV.grown (World.grownBy.refl _ _);exact World.grownBy.refl _ _
  clear hJ0 HB HS HN c0 c1 c2 c8 hs;simp only [cf];refine ⟨?_,?_,?_,?_,?_,?_,?_,?_,?_⟩
  ·refine aa.of rfl fun T W L hag hL hJ hLs hd=>?_;clear hag hd;go_simp;exact ⟨_,rfl,⟨_,rfl,hJ.sz,heap_alloc_new _ _⟩,⟨hJ.bel.alloc (Nat.le_trans (Nat.le_succ _) hJ.sz) _,by rw [al];exact Nat.le_succ_of_le hJ.sz,hJ.at_.alloc _⟩,World.grownBy_alloc W _ _⟩
  ·refine aa.of rfl fun T W L hag hL hJ hLs hd=>?_;have e3:=Hf hag 3;exact Hi
  ·refine aa.of rfl fun T W L hag hL hJ hLs hd=>?_;have d23:T.getD 23 undef=_:=Hg hd 1 rfl;exact Hi
  ·refine aa.of rfl fun T W L hag hL hJ hLs hd=>?_;have x22:(∃ g,(T.getD 22 undef)=.slice (some ⟨g,0,none⟩) 0 0/\p+1<=g/\W.heap[g]?=some (.cells #[] 3 (0,0))):=Hg hd 0 rfl;have d24:T.getD 24 undef=_:=Hg hd 2 rfl;obtain ⟨g,(e22:T.getD 22 undef=_),hb,hg⟩:=x22;refine wJ W (.tmp 22) (.tmp 24) rfl (p+1) g e22 hb hg (some ⟨p,3,none⟩) 4 4 [n.a,n.b,n.c,n.d] d24 hJ.at_.nts rfl Ha Ha hJ.sz ?_;intro v' w' h1 h2;exact ⟨_,rfl,h1,⟨hJ.bel.grown h2 (Nat.le_trans (Nat.le_succ _) hJ.sz) Hb,Nat.le_trans hJ.sz h2.size,hJ.at_.grown h2 Hb⟩,h2⟩
  ·refine aa.of rfl fun T W L hag hL hJ hLs hd=>?_;have e3:=Hf hag 3;exact Hi
  ·refine aa.of rfl fun T W L hag hL hJ hLs hd=>?_;have d26:T.getD 26 undef=_:=Hg hd 4 rfl;have fct0:=(show W.cell? ⟨p,7,none⟩=some (.int .i64 n.x) from hJ.at_.cell 7)
   exact Hi
  ·refine aa.of rfl fun T W L hag hL hJ hLs hd=>?_;have d27:T.getD 27 undef=_:=Hg hd 5 rfl;simp only [Array.getD_eq_getD_getElem?] at d27;clear hag hd;go_simp;exact ⟨_,rfl,⟨_,rfl,heap_alloc_new _ _⟩,⟨hJ.bel.alloc (Nat.le_trans (Nat.le_succ _) hJ.sz) _,by rw [al];exact Nat.le_succ_of_le hJ.sz,hJ.at_.alloc _⟩,World.grownBy_alloc W _ _⟩
  ·refine aa.of rfl fun T W L hag hL hJ hLs hd=>?_;have x25:W.ownsRow (p+1) 3 1 (T.getD 25 undef) 4 (Is [n.a,n.b,n.c,n.d]):=Hg hd 3 rfl;have x28:(∃ g,(T.getD 28 undef)=.slice (some ⟨g,0,none⟩) 1 1/\W.heap[g]?=some (.cells #[.int .i64 n.x] 3 (0,0))):=Hg hd 6 rfl;obtain ⟨g,(e28:T.getD 28 undef=_),hg⟩:=x28;refine uZ W (.tmp 25) (.tmp 28) rfl (p+1) _ 4 _ rfl x25 (some ⟨g,0,none⟩) 1 1 [n.x] e28 (AN hg rfl) rfl Ha hJ.sz ?_;intro v' w' h1 h2 h3;have hne:(T.getD 25 undef).ownBlock≠some p:=fun e=>by have:=(x25.lt p e).1;omega
   exact ⟨_,rfl,h1,⟨hJ.bel.grown h2 (Nat.le_trans (Nat.le_succ _) hJ.sz) (fun k hk=>Nat.le_trans (Nat.le_succ _) (x25.lt k hk).1),Nat.le_trans hJ.sz h2.size,hJ.at_.grown h2 hne⟩,h3⟩
  ·refine bm.of rfl fun T W L hag hLs hL hJ hd=>?_;have x29:W.ownsRow (p+1) 3 1 (T.getD 29 undef) 5 (Is n.ps):=hd 7 _ Hb rfl;obtain ⟨f,hf,hT⟩:=aJ hag;have h29:=hf 29;rw [<- h29] at x29;have HX29:=He x29;clear h29 x29;have HJ:=He hJ;clear hag hd hJ hf;rw [hT];clear hT;simp only [List.pop_toArray,List.dropLast_cons_cons,List.dropLast_singleton,List.filterMap_cons,List.filterMap_nil,List.foldl_cons,List.foldl_nil,List.setIfInBounds_toArray,List.set_cons_succ,List.set_cons_zero];rename_i hJc hKc;go_wp2_with fail
   refine hJc _ _ ?_
   repeat apply Exists.intro
   exact ⟨⟨HX29.out,HJ.out.bel,HJ.out.at_⟩,rfl⟩
 case rest =>
  obtain ⟨own,hbel,hat⟩:=hcut;obtain ⟨A,d,rfl,hle,hd,hy⟩:=kC own (ni n);obtain ⟨ad,rfl,_⟩:=hy 0 n.a rfl;rw [ni n];clear own hle hd HB HS HN c0 c1 c2 c8;go_wp2_with fail
  go_loopw [6,7] (fun nn i wr=>∃ (b:Bool) (k2:Nat),nn=.bool b/\i=.int .i64 k2/\k2<=5/\Hid (b=true↔∀ j,j<k2->n.ps.getD j 0 = -1)/\Hid (∀ j,j<k2->oc n.ps j)/\Hid (jF wr (some ad) n.ps)/\Hid (Below p w wr)/\Hid (aV wr p n)) (fun _ i _=>(5-intOf i).toNat)
  case atStart=>exact ⟨true,0,rfl,rfl,Ha,⟨fun _ j hj=>absurd hj Ha,fun _=>rfl⟩,(fun j hj=>absurd hj Ha),hy,hbel,hat⟩
  case round =>
   obtain ⟨b,k2,rfl,rfl,hk2,HBN,HPL,HY,HB,HN⟩:=hrel;clear hy hbel hat;by_cases hlt:k2<5
   ·have hx:n.ps[k2]?=some (n.ps.getD k2 0):=by
     rw [List.getD,List.getElem?_eq_getElem (by rw [ni];exact hlt)];rfl
    obtain ⟨ad2,e2,hcx⟩:=HY.out k2 _ hx;injection e2 with e2;subst e2
    have HX:=He hx;have HE:Hid (oc n.ps k2↔(n.ps.getD k2 0 = -1\/((1<=n.ps.getD k2 0/\n.ps.getD k2 0<200)/\n.ps.getD k2 0 ∉ n.ps.take k2))):=Iff.rfl;have HNO:Hid (¬ oc n.ps k2->decide (aS k n)=false):=fun h=>decide_eq_false fun hm=>h (hm.pl k2 hlt);have HPN:Hid (oc n.ps k2->∀ j,j<k2+1->oc n.ps j):=fun h j hj=>by
     rcases Nat.lt_or_ge j k2 with h8 | h8
     ·exact HPL.out j h8
     ·obtain rfl:j=k2:=Ha;exact h
    have HBX:Hid ((b=true/\n.ps.getD k2 0 = -1)↔∀ j,j<k2+1->n.ps.getD j 0 = -1):=by
     constructor
     ·rintro ⟨h8,h9⟩ j hj;rcases Nat.lt_or_ge j k2 with h7 | h7
      ·exact HBN.out.1 h8 j h7
      ·obtain rfl:j=k2:=Ha;exact h9
     ·intro h;exact ⟨HBN.out.2 fun j hj=>h j Ha,h k2 Ha⟩
    clear hx;generalize hxx:n.ps.getD k2 0=x at *;clear hxx;have HM:=He (HMA.out x);by_cases hx1:x = -1
    ·cases b
     ·have hg1:decide (x = -1)=true:=decide_eq_true hx1;have hg2:(x != -1)=false:=by simp [hx1]
      have hg3:(x == -1)=true:=by simp [hx1]
      go_wp2_with fail
      clear hg1 hg2 hg3
      go_loopw [8] (fun i wq=>∃ j2:Nat,i=.int .i64 j2/\j2<=k2/\Hid (x ≠ -1->x ∉ n.ps.take j2)/\Hid (jF wq (some ad) n.ps)/\Hid (Below p w wq)/\Hid (aV wq p n)) (fun i _=>(k2-intOf i).toNat)
      case atStart=>exact ⟨0,rfl,Ha,(fun _ h=>by simp at h),HY,HB,HN⟩
      case round =>
       obtain ⟨j2,rfl,hj2,HNI,HYq,HBq,HNq⟩:=hrel;obtain ⟨w5,rfl⟩:∃ w5,w5=wr:=⟨wr,rfl⟩
       clear hcx HY HB HN;by_cases hjl:j2<k2
       ·obtain ⟨y,hyj⟩:∃ y,n.ps[j2]?=some y:=⟨_,List.getElem?_eq_getElem (by rw [ni];omega)⟩
        obtain ⟨ad3,e3,hcy⟩:=HYq.out j2 _ hyj;injection e3 with e3;subst e3
        obtain ⟨ad3,e3,hcx⟩:=HYq.out k2 _ HX.out;injection e3 with e3;subst e3
        have HYJ:=He hyj;clear hyj;have hcxq:=fun q=>(show ((w5.drewN q).cell? (ad.add k2)=some (.int .i64 x)) from hcx)
        have hcyq:=fun q=>(show ((w5.drewN q).cell? (ad.add j2)=some (.int .i64 y)) from hcy)
        have hg1:decide (x = -1)=true:=decide_eq_true hx1;have hg2:(x != -1)=false:=by simp [hx1]
        have HNI2:Hid (x ≠ -1->x ∉ n.ps.take (j2+1)):=fun h=>absurd hx1 h;clear hx1;go_upto_region 14 with fail
        go_quiet (fail)
        go_wp2_with fail
        go_roundw
        case rel=>exact ⟨j2+1,by go_num,Ha,HNI2,HYq,DK HBq.out _,HNq⟩
        case measure=>simp [intOf];omega
       ·obtain rfl:j2=k2:=Ha;have HPK:=He (HPN.out (HE.out.2 (Or.inl hx1)));have HBK:Hid (false=true↔∀ j,j<j2+1->n.ps.getD j 0 = -1):=⟨(fun h=>by cases h),(fun h=>by have:=HBX.out.2 h;simp_all)⟩
        clear hx1;go_wp2_with fail
        go_roundw
        case rel=>exact ⟨_,j2+1,rfl,by go_num,Ha,HBK,HPK,HYq,HBq,HNq⟩
        case measure=>simp [intOf];omega
     ·have hg1:decide (x = -1)=true:=decide_eq_true hx1;have hg2:(x != -1)=false:=by simp [hx1]
      have hg3:(x == -1)=true:=by simp [hx1]
      go_wp2_with fail
      clear hg1 hg2 hg3
      go_loopw [8] (fun i wq=>∃ j2:Nat,i=.int .i64 j2/\j2<=k2/\Hid (x ≠ -1->x ∉ n.ps.take j2)/\Hid (jF wq (some ad) n.ps)/\Hid (Below p w wq)/\Hid (aV wq p n)) (fun i _=>(k2-intOf i).toNat)
      case atStart=>exact ⟨0,rfl,Ha,(fun _ h=>by simp at h),HY,HB,HN⟩
      case round =>
       obtain ⟨j2,rfl,hj2,HNI,HYq,HBq,HNq⟩:=hrel;obtain ⟨w5,rfl⟩:∃ w5,w5=wr:=⟨wr,rfl⟩
       clear hcx HY HB HN;by_cases hjl:j2<k2
       ·obtain ⟨y,hyj⟩:∃ y,n.ps[j2]?=some y:=⟨_,List.getElem?_eq_getElem (by rw [ni];omega)⟩
        obtain ⟨ad3,e3,hcy⟩:=HYq.out j2 _ hyj;injection e3 with e3;subst e3
        obtain ⟨ad3,e3,hcx⟩:=HYq.out k2 _ HX.out;injection e3 with e3;subst e3
        have HYJ:=He hyj;clear hyj;have hcxq:=fun q=>(show ((w5.drewN q).cell? (ad.add k2)=some (.int .i64 x)) from hcx)
        have hcyq:=fun q=>(show ((w5.drewN q).cell? (ad.add j2)=some (.int .i64 y)) from hcy)
        have hg1:decide (x = -1)=true:=decide_eq_true hx1;have hg2:(x != -1)=false:=by simp [hx1]
        have HNI2:Hid (x ≠ -1->x ∉ n.ps.take (j2+1)):=fun h=>absurd hx1 h;clear hx1;go_upto_region 14 with fail
        go_quiet (fail)
        go_wp2_with fail
        go_roundw
        case rel=>exact ⟨j2+1,by go_num,Ha,HNI2,HYq,DK HBq.out _,HNq⟩
        case measure=>simp [intOf];omega
       ·obtain rfl:j2=k2:=Ha;have HPK:=He (HPN.out (HE.out.2 (Or.inl hx1)));have HBK:Hid (true=true↔∀ j,j<j2+1->n.ps.getD j 0 = -1):=⟨fun _=>HBX.out.1 ⟨by first | trivial | rfl,hx1⟩,fun _=>rfl⟩
        clear hx1;go_wp2_with fail
        go_roundw
        case rel=>exact ⟨_,j2+1,rfl,by go_num,Ha,HBK,HPK,HYq,HBq,HNq⟩
        case measure=>simp [intOf];omega
    ·have hg1:decide (x = -1)=false:=decide_eq_false hx1;have hg2:(x != -1)=true:=by simp [hx1]
     have hg3:(x == -1)=false:=by simp [hx1]
     by_cases hmx:1<=x/\x<200
     ·have HM1:=He (decide_eq_true hmx);rw [HM1.out] at HM;cases b
      ·go_wp2_with fail
       refine (HM.out _).mono ?_;rintro e w7 ⟨rfl,rfl⟩;go_wp2_with fail
       clear hg1 hg2 hg3
       go_loopw [8] (fun i wq=>∃ j2:Nat,i=.int .i64 j2/\j2<=k2/\Hid (x ≠ -1->x ∉ n.ps.take j2)/\Hid (jF wq (some ad) n.ps)/\Hid (Below p w wq)/\Hid (aV wq p n)) (fun i _=>(k2-intOf i).toNat)
       case atStart=>exact ⟨0,rfl,Ha,(fun _ h=>by simp at h),HY,HB,HN⟩
       case round =>
        obtain ⟨j2,rfl,hj2,HNI,HYq,HBq,HNq⟩:=hrel;obtain ⟨w5,rfl⟩:∃ w5,w5=wr:=⟨wr,rfl⟩
        clear hcx HY HB HN;by_cases hjl:j2<k2
        ·obtain ⟨y,hyj⟩:∃ y,n.ps[j2]?=some y:=⟨_,List.getElem?_eq_getElem (by rw [ni];omega)⟩
         obtain ⟨ad3,e3,hcy⟩:=HYq.out j2 _ hyj;injection e3 with e3;subst e3
         obtain ⟨ad3,e3,hcx⟩:=HYq.out k2 _ HX.out;injection e3 with e3;subst e3
         have HYJ:=He hyj;clear hyj;have hcxq:=fun q=>(show ((w5.drewN q).cell? (ad.add k2)=some (.int .i64 x)) from hcx)
         have hcyq:=fun q=>(show ((w5.drewN q).cell? (ad.add j2)=some (.int .i64 y)) from hcy)
         have hg1:decide (x = -1)=false:=decide_eq_false hx1;have hg2:(x != -1)=true:=by simp [hx1]
         by_cases hyx:y=x
         ·have HF:=He (HNO.out fun h=>by
           rcases HE.out.1 h with h8 | h8
           ·exact hx1 h8
           ·refine h8.2 (List.mem_of_getElem? (i:=j2) ?_);rw [List.getElem?_take,if_pos hjl,HYJ.out,hyx])
          have hg3:decide (y=x)=true:=decide_eq_true hyx;have hg4:(y==x)=true:=by simp [hyx]
          clear hyx hx1;go_upto_region 14 with fail
          go_quiet (fail)
          go_wp2_with fail
          go_ret;exact ⟨aj HF.out.symm,(by rw [hp];exact DK HBq.out _)⟩
         ·have HNI2:Hid (x ≠ -1->x ∉ n.ps.take (j2+1)):=fun h hm=>by
           rw [aw HYJ.out,List.mem_append,List.mem_singleton] at hm;rcases hm with hm | hm
           ·exact HNI.out h hm
           ·exact hyx hm.symm
          have hg3:decide (y=x)=false:=decide_eq_false hyx;have hg4:(y==x)=false:=by simp [hyx]
          clear hyx hx1;go_upto_region 14 with fail
          go_quiet (fail)
          go_wp2_with fail
          go_roundw
          case rel=>exact ⟨j2+1,by go_num,Ha,HNI2,HYq,DK HBq.out _,HNq⟩
          case measure=>simp [intOf];omega
        ·obtain rfl:j2=k2:=Ha;have HPK:=He (HPN.out (HE.out.2 (Or.inr ⟨hmx,HNI.out hx1⟩)));have HBK:Hid (false=true↔∀ j,j<j2+1->n.ps.getD j 0 = -1):=⟨(fun h=>by cases h),(fun h=>by have:=HBX.out.2 h;simp_all)⟩
         clear hx1;clear hmx;go_wp2_with fail
         go_roundw
         case rel=>exact ⟨_,j2+1,rfl,by go_num,Ha,HBK,HPK,HYq,HBq,HNq⟩
         case measure=>simp [intOf];omega
      ·go_wp2_with fail
       refine (HM.out _).mono ?_;rintro e w7 ⟨rfl,rfl⟩;go_wp2_with fail
       clear hg1 hg2 hg3
       go_loopw [8] (fun i wq=>∃ j2:Nat,i=.int .i64 j2/\j2<=k2/\Hid (x ≠ -1->x ∉ n.ps.take j2)/\Hid (jF wq (some ad) n.ps)/\Hid (Below p w wq)/\Hid (aV wq p n)) (fun i _=>(k2-intOf i).toNat)
       case atStart=>exact ⟨0,rfl,Ha,(fun _ h=>by simp at h),HY,HB,HN⟩
       case round =>
        obtain ⟨j2,rfl,hj2,HNI,HYq,HBq,HNq⟩:=hrel;obtain ⟨w5,rfl⟩:∃ w5,w5=wr:=⟨wr,rfl⟩
        clear hcx HY HB HN;by_cases hjl:j2<k2
        ·obtain ⟨y,hyj⟩:∃ y,n.ps[j2]?=some y:=⟨_,List.getElem?_eq_getElem (by rw [ni];omega)⟩
         obtain ⟨ad3,e3,hcy⟩:=HYq.out j2 _ hyj;injection e3 with e3;subst e3
         obtain ⟨ad3,e3,hcx⟩:=HYq.out k2 _ HX.out;injection e3 with e3;subst e3
         have HYJ:=He hyj;clear hyj;have hcxq:=fun q=>(show ((w5.drewN q).cell? (ad.add k2)=some (.int .i64 x)) from hcx)
         have hcyq:=fun q=>(show ((w5.drewN q).cell? (ad.add j2)=some (.int .i64 y)) from hcy)
         have hg1:decide (x = -1)=false:=decide_eq_false hx1;have hg2:(x != -1)=true:=by simp [hx1]
         by_cases hyx:y=x
         ·have HF:=He (HNO.out fun h=>by
           rcases HE.out.1 h with h8 | h8
           ·exact hx1 h8
           ·refine h8.2 (List.mem_of_getElem? (i:=j2) ?_);rw [List.getElem?_take,if_pos hjl,HYJ.out,hyx])
          have hg3:decide (y=x)=true:=decide_eq_true hyx;have hg4:(y==x)=true:=by simp [hyx]
          clear hyx hx1;go_upto_region 14 with fail
          go_quiet (fail)
          go_wp2_with fail
          go_ret;exact ⟨aj HF.out.symm,(by rw [hp];exact DK HBq.out _)⟩
         ·have HNI2:Hid (x ≠ -1->x ∉ n.ps.take (j2+1)):=fun h hm=>by
           rw [aw HYJ.out,List.mem_append,List.mem_singleton] at hm;rcases hm with hm | hm
           ·exact HNI.out h hm
           ·exact hyx hm.symm
          have hg3:decide (y=x)=false:=decide_eq_false hyx;have hg4:(y==x)=false:=by simp [hyx]
          clear hyx hx1;go_upto_region 14 with fail
          go_quiet (fail)
          go_wp2_with fail
          go_roundw
          case rel=>exact ⟨j2+1,by go_num,Ha,HNI2,HYq,DK HBq.out _,HNq⟩
          case measure=>simp [intOf];omega
        ·obtain rfl:j2=k2:=Ha;have HPK:=He (HPN.out (HE.out.2 (Or.inr ⟨hmx,HNI.out hx1⟩)));have HBK:Hid (false=true↔∀ j,j<j2+1->n.ps.getD j 0 = -1):=⟨(fun h=>by cases h),(fun h=>by have:=HBX.out.2 h;simp_all)⟩
         clear hx1;clear hmx;go_wp2_with fail
         go_roundw
         case rel=>exact ⟨_,j2+1,rfl,by go_num,Ha,HBK,HPK,HYq,HBq,HNq⟩
         case measure=>simp [intOf];omega
     ·have HM1:=He (decide_eq_false hmx);rw [HM1.out] at HM;have HF:=He (HNO.out fun h=>by rcases HE.out.1 h with h8 | h8;exact hx1 h8;exact hmx h8.1);clear hmx;go_wp2_with fail
      refine (HM.out _).mono ?_;rintro e w7 ⟨rfl,rfl⟩;go_wp2_with fail
      go_ret;exact ⟨aj HF.out.symm,(by rw [hp];exact HB.out)⟩
   ·obtain rfl:k2=5:=Ha;have HPLM:Hid (CS n.ps):=HPL;have HBN5:Hid (b=true↔n.ps=jN):=HBN.out.trans (Ik n).symm;obtain ⟨c0,c1,c2,c7,c8⟩:=HN.out.cells;have hs2:=hs;clear HPL HBN hs2 HMA;by_cases k1:k=1
    ·subst k1;by_cases hs0:0<=n.s
     ·by_cases hs1:n.s<=1120
      ·cases bt
       ·have hq:=hs1;have HF:Hid (decide (aS 1 n)=false):=decide_eq_false fun h=>by have h9:=HTB.out;have h10:=HBN5.out;unfold aS at h;rcases h.2 with h6 | h6 | h6 <;> simp_all
        go_wp2_with fail
        go_ret;exact ⟨aj HF.out.symm,by first | exact HB.out | (rw [hp];exact HB.out)⟩
       ·have hq:=hs1;have HF:Hid (decide (aS 1 n)=true):=decide_eq_true ⟨⟨Ha,Ha,Ha⟩,Or.inl ⟨rfl,⟨hs0,hs1⟩,HTB.out.2 rfl,HPLM.out⟩⟩;go_wp2_with fail
        go_ret;exact ⟨aj HF.out.symm,by first | exact HB.out | (rw [hp];exact HB.out)⟩
      ·have hq:=hs1;have HF:Hid (decide (aS 1 n)=false):=decide_eq_false fun h=>by unfold aS at h;omega
       go_wp2_with fail
       go_ret;exact ⟨aj HF.out.symm,by first | exact HB.out | (rw [hp];exact HB.out)⟩
     ·have hq:=hs0;have HF:Hid (decide (aS 1 n)=false):=decide_eq_false fun h=>by unfold aS at h;omega
      go_wp2_with fail
      go_ret;exact ⟨aj HF.out.symm,by first | exact HB.out | (rw [hp];exact HB.out)⟩
    by_cases k2:k=2
    ·subst k2;by_cases hs0:n.s=0
     ·cases b
      ·have hq:=hs0;have HF:Hid (decide (aS 2 n)=false):=decide_eq_false fun h=>by have h9:=HTB.out;have h10:=HBN5.out;unfold aS at h;rcases h.2 with h6 | h6 | h6 <;> simp_all
       go_wp2_with fail
       go_ret;exact ⟨aj HF.out.symm,by first | exact HB.out | (rw [hp];exact HB.out)⟩
      ·cases bt
       ·have hq:=hs0;have HF:Hid (decide (aS 2 n)=false):=decide_eq_false fun h=>by have h9:=HTB.out;have h10:=HBN5.out;unfold aS at h;rcases h.2 with h6 | h6 | h6 <;> simp_all
        go_wp2_with fail
        go_ret;exact ⟨aj HF.out.symm,by first | exact HB.out | (rw [hp];exact HB.out)⟩
       ·by_cases hl1:n.l<=1
        ·have hq:=hl1;have HF:Hid (decide (aS 2 n)=true):=decide_eq_true ⟨⟨Ha,Ha,Ha⟩,Or.inr (Or.inl ⟨rfl,hl1,hs0,HTB.out.2 rfl,HBN5.out.1 rfl⟩)⟩;go_wp2_with fail
         go_ret;exact ⟨aj HF.out.symm,by first | exact HB.out | (rw [hp];exact HB.out)⟩
        ·have hq:=hl1;have HF:Hid (decide (aS 2 n)=false):=decide_eq_false fun h=>by unfold aS at h;omega
         go_wp2_with fail
         go_ret;exact ⟨aj HF.out.symm,by first | exact HB.out | (rw [hp];exact HB.out)⟩
     ·have hq:=hs0;have HF:Hid (decide (aS 2 n)=false):=decide_eq_false fun h=>by unfold aS at h;omega
      go_wp2_with fail
      go_ret;exact ⟨aj HF.out.symm,by first | exact HB.out | (rw [hp];exact HB.out)⟩
    by_cases k3:k=3
    ·subst k3;cases b
     ·have hq:=hsz;have HF:Hid (decide (aS 3 n)=false):=decide_eq_false fun h=>by have h9:=HTB.out;have h10:=HBN5.out;unfold aS at h;rcases h.2 with h6 | h6 | h6 <;> simp_all
      go_wp2_with fail
      go_ret;exact ⟨aj HF.out.symm,by first | exact HB.out | (rw [hp];exact HB.out)⟩
     ·have HLN:=He hsz;by_cases h4:uf n.t
      ·have HT0:=He (decide_eq_true h4);rw [HT0.out] at HT;by_cases h5:n.s=n.t.length
       ·have HF:Hid (decide (aS 3 n)=true):=decide_eq_true ⟨⟨Ha,Ha,Ha⟩,Or.inr (Or.inr ⟨rfl,h4,h5,HBN5.out.1 rfl⟩)⟩;rw [<- HLN.out] at h5;have h5a:(n.s==((strOfNums n.t).size:Int))=true:=by simpa using h5
        have h5b:decide (n.s=((strOfNums n.t).size:Int))=true:=decide_eq_true h5;clear h4 hsz h5 HLN HTB HT0;go_wp2_with fail
        refine (HT.out _).mono ?_;rintro e w8 ⟨rfl,rfl⟩;go_wp2_with fail
        go_ret;exact ⟨aj HF.out.symm,by first | exact HB.out | (rw [hp];exact HB.out)⟩
       ·have HF:Hid (decide (aS 3 n)=false):=decide_eq_false fun h=>by unfold aS at h;rcases h.2 with h6 | h6 | h6;exact absurd h6.1 Ha;exact absurd h6.1 Ha;exact h5 h6.2.2.1
        rw [<- HLN.out] at h5;have h5a:(n.s==((strOfNums n.t).size:Int))=false:=by simpa using h5
        have h5b:decide (n.s=((strOfNums n.t).size:Int))=false:=decide_eq_false h5;clear h4 hsz h5 HLN HTB HT0;go_wp2_with fail
        refine (HT.out _).mono ?_;rintro e w8 ⟨rfl,rfl⟩;go_wp2_with fail
        go_ret;exact ⟨aj HF.out.symm,by first | exact HB.out | (rw [hp];exact HB.out)⟩
      ·have HT0:=He (decide_eq_false h4);rw [HT0.out] at HT;have HF:Hid (decide (aS 3 n)=false):=decide_eq_false fun h=>by unfold aS at h;rcases h.2 with h6 | h6 | h6;exact absurd h6.1 Ha;exact absurd h6.1 Ha;exact h4 h6.2.1
       clear h4 hsz HLN HTB HT0;go_wp2_with fail
       refine (HT.out _).mono ?_;rintro e w8 ⟨rfl,rfl⟩;go_wp2_with fail
       go_ret;exact ⟨aj HF.out.symm,by first | exact HB.out | (rw [hp];exact HB.out)⟩
    have HF:Hid (decide (aS k n)=false):=decide_eq_false fun h=>by unfold aS at h;omega
    go_wp2_with fail
    go_ret;exact ⟨aj HF.out.symm,by first | exact HB.out | (rw [hp];exact HB.out)⟩
theorem rF (k:Int) (A:Option Addr) (xs:List Int) (n d:Nat) (w:World) (v:xs.length=n) (S:n<=56) (z:dK w A xs) :
 Calls Tryz.prog 129 #[.int .i64 k,.slice A n d] w fun e w'=>e=.returned (.agg (ab k (bH xs)))/\Below w.heap.size w w':=by
 have p:=He v;have K:=He z;have a:Hid ((((w.alloc (Obj.cells (ab 0 az) 37)).alloc (Obj.cells (ab 0 az) 37)).heap[w.heap.size+1]?=some (.cells (ab 0 az) 37 (0,0)))/\(((w.alloc (Obj.cells (ab 0 az) 37)).alloc (Obj.cells (ab 0 az) 37)).heap[w.heap.size]?=some (.cells (ab 0 az) 37 (0,0)))):=by
  have L:(w.alloc (Obj.cells (ab 0 az) 37)).heap.size=w.heap.size+1:=al _ _;have B:=heap_alloc_new (w.alloc (Obj.cells (ab 0 az) 37)) (Obj.cells (ab 0 az) 37);rw [L] at B;exact ⟨B,kb (aM _) (heap_alloc_new w _)⟩
 have c:Hid (Below w.heap.size w ((w.alloc (Obj.cells (ab 0 az) 37)).alloc (Obj.cells (ab 0 az) 37))):=by
  have C:=aM (w:=w) (Obj.cells (ab 0 az) 37);exact C.alloc C.size _
 have f:Hid ((((w.alloc (Obj.cells (ab 0 az) 37)).alloc (Obj.cells (ab 0 az) 37)).setRow (w.heap.size+1) (ab k az)).heap[w.heap.size+1]?=some (.cells (ab k (bH [])) 37 (0,0))):=am a.out.1;have g:Hid ((((w.alloc (Obj.cells (ab 0 az) 37)).alloc (Obj.cells (ab 0 az) 37)).setRow (w.heap.size+1) (ab k az)).heap[w.heap.size]?=some (.cells (ab 0 az) 37 (0,0))):=by
  unfold Hid;rw [setRow_other _ _ _ _ Ha];exact a.out.2
 have l:=He (below_setRow c.out (show w.heap.size<=w.heap.size+1 by omega) (ab k az));clear v z c;go_enter Tryz.func129,Tryz.ntmps129;go_upto_region 2 with (first
  | (refine aq rfl rfl ?_;try simp only [al])
  | (refine jl rfl (.tmp 7) k rfl rfl ?_)
  | (refine ap rfl (.tmp 5) (.tmp 8) rfl (w.heap.size+1) rfl k 0 az az rfl ak ak a.out.1 ?_))
 clear a;generalize ((w.alloc (Obj.cells (ab 0 az) 37)).alloc (Obj.cells (ab 0 az) 37)).setRow (w.heap.size+1) (ab k az)=W at *;go_wp2_with fail
 go_loopw [6] (fun i wr=>∃ j:Nat,j<=n/\i=.int .i64 j/\Hid (wr.heap[w.heap.size+1]?=some (.cells (ab k (bH (xs.take j))) 37 (0,0)))/\Hid (wr.heap[w.heap.size]?=some (.cells (ab 0 az) 37 (0,0)))/\Hid (Below w.heap.size w wr)) (fun i _=>(n-intOf i).toNat)
 case atStart=>exact ⟨0,Ha,rfl,by rw [List.take_zero];exact f,g,l⟩
 case round =>
  obtain ⟨j,hj,rfl,m,q,HB⟩:=hrel;clear f g l;have o:(xs.take j).length=j:=by rw [List.length_take,p.out];omega
  have b:=He o;clear o;by_cases r:j<n
  ·obtain ⟨x,s⟩:∃ x,xs[j]?=some x:=⟨_,List.getElem?_eq_getElem (by rw [p.out];exact r)⟩
   obtain ⟨T,rfl,H⟩:=K.out j x s;have M:=cO HB.out H;have N:Hid ((bH (xs.take j)).set j x=bH (xs.take (j+1))):=by
    have h:=qt (ys:=xs.take j) (y:=x) (by rw [b.out];omega);rw [b.out] at h;unfold Hid;rw [h,aw s]
   have O:∃ u,wr.cell? ⟨w.heap.size+1,1+j,none⟩=some u:=by
    have R:=fV (ys:=xs.take j) (by rw [b.out];omega);exact ⟨_,(af m.out _).trans (Array.getElem?_eq_getElem (by rw [aP R];omega))⟩
   obtain ⟨u,U⟩:=O;have V:wr.frozen? ⟨w.heap.size+1,1+j,none⟩=false:=aA m.out _;have I:j<56:=Ha;clear s H;go_wp2_with fail
   go_roundw
   case rel =>
    refine ⟨j+1,Ha,by go_num,?_,?_,HB.out.setCell (show w.heap.size<=w.heap.size+1 by omega) _⟩
    ·unfold Hid;rw [ai m.out,lV,N.out]
    ·unfold Hid;rw [heap_setCell_other wr _ _ _ (show w.heap.size≠w.heap.size+1 by omega)];exact q.out
   case measure=>simp [intOf];omega
  ·obtain rfl:j=n:=Ha;have e:xs.take j=xs:=List.take_of_length_le (by rw [p.out];omega);rw [e] at m;have t:=He (fV (ys:=xs) (by rw [p.out];omega));go_wp2_with (first
    | (refine aT rfl (.tmp 5) rfl (w.heap.size+1) rfl k (bH xs) t.out m.out ?_)
    | (refine ap rfl (.tmp 4) (.tmp 26) rfl w.heap.size rfl k 0 (bH xs) az rfl t.out ak q.out ?_))
   refine bodyPost_ret (vA rfl _ _ w.heap.size k (bH xs) rfl t.out (am q.out)) rfl ?_;exact ⟨rfl,below_setRow HB.out (Nat.le_refl _) _⟩
theorem s7 {t:List Int} (h:ay t):Lib.strCells (strOfNums t)=Bs t:=by
 unfold Lib.strCells;rw [strOfNums_data];unfold Bs;rw [List.map_map];refine List.map_congr_left fun x a=>?_;have:=h x a;simp only [Function.comp_apply,UInt8.toNat_ofNat']
 congr 1
 omega
theorem xR (w:World) (ty:TypeId) (base:Nat) (v:Value) (n:Nat) (xs:List Int) (a:w.ownsRow base 5 1 v n (Bs xs)) (t:List Int) (N:ay t) (O:n+t.length<=1000000) (f:base<=w.heap.size) :
 ∃ v' w',(Builtin.append_ #[22,9] ty #[v,.string (strOfNums t)]).run Tryz.prog w=.ok v' w'/\w'.ownsRow base 5 1 v' (n+t.length) (Bs (xs++t))/\w.grownBy w' v.ownBlock/\bV n (n+t.length) w w':=by
 obtain ⟨A,m,o,h,p⟩:=info_parts jE;have l:=strOfNums_size t;obtain ⟨v',w',B,L,M,_⟩:=Lib.run_append_own_string (P:=Tryz.prog) w base 22 9 ty 5 A Tryz.underlying22 Tryz.underlying9 m o h p v n (Bs xs) a (strOfNums t) (by simp only [maxLen];omega) Ha f;rw [l,s7 N,<- je] at L;refine ⟨v',w',B,L,M,?_⟩;rcases a.2 with ⟨rfl,Z⟩ | ⟨g,d,r,rfl,hb,z,R,S,T,H⟩
 ·exact bV.grown M
 ·by_cases I:n+t.length<=d
  ·have b:=Lib.run_append_room_string (P:=Tryz.prog) w 22 9 ty 5 A Tryz.underlying22 Tryz.underlying9 m h g n d r z (strOfNums t) Ha Ha;rw [B] at b;injection b with s x
   subst x;refine ⟨rfl,rfl,rfl,Hb,fun q C U V c=>?_,fun q C U V c W=>?_⟩
   ·by_cases e:q=g
    ·subst e;rw [z] at c;injection c with c;injection c with s x X
     subst s;subst x;subst X;refine ⟨_,setRow_heap w q r _ _ _ z,?_,fun i m=>?_⟩
     ·simp only [List.size_toArray,List.length_append,List.length_take,List.length_drop,Array.length_toList,Lib.strCells_length,l];omega
     ·rw [<- Array.getElem?_toList,List.toList_toArray,List.append_assoc,List.getElem?_append_left (by rw [List.length_take,Array.length_toList];omega),List.getElem?_take,if_pos m,Array.getElem?_toList]
    ·exact ⟨C,by rw [setRow_other w g q _ e];exact c,rfl,fun _ _=>rfl⟩
   ·have e:q≠g:=fun e=>by
     subst e;rw [z] at c;injection c with c;injection c with s _ _
     subst s;omega
    rw [setRow_other w g q _ e];exact c
  ·have y:∀ j u,(Bs xs)[j]?=some u->w.cell? ((⟨g,0,none⟩:Addr).add j)=some u:=a.cells (g:=g) rfl;have K:=a.1;have b:=Lib.run_append_grow_string (P:=Tryz.prog) w 22 9 ty 5 A (.int .u8 0) Tryz.underlying22 Tryz.underlying9 m o ⟨g,0,none⟩ n d (Bs xs) (by rw [h];simpa using K) y (strOfNums t) Ha Ha (by rw [p,l];have:=nextslicecap_le (show d<n+t.length by omega);omega);rw [B] at b;injection b with s x
   subst x;exact bV.grown ⟨rfl,rfl,rfl,Hb,fun k Y _=>heap_alloc_old w.drew _ Y⟩
theorem rG (w:World) {o:Oper} {a:Act} {K:Act->World->Prop} {Q:Exit->Act->World->Prop} (s x:Operand)
 (j:o.op=.call { callee:=.builtin .append,args:=#[s,x],argTypes:=#[22,9] })
 (b:Nat) (v:Value) (n:Nat) (g:List Int) (k:a.eval s=v) (e:w.ownsRow b 5 1 v n (Bs g)) (t:List Int) (l:a.eval x=.string (strOfNums t)) (m:ay t)
 (i:n+t.length<=1000000) (c:b<=w.heap.size)
 (h:∀ f d,d.ownsRow b 5 1 f (n+t.length) (Bs (g++t))->w.grownBy d v.ownBlock->bV n (n+t.length) w d->K (a.put o.dst f) d):o.wp Tryz.prog a w K Q:=by
 obtain ⟨f,d,p,q,r,u⟩:=xR w o.type b v n g e t m i c;unfold Oper.wp execOp;simp only [j,resolve,invoke,builtin,Sem.run_bind,Sem.run_pure,Result.andThen_ok,List.map_toArray,List.map_cons,List.map_nil,k,l,p];exact h f d q r u
end Go.Proofs.YtegjelaejbacnaaGreat
