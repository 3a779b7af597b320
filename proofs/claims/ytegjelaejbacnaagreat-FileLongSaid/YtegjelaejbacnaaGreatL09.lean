/- For FileLong: contracts and facts, part 9. -/
import Derived.Laws.StructEq
import Derived.Laws.BitsAllLaws
import Derived.Deep.MidRow
import Derived.Laws.CopyOwn
import Derived.BigQuiet
import Derived.Deep.DeepCutAuto
import Derived.Test.YtegjelaejbacnaaGreatL01
import Derived.Test.YtegjelaejbacnaaGreatL03
import Derived.Test.YtegjelaejbacnaaGreatL07
import Derived.Test.YtegjelaejbacnaaGreatL08
set_option maxRecDepth 100000
set_option maxHeartbeats 25600000
set_option linter.unusedVariables false
open Go.ChangeShapes Go.WideShapes Go.ChangeAt Go.RowKit
namespace Go.Proofs.YtegjelaejbacnaaGreat
section
variable {α:Type}
def rowL (enc:α->List Value):List α->List Value
 | []=>[]
 | x :: l=>enc x++rowL enc l
def lu (enc:α->List Value) (sz:Nat) (l:List α):Prop:=∀ x∈l,(enc x).length=sz
theorem lu.tl {enc:α->List Value} {sz:Nat} {x:α} {l:List α} (h:lu enc sz (x :: l)):lu enc sz l:=fun y a=>h y (by simp [a])
theorem lu.hd {enc:α->List Value} {sz:Nat} {x:α} {l:List α} (h:lu enc sz (x :: l)):(enc x).length=sz:=h x Hb
theorem lx (enc:α->List Value):∀ (l m:List α),rowL enc (l++m)=rowL enc l++rowL enc m
 | [],_=>rfl
 | x :: l,m=>by show enc x++rowL enc (l++m)=_;rw [lx enc l m,<- List.append_assoc];rfl
theorem dN {enc:α->List Value} {sz:Nat}:∀ {l:List α},lu enc sz l->(rowL enc l).length=l.length*sz
 | [],_=>by simp [rowL]
 | x :: l,h=>by
   show (enc x++rowL enc l).length=(l.length+1)*sz;rw [List.length_append,h.hd,dN h.tl,Nat.add_mul];omega
theorem nX {enc:α->List Value} {sz:Nat}:∀ {l:List α},lu enc sz l->∀ {i:Nat} {x:α},l[i]?=some x->∀ {j:Nat} {v:Value},(enc x)[j]?=some v->(rowL enc l)[i*sz+j]?=some v
 | [],_,i,x,h,_,_,_=>by cases h
 | y :: l,a,0,x,h,j,v,hj=>by
   injection h with h;subst h
   show (enc y++rowL enc l)[0*sz+j]?=some v;rw [Nat.zero_mul,Nat.zero_add,List.getElem?_append_left (List.getElem?_eq_some_iff.1 hj).1];exact hj
 | y :: l,a,i+1,x,h,j,v,hj=>by
   have b:=nX (l:=l) a.tl (i:=i) h hj;show (enc y++rowL enc l)[(i+1)*sz+j]?=some v;rw [List.getElem?_append_right (by rw [a.hd,Nat.add_mul];omega),a.hd,show (i+1)*sz+j-sz=i*sz+j by rw [Nat.add_mul];omega];exact b
theorem xx {enc:α->List Value} (a:∀ x,∀ v∈enc x,v.oneCell'=true):∀ (l:List α),∀ v∈rowL enc l,v.oneCell'=true
 | [],v,h=>by cases h
 | x :: l,v,h=>by
   rcases List.mem_append.1 (show v∈enc x++rowL enc l from h) with h | h
   ·exact a x v h
   ·exact xx a l v h
theorem nY {enc:α->List Value} {sz:Nat}:∀ {l:List α},lu enc sz l->∀ {k:Nat} {x y:α} {j:Nat} {v:Value},l[k]?=some x->j<sz->enc y=(enc x).set j v->(rowL enc l).set (k*sz+j) v=rowL enc (l.set k y)
 | [],_,k,x,_,_,_,h,_,_=>by cases h
 | z :: l,a,0,x,y,j,v,h,hj,b=>by
   injection h with h;subst h
   show (enc z++rowL enc l).set (0*sz+j) v=enc y++rowL enc l;rw [Nat.zero_mul,Nat.zero_add,List.set_append_left _ _ (by rw [a.hd];exact hj),b]
 | z :: l,a,k+1,x,y,j,v,h,hj,b=>by
   show (enc z++rowL enc l).set ((k+1)*sz+j) v=enc z++rowL enc (l.set k y);rw [List.set_append_right _ _ (by rw [a.hd,Nat.add_mul];omega),a.hd,show (k+1)*sz+j-sz=k*sz+j by rw [Nat.add_mul];omega,nY a.tl h hj b]
theorem iP {enc:α->List Value} {sz:Nat}:∀ {l:List α},lu enc sz l->∀ {k:Nat} {x y:α} {j:Nat} {cs:List Value},l[k]?=some x->j+cs.length<=sz->enc y=splice (enc x) j cs->splice (rowL enc l) (k*sz+j) cs=rowL enc (l.set k y)
 | [],_,k,x,_,_,_,h,_,_=>by cases h
 | z :: l,a,0,x,y,j,cs,h,hj,b=>by
   injection h with h;subst h
   show splice (enc z++rowL enc l) (0*sz+j) cs=enc y++rowL enc l;rw [Nat.zero_mul,Nat.zero_add,b];unfold splice;have:=a.hd;rw [List.take_append_of_le_length Ha,List.drop_append_of_le_length Ha];simp
 | z :: l,a,k+1,x,y,j,cs,h,hj,b=>by
   show splice (enc z++rowL enc l) ((k+1)*sz+j) cs=enc z++rowL enc (l.set k y);rw [<- iP a.tl h hj b];have e:=a.hd;unfold splice;rw [show (k+1)*sz+j=(enc z).length+(k*sz+j) by rw [e,Nat.add_mul];omega,List.take_length_add_append,Nat.add_assoc,List.drop_length_add_append];simp
theorem tN {enc:α->List Value} {sz:Nat}:∀ {l:List α},lu enc sz l->∀ (k:Nat),(rowL enc l).take (k*sz)=rowL enc (l.take k)
 | [],_,k=>by simp [rowL]
 | z :: l,a,0=>by simp [rowL]
 | z :: l,a,k+1=>by
   show (enc z++rowL enc l).take ((k+1)*sz)=enc z++rowL enc (l.take k);rw [show (k+1)*sz=(enc z).length+k*sz by rw [a.hd,Nat.add_mul];omega,List.take_length_add_append,tN a.tl]
theorem tO {enc:α->List Value} {sz:Nat}:∀ {l:List α},lu enc sz l->∀ (k:Nat),(rowL enc l).drop (k*sz)=rowL enc (l.drop k)
 | [],_,k=>by simp [rowL]
 | z :: l,a,0=>Hb
 | z :: l,a,k+1=>by
   show (enc z++rowL enc l).drop ((k+1)*sz)=rowL enc (l.drop k);rw [show (k+1)*sz=(enc z).length+k*sz by rw [a.hd,Nat.add_mul];omega,List.drop_length_add_append,tO a.tl]
end
theorem fp {α:Type} (L:List α) (o:Nat) (cs:List α) (h:o+cs.length<=L.length):(splice L o cs).length=L.length:=by
 unfold splice;simp;omega
theorem xy {α:Type} (L:List α) (o m:Nat) (cs:List α) (h:o+cs.length<=m) (a:m<=L.length):(splice L o cs).take m=splice (L.take m) o cs:=by
 unfold splice;rw [List.take_append,List.take_append,List.take_take,List.take_take,List.take_of_length_le (l:=cs) (by simp;omega),List.drop_take];rw [show min m o=o by omega,show min o m=o by omega]
 congr 3
 simp;omega
theorem kJ {α:Type} (L cs:List α) (h:L.length=cs.length):splice L 0 cs=cs:=by
 unfold splice;simp [h.symm]
theorem cM {g:Nat} {t:TypeId}:∀ (cs:List Value) (o:Nat) (C:Array Value) (W:World),W.heap[g]?=some (.cells C t (0,0))->o+cs.length<=C.size->(W.setCells g o cs).heap[g]?=some (.cells (splice C.toList o cs).toArray t (0,0))
 | [],o,C,W,h,_=>by
   show W.heap[g]?=_;rw [h];unfold splice;simp
 | v :: r,o,C,W,h,a=>by
   show ((W.setCell ⟨g,o,none⟩ v).setCells g (o+1) r).heap[g]?=_;simp only [List.length_cons] at a;rw [cM r (o+1) _ _ (ai h v) (by simp;omega),Array.toList_setIfInBounds]
   congr 3
   unfold splice;rw [List.take_add_one,List.take_set_of_le Ha,List.getElem?_set_self (by simp;omega),List.drop_set_of_lt Ha];simp [show o+1+r.length=o+(r.length+1) by omega]
theorem jo {B g:Nat}:∀ (cs:List Value) (o:Nat) {w W:World},Below B w W->B<=g->Below B w (W.setCells g o cs)
 | [],_,_,_,h,_=>h
 | v :: r,o,w,W,h,a=>jo r (o+1) (h.setCell a v) a
theorem dy {g k:Nat} (a:k≠g):∀ (cs:List Value) (o:Nat) (W:World),(W.setCells g o cs).heap[k]?=W.heap[k]?
 | [],_,_=>rfl
 | v :: r,o,W=>by
   show ((W.setCell ⟨g,o,none⟩ v).setCells g (o+1) r).heap[k]?=_;rw [dy a r,heap_setCell_other _ _ _ _ a]
section
variable {W:World} {base e sz n g cap:Nat} {xs:List Value}
theorem iG (h:W.ownsRow base e sz (.slice (some ⟨g,0,none⟩) n cap) n xs):∃ a,W.heap[g]?=some (.cells a e (0,0))/\n<=cap/\cap<=maxLen/\a.size=cap*sz/\a.toList.take (n*sz)=xs/\base<=g:=by
 rcases h.2 with ⟨d,_⟩ | ⟨q,c,a,f,i,j,k,l,m,o⟩
 ·cases d
 ·injection f with b r p
  injection b with b;injection b with b
  subst b;subst p;exact ⟨a,j,k,l,m,o,i⟩
theorem mX (h:W.ownsRow base e sz (.slice (some ⟨g,0,none⟩) n cap) n xs) {k:Nat} (l:k<n*sz) (u:Value):(W.setCell ⟨g,k,none⟩ u).ownsRow base e sz (.slice (some ⟨g,0,none⟩) n cap) n (xs.set k u):=by
 obtain ⟨a,b,c,d,f,i,j⟩:=iG h;refine ⟨by rw [List.length_set];exact h.1,Or.inr ⟨g,cap,a.setIfInBounds k u,rfl,j,ai b u,c,d,by simp [f],?_⟩⟩;rw [Array.toList_setIfInBounds,List.take_set,i]
theorem mF (h:W.ownsRow base e sz (.slice (some ⟨g,0,none⟩) n cap) n xs) {o:Nat} (cs:List Value) (b:o+cs.length<=n*sz):(W.setCells g o cs).ownsRow base e sz (.slice (some ⟨g,0,none⟩) n cap) n (splice xs o cs):=by
 obtain ⟨a,d,c,f,i,j,k⟩:=iG h;have l:n*sz<=cap*sz:=Nat.mul_le_mul_right _ c;refine ⟨by rw [fp _ _ _ (by rw [h.1];exact b)];exact h.1,Or.inr ⟨g,cap,_,rfl,k,cM cs o a W d Ha,c,f,by simp only [List.size_toArray];rw [fp _ _ _ (by simp;omega)];simp [i],?_⟩⟩;rw [List.toList_toArray,xy _ _ _ _ b (by simp;omega),j]
theorem iQ (h:W.ownsRow base e sz (.slice (some ⟨g,0,none⟩) n cap) n xs) {k:Nat} {u:Value} (a:xs[k]?=some u):W.cell? ⟨g,k,none⟩=some u:=by
 have:=h.cells (g:=g) rfl _ _ a
 rwa [dU] at this
theorem rf (h:W.ownsRow base e sz (.slice (some ⟨g,0,none⟩) n cap) n xs) (k:Nat):W.frozen? ⟨g,k,none⟩=false:=by
 obtain ⟨a,b,_⟩:=iG h;exact aA b k
theorem tP (h:W.ownsRow base e sz (.slice (some ⟨g,0,none⟩) n cap) n xs) {o c:Nat} (b:o+c<=n*sz):W.there g o c:=fun j hj=>by
 have d:=h.1;obtain ⟨u,a⟩:∃ u,xs[o+j]?=some u:=⟨_,List.getElem?_eq_getElem Ha⟩
 rw [iQ h a];exact ⟨rfl,rf h _⟩
end
theorem CG {α:Type} {enc:α->List Value} {W:World} {base e sz g cap n:Nat} {l:List α} (a:lu enc sz l) (h:W.ownsRow base e sz (.slice (some ⟨g,0,none⟩) n cap) n (rowL enc l)) {k:Nat} {x:α} (b:l[k]?=some x) {o c:Nat} :
 W.rangeAt g (k*sz+o) (((enc x).drop o).take c):=fun j v hj=>by
 have d:(enc x)[o+j]?=some v:=by
  rw [List.getElem?_take] at hj;split at hj
  ·rw [List.getElem?_drop] at hj;exact hj
  ·cases hj
 rw [Nat.add_assoc];exact iQ h (nX a b d)
section
variable {α:Type}
end
section
variable {W:World} {base e sz n g cap:Nat} {xs:List Value}
end
structure HB where
 (k:Int) (bs:List Int) (lg:Bool)
structure HB.Ok (x:HB):Prop where
 k:0<=x.k/\x.k<=7
 len:x.bs.length=56
 b:ay x.bs
def hbL (x:HB):List Value:=blkL x.k x.bs++[.bool x.lg]
theorem bf {k:Int} {bs:List Int} (h:bs.length=56):(blkL k bs).length=57:=by unfold blkL;simp [ar,h]
theorem gW {x:HB} (h:x.bs.length=56):(hbL x).length=58:=by unfold hbL;simp [bf h]
theorem G6 (x:HB):∀ v∈hbL x,v.oneCell'=true:=by
 intro v a;unfold hbL blkL at a;simp only [List.mem_append,List.mem_cons,List.not_mem_nil,or_false] at a;rcases a with (rfl | a) | rfl
 ·rfl
 ·exact io x.bs v a
 ·rfl
def mG (l:List HB):Prop:=∀ x∈l,x.Ok
theorem mG.fits {l:List HB} (h:mG l):lu hbL 58 l:=fun x a=>gW (h x a).len
theorem mG.set {l:List HB} (h:mG l) {i:Nat} {x:HB} (b:x.Ok):mG (l.set i x):=fun y c=>by
 rcases List.mem_or_eq_of_mem_set c with a | a
 ·exact h y a
 ·rw [a];exact b
structure VM where
 (r fr:Int) (n g:Nat) (B:List HB) (ep sq us:Nat)
def sR (q rb:Nat) (v:VM):Array Value:=#[.pointer (some ⟨q,0,none⟩),.int .i64 v.r,.int .u8 0,.int .i64 0,.int .i64 0,.int .i64 v.n,.int .i64 v.g,.int .i64 v.fr,.slice (some ⟨rb,0,none⟩) v.n v.n,.int .u32 v.ep,.int .u32 v.sq,.int .i64 v.us]
structure VM.Ok (v:VM):Prop where
 len:v.B.length=v.n
 ok:mG v.B
 n:v.n<=200
 g:v.g<=1000
 r:i64 v.r
 ep:v.ep<4294967296
 sq:v.sq<4294967296
 us:v.us<=2000
structure aO (W:World) (q hp rb:Nat) (v:VM):Prop extends VM.Ok v where
 hd:W.heap[hp]?=some (.cells (sR q rb v) 118 (0,0))
 row:W.heap[rb]?=some (.cells (rowL hbL v.B).toArray 113 (0,0))
theorem aO.keep {W W':World} {q hp rb:Nat} {v:VM} (h:aO W q hp rb v) (a:W'.heap[hp]?=W.heap[hp]?) (b:W'.heap[rb]?=W.heap[rb]?):aO W' q hp rb v :=
 { h with hd:=a.trans h.hd,row:=b.trans h.row }
theorem aO.below {W W':World} {q hp rb:Nat} {v:VM} (h:aO W q hp rb v) (a:Below W.heap.size W W'):aO W' q hp rb v:=h.keep (a.block _ (ah h.hd)) (a.block _ (ah h.row))
section
variable {W:World} {q hp rb:Nat} {v:VM}
theorem aO.c0 (h:aO W q hp rb v):W.cell? ⟨hp,0,none⟩=some (.pointer (some ⟨q,0,none⟩)):=(af h.hd 0).trans rfl
theorem aO.c1 (h:aO W q hp rb v):W.cell? ⟨hp,1,none⟩=some (.int .i64 v.r):=(af h.hd 1).trans rfl
theorem aO.c2 (h:aO W q hp rb v):W.cell? ⟨hp,2,none⟩=some (.int .u8 0):=(af h.hd 2).trans rfl
theorem aO.c3 (h:aO W q hp rb v):W.cell? ⟨hp,3,none⟩=some (.int .i64 0):=(af h.hd 3).trans rfl
theorem aO.c4 (h:aO W q hp rb v):W.cell? ⟨hp,4,none⟩=some (.int .i64 0):=(af h.hd 4).trans rfl
theorem aO.c5 (h:aO W q hp rb v):W.cell? ⟨hp,5,none⟩=some (.int .i64 v.n):=(af h.hd 5).trans rfl
theorem aO.c6 (h:aO W q hp rb v):W.cell? ⟨hp,6,none⟩=some (.int .i64 v.g):=(af h.hd 6).trans rfl
theorem aO.c7 (h:aO W q hp rb v):W.cell? ⟨hp,7,none⟩=some (.int .i64 v.fr):=(af h.hd 7).trans rfl
theorem aO.c8 (h:aO W q hp rb v):W.cell? ⟨hp,8,none⟩=some (.slice (some ⟨rb,0,none⟩) v.n v.n):=(af h.hd 8).trans rfl
theorem aO.c9 (h:aO W q hp rb v):W.cell? ⟨hp,9,none⟩=some (.int .u32 v.ep):=(af h.hd 9).trans rfl
theorem aO.c10 (h:aO W q hp rb v):W.cell? ⟨hp,10,none⟩=some (.int .u32 v.sq):=(af h.hd 10).trans rfl
theorem aO.c11 (h:aO W q hp rb v):W.cell? ⟨hp,11,none⟩=some (.int .i64 v.us):=(af h.hd 11).trans rfl
theorem aO.f (h:aO W q hp rb v) (i:Nat):W.frozen? ⟨hp,i,none⟩=false:=aA h.hd i
theorem aO.fr (h:aO W q hp rb v) (i:Nat):W.frozen? ⟨rb,i,none⟩=false:=aA h.row i
theorem aO.cell (h:aO W q hp rb v) {i:Nat} {x:HB} (a:v.B[i]?=some x) {j:Nat} {u:Value} (hj:(hbL x)[j]?=some u):W.cell? ⟨rb,i*58+j,none⟩=some u:=by
 rw [af h.row,List.getElem?_toArray];exact nX h.ok.fits a hj
theorem aO.lg (h:aO W q hp rb v) {i:Nat} {x:HB} (a:v.B[i]?=some x):W.cell? ⟨rb,i*58+57,none⟩=some (.bool x.lg):=h.cell a (by
 unfold hbL;rw [List.getElem?_append_right (by rw [bf (h.ok x (List.mem_of_getElem? a)).len];exact Nat.le_refl _),bf (h.ok x (List.mem_of_getElem? a)).len];rfl)
theorem aO.rangeB (h:aO W q hp rb v) {i:Nat} {x:HB} (a:v.B[i]?=some x):W.rangeAt rb (i*58) (blkL x.k x.bs):=fun j u hj=>by
 refine h.cell a ?_;unfold hbL;rw [List.getElem?_append_left (List.getElem?_eq_some_iff.1 hj).1];exact hj
theorem aO.there (h:aO W q hp rb v) {i:Nat} (a:i<v.n) {o c:Nat} (b:o+c<=58):W.there rb (i*58+o) c:=fun j hj=>by
 have d:(rowL hbL v.B).length=v.n*58:=by rw [dN h.ok.fits,h.len]
 have e:i*58+o+j<v.n*58:=by
  have:(i+1)*58<=v.n*58:=Nat.mul_le_mul_right _ a;omega
 exact ⟨by rw [af h.row,List.getElem?_toArray,List.getElem?_eq_getElem Ha];rfl,h.fr _⟩
end
theorem ly {W:World} {q hp rb:Nat} {v:VM} (h:aO W q hp rb v):Calls Tryz.prog 109 #[.pointer (some ⟨hp,0,none⟩)] W fun e w'=>e=.returned (.int .i64 v.n)/\W=w':=by
 have a:=h.c8;clear h;go_enter Tryz.func109,Tryz.ntmps109;go_wp2;go_ret;exact ⟨rfl,rfl⟩
theorem CH {W:World} {q hp rb:Nat} {v:VM} (h:aO W q hp rb v) (a:v.us<=v.g):Calls Tryz.prog 104 #[.pointer (some ⟨hp,0,none⟩)] W fun e w'=>e=.returned (.int .i64 ((v.g-v.us:Nat):Int))/\Below W.heap.size W w':=by
 have c:∀ k,(W.drewN k).cell? ⟨hp,6,none⟩=_:=fun k=>(show W.cell? _=_ from h.c6)
 have b:∀ k,(W.drewN k).cell? ⟨hp,11,none⟩=_:=fun k=>(show W.cell? _=_ from h.c11)
 have d:=h.g;have f:IntKind.i64.wrap ((v.g:Int)-v.us)=((v.g-v.us:Nat):Int):=by rw [IntWalk.i64_in _ Ha];omega
 clear h;generalize v.g-v.us=z at *;generalize v.g=g at *;generalize v.us=us at *;go_enter Tryz.func104,Tryz.ntmps104;go_wp2_with (go_quiet (fail))
 go_ret;exact ⟨rfl,DK (Below.refl _ _) _⟩
def it (v:VM) (t:Int):Bool:=decide (0<=t)&&decide (t<v.n)
theorem rg {W:World} {q hp rb:Nat} {v:VM} (h:aO W q hp rb v) (t:Int) (b:i64 t):Calls Tryz.prog 50 #[.pointer (some ⟨hp,0,none⟩),.int .i64 t] W fun e w'=>e=.returned (.bool (it v t))/\W=w':=by
 have HB:=He (ly h);unfold it;clear h;generalize v.n=n at *;by_cases a:0<=t
 ·have hd:decide (0<=t)=true:=decide_eq_true a;go_enter Tryz.func50,Tryz.ntmps50;go_wp2_with fail
  refine HB.out.mono ?_;rintro e w' ⟨rfl,rfl⟩;go_wp2;go_ret;exact ⟨by rw [hd];simp,rfl⟩
 ·have hd:decide (0<=t)=false:=decide_eq_false a;go_enter Tryz.func50,Tryz.ntmps50;go_wp2;go_ret;exact ⟨rfl,rfl⟩
def mu (v:VM) (t:Int):HB:=if it v t then v.B.getD t.toNat ⟨0,az,false⟩ else ⟨0,az,false⟩
theorem vq {v:VM} {i:Nat} {x:HB} (b:v.B.length=v.n) (h:v.B[i]?=some x):it v i=true/\mu v i=x:=by
 have c:=(List.getElem?_eq_some_iff.1 h).1;have a:it v i=true:=by unfold it;simp;omega
 refine ⟨a,?_⟩;unfold mu;rw [if_pos a,Int.toNat_natCast,List.getD,h];rfl
theorem xz {W:World} {q hp rb:Nat} {v:VM} (h:aO W q hp rb v) (t:Int) (s:i64 t):Calls Tryz.prog 20 #[.pointer (some ⟨hp,0,none⟩),.int .i64 t] W fun e w'=>e=.returned (.tuple #[.agg (ab (mu v t).k (mu v t).bs),.bool (it v t)])/\Below W.heap.size W w':=by
 have o:Below W.heap.size W (W.alloc (Obj.cells (ab 0 az) 37)):=(Below.refl _ _).alloc (Nat.le_refl _) _;have j:=heap_alloc_new W (Obj.cells (ab 0 az) 37);have b:=He (h.below o);have l:=He (rg b.out t s);clear h;by_cases a:it v t=true
 ·obtain ⟨i,rfl⟩:∃ i:Nat,t=(i:Int):=⟨t.toNat,by unfold it at a;simp at a;omega⟩
  have d:i<v.n:=by unfold it at a;simp at a;omega
  obtain ⟨x,m⟩:∃ x,v.B[i]?=some x:=⟨_,List.getElem?_eq_getElem (by rw [b.out.len];exact d)⟩
  rw [(vq b.out.len m).2];rw [a] at l ⊢;have u:=He m;have c:=He (b.out.ok x (List.mem_of_getElem? m)).len;have w:(i:Int)<v.n:=Ha;have z:=b.out.n;clear m a d;go_enter Tryz.func20,Tryz.ntmps20;go_upto_region 1 with (refine aq rfl rfl ?_)
  generalize p:W.heap.size=g at *;generalize W.alloc (Obj.cells (ab 0 az) 37)=y at *;have A:=b.out.c8;generalize v.n=n at *;go_wp2_with fail
  refine l.out.mono ?_;rintro e w' ⟨rfl,rfl⟩;go_wp2_with (first | (with_reducible refine wpList_load_mid rfl 37 (.tmp 17) rfl rb (i*58) rfl (blkL x.k x.bs) _ (b.out.rangeB u.out) Tryz.underlying37 rfl (by rw [bf c.out];exact db) ?_) | (refine ap rfl (.tmp 4) (.tmp 18) rfl g rfl x.k 0 x.bs az rfl c.out ak j ?_))
  refine bodyPost_ret (aY rfl _ _ g x.k x.bs rfl c.out (am j)) rfl ?_;exact ⟨rfl,by rw [p];exact below_setRow o (Nat.le_refl _) _⟩
 ·have r:it v t=false:=by simpa using a
  have f:mu v t=⟨0,az,false⟩:=by unfold mu;rw [if_neg a]
  rw [f,r];rw [r] at l;clear a r f;go_enter Tryz.func20,Tryz.ntmps20;go_upto_region 1 with (refine aq rfl rfl ?_)
  generalize p:W.heap.size=g at *;generalize W.alloc (Obj.cells (ab 0 az) 37)=y at *;go_wp2_with fail
  refine l.out.mono ?_;rintro e w' ⟨rfl,rfl⟩;go_wp2_with (first | (refine bN rfl rfl ?_) | (refine ap rfl (.tmp 4) (.tmp 10) rfl g rfl 0 0 az az rfl ak ak j ?_))
  refine bodyPost_ret (aY rfl _ _ g 0 az rfl ak (am j)) rfl ?_;exact ⟨rfl,by rw [p];exact below_setRow o (Nat.le_refl _) _⟩
def dz (v:VM) (l:List Wr):Bool:=l.all fun x=>it v x.t
theorem xA {W:World} {q hp rb:Nat} {v:VM} (h:aO W q hp rb v) (A:Option Addr) (l:List Wr) (n d:Nat) (I:l.length=n) (hl:n<=d) (hd:d<=9223372036854775807) (a:bW l) (K:GV W A l) :
 Calls Tryz.prog 103 #[.pointer (some ⟨hp,0,none⟩),.slice A n d] W fun e w'=>e=.returned (.bool (dz v l))/\W=w':=by
 have U:=He h;have B:=He I;have V:=He a;have X:=He K;clear h I a K;go_enter Tryz.func103,Tryz.ntmps103;go_wp2;refine bq (fun w w'=>w'=W/\∃ k:Nat,k<=n/\Hid (dz v l=dz v (l.drop k))/\∃ L M N O b c f g i j m o p r:Value,w={ tmps:=#[.pointer (some ⟨hp,0,none⟩),.slice A n d,undef,undef,.bool false,.int .i64 k,L,M,N,O,b,c,f,g,i,j,m,o,p,r],defers:=[] })
  (fun w _=>n-(intOf (w.tmps.getD 5 undef)).toNat) rfl ?_ ?_
 ·intro Y;go_wp2;go_step3;rename_i Z;exact Z _ _ (Y _ _ ⟨rfl,0,Ha,rfl,_,_,_,_,_,_,_,_,_,_,_,_,_,_,rfl⟩)
 ·rintro w w' ⟨rfl,k,hk,C,L,M,N,O,b,c,f,g,i,j,m,o,p,r,rfl⟩;by_cases H:k=n
  ·subst H;have s:Hid (dz v l=true):=by unfold Hid;rw [C.out,List.drop_of_length_le (by rw [B.out];exact Nat.le_refl _)];rfl
   go_wp2;simp only [Exit.jump];go_ret;exact ⟨by rw [s.out];rfl,rfl⟩
  ·have u:k<n:=Ha;have hq:((k:Int)==n)=false:=by simp;omega
   have an:(k:Int)<n:=Ha;obtain ⟨x,y⟩:∃ x,l[k]?=some x:=⟨_,List.getElem?_eq_getElem (by rw [B.out];exact u)⟩
   obtain ⟨ad,rfl,R⟩:=X.out k x y;have c0:=R.c0;have S:=(V.out x (List.mem_of_getElem? y)).t;have HH:=He (rg U.out x.t S);have T:Hid (dz v (l.drop k)=(it v x.t&&dz v (l.drop (k+1)))):=by
    unfold Hid dz;rw [List.drop_eq_getElem_cons (by rw [B.out];exact u),(List.getElem?_eq_some_iff.1 y).2];rfl
   clear R y S;generalize x.t=tt at *;go_wp2_with fail
   refine HH.out.mono ?_;rintro e w' ⟨rfl,rfl⟩;cases z:it v tt
   ·have s:Hid (dz v l=false):=by unfold Hid;rw [C.out,T.out,z];rfl
    clear z;go_wp2;simp only [Exit.jump];go_ret;exact ⟨by rw [s.out];rfl,rfl⟩
   ·have s:Hid (dz v l=dz v (l.drop (k+1))):=by unfold Hid;rw [C.out,T.out,z];rfl
    clear z;go_wp2;go_step3;refine ⟨rfl,⟨rfl,k+1,Ha,s,_,_,_,_,_,_,_,_,_,_,_,_,_,_,rfl⟩,?_⟩;simp [intOf];omega
structure SV (w0 W:World) (P:Nat->Prop) (q:Nat) (m:DM) (hp rb:Nat) (v:VM):Prop where
 ds:DS w0 W P q m
 at_:aO W q hp rb v
 ph:P hp
 pr:P rb
 lh:w0.heap.size<=hp
 lr:w0.heap.size<=rb
 ne:hp≠rb
def oW (P:Nat->Prop) (hp rb:Nat):Nat->Prop:=fun k=>P k/\k≠hp/\k≠rb
theorem DS.own {w0 W W':World} {P G:Nat->Prop} {q:Nat} {m:DM} (h:DS w0 W P q m) (a:aE G W W') (c:∀ k,G k->P k/\w0.heap.size<=k):DS w0 W' P q m:=by
 obtain ⟨F,e,f,d⟩:=h.dev;obtain ⟨O,L,g,i,j⟩:=e;exact ⟨⟨F,qn.touch ⟨O,L,g,i,j⟩ a (fun k l n=>d k (c k n).1 l),f,d⟩,fun k b=>Nat.lt_of_lt_of_le (h.low k b) a.size,h.bel.trans (a.below h.bel.size fun k b=>(c k b).2)⟩
section
variable {w0 W W':World} {P:Nat->Prop} {q:Nat} {m m':DM} {hp rb:Nat} {v v':VM}
theorem SV.step (h:SV w0 W P q m hp rb v) (hd:DS w0 W' P q m') (a:bz P W W'):SV w0 W' P q m' hp rb v :=
 { h with ds:=hd,at_:=h.at_.keep (a.blk _ h.ph) (a.blk _ h.pr) }
theorem SV.own (h:SV w0 W P q m hp rb v) (b:aE (fun k=>k=hp\/k=rb) W W') (c:aO W' q hp rb v'):SV w0 W' P q m hp rb v'/\bz (oW P hp rb) W W' :=
 ⟨{ h with ds:=h.ds.own b (fun k a=>by rcases a with rfl | rfl;exact ⟨h.ph,h.lh⟩;exact ⟨h.pr,h.lr⟩),at_:=c },
   ⟨fun k a=>b.block k (h.ds.low k a.1) (fun d=>by rcases d with rfl | rfl;exact a.2.1 rfl;exact a.2.2 rfl),b.size⟩⟩
theorem SV.below (h:SV w0 W P q m hp rb v) (a:Below W.heap.size W W'):SV w0 W' P q m hp rb v :=
 h.step (h.ds.below a fun k b=>Or.inl b) (h.ds.same a)
theorem SV.same (h:SV w0 W P q m hp rb v) (a:Below W.heap.size W W'):bz P W W':=h.ds.same a
theorem SV.grow (h:SV w0 W P q m hp rb v) (a:Below W.heap.size W W') {Q:Nat->Prop} (b:∀ k,Q k->W.heap.size<=k/\k<W'.heap.size):SV w0 W' (fun k=>P k\/Q k) q m hp rb v :=
 { h with ds:=h.ds.below a (fun k c=>c.imp id (b k)),at_:=h.at_.below a,ph:=Or.inl h.ph,pr:=Or.inl h.pr }
theorem SV.mono (h:SV w0 W P q m hp rb v) {P':Nat->Prop} (a:∀ k,P' k->P k) (b:P' hp) (c:P' rb):SV w0 W P' q m hp rb v :=
 { h with ds:=h.ds.mono a,ph:=b,pr:=c }
theorem bz.rst {P:Nat->Prop} (h:bz P W W'):bz (oW P hp rb) W W':=h.mono fun k a=>a.1
end
theorem aO.setH {W:World} {q hp rb:Nat} {v:VM} (h:aO W q hp rb v) (b:hp≠rb) {i:Nat} {x y:HB} (c:v.B[i]?=some x) (a:y.Ok):aO (W.setCells rb (i*58) (hbL y)) q hp rb { v with B:=v.B.set i y }:=by
 have f:=h.ok x (List.mem_of_getElem? c);have g:(rowL hbL v.B).length=v.n*58:=by rw [dN h.ok.fits,h.len]
 have d:=(List.getElem?_eq_some_iff.1 c).1;have e:(i+1)*58<=v.n*58:=Nat.mul_le_mul_right _ (by rw [<- h.len];exact d);refine { h with len:=by rw [List.length_set];exact h.len,ok:=h.ok.set a,hd:=?_,row:=?_ }
 ·rw [dy b];exact h.hd
 ·rw [cM (hbL y) (i*58) _ W h.row (by rw [List.size_toArray,g,gW a.len];omega)];have:=iP (k:=i) (x:=x) (y:=y) (j:=0) (cs:=hbL y) h.ok.fits c (by rw [gW a.len];omega) (by rw [kJ _ _ (by rw [gW f.len,gW a.len])]);rw [Nat.add_zero] at this;rw [List.toList_toArray,this]
theorem SV.setH {w0 W:World} {P:Nat->Prop} {q:Nat} {m:DM} {hp rb:Nat} {v:VM} (h:SV w0 W P q m hp rb v) {i:Nat} {x y:HB} (a:v.B[i]?=some x) (b:y.Ok) :
 SV w0 (W.setCells rb (i*58) (hbL y)) P q m hp rb { v with B:=v.B.set i y }/\bz (oW P hp rb) W (W.setCells rb (i*58) (hbL y)) :=
 h.own ((aE.refl _ _).setCells (F:=fun k=>k=hp\/k=rb) (Or.inr rfl) _ _) (h.at_.setH h.ne a b)
def mY (W:World) (R:Nat->Prop) (A:Option Addr) (l:List Wr):Prop:=∀ i x,l[i]?=some x->∃ a,A=some a/\mU W (a.add (i*58)) x/\R a.block
theorem mY.wrs {W:World} {R:Nat->Prop} {A:Option Addr} {l:List Wr} (h:mY W R A l):GV W A l:=fun i x b=>let ⟨a,e,h1,_⟩:=h i x b;⟨a,e,h1⟩
theorem mY.same {W W':World} {R:Nat->Prop} {A:Option Addr} {l:List Wr} (h:mY W R A l) (c:bz R W W'):mY W' R A l:=fun i x d=>by
 obtain ⟨a,e,f,b⟩:=h i x d;refine ⟨a,e,fun j v hj=>?_,b⟩;have g:=f j v hj;rw [World.cell?_of_block (c.blk _ (by rw [di,di];exact b))];exact g
theorem mY.mono {W:World} {R b:Nat->Prop} {A:Option Addr} {l:List Wr} (h:mY W R A l) (c:∀ k,R k->b k):mY W b A l:=fun i x d=>let ⟨a,e,h1,h2⟩:=h i x d;⟨a,e,h1,c _ h2⟩
def cY (B:List HB):List Wr->List HB
 | []=>B
 | x :: l=>cY (if 0<=x.t/\x.t<B.length then B.set x.t.toNat ⟨x.k,x.bs,true⟩ else B) l
theorem lz (B:List HB):∀ l m,cY B (l++m)=cY (cY B l) m:=by
 intro l
 induction l generalizing B with
 | nil=>intro m;rfl
 | cons x l ih=>intro m;exact ih _ m
theorem iR:∀ (l:List Wr) (B:List HB),(cY B l).length=B.length
 | [],_=>rfl
 | x :: l,B=>by
   show (cY _ l).length=_;rw [iR l];split
   ·simp
   ·rfl
def nZ (l:List Wr):Prop:=∀ x∈l,0<=x.k/\x.k<=7
theorem vt:∀ {l:List Wr} {B:List HB},bW l->nZ l->mG B->mG (cY B l)
 | [],_,_,_,h=>h
 | x :: l,B,c,d,h=>by
   refine vt (l:=l) (fun y a=>c y (by simp [a])) (fun y a=>d y (by simp [a])) ?_;have e:=c x Hb;split
   ·exact h.set ⟨d x Hb,e.len,e.b⟩
   ·exact h
theorem Ew:(Tryz.prog.info? 113).map (fun i=>(i.zero,i.size,i.bytes))=some (some (.agg (hbL ⟨0,az,false⟩).toArray),58,72):=Hc
theorem J4:(Tryz.prog.info? 113).map (·.size)=some 58:=Hc
theorem G7 (k:Int) (bs:List Int) (b:Bool) (j:bs.length=56):Tryz.prog.built 113 [(0,.agg (ab k bs)),(1,.bool b)]=some (hbL ⟨k,bs,b⟩).toArray:=by
 have l:Tryz.prog.underlying 113=some (.struct (Tryz.prog.fieldsOf 113)):=Hc;obtain ⟨p,m,d,n,o⟩:=info_parts Ew;have e:(Tryz.prog.fieldsOf 113).toList.mapM (fun f=>(Tryz.prog.info? f.type).map fun i=>(f.offset,i.size))=some [(0,57),(57,1)]:=Hc;have g:(hbL ⟨0,az,false⟩).length=58:=gW ak;have c:(blkL k bs).length=57:=bf j;have a:splice (hbL ⟨0,az,false⟩) 0 (blkL k bs)=blkL k bs++[.bool false]:=by
  unfold splice hbL;rw [c,List.drop_append,List.drop_of_length_le (by rw [bf ak];omega),bf ak];simp
 have h:splice (blkL k bs++[Value.bool false]) 57 [.bool b]=hbL ⟨k,bs,b⟩:=by
  unfold splice hbL;rw [List.take_append,c,List.take_of_length_le Ha,List.drop_of_length_le (by simp [c])];simp
 unfold Program.built;rw [m,l];dsimp only;rw [d,e];dsimp only;rw [gG (off:=0) (size:=57) rfl (by show (ab k bs).size=57;exact aP j) (by show 0+57<=(hbL ⟨0,az,false⟩).toArray.size;rw [List.size_toArray,g];decide)];rw [gG (off:=57) (size:=1) rfl rfl (by
  simp only [List.size_toArray];show 57+1<=(splice (hbL ⟨0,az,false⟩).toArray.toList 0 (ab k bs).toList).length;rw [bu,List.toList_toArray,a];simp [c])]
 unfold Instr.fill
 congr 1
 show (splice (splice (hbL ⟨0,az,false⟩).toArray.toList 0 (ab k bs).toList).toArray.toList 57 [Value.bool b]).toArray=_;rw [bu,List.toList_toArray,a,h]
def Lr (hp rb n a t:Nat) (k:Int) (bs:List Int) (i:Nat) (v:Value) (w:World):Prop :=
 match i with
 | 0 | 1=>v=.pointer (some ⟨hp,0,none⟩)
 | 2=>v=.pointer (some ⟨hp,8,none⟩)
 | 3=>v=.slice (some ⟨rb,0,none⟩) n n
 | 4=>v=.pointer (some ⟨a,0,none⟩)
 | 5=>v=.int .i64 (t:Int)
 | 6=>v=.pointer (some ⟨a,1,none⟩)
 | 7=>v=.agg (ab k bs)
 | 8=>v=.agg (hbL ⟨k,bs,true⟩).toArray
 | 9=>v=.pointer (some ⟨rb,t*58,none⟩)
 | _=>True
theorem xB {w0 W:World} {P:Nat->Prop} {q:Nat} {m:DM} {hp rb:Nat} {v:VM} (h:SV w0 W P q m hp rb v) (A:Option Addr) (l:List Wr) (n d:Nat) (hn:l.length=n) (hl:n<=d) (hd:d<=9223372036854775807) (bl:bW l) (hk:nZ l) (hy:mY W (oW P hp rb) A l) :
 Calls Tryz.prog 107 #[.pointer (some ⟨hp,0,none⟩),.slice A n d] W fun e w'=>e=.returned (.tuple #[])/\SV w0 w' P q m hp rb { v with B:=cY v.B l }/\bz (oW P hp rb) W w':=by
 have HV:=He h;have HN:=He hn;have HO:=He bl;have HK:=He hk;have HY:=He hy;clear h hn bl hy hk;go_enter Tryz.func107,Tryz.ntmps107;go_wp2
 go_loopw [8] (fun i wr=>∃ k:Nat,i=.int .i64 k/\k<=n/\Hid (SV w0 wr P q m hp rb { v with B:=cY v.B (l.take k) })/\Hid (bz (oW P hp rb) W wr)) (fun i _=>n-(intOf i).toNat)
 case atStart=>exact ⟨0,rfl,Ha,HV.out,bz.refl _ _⟩
 case round =>
  obtain ⟨r,rfl,hk,R,a0⟩:=hrel;obtain ⟨H,rfl⟩:∃ H,H=wr:=⟨wr,rfl⟩
  by_cases ch:r<n
  ·obtain ⟨x,hx⟩:∃ x,l[r]?=some x:=⟨_,List.getElem?_eq_getElem (by rw [HN.out];exact ch)⟩
   obtain ⟨ad,rfl,bn,hR⟩:=(HY.out.same a0.out) r x hx;have bt:=He bn;have a1:=HO.out x (List.mem_of_getElem? hx);have bx:=He a1;have s:=He a1.len;have ci:=He (HK.out x (List.mem_of_getElem? hx));have b0:Hid (l.take (r+1)=l.take r++[x]):=aw hx;have ck:(r:Int)<n:=Ha;clear bn a1 hx hR;obtain ⟨p,a2⟩:∃ p:VM,p={ v with B:=cY v.B (l.take r) }:=⟨_,rfl⟩
   rw [<- a2] at R;have S:=He a2;clear a2;go_upto_region 3 with (first
    | (refine iF rfl (.tmp 10) rfl (ad.add (r*58)) rfl x s.out bt.out ?_)
    | (refine dk rfl rfl ?_)
    | (refine dm rfl (.tmp 5) (.tmp 11) rfl H.heap.size rfl x zW rfl s.out iX (heap_alloc_new H _) ?_))
   have I:=oT H x;have a3:=fU H x;have b1:=R.out.below a3;have a:=He b1;have an:Hid (bz (oW P hp rb) W ((H.alloc (.cells (cS zW) 52)).setRow H.heap.size (cS x))):=a0.out.trans (bz.rst (R.out.same a3));clear b1 a3;generalize (H.alloc (.cells (cS zW) 52)).setRow H.heap.size (cS x)=C at *;generalize H.heap.size=g5 at *;have c0:C.cell? ⟨g5,0,none⟩=_:=(gU I).c0;have HH:=He (rg a.out.at_ x.t bx.out.t);have cl:=He I;clear I bt;go_wp2_with fail
   refine HH.out.mono ?_;rintro e w' ⟨rfl,rfl⟩;by_cases U:it p x.t=true
   ·obtain ⟨t,ht⟩:∃ t:Nat,x.t=(t:Int):=⟨x.t.toNat,by unfold it at U;simp at U;omega⟩
    have a4:t<p.n:=by unfold it at U;rw [ht] at U;simp at U;omega
    obtain ⟨y,hy⟩:∃ y,p.B[t]?=some y:=⟨_,List.getElem?_eq_getElem (by rw [a.out.at_.len];exact a4)⟩
    have b2:=He hy;rw [U];have HT:=He ht;have b3:=a.out.at_.n;have cn:Hid (p.n<=200):=b3;have b4:(t:Int)<p.n:=Ha;rw [ht] at c0;clear U hy b3 HH;obtain ⟨nn,K⟩:∃ nn,nn=p.n:=⟨_,rfl⟩
    have b5:Hid (∀ z,Below C.heap.size C z->z.cell? ⟨hp,8,none⟩=some (.slice (some ⟨rb,0,none⟩) nn nn)):=fun z V=>by rw [K];exact (a.out.at_.below V).c8
    have b6:Hid (∀ z,Below C.heap.size C z->z.cell? ⟨g5,0,none⟩=some (.int .i64 t)):=fun z V=>cO V c0;have cp:Hid (∀ z,Below C.heap.size C z->z.rangeAt g5 1 (blkL x.k x.bs)):=fun z V j u hj=>by
     have hw:=gU (kb V cl.out);have:=hw (1+j) u (by
      show (Value.int .i64 x.t :: blkL x.k x.bs)[1+j]?=some u;rw [Nat.add_comm 1 j,List.getElem?_cons_succ];exact hj)
     rw [dU] at this;exact this
    have cq:Hid (∀ z,Below C.heap.size C z->z.there rb (t*58) 58):=fun z V=>(a.out.at_.below V).there (i:=t) (o:=0) (c:=58) a4 Ha;have c4:(t:Int)<nn:=by rw [K];exact b4
    have c7:=He K;have c5:nn<=200:=by rw [K];exact cn.out
    clear K c0 a4 b4;go_upto_region 4 with fail
    refine ax (Lr hp rb nn g5 t x.k x.bs) (fun _ W=>Below C.heap.size C W) (fun _ w w'=>Below w.heap.size w w') Hc Hc (fun i j v w w' _ _ h hs=>by unfold Lr at *;exact h) ((Below.refl _ _).drew) ?_;simp only [cf];refine ⟨?_,?_,?_,?_,?_,?_,?_,?_,?_,?_,?_⟩
    ·refine aa.of rfl fun T W L hag O hJ g hd=>?_;have e0:=Hf hag 0;exact Hh
    ·refine aa.of rfl fun T W L hag O hJ g hd=>?_;have a5:T.getD 16 undef=_:=Hg hd 0 rfl;exact Hh
    ·refine aa.of rfl fun T W L hag O hJ g hd=>?_;have a6:T.getD 17 undef=_:=Hg hd 1 rfl;exact Hh
    ·refine aa.of rfl fun T W L hag O hJ g hd=>?_;have a7:T.getD 18 undef=_:=Hg hd 2 rfl;have z8:=b5.out W hJ;have y0:=b6.out W hJ;exact Hh
    ·refine aa.of rfl fun T W L hag O hJ g hd=>?_;have e5:=Hf hag 5;exact Hh
    ·refine aa.of rfl fun T W L hag O hJ g hd=>?_;have a8:T.getD 20 undef=_:=Hg hd 4 rfl;have z8:=b5.out W hJ;have y0:=b6.out W hJ;exact Hh
    ·refine aa.of rfl fun T W L hag O hJ g hd=>?_;have e5:=Hf hag 5;exact Hh
    ·refine aa.of rfl fun T W L hag O hJ g hd=>?_;have X:T.getD 22 undef=_:=Hg hd 6 rfl;clear hag;refine wp_load_mid 37 (.tmp 22) rfl g5 1 X (blkL x.k x.bs) _ (cp.out W hJ) Tryz.underlying37 rfl (by rw [bf s.out];exact db) ?_;exact ⟨_,rfl,rfl,hJ,ag _⟩
    ·refine aa.of rfl fun T W L hag O hJ g hd=>?_;have Y:T.getD 23 undef=_:=Hg hd 7 rfl;have b8:(⟨T,[]⟩:Act).eval (.tmp 23)=.agg (ab x.k x.bs):=Y;clear hag hd;have V:=run_build (P:=Tryz.prog) W 113 #[(0,.agg (ab x.k x.bs)),(1,.bool true)] _ (G7 x.k x.bs true s.out);refine jT (v:=.agg (hbL ⟨x.k,x.bs,true⟩).toArray) (w':=W) ?_ ⟨_,rfl,rfl,hJ,ag _⟩;unfold execOp;have cr:(⟨T,[]⟩:Act).eval (.const (.bool true))=.bool true:=rfl;simp only [List.map_toArray,List.map_cons,List.map_nil,b8,cr,Sem.run_bind,V,Result.andThen_ok,Sem.run_pure]
    ·refine aa.of rfl fun T W L hag O hJ g hd=>?_;have a9:T.getD 19 undef=_:=Hg hd 3 rfl;have bb:T.getD 21 undef=_:=Hg hd 5 rfl;exact Hh
    ·refine bm.of rfl fun T W L hag g O hJ hd=>?_;have b9:T.getD 25 undef=_:=hd 9 _ Hb rfl;have ca:T.getD 24 undef=_:=hd 8 _ Hb rfl;obtain ⟨f,M,hT⟩:=aJ hag;have a5:T.getD 16 undef=_:=hd 0 _ Hb rfl;have cs:=(M 16).trans a5;have a6:T.getD 17 undef=_:=hd 1 _ Hb rfl;have cu:=(M 17).trans a6;have a7:T.getD 18 undef=_:=hd 2 _ Hb rfl;have cv:=(M 18).trans a7;have a9:T.getD 19 undef=_:=hd 3 _ Hb rfl;have cw:=(M 19).trans a9;have a8:T.getD 20 undef=_:=hd 4 _ Hb rfl;have cx:=(M 20).trans a8;have bb:T.getD 21 undef=_:=hd 5 _ Hb rfl;have cz:=(M 21).trans bb;have X:T.getD 22 undef=_:=hd 6 _ Hb rfl;have cA:=(M 22).trans X;have Y:T.getD 23 undef=_:=hd 7 _ Hb rfl;have cP:=(M 23).trans Y;have c1:=(M 24).trans ca;have c2:=(M 25).trans b9;have HJ:=He hJ;clear hag hd a5 a6 a7 a9 a8 bb X Y ca b9 hJ M;rw [hT];clear hT;simp only [List.pop_toArray,List.dropLast_cons_cons,List.dropLast_singleton,List.filterMap_cons,List.filterMap_nil,List.foldl_cons,List.foldl_nil,List.setIfInBounds_toArray,List.set_cons_succ,List.set_cons_zero,cs,cu,cv,cw,cx,cz,cA,cP,c1,c2];have cb:=cq.out W HJ.out;refine wp_store_mid 113 (.tmp 25) (.tmp 24) rfl rb (t*58) _ rfl rfl (by rw [List.size_toArray,gW s.out];exact cb) (by rw [List.size_toArray,gW s.out];exact J4) (all_oneCell_toArray (G6 _)) ?_;rw [List.toList_toArray];have Z:=(a.out.below HJ.out).setH (y:=⟨x.k,x.bs,true⟩) b2.out ⟨ci.out,s.out,bx.out.b⟩;have cc:=(an.out.trans (bz.rst (a.out.same HJ.out))).trans Z.2;have N:({ p with B:=p.B.set t ⟨x.k,x.bs,true⟩ }:VM)={ v with B:=cY v.B (l.take (r+1)) }:=by
      have c3:=a.out.at_.len;have c6:=(List.getElem?_eq_some_iff.1 b2.out).1;rw [b0.out,lz];have hB:cY v.B (l.take r)=p.B:=by rw [S.out]
      rw [hB];show _=({ v with B:=(if 0<=x.t/\x.t<p.B.length then p.B.set x.t.toNat ⟨x.k,x.bs,true⟩ else p.B) }:VM)
      rw [HT.out,if_pos ⟨Ha,Ha⟩,Int.toNat_natCast,S.out]
     rw [N] at Z;have bi:=He Z.1;have cg:=He cc;clear Z cc N cb HJ;generalize W.setCells rb (t*58) (hbL ⟨x.k,x.bs,true⟩)=W3 at *;simp only [Act.put];go_wp2
     go_roundw
     case rel=>exact ⟨r+1,by go_num,Ha,bi.out,cg.out⟩
     case measure=>simp [intOf];omega
   ·have h2:it p x.t=false:=by simpa using U
    rw [h2];have N:p={ v with B:=cY v.B (l.take (r+1)) }:=by
     have c3:=a.out.at_.len;rw [b0.out,lz];have hB:cY v.B (l.take r)=p.B:=by rw [S.out]
     rw [hB];show _=({ v with B:=(if 0<=x.t/\x.t<p.B.length then p.B.set x.t.toNat ⟨x.k,x.bs,true⟩ else p.B) }:VM)
     rw [if_neg (fun h=>by unfold it at h2;simp at h2;have:=h2 h.1;omega),S.out]
    have bi:Hid (SV w0 C P q m hp rb { v with B:=cY v.B (l.take (r+1)) }):=by rw [<- N];exact a.out
    clear N h2 U a HH;go_wp2
    go_roundw
    case rel=>exact ⟨r+1,by go_num,Ha,bi.out,an.out⟩
    case measure=>simp [intOf];omega
  ·obtain rfl:r=n:=Ha;have ck:¬ ((r:Int)<r):=Ha;have bk:=R.out;rw [List.take_of_length_le (by rw [HN.out];exact Nat.le_refl _)] at bk;have HF:=He bk;clear bk;go_wp2
   go_end0
   exact ⟨rfl,HF.out,a0.out⟩
def pK (d:Option Addr) (r:Int) (n g:Nat) (f:Int):List Value:=[.pointer d,.int .i64 r,.int .u8 0,.int .i64 0,.int .i64 0,.int .i64 n,.int .i64 g,.int .i64 f]
theorem aO.rangeG {W:World} {q hp rb:Nat} {v:VM} (h:aO W q hp rb v):W.rangeAt hp 0 (pK (some ⟨q,0,none⟩) v.r v.n v.g v.fr):=fun j u hj=>by
 rw [Nat.zero_add,af h.hd];unfold pK at hj;unfold sR;rw [List.getElem?_toArray]
 match j,hj with
 | 0,hj | 1,hj | 2,hj | 3,hj | 4,hj | 5,hj | 6,hj | 7,hj=>exact hj
 | j+8,hj=>rw [List.getElem?_eq_none Hb] at hj;cases hj
theorem aO.cs {W:World} {q hp rb:Nat} {v:VM} (h:aO W q hp rb v):W.cell? ⟨hp,0,none⟩=some (.pointer (some ⟨q,0,none⟩))/\W.cell? ⟨hp,1,none⟩=some (.int .i64 v.r)/\W.cell? ⟨hp,2,none⟩=some (.int .u8 0)/\W.cell? ⟨hp,3,none⟩=some (.int .i64 0)/\W.cell? ⟨hp,4,none⟩=some (.int .i64 0)/\W.cell? ⟨hp,5,none⟩=some (.int .i64 v.n)/\W.cell? ⟨hp,6,none⟩=some (.int .i64 v.g)/\W.cell? ⟨hp,7,none⟩=some (.int .i64 v.fr)/\W.cell? ⟨hp,8,none⟩=some (.slice (some ⟨rb,0,none⟩) v.n v.n)/\W.cell? ⟨hp,9,none⟩=some (.int .u32 v.ep)/\W.cell? ⟨hp,10,none⟩=some (.int .u32 v.sq)/\W.cell? ⟨hp,11,none⟩=some (.int .i64 v.us) :=
 ⟨h.c0,h.c1,h.c2,h.c3,h.c4,h.c5,h.c6,h.c7,h.c8,h.c9,h.c10,h.c11⟩
theorem aO.setHd {W:World} {q hp rb:Nat} {v v':VM} (h:aO W q hp rb v) (a:hp≠rb) {i:Nat} {u:Value} (c:(sR q rb v).setIfInBounds i u=sR q rb v') (d:v'.B=v.B) (b:v'.Ok):aO (W.setCell ⟨hp,i,none⟩ u) q hp rb v' :=
 { b with
   hd:=by rw [ai h.hd,c]
   row:=by rw [Below.heap_setCell W ⟨hp,i,none⟩ u rb (fun e=>a e.symm),d];exact h.row }
theorem SV.setHd {w0 W:World} {P:Nat->Prop} {q:Nat} {m:DM} {hp rb:Nat} {v v':VM} (h:SV w0 W P q m hp rb v) {i:Nat} {u:Value} (b:(sR q rb v).setIfInBounds i u=sR q rb v') (c:v'.B=v.B) (a:v'.Ok) :
 SV w0 (W.setCell ⟨hp,i,none⟩ u) P q m hp rb v'/\bz (oW P hp rb) W (W.setCell ⟨hp,i,none⟩ u) :=
 h.own ((aE.refl _ _).setCell (F:=fun k=>k=hp\/k=rb) (Or.inl rfl) u) (h.at_.setHd h.ne b c a)
def jD (r:Int):DM->Nat->List (List Int)->DM
 | m,_,[]=>m
 | m,o,b :: l=>jD r (m.doWrite r ((2+o:Nat):Int) b) (o+1) l
theorem tQ (r:Int):∀ (l:List (List Int)) (m:DM) (o:Nat) (b:List Int),jD r m o (l++[b])=(jD r m o l).doWrite r ((2+(o+l.length):Nat):Int) b
 | [],m,o,b=>rfl
 | c :: l,m,o,b=>by
   show jD r _ (o+1) (l++[b])=_;rw [tQ r l _ (o+1) b,List.length_cons,show o+1+l.length=o+(l.length+1) by omega];rfl
theorem oX (r:Int):∀ (l:List (List Int)) (m:DM) (o:Nat),(jD r m o l).done.length<=m.done.length+l.length
 | [],m,o=>by simp [jD]
 | c :: l,m,o=>by
   have a:=oX r l (m.doWrite r ((2+o:Nat):Int) c) (o+1);have b:=fQ m r ((2+o:Nat):Int) c;show (jD r _ _ l).done.length<=_;rw [List.length_cons];omega
def yX (W:World) (R:Nat->Prop) (A:Option Addr) (e:List (List Int)):Prop:=∀ i b,e[i]?=some b->∃ a B d,A=some a/\R a.block/\W.cell? (a.add i)=some (.slice B b.length d)/\b.length<=d/\d<=9223372036854775807/\∀ j x,b[j]?=some x->∃ c,B=some c/\R c.block/\W.cell? (c.add j)=some (.int .u8 x)
theorem yX.same {W W':World} {R:Nat->Prop} {A:Option Addr} {f:List (List Int)} (h:yX W R A f) (g:bz R W W'):yX W' R A f:=fun i b m=>by
 obtain ⟨a,B,d,e,k,n,o,p,h5⟩:=h i b m;refine ⟨a,B,d,e,k,?_,o,p,fun j x hj=>?_⟩
 ·rw [World.cell?_of_block (g.blk _ (by rw [di];exact k))];exact n
 ·obtain ⟨c,q,l,r⟩:=h5 j x hj;exact ⟨c,q,l,by rw [World.cell?_of_block (g.blk _ (by rw [di];exact l))];exact r⟩
theorem co.txR {W:World} {base:Nat} {v:Value} {l:List (List Int)} (h:co W base v l):∃ A d,v=.slice A l.length d/\l.length<=d/\d<=9223372036854775807/\yX W (fun k=>base<=k/\k<W.heap.size) A l:=by
 obtain ⟨H,t,I⟩:=h;have n:∀ (i:Nat) (b:List Int),l[i]?=some b->∃ B d,H[i]?=some (Value.slice B b.length d)/\b.length<=d/\d<=9223372036854775807/\∀ (j:Nat) (x:Int),b[j]?=some x->∃ c:Addr,B=some c/\(base<=c.block/\c.block<W.heap.size)/\W.cell? (c.add j)=some (.int .u8 x):=fun i b f=>by
  obtain ⟨u,e,w⟩:=I i b f;obtain ⟨B,d,rfl,o,h5,p⟩:=bM w rfl;refine ⟨B,d,e,o,h5,fun j x hj=>?_⟩;obtain ⟨c,rfl,y⟩:=p j x hj;have z:=World.block_lt_of_cell? W _ y;rw [di] at z;rcases w.2 with ⟨a,_⟩ | ⟨g,m,q,a,r,_⟩
  ·cases a
  ·injection a with a;injection a with a;subst a
   exact ⟨_,rfl,⟨r,z⟩,y⟩
 rcases t.2 with ⟨rfl,C⟩ | ⟨g,m,q,rfl,r,K,s,L,M,N⟩
 ·refine ⟨none,0,by rw [C],Ha,Ha,fun i b f=>?_⟩;rw [List.length_eq_zero_iff.1 C] at f;cases f
 ·refine ⟨some ⟨g,0,none⟩,m,rfl,s,by simp only [maxLen] at L;omega,fun i b f=>?_⟩;obtain ⟨B,d,e,o,h5,p⟩:=n i b f;exact ⟨_,B,d,rfl,⟨r,ah K⟩,t.cells (g:=g) rfl _ _ e,o,h5,p⟩
def Ls (q hp n g us k y z:Nat) (r a:Int) (B:Option Addr) (c:Nat) (i:Nat) (v:Value) (w:World):Prop :=
 match i with
 | 0 | 1 | 2 | 4 | 5 | 6 | 9 | 10=>v=.pointer (some ⟨hp,0,none⟩)
 | 3=>v=.agg (bJ (some ⟨q,0,none⟩) r n g a)
 | 7=>v=.pointer (some ⟨hp,3,none⟩)
 | 8=>v=qq 0 0 n g a
 | 11=>v=.pointer (some ⟨hp,11,none⟩)
 | 12=>v=.int .i64 us
 | 13=>v=.int .i64 (k:Int)
 | 14=>v=.int .i64 (z:Int)
 | 15=>v=.int .i64 (y:Int)
 | 16=>v=.slice B 64 c
 | _=>True
theorem Ex {w0 W:World} {P:Nat->Prop} {q:Nat} {m:DM} {hp rb:Nat} {v:VM} (h:SV w0 W P q m hp rb v) (A:Option Addr) (s:List (List Int)) (n d:Nat) (hn:s.length=n) (hl:n<=d) (hd:d<=9223372036854775807) (bi:∀ b∈s,cQ b) (hy:yX W (oW P hp rb) A s)
 (hg:v.us+n<=v.g) (c8:v.sq+1<4294967296) (N:m.done.length+n<=1000000) :
 Calls Tryz.prog 106 #[.pointer (some ⟨hp,0,none⟩),.slice A n d] W fun e w'=>e=.returned (.tuple #[])/\SV w0 w' P q (jD v.r m v.us s) hp rb { v with us:=v.us+n,sq:=v.sq+1 }/\bz (oW P hp rb) W w':=by
 have HV:=He h;have HN:=He hn;have HO:=He bi;have HY:=He hy;have b6:=He N;have b8:=h.at_.g;clear h hn bi hy N;go_enter Tryz.func106,Tryz.ntmps106;go_wp2
 go_loopw [8] (fun i wr=>∃ k:Nat,i=.int .i64 k/\k<=n/\Hid (SV w0 wr P q (jD v.r m v.us (s.take k)) hp rb v)/\Hid (bz P W wr)) (fun i _=>n-(intOf i).toNat)
 case atStart=>exact ⟨0,rfl,Ha,HV.out,bz.refl _ _⟩
 case round =>
  obtain ⟨a,rfl,hk,C,R⟩:=hrel;obtain ⟨K,rfl⟩:∃ K,K=wr:=⟨wr,rfl⟩
  by_cases b9:a<n
  ·obtain ⟨b,S⟩:∃ b,s[a]?=some b:=⟨_,List.getElem?_eq_getElem (by rw [HN.out];exact b9)⟩
   have U:=HO.out b (List.mem_of_getElem? S);obtain ⟨ad,B,c,rfl,hR,hc,ca,c9,bk⟩:=(HY.out.same R.out.rst) a b S;rw [U.1] at hc ca;have cb:=He U;have cc:Hid (∀ W',Below K.heap.size K W'->dK W' B b):=fun W' V j x hj=>by
    obtain ⟨c',e,_,h7⟩:=bk j x hj;exact ⟨c',e,cO V h7⟩
   have cg:Hid (s.take (a+1)=s.take a++[b]):=aw S;have ch:(a:Int)<n:=Ha;have bl:Hid ((s.take a).length=a):=by unfold Hid;rw [List.length_take,HN.out];omega
   have HM:Hid ((jD v.r m v.us (s.take a)).done.length<=1000000):=by
    have O:=oX v.r (s.take a) m v.us;rw [bl.out] at O;have h2:=b6.out;unfold Hid;omega
   have HS:=He (fun W=>AW 0 0 v.n v.g v.fr ((v.us+a:Nat):Int) b8 Ha W);rw [show dj 2 v.g ((v.us+a:Nat):Int)=((2+(v.us+a):Nat):Int) by unfold dj;rw [if_pos Ha];omega] at HS;have bn:Hid (i64 ((2+(v.us+a):Nat):Int)):=by constructor <;> omega
   have wz:IntKind.i64.wrap ((v.us:Int)+a)=((v.us+a:Nat):Int):=by rw [IntWalk.i64_in _ Ha];omega
   have HC:=He (fun (W':World) (V:Below K.heap.size K W')=>(C.out.at_.below V).cs);have HR:=He C.out.at_.r;have ci:Hid (2+(v.us+a)=2+(v.us+a)):=rfl;clear U S bk hR;generalize bs:2+(v.us+a)=y at HS bn ci;have ck:=He bs;clear bs;generalize H:v.us+a=z at *;have M:=He H;clear H;go_upto_region 3 with fail
   refine ax (Ls q hp v.n v.g v.us a y z v.r v.fr B c) (fun _ W=>Below K.heap.size K W) (fun _ w w'=>Below w.heap.size w w') Hc Hc (fun i j v w w' _ _ h hs=>by unfold Ls at *;exact h) ((Below.refl _ _).drew) ?_;simp only [cf];refine ⟨?_,?_,?_,?_,?_,?_,?_,?_,?_,?_,?_,?_,?_,?_,?_,?_,?_,?_⟩
   ·refine aa.of rfl fun T W L hag p hJ l hd=>?_;have e0:=Hf hag 0;exact Hh
   ·refine aa.of rfl fun T W L hag p hJ l hd=>?_;have X:T.getD 13 undef=_:=Hg hd 0 rfl;exact Hh
   ·refine aa.of rfl fun T W L hag p hJ l hd=>?_;have Y:T.getD 14 undef=_:=Hg hd 1 rfl;exact Hh
   ·refine aa.of rfl fun T W L hag p hJ l hd=>?_;have Z:T.getD 15 undef=_:=Hg hd 2 rfl;obtain ⟨z0,z1,z2,z3,z4,z5,z6,z7,z8,z9,I,an⟩:=HC.out W hJ;exact Hh
   ·refine aa.of rfl fun T W L hag p hJ l hd=>?_;have e0:=Hf hag 0;exact Hh
   ·refine aa.of rfl fun T W L hag p hJ l hd=>?_;have a0:T.getD 17 undef=_:=Hg hd 4 rfl;exact Hh
   ·refine aa.of rfl fun T W L hag p hJ l hd=>?_;have a1:T.getD 18 undef=_:=Hg hd 5 rfl;exact Hh
   ·refine aa.of rfl fun T W L hag p hJ l hd=>?_;have a2:T.getD 19 undef=_:=Hg hd 6 rfl;exact Hh
   ·refine aa.of rfl fun T W L hag p hJ l hd=>?_;have a3:T.getD 20 undef=_:=Hg hd 7 rfl;obtain ⟨z0,z1,z2,z3,z4,z5,z6,z7,z8,z9,I,an⟩:=HC.out W hJ;exact Hh
   ·refine aa.of rfl fun T W L hag p hJ l hd=>?_;have e0:=Hf hag 0;exact Hh
   ·refine aa.of rfl fun T W L hag p hJ l hd=>?_;have a4:T.getD 22 undef=_:=Hg hd 9 rfl;exact Hh
   ·refine aa.of rfl fun T W L hag p hJ l hd=>?_;have a5:T.getD 23 undef=_:=Hg hd 10 rfl;exact Hh
   ·refine aa.of rfl fun T W L hag p hJ l hd=>?_;have a6:T.getD 24 undef=_:=Hg hd 11 rfl;obtain ⟨z0,z1,z2,z3,z4,z5,z6,z7,z8,z9,I,an⟩:=HC.out W hJ;exact Hh
   ·refine aa.of rfl fun T W L hag p hJ l hd=>?_;have e4:=Hf hag 4;exact Hh
   ·refine aa.of rfl fun T W L hag p hJ l hd=>?_;have a7:T.getD 25 undef=_:=Hg hd 12 rfl;have a8:T.getD 26 undef=_:=Hg hd 13 rfl;exact Hh
   ·refine aa.of rfl fun T W L hag p hJ l hd=>?_;have a9:T.getD 21 undef=_:=Hg hd 8 rfl;have bb:T.getD 27 undef=_:=Hg hd 14 rfl;clear hag hd;go_simp;refine (HS.out W).mono ?_;rintro e w' ⟨rfl,S⟩;exact ⟨_,rfl,rfl,aR hJ S,S⟩
   ·refine aa.of rfl fun T W L hag p hJ l hd=>?_;have e5:=Hf hag 5;exact Hh
   ·refine bm.of rfl fun T W L hag l p hJ hd=>?_;have bt:T.getD 16 undef=_:=hd 3 _ Hb rfl;have bx:T.getD 28 undef=_:=hd 15 _ Hb rfl;have b0:T.getD 29 undef=_:=hd 16 _ Hb rfl;obtain ⟨f,o,hT⟩:=aJ hag;have X:T.getD 13 undef=_:=hd 0 _ Hb rfl;have cl:=(o 13).trans X;have Y:T.getD 14 undef=_:=hd 1 _ Hb rfl;have cn:=(o 14).trans Y;have Z:T.getD 15 undef=_:=hd 2 _ Hb rfl;have cp:=(o 15).trans Z;have cq:=(o 16).trans bt;have a0:T.getD 17 undef=_:=hd 4 _ Hb rfl;have cr:=(o 17).trans a0;have a1:T.getD 18 undef=_:=hd 5 _ Hb rfl;have cu:=(o 18).trans a1;have a2:T.getD 19 undef=_:=hd 6 _ Hb rfl;have cv:=(o 19).trans a2;have a3:T.getD 20 undef=_:=hd 7 _ Hb rfl;have cw:=(o 20).trans a3;have a9:T.getD 21 undef=_:=hd 8 _ Hb rfl;have cx:=(o 21).trans a9;have a4:T.getD 22 undef=_:=hd 9 _ Hb rfl;have cz:=(o 22).trans a4;have a5:T.getD 23 undef=_:=hd 10 _ Hb rfl;have cA:=(o 23).trans a5;have a6:T.getD 24 undef=_:=hd 11 _ Hb rfl;have cP:=(o 24).trans a6;have a7:T.getD 25 undef=_:=hd 12 _ Hb rfl;have c0:=(o 25).trans a7;have a8:T.getD 26 undef=_:=hd 13 _ Hb rfl;have c1:=(o 26).trans a8;have bb:T.getD 27 undef=_:=hd 14 _ Hb rfl;have c2:=(o 27).trans bb;have c3:=(o 28).trans bx;have c4:=(o 29).trans b0;have HJ:=He hJ;clear hag hd X Y Z bt a0 a1 a2 a3 a9 a4 a5 a6 a7 a8 bb bx b0 hJ o;rw [hT];clear hT;simp only [List.pop_toArray,List.dropLast_cons_cons,List.dropLast_singleton,List.filterMap_cons,List.filterMap_nil,List.foldl_cons,List.foldl_nil,List.setIfInBounds_toArray,List.set_cons_succ,List.set_cons_zero,cl,cn,cp,cq,cr,cu,cv,cw,cx,cz,cA,cP,c0,c1,c2,c3,c4];have hd:=C.out.below HJ.out;go_simp;refine (mW hd.ds v.r HR.out v.n v.g v.fr (y:Int) bn.out B b c cb.out (cc.out W HJ.out) HM.out).mono ?_;rintro e w' ⟨rfl,b1,hs⟩;have b2:=hd.step b1 hs;have c5:=He b2;have b3:=He ((R.out.trans (C.out.same HJ.out)).trans hs);clear hd b1 hs b2;go_wp2;have b4:jD v.r m v.us (s.take (a+1))=(jD v.r m v.us (s.take a)).doWrite v.r (y:Int) b:=by
     rw [cg.out,tQ,bl.out,M.out,ck.out]
    have HF:Hid (SV w0 w' P q (jD v.r m v.us (s.take (a+1))) hp rb v):=by rw [b4];exact c5.out
    clear b4
    go_roundw
    case rel=>exact ⟨a+1,by go_num,Ha,HF.out,b3.out⟩
    case measure=>simp [intOf];omega
  ·obtain rfl:a=n:=Ha;have ch:¬ ((a:Int)<a):=Ha;have t:=C.out;rw [List.take_of_length_le (by rw [HN.out];exact Nat.le_refl _)] at t;have O:=t.setHd (i:=11) (u:=.int .i64 ((v.us+a:Nat):Int)) (v':={ v with us:=v.us+a }) rfl rfl { t.at_.toOk with us:=by show v.us+a<=2000;omega };have h2:=O.1.setHd (i:=10) (u:=.int .u32 ((v.sq+1:Nat):Int)) (v':={ v with us:=v.us+a,sq:=v.sq+1 }) rfl rfl { O.1.at_.toOk with sq:=by show v.sq+1<4294967296;omega };have HF:=He h2.1;have c6:=He ((R.out.rst.trans O.2).trans h2.2);have an:=t.at_.c11;have da:=t.at_.f 11;have I:=O.1.at_.c10;have dc:=O.1.at_.f 10;have wz:IntKind.i64.wrap ((v.us:Int)+a)=((v.us+a:Nat):Int):=by rw [IntWalk.i64_in _ Ha];omega
   have wq:IntKind.u32.wrap ((v.sq:Int)+1)=((v.sq+1:Nat):Int):=by rw [IntWalk.u32_in _ Ha];omega
   have c7:(K.setCell ⟨hp,11,none⟩ (.int .i64 ((v.us+a:Nat):Int))).cell? ⟨hp,10,none⟩=some (.int .u32 v.sq):=I;clear O h2 t I;generalize H:v.us+a=z at *;generalize b5:v.sq+1=dg at *;have M:=He (And.intro H b5);clear H b5;go_wp2
   go_end0
   rw [M.out.1,M.out.2];exact ⟨rfl,HF.out,c6.out⟩
end Go.Proofs.YtegjelaejbacnaaGreat
