/- For FileForms: contracts and facts, part 9. -/
import Derived.Laws.StructEq
import Derived.Laws.BitsAllLaws
import Derived.Deep.MidRow
import Derived.Laws.CopyOwn
import Derived.BigQuiet
import Derived.Deep.DeepCutAuto
import Derived.Test.YtegjelaejbacnaaGreatW01
import Derived.Test.YtegjelaejbacnaaGreatW03
import Derived.Test.YtegjelaejbacnaaGreatW07
import Derived.Test.YtegjelaejbacnaaGreatW08
set_option maxRecDepth 100000
set_option maxHeartbeats 25600000
set_option linter.unusedVariables false
open Go.ChangeShapes Go.WideShapes Go.ChangeAt Go.RowKit
namespace Go.Proofs.YtegjelaejbacnaaGreat
section
variable {α:Type}
def rowL (enc:α->List Value):List α->List Value
 | []=>[]
 | x :: l=>enc x++rowL enc l
def kF (enc:α->List Value) (sz:Nat) (l:List α):Prop:=∀ x∈l,(enc x).length=sz
theorem kF.tl {enc:α->List Value} {sz:Nat} {x:α} {l:List α} (h:kF enc sz (x :: l)):kF enc sz l:=fun y hy=>h y (by simp [hy])
theorem kF.hd {enc:α->List Value} {sz:Nat} {x:α} {l:List α} (h:kF enc sz (x :: l)):(enc x).length=sz:=h x Hb
theorem kG (enc:α->List Value):∀ (l m:List α),rowL enc (l++m)=rowL enc l++rowL enc m
 | [],_=>rfl
 | x :: l,m=>by show enc x++rowL enc (l++m)=_;rw [kG enc l m,<- List.append_assoc];rfl
theorem dE {enc:α->List Value} {sz:Nat}:∀ {l:List α},kF enc sz l->(rowL enc l).length=l.length*sz
 | [],_=>by simp [rowL]
 | x :: l,h=>by
   show (enc x++rowL enc l).length=(l.length+1)*sz;rw [List.length_append,h.hd,dE h.tl,Nat.add_mul];omega
theorem m7 {enc:α->List Value} {sz:Nat}:∀ {l:List α},kF enc sz l->∀ {i:Nat} {x:α},l[i]?=some x->∀ {j:Nat} {v:Value},(enc x)[j]?=some v->(rowL enc l)[i*sz+j]?=some v
 | [],_,i,x,h,_,_,_=>by cases h
 | y :: l,hl,0,x,h,j,v,hj=>by
   injection h with h;subst h
   show (enc y++rowL enc l)[0*sz+j]?=some v;rw [Nat.zero_mul,Nat.zero_add,List.getElem?_append_left (List.getElem?_eq_some_iff.1 hj).1];exact hj
 | y :: l,hl,i+1,x,h,j,v,hj=>by
   have h1:=m7 (l:=l) hl.tl (i:=i) h hj;show (enc y++rowL enc l)[(i+1)*sz+j]?=some v;rw [List.getElem?_append_right (by rw [hl.hd,Nat.add_mul];omega),hl.hd,show (i+1)*sz+j-sz=i*sz+j by rw [Nat.add_mul];omega];exact h1
theorem vL {enc:α->List Value} (h1:∀ x,∀ v∈enc x,v.oneCell'=true):∀ (l:List α),∀ v∈rowL enc l,v.oneCell'=true
 | [],v,h=>by cases h
 | x :: l,v,h=>by
   rcases List.mem_append.1 (show v∈enc x++rowL enc l from h) with h | h
   ·exact h1 x v h
   ·exact vL h1 l v h
theorem m8 {enc:α->List Value} {sz:Nat}:∀ {l:List α},kF enc sz l->∀ {k:Nat} {x y:α} {j:Nat} {v:Value},l[k]?=some x->j<sz->enc y=(enc x).set j v->(rowL enc l).set (k*sz+j) v=rowL enc (l.set k y)
 | [],_,k,x,_,_,_,h,_,_=>by cases h
 | z :: l,hl,0,x,y,j,v,h,hj,he=>by
   injection h with h;subst h
   show (enc z++rowL enc l).set (0*sz+j) v=enc y++rowL enc l;rw [Nat.zero_mul,Nat.zero_add,List.set_append_left _ _ (by rw [hl.hd];exact hj),he]
 | z :: l,hl,k+1,x,y,j,v,h,hj,he=>by
   show (enc z++rowL enc l).set ((k+1)*sz+j) v=enc z++rowL enc (l.set k y);rw [List.set_append_right _ _ (by rw [hl.hd,Nat.add_mul];omega),hl.hd,show (k+1)*sz+j-sz=k*sz+j by rw [Nat.add_mul];omega,m8 hl.tl h hj he]
theorem ik {enc:α->List Value} {sz:Nat}:∀ {l:List α},kF enc sz l->∀ {k:Nat} {x y:α} {j:Nat} {cs:List Value},l[k]?=some x->j+cs.length<=sz->enc y=splice (enc x) j cs->splice (rowL enc l) (k*sz+j) cs=rowL enc (l.set k y)
 | [],_,k,x,_,_,_,h,_,_=>by cases h
 | z :: l,hl,0,x,y,j,cs,h,hj,he=>by
   injection h with h;subst h
   show splice (enc z++rowL enc l) (0*sz+j) cs=enc y++rowL enc l;rw [Nat.zero_mul,Nat.zero_add,he];unfold splice;have:=hl.hd;rw [List.take_append_of_le_length Ha,List.drop_append_of_le_length Ha];simp
 | z :: l,hl,k+1,x,y,j,cs,h,hj,he=>by
   show splice (enc z++rowL enc l) ((k+1)*sz+j) cs=enc z++rowL enc (l.set k y);rw [<- ik hl.tl h hj he];have e:=hl.hd;unfold splice;rw [show (k+1)*sz+j=(enc z).length+(k*sz+j) by rw [e,Nat.add_mul];omega,List.take_length_add_append,Nat.add_assoc,List.drop_length_add_append];simp
theorem sD {enc:α->List Value} {sz:Nat}:∀ {l:List α},kF enc sz l->∀ (k:Nat),(rowL enc l).take (k*sz)=rowL enc (l.take k)
 | [],_,k=>by simp [rowL]
 | z :: l,hl,0=>by simp [rowL]
 | z :: l,hl,k+1=>by
   show (enc z++rowL enc l).take ((k+1)*sz)=enc z++rowL enc (l.take k);rw [show (k+1)*sz=(enc z).length+k*sz by rw [hl.hd,Nat.add_mul];omega,List.take_length_add_append,sD hl.tl]
theorem sE {enc:α->List Value} {sz:Nat}:∀ {l:List α},kF enc sz l->∀ (k:Nat),(rowL enc l).drop (k*sz)=rowL enc (l.drop k)
 | [],_,k=>by simp [rowL]
 | z :: l,hl,0=>Hb
 | z :: l,hl,k+1=>by
   show (enc z++rowL enc l).drop ((k+1)*sz)=rowL enc (l.drop k);rw [show (k+1)*sz=(enc z).length+k*sz by rw [hl.hd,Nat.add_mul];omega,List.drop_length_add_append,sE hl.tl]
end
theorem dQ {α:Type} (L:List α) (o:Nat) (cs:List α) (h:o+cs.length<=L.length):(splice L o cs).length=L.length:=by
 unfold splice;simp;omega
theorem vM {α:Type} (L:List α) (o m:Nat) (cs:List α) (h:o+cs.length<=m) (hm:m<=L.length):(splice L o cs).take m=splice (L.take m) o cs:=by
 unfold splice;rw [List.take_append,List.take_append,List.take_take,List.take_take,List.take_of_length_le (l:=cs) (by simp;omega),List.drop_take];rw [show min m o=o by omega,show min o m=o by omega]
 congr 3
 simp;omega
theorem ka {α:Type} (L cs:List α) (h:L.length=cs.length):splice L 0 cs=cs:=by
 unfold splice;simp [h.symm]
theorem cD {g:Nat} {t:TypeId}:∀ (cs:List Value) (o:Nat) (C:Array Value) (W:World),W.heap[g]?=some (.cells C t (0,0))->o+cs.length<=C.size->(W.setCells g o cs).heap[g]?=some (.cells (splice C.toList o cs).toArray t (0,0))
 | [],o,C,W,h,_=>by
   show W.heap[g]?=_;rw [h];unfold splice;simp
 | v :: r,o,C,W,h,hl=>by
   show ((W.setCell ⟨g,o,none⟩ v).setCells g (o+1) r).heap[g]?=_;simp only [List.length_cons] at hl;rw [cD r (o+1) _ _ (ah h v) (by simp;omega),Array.toList_setIfInBounds]
   congr 3
   unfold splice;rw [List.take_add_one,List.take_set_of_le Ha,List.getElem?_set_self (by simp;omega),List.drop_set_of_lt Ha];simp [show o+1+r.length=o+(r.length+1) by omega]
theorem i2 {B g:Nat}:∀ (cs:List Value) (o:Nat) {w W:World},Below B w W->B<=g->Below B w (W.setCells g o cs)
 | [],_,_,_,h,_=>h
 | v :: r,o,w,W,h,hg=>i2 r (o+1) (h.setCell hg v) hg
theorem dr {g k:Nat} (hk:k≠g):∀ (cs:List Value) (o:Nat) (W:World),(W.setCells g o cs).heap[k]?=W.heap[k]?
 | [],_,_=>rfl
 | v :: r,o,W=>by
   show ((W.setCell ⟨g,o,none⟩ v).setCells g (o+1) r).heap[k]?=_;rw [dr hk r,heap_setCell_other _ _ _ _ hk]
section
variable {W:World} {base e sz n g cap:Nat} {xs:List Value}
theorem gE (h:W.ownsRow base e sz (.slice (some ⟨g,0,none⟩) n cap) n xs):∃ cur,W.heap[g]?=some (.cells cur e (0,0))/\n<=cap/\cap<=maxLen/\cur.size=cap*sz/\cur.toList.take (n*sz)=xs/\base<=g:=by
 rcases h.2 with ⟨h0,_⟩ | ⟨g',cap',cur,e',hb,hg,hn,hm,hs,ht⟩
 ·cases h0
 ·injection e' with e1 e2 e3
  injection e1 with e1;injection e1 with e1
  subst e1;subst e3;exact ⟨cur,hg,hn,hm,hs,ht,hb⟩
theorem ml (h:W.ownsRow base e sz (.slice (some ⟨g,0,none⟩) n cap) n xs) {k:Nat} (hk:k<n*sz) (u:Value):(W.setCell ⟨g,k,none⟩ u).ownsRow base e sz (.slice (some ⟨g,0,none⟩) n cap) n (xs.set k u):=by
 obtain ⟨cur,hg,hn,hm,hs,ht,hb⟩:=gE h;refine ⟨by rw [List.length_set];exact h.1,Or.inr ⟨g,cap,cur.setIfInBounds k u,rfl,hb,ah hg u,hn,hm,by simp [hs],?_⟩⟩;rw [Array.toList_setIfInBounds,List.take_set,ht]
theorem lT (h:W.ownsRow base e sz (.slice (some ⟨g,0,none⟩) n cap) n xs) {o:Nat} (cs:List Value) (ho:o+cs.length<=n*sz):(W.setCells g o cs).ownsRow base e sz (.slice (some ⟨g,0,none⟩) n cap) n (splice xs o cs):=by
 obtain ⟨cur,hg,hn,hm,hs,ht,hb⟩:=gE h;have h1:n*sz<=cap*sz:=Nat.mul_le_mul_right _ hn;refine ⟨by rw [dQ _ _ _ (by rw [h.1];exact ho)];exact h.1,Or.inr ⟨g,cap,_,rfl,hb,cD cs o cur W hg Ha,hn,hm,by simp only [List.size_toArray];rw [dQ _ _ _ (by simp;omega)];simp [hs],?_⟩⟩;rw [List.toList_toArray,vM _ _ _ _ ho (by simp;omega),ht]
theorem jU (h:W.ownsRow base e sz (.slice (some ⟨g,0,none⟩) n cap) n xs) {k:Nat} {u:Value} (hk:xs[k]?=some u):W.cell? ⟨g,k,none⟩=some u:=by
 have:=h.cells (g:=g) rfl _ _ hk
 rwa [fP] at this
theorem qh (h:W.ownsRow base e sz (.slice (some ⟨g,0,none⟩) n cap) n xs) (k:Nat):W.frozen? ⟨g,k,none⟩=false:=by
 obtain ⟨cur,hg,_⟩:=gE h;exact az hg k
theorem sF (h:W.ownsRow base e sz (.slice (some ⟨g,0,none⟩) n cap) n xs) {o c:Nat} (hc:o+c<=n*sz):W.there g o c:=fun j hj=>by
 have hx:=h.1;obtain ⟨u,hu⟩:∃ u,xs[o+j]?=some u:=⟨_,List.getElem?_eq_getElem Ha⟩
 rw [jU h hu];exact ⟨rfl,qh h _⟩
end
theorem Bc {α:Type} {enc:α->List Value} {W:World} {base e sz g cap n:Nat} {l:List α} (hl:kF enc sz l) (h:W.ownsRow base e sz (.slice (some ⟨g,0,none⟩) n cap) n (rowL enc l)) {k:Nat} {x:α} (hk:l[k]?=some x) {o c:Nat} :
 W.rangeAt g (k*sz+o) (((enc x).drop o).take c):=fun j v hj=>by
 have e1:(enc x)[o+j]?=some v:=by
  rw [List.getElem?_take] at hj;split at hj
  ·rw [List.getElem?_drop] at hj;exact hj
  ·cases hj
 rw [Nat.add_assoc];exact jU h (m7 hl hk e1)
section
variable {α:Type}
end
section
variable {W:World} {base e sz n g cap:Nat} {xs:List Value}
end
structure HB where
 (k:Int) (bs:List Int) (lg:Bool)
structure HB.Ok (x:HB):Prop where
 k:0<=x.k/\x.k<=7
 len:x.bs.length=56
 b:ax x.bs
def hbL (x:HB):List Value:=blkL x.k x.bs++[.bool x.lg]
theorem aZ {k:Int} {bs:List Int} (h:bs.length=56):(blkL k bs).length=57:=by unfold blkL;simp [ar,h]
theorem gF {x:HB} (h:x.bs.length=56):(hbL x).length=58:=by unfold hbL;simp [aZ h]
theorem Fb (x:HB):∀ v∈hbL x,v.oneCell'=true:=by
 intro v hv;unfold hbL blkL at hv;simp only [List.mem_append,List.mem_cons,List.not_mem_nil,or_false] at hv;rcases hv with (rfl | hv) | rfl
 ·rfl
 ·exact gQ x.bs v hv
 ·rfl
def lU (l:List HB):Prop:=∀ x∈l,x.Ok
theorem lU.fits {l:List HB} (h:lU l):kF hbL 58 l:=fun x hx=>gF (h x hx).len
theorem lU.set {l:List HB} (h:lU l) {i:Nat} {x:HB} (hx:x.Ok):lU (l.set i x):=fun y hy=>by
 rcases List.mem_or_eq_of_mem_set hy with h1 | h1
 ·exact h y h1
 ·rw [h1];exact hx
structure VM where
 (r fr:Int) (n g:Nat) (B:List HB) (ep sq us:Nat)
def rP (q rb:Nat) (v:VM):Array Value:=#[.pointer (some ⟨q,0,none⟩),.int .i64 v.r,.int .u8 0,.int .i64 0,.int .i64 0,.int .i64 v.n,.int .i64 v.g,.int .i64 v.fr,.slice (some ⟨rb,0,none⟩) v.n v.n,.int .u32 v.ep,.int .u32 v.sq,.int .i64 v.us]
structure VM.Ok (v:VM):Prop where
 len:v.B.length=v.n
 ok:lU v.B
 n:v.n<=200
 g:v.g<=1000
 r:i64 v.r
 ep:v.ep<4294967296
 sq:v.sq<4294967296
 us:v.us<=2000
structure aM (W:World) (q hp rb:Nat) (v:VM):Prop extends VM.Ok v where
 hd:W.heap[hp]?=some (.cells (rP q rb v) 118 (0,0))
 row:W.heap[rb]?=some (.cells (rowL hbL v.B).toArray 113 (0,0))
theorem aM.keep {W W':World} {q hp rb:Nat} {v:VM} (h:aM W q hp rb v) (h1:W'.heap[hp]?=W.heap[hp]?) (h2:W'.heap[rb]?=W.heap[rb]?):aM W' q hp rb v :=
 { h with hd:=h1.trans h.hd,row:=h2.trans h.row }
theorem aM.below {W W':World} {q hp rb:Nat} {v:VM} (h:aM W q hp rb v) (hb:Below W.heap.size W W'):aM W' q hp rb v:=h.keep (hb.block _ (ai h.hd)) (hb.block _ (ai h.row))
section
variable {W:World} {q hp rb:Nat} {v:VM}
theorem aM.c0 (h:aM W q hp rb v):W.cell? ⟨hp,0,none⟩=some (.pointer (some ⟨q,0,none⟩)):=(af h.hd 0).trans rfl
theorem aM.c1 (h:aM W q hp rb v):W.cell? ⟨hp,1,none⟩=some (.int .i64 v.r):=(af h.hd 1).trans rfl
theorem aM.c2 (h:aM W q hp rb v):W.cell? ⟨hp,2,none⟩=some (.int .u8 0):=(af h.hd 2).trans rfl
theorem aM.c3 (h:aM W q hp rb v):W.cell? ⟨hp,3,none⟩=some (.int .i64 0):=(af h.hd 3).trans rfl
theorem aM.c4 (h:aM W q hp rb v):W.cell? ⟨hp,4,none⟩=some (.int .i64 0):=(af h.hd 4).trans rfl
theorem aM.c5 (h:aM W q hp rb v):W.cell? ⟨hp,5,none⟩=some (.int .i64 v.n):=(af h.hd 5).trans rfl
theorem aM.c6 (h:aM W q hp rb v):W.cell? ⟨hp,6,none⟩=some (.int .i64 v.g):=(af h.hd 6).trans rfl
theorem aM.c7 (h:aM W q hp rb v):W.cell? ⟨hp,7,none⟩=some (.int .i64 v.fr):=(af h.hd 7).trans rfl
theorem aM.c8 (h:aM W q hp rb v):W.cell? ⟨hp,8,none⟩=some (.slice (some ⟨rb,0,none⟩) v.n v.n):=(af h.hd 8).trans rfl
theorem aM.c9 (h:aM W q hp rb v):W.cell? ⟨hp,9,none⟩=some (.int .u32 v.ep):=(af h.hd 9).trans rfl
theorem aM.c10 (h:aM W q hp rb v):W.cell? ⟨hp,10,none⟩=some (.int .u32 v.sq):=(af h.hd 10).trans rfl
theorem aM.c11 (h:aM W q hp rb v):W.cell? ⟨hp,11,none⟩=some (.int .i64 v.us):=(af h.hd 11).trans rfl
theorem aM.f (h:aM W q hp rb v) (i:Nat):W.frozen? ⟨hp,i,none⟩=false:=az h.hd i
theorem aM.fr (h:aM W q hp rb v) (i:Nat):W.frozen? ⟨rb,i,none⟩=false:=az h.row i
theorem aM.cell (h:aM W q hp rb v) {i:Nat} {x:HB} (hi:v.B[i]?=some x) {j:Nat} {u:Value} (hj:(hbL x)[j]?=some u):W.cell? ⟨rb,i*58+j,none⟩=some u:=by
 rw [af h.row,List.getElem?_toArray];exact m7 h.ok.fits hi hj
theorem aM.lg (h:aM W q hp rb v) {i:Nat} {x:HB} (hi:v.B[i]?=some x):W.cell? ⟨rb,i*58+57,none⟩=some (.bool x.lg):=h.cell hi (by
 unfold hbL;rw [List.getElem?_append_right (by rw [aZ (h.ok x (List.mem_of_getElem? hi)).len];exact Nat.le_refl _),aZ (h.ok x (List.mem_of_getElem? hi)).len];rfl)
theorem aM.rangeB (h:aM W q hp rb v) {i:Nat} {x:HB} (hi:v.B[i]?=some x):W.rangeAt rb (i*58) (blkL x.k x.bs):=fun j u hj=>by
 refine h.cell hi ?_;unfold hbL;rw [List.getElem?_append_left (List.getElem?_eq_some_iff.1 hj).1];exact hj
theorem aM.there (h:aM W q hp rb v) {i:Nat} (hi:i<v.n) {o c:Nat} (hc:o+c<=58):W.there rb (i*58+o) c:=fun j hj=>by
 have hl:(rowL hbL v.B).length=v.n*58:=by rw [dE h.ok.fits,h.len]
 have hb:i*58+o+j<v.n*58:=by
  have:(i+1)*58<=v.n*58:=Nat.mul_le_mul_right _ hi;omega
 exact ⟨by rw [af h.row,List.getElem?_toArray,List.getElem?_eq_getElem Ha];rfl,h.fr _⟩
end
theorem kH {W:World} {q hp rb:Nat} {v:VM} (h:aM W q hp rb v):Calls Tryz.prog 109 #[.pointer (some ⟨hp,0,none⟩)] W fun e w'=>e=.returned (.int .i64 v.n)/\W=w':=by
 have c8:=h.c8;clear h;go_enter Tryz.func109,Tryz.ntmps109;go_wp2;go_ret;exact ⟨rfl,rfl⟩
theorem Bd {W:World} {q hp rb:Nat} {v:VM} (h:aM W q hp rb v) (hus:v.us<=v.g):Calls Tryz.prog 104 #[.pointer (some ⟨hp,0,none⟩)] W fun e w'=>e=.returned (.int .i64 ((v.g-v.us:Nat):Int))/\Below W.heap.size W w':=by
 have c6:∀ k,(W.drewN k).cell? ⟨hp,6,none⟩=_:=fun k=>(show W.cell? _=_ from h.c6)
 have c11:∀ k,(W.drewN k).cell? ⟨hp,11,none⟩=_:=fun k=>(show W.cell? _=_ from h.c11)
 have hg:=h.g;have wz:IntKind.i64.wrap ((v.g:Int)-v.us)=((v.g-v.us:Nat):Int):=by rw [IntWalk.i64_in _ Ha];omega
 clear h;generalize v.g-v.us=z at *;generalize v.g=g at *;generalize v.us=us at *;go_enter Tryz.func104,Tryz.ntmps104;go_wp2_with (go_quiet (fail))
 go_ret;exact ⟨rfl,EC (Below.refl _ _) _⟩
def im (v:VM) (t:Int):Bool:=decide (0<=t)&&decide (t<v.n)
theorem qi {W:World} {q hp rb:Nat} {v:VM} (h:aM W q hp rb v) (t:Int) (ht:i64 t):Calls Tryz.prog 50 #[.pointer (some ⟨hp,0,none⟩),.int .i64 t] W fun e w'=>e=.returned (.bool (im v t))/\W=w':=by
 have HB:=He (kH h);unfold im;clear h;generalize v.n=n at *;by_cases h0:0<=t
 ·have hd:decide (0<=t)=true:=decide_eq_true h0;go_enter Tryz.func50,Tryz.ntmps50;go_wp2_with fail
  refine HB.out.mono ?_;rintro e w' ⟨rfl,rfl⟩;go_wp2;go_ret;exact ⟨by rw [hd];simp,rfl⟩
 ·have hd:decide (0<=t)=false:=decide_eq_false h0;go_enter Tryz.func50,Tryz.ntmps50;go_wp2;go_ret;exact ⟨rfl,rfl⟩
def lI (v:VM) (t:Int):HB:=if im v t then v.B.getD t.toNat ⟨0,ay,false⟩ else ⟨0,ay,false⟩
theorem ua {v:VM} {i:Nat} {x:HB} (hv:v.B.length=v.n) (h:v.B[i]?=some x):im v i=true/\lI v i=x:=by
 have hl:=(List.getElem?_eq_some_iff.1 h).1;have hh:im v i=true:=by unfold im;simp;omega
 refine ⟨hh,?_⟩;unfold lI;rw [if_pos hh,Int.toNat_natCast,List.getD,h];rfl
theorem vN {W:World} {q hp rb:Nat} {v:VM} (h:aM W q hp rb v) (t:Int) (ht:i64 t):Calls Tryz.prog 20 #[.pointer (some ⟨hp,0,none⟩),.int .i64 t] W fun e w'=>e=.returned (.tuple #[.agg (ab (lI v t).k (lI v t).bs),.bool (im v t)])/\Below W.heap.size W w':=by
 have hb:Below W.heap.size W (W.alloc (Obj.cells (ab 0 ay) 37)):=(Below.refl _ _).alloc (Nat.le_refl _) _;have e0:=heap_alloc_new W (Obj.cells (ab 0 ay) 37);have hv:=He (h.below hb);have HH:=He (qi hv.out t ht);clear h;by_cases h1:im v t=true
 ·obtain ⟨i,rfl⟩:∃ i:Nat,t=(i:Int):=⟨t.toNat,by unfold im at h1;simp at h1;omega⟩
  have hin:i<v.n:=by unfold im at h1;simp at h1;omega
  obtain ⟨x,hx⟩:∃ x,v.B[i]?=some x:=⟨_,List.getElem?_eq_getElem (by rw [hv.out.len];exact hin)⟩
  rw [(ua hv.out.len hx).2];rw [h1] at HH ⊢;have HX:=He hx;have H56:=He (hv.out.ok x (List.mem_of_getElem? hx)).len;have hii:(i:Int)<v.n:=Ha;have HN:=hv.out.n;clear hx h1 hin;go_enter Tryz.func20,Tryz.ntmps20;go_upto_region 1 with (refine aq rfl rfl ?_)
  generalize hg:W.heap.size=g at *;generalize W.alloc (Obj.cells (ab 0 ay) 37)=W1 at *;have c8:=hv.out.c8;generalize v.n=n at *;go_wp2_with fail
  refine HH.out.mono ?_;rintro e w' ⟨rfl,rfl⟩;go_wp2_with (first | (with_reducible refine wpList_load_mid rfl 37 (.tmp 17) rfl rb (i*58) rfl (blkL x.k x.bs) _ (hv.out.rangeB HX.out) Tryz.underlying37 rfl (by rw [aZ H56.out];exact cO) ?_) | (refine ap rfl (.tmp 4) (.tmp 18) rfl g rfl x.k 0 x.bs ay rfl H56.out al e0 ?_))
  refine bodyPost_ret (aT rfl _ _ g x.k x.bs rfl H56.out (am e0)) rfl ?_;exact ⟨rfl,by rw [hg];exact below_setRow hb (Nat.le_refl _) _⟩
 ·have h2:im v t=false:=by simpa using h1
  have hg0:lI v t=⟨0,ay,false⟩:=by unfold lI;rw [if_neg h1]
  rw [hg0,h2];rw [h2] at HH;clear h1 h2 hg0;go_enter Tryz.func20,Tryz.ntmps20;go_upto_region 1 with (refine aq rfl rfl ?_)
  generalize hg:W.heap.size=g at *;generalize W.alloc (Obj.cells (ab 0 ay) 37)=W1 at *;go_wp2_with fail
  refine HH.out.mono ?_;rintro e w' ⟨rfl,rfl⟩;go_wp2_with (first | (refine bJ rfl rfl ?_) | (refine ap rfl (.tmp 4) (.tmp 10) rfl g rfl 0 0 ay ay rfl al al e0 ?_))
  refine bodyPost_ret (aT rfl _ _ g 0 ay rfl al (am e0)) rfl ?_;exact ⟨rfl,by rw [hg];exact below_setRow hb (Nat.le_refl _) _⟩
def dJ (v:VM) (l:List Wr):Bool:=l.all fun x=>im v x.t
theorem vO {W:World} {q hp rb:Nat} {v:VM} (h:aM W q hp rb v) (A:Option Addr) (l:List Wr) (n d:Nat) (hn:l.length=n) (hl:n<=d) (hd:d<=9223372036854775807) (hok:bS l) (hy:EZ W A l) :
 Calls Tryz.prog 103 #[.pointer (some ⟨hp,0,none⟩),.slice A n d] W fun e w'=>e=.returned (.bool (dJ v l))/\W=w':=by
 have HV:=He h;have HN:=He hn;have HO:=He hok;have HY:=He hy;clear h hn hok hy;go_enter Tryz.func103,Tryz.ntmps103;go_wp2;refine aV (fun a' w'=>w'=W/\∃ k:Nat,k<=n/\Hid (dJ v l=dJ v (l.drop k))/\∃ u6 u7 u8 u9 u10 u11 u12 u13 u14 u15 u16 u17 u18 u19:Value,a'={ tmps:=#[.pointer (some ⟨hp,0,none⟩),.slice A n d,undef,undef,.bool false,.int .i64 k,u6,u7,u8,u9,u10,u11,u12,u13,u14,u15,u16,u17,u18,u19],defers:=[] })
  (fun a' _=>n-(intOf (a'.tmps.getD 5 undef)).toNat) rfl ?_ ?_
 ·intro HF;go_wp2;go_step3;rename_i hK;exact hK _ _ (HF _ _ ⟨rfl,0,Ha,rfl,_,_,_,_,_,_,_,_,_,_,_,_,_,_,rfl⟩)
 ·rintro a' w' ⟨rfl,k,hk,HE,u6,u7,u8,u9,u10,u11,u12,u13,u14,u15,u16,u17,u18,u19,rfl⟩;by_cases hkn:k=n
  ·subst hkn;have HA:Hid (dJ v l=true):=by unfold Hid;rw [HE.out,List.drop_of_length_le (by rw [HN.out];exact Nat.le_refl _)];rfl
   go_wp2;simp only [Exit.jump];go_ret;exact ⟨by rw [HA.out];rfl,rfl⟩
  ·have hkl:k<n:=Ha;have hq:((k:Int)==n)=false:=by simp;omega
   have hki:(k:Int)<n:=Ha;obtain ⟨x,hx⟩:∃ x,l[k]?=some x:=⟨_,List.getElem?_eq_getElem (by rw [HN.out];exact hkl)⟩
   obtain ⟨ad,rfl,hw⟩:=HY.out k x hx;have c0:=hw.c0;have ht:=(HO.out x (List.mem_of_getElem? hx)).t;have HH:=He (qi HV.out x.t ht);have HD:Hid (dJ v (l.drop k)=(im v x.t&&dJ v (l.drop (k+1)))):=by
    unfold Hid dJ;rw [List.drop_eq_getElem_cons (by rw [HN.out];exact hkl),(List.getElem?_eq_some_iff.1 hx).2];rfl
   clear hw hx ht;generalize x.t=tt at *;go_wp2_with fail
   refine HH.out.mono ?_;rintro e w' ⟨rfl,rfl⟩;cases hb:im v tt
   ·have HA:Hid (dJ v l=false):=by unfold Hid;rw [HE.out,HD.out,hb];rfl
    clear hb;go_wp2;simp only [Exit.jump];go_ret;exact ⟨by rw [HA.out];rfl,rfl⟩
   ·have HA:Hid (dJ v l=dJ v (l.drop (k+1))):=by unfold Hid;rw [HE.out,HD.out,hb];rfl
    clear hb;go_wp2;go_step3;refine ⟨rfl,⟨rfl,k+1,Ha,HA,_,_,_,_,_,_,_,_,_,_,_,_,_,_,rfl⟩,?_⟩;simp [intOf];omega
structure SV (w0 W:World) (P:Nat->Prop) (q:Nat) (m:DM) (hp rb:Nat) (v:VM):Prop where
 ds:DS w0 W P q m
 at_:aM W q hp rb v
 ph:P hp
 pr:P rb
 lh:w0.heap.size<=hp
 lr:w0.heap.size<=rb
 ne:hp≠rb
def n8 (P:Nat->Prop) (hp rb:Nat):Nat->Prop:=fun k=>P k/\k≠hp/\k≠rb
theorem DS.own {w0 W W':World} {P G:Nat->Prop} {q:Nat} {m:DM} (h:DS w0 W P q m) (ht:aD G W W') (hG:∀ k,G k->P k/\w0.heap.size<=k):DS w0 W' P q m:=by
 obtain ⟨F,h1,h2,h3⟩:=h.dev;obtain ⟨O,L,g1,g2,g3⟩:=h1;exact ⟨⟨F,pe.touch ⟨O,L,g1,g2,g3⟩ ht (fun k hf hg=>h3 k (hG k hg).1 hf),h2,h3⟩,fun k hk=>Nat.lt_of_lt_of_le (h.low k hk) ht.size,h.bel.trans (ht.below h.bel.size fun k hk=>(hG k hk).2)⟩
section
variable {w0 W W':World} {P:Nat->Prop} {q:Nat} {m m':DM} {hp rb:Nat} {v v':VM}
theorem SV.step (h:SV w0 W P q m hp rb v) (hd:DS w0 W' P q m') (hs:bv P W W'):SV w0 W' P q m' hp rb v :=
 { h with ds:=hd,at_:=h.at_.keep (hs.blk _ h.ph) (hs.blk _ h.pr) }
theorem SV.own (h:SV w0 W P q m hp rb v) (ht:aD (fun k=>k=hp\/k=rb) W W') (hv:aM W' q hp rb v'):SV w0 W' P q m hp rb v'/\bv (n8 P hp rb) W W' :=
 ⟨{ h with ds:=h.ds.own ht (fun k hk=>by rcases hk with rfl | rfl;exact ⟨h.ph,h.lh⟩;exact ⟨h.pr,h.lr⟩),at_:=hv },
   ⟨fun k hk=>ht.block k (h.ds.low k hk.1) (fun hg=>by rcases hg with rfl | rfl;exact hk.2.1 rfl;exact hk.2.2 rfl),ht.size⟩⟩
theorem SV.below (h:SV w0 W P q m hp rb v) (hb:Below W.heap.size W W'):SV w0 W' P q m hp rb v :=
 h.step (h.ds.below hb fun k hk=>Or.inl hk) (h.ds.same hb)
theorem SV.same (h:SV w0 W P q m hp rb v) (hb:Below W.heap.size W W'):bv P W W':=h.ds.same hb
theorem SV.grow (h:SV w0 W P q m hp rb v) (hb:Below W.heap.size W W') {Q:Nat->Prop} (hQ:∀ k,Q k->W.heap.size<=k/\k<W'.heap.size):SV w0 W' (fun k=>P k\/Q k) q m hp rb v :=
 { h with ds:=h.ds.below hb (fun k hk=>hk.imp id (hQ k)),at_:=h.at_.below hb,ph:=Or.inl h.ph,pr:=Or.inl h.pr }
theorem SV.mono (h:SV w0 W P q m hp rb v) {P':Nat->Prop} (hP:∀ k,P' k->P k) (h1:P' hp) (h2:P' rb):SV w0 W P' q m hp rb v :=
 { h with ds:=h.ds.mono hP,ph:=h1,pr:=h2 }
theorem bv.rst {P:Nat->Prop} (h:bv P W W'):bv (n8 P hp rb) W W':=h.mono fun k hk=>hk.1
end
theorem aM.setH {W:World} {q hp rb:Nat} {v:VM} (h:aM W q hp rb v) (hne:hp≠rb) {i:Nat} {x y:HB} (hi:v.B[i]?=some x) (hy:y.Ok):aM (W.setCells rb (i*58) (hbL y)) q hp rb { v with B:=v.B.set i y }:=by
 have hx:=h.ok x (List.mem_of_getElem? hi);have hl:(rowL hbL v.B).length=v.n*58:=by rw [dE h.ok.fits,h.len]
 have hlt:=(List.getElem?_eq_some_iff.1 hi).1;have hmul:(i+1)*58<=v.n*58:=Nat.mul_le_mul_right _ (by rw [<- h.len];exact hlt);refine { h with len:=by rw [List.length_set];exact h.len,ok:=h.ok.set hy,hd:=?_,row:=?_ }
 ·rw [dr hne];exact h.hd
 ·rw [cD (hbL y) (i*58) _ W h.row (by rw [List.size_toArray,hl,gF hy.len];omega)];have:=ik (k:=i) (x:=x) (y:=y) (j:=0) (cs:=hbL y) h.ok.fits hi (by rw [gF hy.len];omega) (by rw [ka _ _ (by rw [gF hx.len,gF hy.len])]);rw [Nat.add_zero] at this;rw [List.toList_toArray,this]
theorem SV.setH {w0 W:World} {P:Nat->Prop} {q:Nat} {m:DM} {hp rb:Nat} {v:VM} (h:SV w0 W P q m hp rb v) {i:Nat} {x y:HB} (hi:v.B[i]?=some x) (hy:y.Ok) :
 SV w0 (W.setCells rb (i*58) (hbL y)) P q m hp rb { v with B:=v.B.set i y }/\bv (n8 P hp rb) W (W.setCells rb (i*58) (hbL y)) :=
 h.own ((aD.refl _ _).setCells (F:=fun k=>k=hp\/k=rb) (Or.inr rfl) _ _) (h.at_.setH h.ne hi hy)
def o6 (W:World) (R:Nat->Prop) (A:Option Addr) (l:List Wr):Prop:=∀ i x,l[i]?=some x->∃ a,A=some a/\mh W (a.add (i*58)) x/\R a.block
theorem o6.wrs {W:World} {R:Nat->Prop} {A:Option Addr} {l:List Wr} (h:o6 W R A l):EZ W A l:=fun i x hi=>let ⟨a,e,h1,_⟩:=h i x hi;⟨a,e,h1⟩
theorem o6.same {W W':World} {R:Nat->Prop} {A:Option Addr} {l:List Wr} (h:o6 W R A l) (hs:bv R W W'):o6 W' R A l:=fun i x hi=>by
 obtain ⟨a,e,h1,h2⟩:=h i x hi;refine ⟨a,e,fun j v hj=>?_,h2⟩;have h3:=h1 j v hj;rw [World.cell?_of_block (hs.blk _ (by rw [dP,dP];exact h2))];exact h3
theorem o6.mono {W:World} {R R':Nat->Prop} {A:Option Addr} {l:List Wr} (h:o6 W R A l) (hR:∀ k,R k->R' k):o6 W R' A l:=fun i x hi=>let ⟨a,e,h1,h2⟩:=h i x hi;⟨a,e,h1,hR _ h2⟩
def cN (B:List HB):List Wr->List HB
 | []=>B
 | x :: l=>cN (if 0<=x.t/\x.t<B.length then B.set x.t.toNat ⟨x.k,x.bs,true⟩ else B) l
theorem kI (B:List HB):∀ l m,cN B (l++m)=cN (cN B l) m:=by
 intro l
 induction l generalizing B with
 | nil=>intro m;rfl
 | cons x l ih=>intro m;exact ih _ m
theorem io:∀ (l:List Wr) (B:List HB),(cN B l).length=B.length
 | [],_=>rfl
 | x :: l,B=>by
   show (cN _ l).length=_;rw [io l];split
   ·simp
   ·rfl
def m9 (l:List Wr):Prop:=∀ x∈l,0<=x.k/\x.k<=7
theorem ub:∀ {l:List Wr} {B:List HB},bS l->m9 l->lU B->lU (cN B l)
 | [],_,_,_,h=>h
 | x :: l,B,hw,hk,h=>by
   refine ub (l:=l) (fun y hy=>hw y (by simp [hy])) (fun y hy=>hk y (by simp [hy])) ?_;have hx:=hw x Hb;split
   ·exact h.set ⟨hk x Hb,hx.len,hx.b⟩
   ·exact h
theorem C8:(Tryz.prog.info? 113).map (fun i=>(i.zero,i.size,i.bytes))=some (some (.agg (hbL ⟨0,ay,false⟩).toArray),58,72):=Hc
theorem G9:(Tryz.prog.info? 113).map (·.size)=some 58:=Hc
theorem Fc (k:Int) (bs:List Int) (b:Bool) (hb:bs.length=56):Tryz.prog.built 113 [(0,.agg (ab k bs)),(1,.bool b)]=some (hbL ⟨k,bs,b⟩).toArray:=by
 have hS:Tryz.prog.underlying 113=some (.struct (Tryz.prog.fieldsOf 113)):=Hc;obtain ⟨i0,hi,hz0,hz1,hz2⟩:=info_parts C8;have hpl:(Tryz.prog.fieldsOf 113).toList.mapM (fun f=>(Tryz.prog.info? f.type).map fun i=>(f.offset,i.size))=some [(0,57),(57,1)]:=Hc;have hzl:(hbL ⟨0,ay,false⟩).length=58:=gF al;have hl:(blkL k bs).length=57:=aZ hb;have hs1:splice (hbL ⟨0,ay,false⟩) 0 (blkL k bs)=blkL k bs++[.bool false]:=by
  unfold splice hbL;rw [hl,List.drop_append,List.drop_of_length_le (by rw [aZ al];omega),aZ al];simp
 have hs2:splice (blkL k bs++[Value.bool false]) 57 [.bool b]=hbL ⟨k,bs,b⟩:=by
  unfold splice hbL;rw [List.take_append,hl,List.take_of_length_le Ha,List.drop_of_length_le (by simp [hl])];simp
 unfold Program.built;rw [hi,hS];dsimp only;rw [hz0,hpl];dsimp only;rw [ge (off:=0) (size:=57) rfl (by show (ab k bs).size=57;exact aN hb) (by show 0+57<=(hbL ⟨0,ay,false⟩).toArray.size;rw [List.size_toArray,hzl];decide)];rw [ge (off:=57) (size:=1) rfl rfl (by
  simp only [List.size_toArray];show 57+1<=(splice (hbL ⟨0,ay,false⟩).toArray.toList 0 (ab k bs).toList).length;rw [bp,List.toList_toArray,hs1];simp [hl])]
 unfold Instr.fill
 congr 1
 show (splice (splice (hbL ⟨0,ay,false⟩).toArray.toList 0 (ab k bs).toList).toArray.toList 57 [Value.bool b]).toArray=_;rw [bp,List.toList_toArray,hs1,hs2]
def Jz (hp rb n g5 t:Nat) (k:Int) (bs:List Int) (i:Nat) (v:Value) (w:World):Prop :=
 match i with
 | 0 | 1=>v=.pointer (some ⟨hp,0,none⟩)
 | 2=>v=.pointer (some ⟨hp,8,none⟩)
 | 3=>v=.slice (some ⟨rb,0,none⟩) n n
 | 4=>v=.pointer (some ⟨g5,0,none⟩)
 | 5=>v=.int .i64 (t:Int)
 | 6=>v=.pointer (some ⟨g5,1,none⟩)
 | 7=>v=.agg (ab k bs)
 | 8=>v=.agg (hbL ⟨k,bs,true⟩).toArray
 | 9=>v=.pointer (some ⟨rb,t*58,none⟩)
 | _=>True
theorem vP {w0 W:World} {P:Nat->Prop} {q:Nat} {m:DM} {hp rb:Nat} {v:VM} (h:SV w0 W P q m hp rb v) (A:Option Addr) (l:List Wr) (n d:Nat) (hn:l.length=n) (hl:n<=d) (hd:d<=9223372036854775807) (hok:bS l) (hk:m9 l) (hy:o6 W (n8 P hp rb) A l) :
 Calls Tryz.prog 107 #[.pointer (some ⟨hp,0,none⟩),.slice A n d] W fun e w'=>e=.returned (.tuple #[])/\SV w0 w' P q m hp rb { v with B:=cN v.B l }/\bv (n8 P hp rb) W w':=by
 have HV:=He h;have HN:=He hn;have HO:=He hok;have HK:=He hk;have HY:=He hy;clear h hn hok hy hk;go_enter Tryz.func107,Tryz.ntmps107;go_wp2
 go_loopw [8] (fun i wr=>∃ k:Nat,i=.int .i64 k/\k<=n/\Hid (SV w0 wr P q m hp rb { v with B:=cN v.B (l.take k) })/\Hid (bv (n8 P hp rb) W wr)) (fun i _=>n-(intOf i).toNat)
 case atStart=>exact ⟨0,rfl,Ha,HV.out,bv.refl _ _⟩
 case round =>
  obtain ⟨kk,rfl,hk,HSV,HSM⟩:=hrel;obtain ⟨w5,rfl⟩:∃ w5,w5=wr:=⟨wr,rfl⟩
  by_cases hlt:kk<n
  ·obtain ⟨x,hx⟩:∃ x,l[kk]?=some x:=⟨_,List.getElem?_eq_getElem (by rw [HN.out];exact hlt)⟩
   obtain ⟨ad,rfl,hat,hR⟩:=(HY.out.same HSM.out) kk x hx;have HAT:=He hat;have hxo:=HO.out x (List.mem_of_getElem? hx);have HXO:=He hxo;have H56:=He hxo.len;have HXK:=He (HK.out x (List.mem_of_getElem? hx));have HTK:Hid (l.take (kk+1)=l.take kk++[x]):=au hx;have hki:(kk:Int)<n:=Ha;clear hat hxo hx hR;obtain ⟨v5,hv5⟩:∃ v5:VM,v5={ v with B:=cN v.B (l.take kk) }:=⟨_,rfl⟩
   rw [<- hv5] at HSV;have HV5:=He hv5;clear hv5;go_upto_region 3 with (first
    | (refine g0 rfl (.tmp 10) rfl (ad.add (kk*58)) rfl x H56.out HAT.out ?_)
    | (refine cW rfl rfl ?_)
    | (refine cX rfl (.tmp 5) (.tmp 11) rfl w5.heap.size rfl x zW rfl H56.out iA (heap_alloc_new w5 _) ?_))
   have hnew:=n4 w5 x;have hbn:=fG w5 x;have hs2:=HSV.out.below hbn;have HS2:=He hs2;have HSM2:Hid (bv (n8 P hp rb) W ((w5.alloc (.cells (cI zW) 52)).setRow w5.heap.size (cI x))):=HSM.out.trans (bv.rst (HSV.out.same hbn));clear hs2 hbn;generalize (w5.alloc (.cells (cI zW) 52)).setRow w5.heap.size (cI x)=W2 at *;generalize w5.heap.size=g5 at *;have c0:W2.cell? ⟨g5,0,none⟩=_:=(gC hnew).c0;have HH:=He (qi HS2.out.at_ x.t HXO.out.t);have HNW:=He hnew;clear hnew HAT;go_wp2_with fail
   refine HH.out.mono ?_;rintro e w' ⟨rfl,rfl⟩;by_cases hh:im v5 x.t=true
   ·obtain ⟨t,ht⟩:∃ t:Nat,x.t=(t:Int):=⟨x.t.toNat,by unfold im at hh;simp at hh;omega⟩
    have hin:t<v5.n:=by unfold im at hh;rw [ht] at hh;simp at hh;omega
    obtain ⟨y,hy⟩:∃ y,v5.B[t]?=some y:=⟨_,List.getElem?_eq_getElem (by rw [HS2.out.at_.len];exact hin)⟩
    have HYB:=He hy;rw [hh];have HT:=He ht;have hn2:=HS2.out.at_.n;have HN2:Hid (v5.n<=200):=hn2;have hti:(t:Int)<v5.n:=Ha;rw [ht] at c0;clear hh hy hn2 HH;obtain ⟨nn,hnn⟩:∃ nn,nn=v5.n:=⟨_,rfl⟩
    have HC8:Hid (∀ W',Below W2.heap.size W2 W'->W'.cell? ⟨hp,8,none⟩=some (.slice (some ⟨rb,0,none⟩) nn nn)):=fun W' hb=>by rw [hnn];exact (HS2.out.at_.below hb).c8
    have HC0:Hid (∀ W',Below W2.heap.size W2 W'->W'.cell? ⟨g5,0,none⟩=some (.int .i64 t)):=fun W' hb=>cF hb c0;have HRB:Hid (∀ W',Below W2.heap.size W2 W'->W'.rangeAt g5 1 (blkL x.k x.bs)):=fun W' hb j u hj=>by
     have hw:=gC (kb hb HNW.out);have:=hw (1+j) u (by
      show (Value.int .i64 x.t :: blkL x.k x.bs)[1+j]?=some u;rw [Nat.add_comm 1 j,List.getElem?_cons_succ];exact hj)
     rw [fP] at this;exact this
    have HTH:Hid (∀ W',Below W2.heap.size W2 W'->W'.there rb (t*58) 58):=fun W' hb=>(HS2.out.at_.below hb).there (i:=t) (o:=0) (c:=58) hin Ha;have hti':(t:Int)<nn:=by rw [hnn];exact hti
    have HNN:=He hnn;have hnn2:nn<=200:=by rw [hnn];exact HN2.out
    clear hnn c0 hin hti;go_upto_region 4 with fail
    refine aw (Jz hp rb nn g5 t x.k x.bs) (fun _ W=>Below W2.heap.size W2 W) (fun _ w w'=>Below w.heap.size w w') Hc Hc (fun i j v w w' _ _ h hs=>by unfold Jz at *;exact h) ((Below.refl _ _).drew) ?_;simp only [bW];refine ⟨?_,?_,?_,?_,?_,?_,?_,?_,?_,?_,?_⟩
    ·refine aa.of rfl fun T W L hag hL hJ hLs hd=>?_;have e0:=Hf hag 0;exact Hh
    ·refine aa.of rfl fun T W L hag hL hJ hLs hd=>?_;have d16:T.getD 16 undef=_:=Hg hd 0 rfl;exact Hh
    ·refine aa.of rfl fun T W L hag hL hJ hLs hd=>?_;have d17:T.getD 17 undef=_:=Hg hd 1 rfl;exact Hh
    ·refine aa.of rfl fun T W L hag hL hJ hLs hd=>?_;have d18:T.getD 18 undef=_:=Hg hd 2 rfl;have z8:=HC8.out W hJ;have y0:=HC0.out W hJ;exact Hh
    ·refine aa.of rfl fun T W L hag hL hJ hLs hd=>?_;have e5:=Hf hag 5;exact Hh
    ·refine aa.of rfl fun T W L hag hL hJ hLs hd=>?_;have d20:T.getD 20 undef=_:=Hg hd 4 rfl;have z8:=HC8.out W hJ;have y0:=HC0.out W hJ;exact Hh
    ·refine aa.of rfl fun T W L hag hL hJ hLs hd=>?_;have e5:=Hf hag 5;exact Hh
    ·refine aa.of rfl fun T W L hag hL hJ hLs hd=>?_;have d22:T.getD 22 undef=_:=Hg hd 6 rfl;clear hag;refine wp_load_mid 37 (.tmp 22) rfl g5 1 d22 (blkL x.k x.bs) _ (HRB.out W hJ) Tryz.underlying37 rfl (by rw [aZ H56.out];exact cO) ?_;exact ⟨_,rfl,rfl,hJ,ag _⟩
    ·refine aa.of rfl fun T W L hag hL hJ hLs hd=>?_;have d23:T.getD 23 undef=_:=Hg hd 7 rfl;have ev23:(⟨T,[]⟩:Act).eval (.tmp 23)=.agg (ab x.k x.bs):=d23;clear hag hd;have hb:=run_build (P:=Tryz.prog) W 113 #[(0,.agg (ab x.k x.bs)),(1,.bool true)] _ (Fc x.k x.bs true H56.out);refine ju (v:=.agg (hbL ⟨x.k,x.bs,true⟩).toArray) (w':=W) ?_ ⟨_,rfl,rfl,hJ,ag _⟩;unfold execOp;have evc:(⟨T,[]⟩:Act).eval (.const (.bool true))=.bool true:=rfl;simp only [List.map_toArray,List.map_cons,List.map_nil,ev23,evc,Sem.run_bind,hb,Result.andThen_ok,Sem.run_pure]
    ·refine aa.of rfl fun T W L hag hL hJ hLs hd=>?_;have d19:T.getD 19 undef=_:=Hg hd 3 rfl;have d21:T.getD 21 undef=_:=Hg hd 5 rfl;exact Hh
    ·refine bg.of rfl fun T W L hag hLs hL hJ hd=>?_;have d25:T.getD 25 undef=_:=hd 9 _ Hb rfl;have d24:T.getD 24 undef=_:=hd 8 _ Hb rfl;obtain ⟨f,hf,hT⟩:=aH hag;have d16:T.getD 16 undef=_:=hd 0 _ Hb rfl;have h16:=(hf 16).trans d16;have d17:T.getD 17 undef=_:=hd 1 _ Hb rfl;have h17:=(hf 17).trans d17;have d18:T.getD 18 undef=_:=hd 2 _ Hb rfl;have h18:=(hf 18).trans d18;have d19:T.getD 19 undef=_:=hd 3 _ Hb rfl;have h19:=(hf 19).trans d19;have d20:T.getD 20 undef=_:=hd 4 _ Hb rfl;have h20:=(hf 20).trans d20;have d21:T.getD 21 undef=_:=hd 5 _ Hb rfl;have h21:=(hf 21).trans d21;have d22:T.getD 22 undef=_:=hd 6 _ Hb rfl;have h22:=(hf 22).trans d22;have d23:T.getD 23 undef=_:=hd 7 _ Hb rfl;have h23:=(hf 23).trans d23;have h24:=(hf 24).trans d24;have h25:=(hf 25).trans d25;have HJ:=He hJ;clear hag hd d16 d17 d18 d19 d20 d21 d22 d23 d24 d25 hJ hf;rw [hT];clear hT;simp only [List.pop_toArray,List.dropLast_cons_cons,List.dropLast_singleton,List.filterMap_cons,List.filterMap_nil,List.foldl_cons,List.foldl_nil,List.setIfInBounds_toArray,List.set_cons_succ,List.set_cons_zero,h16,h17,h18,h19,h20,h21,h22,h23,h24,h25];have hth:=HTH.out W HJ.out;refine wp_store_mid 113 (.tmp 25) (.tmp 24) rfl rb (t*58) _ rfl rfl (by rw [List.size_toArray,gF H56.out];exact hth) (by rw [List.size_toArray,gF H56.out];exact G9) (all_oneCell_toArray (Fb _)) ?_;rw [List.toList_toArray];have hst:=(HS2.out.below HJ.out).setH (y:=⟨x.k,x.bs,true⟩) HYB.out ⟨HXK.out,H56.out,HXO.out.b⟩;have hsm:=(HSM2.out.trans (bv.rst (HS2.out.same HJ.out))).trans hst.2;have key:({ v5 with B:=v5.B.set t ⟨x.k,x.bs,true⟩ }:VM)={ v with B:=cN v.B (l.take (kk+1)) }:=by
      have hl5:=HS2.out.at_.len;have hin5:=(List.getElem?_eq_some_iff.1 HYB.out).1;rw [HTK.out,kI];have hB:cN v.B (l.take kk)=v5.B:=by rw [HV5.out]
      rw [hB];show _=({ v with B:=(if 0<=x.t/\x.t<v5.B.length then v5.B.set x.t.toNat ⟨x.k,x.bs,true⟩ else v5.B) }:VM)
      rw [HT.out,if_pos ⟨Ha,Ha⟩,Int.toNat_natCast,HV5.out]
     rw [key] at hst;have HST:=He hst.1;have HSM3:=He hsm;clear hst hsm key hth HJ;generalize W.setCells rb (t*58) (hbL ⟨x.k,x.bs,true⟩)=W3 at *;simp only [Act.put];go_wp2
     go_roundw
     case rel=>exact ⟨kk+1,by go_num,Ha,HST.out,HSM3.out⟩
     case measure=>simp [intOf];omega
   ·have h2:im v5 x.t=false:=by simpa using hh
    rw [h2];have key:v5={ v with B:=cN v.B (l.take (kk+1)) }:=by
     have hl5:=HS2.out.at_.len;rw [HTK.out,kI];have hB:cN v.B (l.take kk)=v5.B:=by rw [HV5.out]
     rw [hB];show _=({ v with B:=(if 0<=x.t/\x.t<v5.B.length then v5.B.set x.t.toNat ⟨x.k,x.bs,true⟩ else v5.B) }:VM)
     rw [if_neg (fun h=>by unfold im at h2;simp at h2;have:=h2 h.1;omega),HV5.out]
    have HST:Hid (SV w0 W2 P q m hp rb { v with B:=cN v.B (l.take (kk+1)) }):=by rw [<- key];exact HS2.out
    clear key h2 hh HS2 HH;go_wp2
    go_roundw
    case rel=>exact ⟨kk+1,by go_num,Ha,HST.out,HSM2.out⟩
    case measure=>simp [intOf];omega
  ·obtain rfl:kk=n:=Ha;have hki:¬ ((kk:Int)<kk):=Ha;have hsv:=HSV.out;rw [List.take_of_length_le (by rw [HN.out];exact Nat.le_refl _)] at hsv;have HF:=He hsv;clear hsv;go_wp2
   go_end0
   exact ⟨rfl,HF.out,HSM.out⟩
def oN (d:Option Addr) (r:Int) (n g:Nat) (f:Int):List Value:=[.pointer d,.int .i64 r,.int .u8 0,.int .i64 0,.int .i64 0,.int .i64 n,.int .i64 g,.int .i64 f]
theorem aM.rangeG {W:World} {q hp rb:Nat} {v:VM} (h:aM W q hp rb v):W.rangeAt hp 0 (oN (some ⟨q,0,none⟩) v.r v.n v.g v.fr):=fun j u hj=>by
 rw [Nat.zero_add,af h.hd];unfold oN at hj;unfold rP;rw [List.getElem?_toArray]
 match j,hj with
 | 0,hj | 1,hj | 2,hj | 3,hj | 4,hj | 5,hj | 6,hj | 7,hj=>exact hj
 | j+8,hj=>rw [List.getElem?_eq_none Hb] at hj;cases hj
theorem aM.cs {W:World} {q hp rb:Nat} {v:VM} (h:aM W q hp rb v):W.cell? ⟨hp,0,none⟩=some (.pointer (some ⟨q,0,none⟩))/\W.cell? ⟨hp,1,none⟩=some (.int .i64 v.r)/\W.cell? ⟨hp,2,none⟩=some (.int .u8 0)/\W.cell? ⟨hp,3,none⟩=some (.int .i64 0)/\W.cell? ⟨hp,4,none⟩=some (.int .i64 0)/\W.cell? ⟨hp,5,none⟩=some (.int .i64 v.n)/\W.cell? ⟨hp,6,none⟩=some (.int .i64 v.g)/\W.cell? ⟨hp,7,none⟩=some (.int .i64 v.fr)/\W.cell? ⟨hp,8,none⟩=some (.slice (some ⟨rb,0,none⟩) v.n v.n)/\W.cell? ⟨hp,9,none⟩=some (.int .u32 v.ep)/\W.cell? ⟨hp,10,none⟩=some (.int .u32 v.sq)/\W.cell? ⟨hp,11,none⟩=some (.int .i64 v.us) :=
 ⟨h.c0,h.c1,h.c2,h.c3,h.c4,h.c5,h.c6,h.c7,h.c8,h.c9,h.c10,h.c11⟩
theorem aM.setHd {W:World} {q hp rb:Nat} {v v':VM} (h:aM W q hp rb v) (hne:hp≠rb) {i:Nat} {u:Value} (hC:(rP q rb v).setIfInBounds i u=rP q rb v') (hB:v'.B=v.B) (hok:v'.Ok):aM (W.setCell ⟨hp,i,none⟩ u) q hp rb v' :=
 { hok with
   hd:=by rw [ah h.hd,hC]
   row:=by rw [Below.heap_setCell W ⟨hp,i,none⟩ u rb (fun e=>hne e.symm),hB];exact h.row }
theorem SV.setHd {w0 W:World} {P:Nat->Prop} {q:Nat} {m:DM} {hp rb:Nat} {v v':VM} (h:SV w0 W P q m hp rb v) {i:Nat} {u:Value} (hC:(rP q rb v).setIfInBounds i u=rP q rb v') (hB:v'.B=v.B) (hok:v'.Ok) :
 SV w0 (W.setCell ⟨hp,i,none⟩ u) P q m hp rb v'/\bv (n8 P hp rb) W (W.setCell ⟨hp,i,none⟩ u) :=
 h.own ((aD.refl _ _).setCell (F:=fun k=>k=hp\/k=rb) (Or.inl rfl) u) (h.at_.setHd h.ne hC hB hok)
def je (r:Int):DM->Nat->List (List Int)->DM
 | m,_,[]=>m
 | m,o,b :: l=>je r (m.doWrite r ((2+o:Nat):Int) b) (o+1) l
theorem sG (r:Int):∀ (l:List (List Int)) (m:DM) (o:Nat) (b:List Int),je r m o (l++[b])=(je r m o l).doWrite r ((2+(o+l.length):Nat):Int) b
 | [],m,o,b=>rfl
 | c :: l,m,o,b=>by
   show je r _ (o+1) (l++[b])=_;rw [sG r l _ (o+1) b,List.length_cons,show o+1+l.length=o+(l.length+1) by omega];rfl
theorem n9 (r:Int):∀ (l:List (List Int)) (m:DM) (o:Nat),(je r m o l).done.length<=m.done.length+l.length
 | [],m,o=>by simp [je]
 | c :: l,m,o=>by
   have h1:=n9 r l (m.doWrite r ((2+o:Nat):Int) c) (o+1);have h2:=fD m r ((2+o:Nat):Int) c;show (je r _ _ l).done.length<=_;rw [List.length_cons];omega
def xA (W:World) (R:Nat->Prop) (A:Option Addr) (ls:List (List Int)):Prop:=∀ i b,ls[i]?=some b->∃ a B d,A=some a/\R a.block/\W.cell? (a.add i)=some (.slice B b.length d)/\b.length<=d/\d<=9223372036854775807/\∀ j x,b[j]?=some x->∃ c,B=some c/\R c.block/\W.cell? (c.add j)=some (.int .u8 x)
theorem xA.same {W W':World} {R:Nat->Prop} {A:Option Addr} {ls:List (List Int)} (h:xA W R A ls) (hs:bv R W W'):xA W' R A ls:=fun i b hi=>by
 obtain ⟨a,B,d,e,h1,h2,h3,h4,h5⟩:=h i b hi;refine ⟨a,B,d,e,h1,?_,h3,h4,fun j x hj=>?_⟩
 ·rw [World.cell?_of_block (hs.blk _ (by rw [dP];exact h1))];exact h2
 ·obtain ⟨c,e2,h6,h7⟩:=h5 j x hj;exact ⟨c,e2,h6,by rw [World.cell?_of_block (hs.blk _ (by rw [dP];exact h6))];exact h7⟩
theorem bZ.txR {W:World} {base:Nat} {v:Value} {ls:List (List Int)} (h:bZ W base v ls):∃ A d,v=.slice A ls.length d/\ls.length<=d/\d<=9223372036854775807/\xA W (fun k=>base<=k/\k<W.heap.size) A ls:=by
 obtain ⟨xs,h1,h2⟩:=h;have key:∀ (i:Nat) (b:List Int),ls[i]?=some b->∃ B d,xs[i]?=some (Value.slice B b.length d)/\b.length<=d/\d<=9223372036854775807/\∀ (j:Nat) (x:Int),b[j]?=some x->∃ c:Addr,B=some c/\(base<=c.block/\c.block<W.heap.size)/\W.cell? (c.add j)=some (.int .u8 x):=fun i b hi=>by
  obtain ⟨u,e,h3⟩:=h2 i b hi;obtain ⟨B,d,rfl,h4,h5,h6⟩:=bN h3 rfl;refine ⟨B,d,e,h4,h5,fun j x hj=>?_⟩;obtain ⟨c,rfl,h7⟩:=h6 j x hj;have h8:=World.block_lt_of_cell? W _ h7;rw [dP] at h8;rcases h3.2 with ⟨h9,_⟩ | ⟨g,cap,cur,h9,hb,_⟩
  ·cases h9
  ·injection h9 with h9;injection h9 with h9;subst h9
   exact ⟨_,rfl,⟨hb,h8⟩,h7⟩
 rcases h1.2 with ⟨rfl,h0⟩ | ⟨g,cap,cur,rfl,hb,hg,hn',hm,hs,ht⟩
 ·refine ⟨none,0,by rw [h0],Ha,Ha,fun i b hi=>?_⟩;rw [List.length_eq_zero_iff.1 h0] at hi;cases hi
 ·refine ⟨some ⟨g,0,none⟩,cap,rfl,hn',by simp only [maxLen] at hm;omega,fun i b hi=>?_⟩;obtain ⟨B,d,e,h4,h5,h6⟩:=key i b hi;exact ⟨_,B,d,rfl,⟨hb,ai hg⟩,h1.cells (g:=g) rfl _ _ e,h4,h5,h6⟩
def JA (q hp n g us k y z:Nat) (r fr:Int) (B:Option Addr) (c:Nat) (i:Nat) (v:Value) (w:World):Prop :=
 match i with
 | 0 | 1 | 2 | 4 | 5 | 6 | 9 | 10=>v=.pointer (some ⟨hp,0,none⟩)
 | 3=>v=.agg (bH (some ⟨q,0,none⟩) r n g fr)
 | 7=>v=.pointer (some ⟨hp,3,none⟩)
 | 8=>v=pi 0 0 n g fr
 | 11=>v=.pointer (some ⟨hp,11,none⟩)
 | 12=>v=.int .i64 us
 | 13=>v=.int .i64 (k:Int)
 | 14=>v=.int .i64 (z:Int)
 | 15=>v=.int .i64 (y:Int)
 | 16=>v=.slice B 64 c
 | _=>True
theorem C9 {w0 W:World} {P:Nat->Prop} {q:Nat} {m:DM} {hp rb:Nat} {v:VM} (h:SV w0 W P q m hp rb v) (A:Option Addr) (ls:List (List Int)) (n d:Nat) (hn:ls.length=n) (hl:n<=d) (hd:d<=9223372036854775807) (hok:∀ b∈ls,cG b) (hy:xA W (n8 P hp rb) A ls)
 (hg:v.us+n<=v.g) (hsq:v.sq+1<4294967296) (hmax:m.done.length+n<=1000000) :
 Calls Tryz.prog 106 #[.pointer (some ⟨hp,0,none⟩),.slice A n d] W fun e w'=>e=.returned (.tuple #[])/\SV w0 w' P q (je v.r m v.us ls) hp rb { v with us:=v.us+n,sq:=v.sq+1 }/\bv (n8 P hp rb) W w':=by
 have HV:=He h;have HN:=He hn;have HO:=He hok;have HY:=He hy;have HMX:=He hmax;have HGG:=h.at_.g;clear h hn hok hy hmax;go_enter Tryz.func106,Tryz.ntmps106;go_wp2
 go_loopw [8] (fun i wr=>∃ k:Nat,i=.int .i64 k/\k<=n/\Hid (SV w0 wr P q (je v.r m v.us (ls.take k)) hp rb v)/\Hid (bv P W wr)) (fun i _=>n-(intOf i).toNat)
 case atStart=>exact ⟨0,rfl,Ha,HV.out,bv.refl _ _⟩
 case round =>
  obtain ⟨kk,rfl,hk,HSV,HSM⟩:=hrel;obtain ⟨w5,rfl⟩:∃ w5,w5=wr:=⟨wr,rfl⟩
  by_cases hlt:kk<n
  ·obtain ⟨b,hb⟩:∃ b,ls[kk]?=some b:=⟨_,List.getElem?_eq_getElem (by rw [HN.out];exact hlt)⟩
   have hbo:=HO.out b (List.mem_of_getElem? hb);obtain ⟨ad,B,c,rfl,hR,hc,hc1,hc2,hby⟩:=(HY.out.same HSM.out.rst) kk b hb;rw [hbo.1] at hc hc1;have HBK:=He hbo;have HBY:Hid (∀ W',Below w5.heap.size w5 W'->dD W' B b):=fun W' hb' j x hj=>by
    obtain ⟨c',e,_,h7⟩:=hby j x hj;exact ⟨c',e,cF hb' h7⟩
   have HTK:Hid (ls.take (kk+1)=ls.take kk++[b]):=au hb;have hki:(kk:Int)<n:=Ha;have HLT:Hid ((ls.take kk).length=kk):=by unfold Hid;rw [List.length_take,HN.out];omega
   have HM:Hid ((je v.r m v.us (ls.take kk)).done.length<=1000000):=by
    have h1:=n9 v.r (ls.take kk) m v.us;rw [HLT.out] at h1;have h2:=HMX.out;unfold Hid;omega
   have HS:=He (fun W=>zu 0 0 v.n v.g v.fr ((v.us+kk:Nat):Int) HGG Ha W);rw [show cV 2 v.g ((v.us+kk:Nat):Int)=((2+(v.us+kk):Nat):Int) by unfold cV;rw [if_pos Ha];omega] at HS;have HYI:Hid (i64 ((2+(v.us+kk):Nat):Int)):=by constructor <;> omega
   have wz:IntKind.i64.wrap ((v.us:Int)+kk)=((v.us+kk:Nat):Int):=by rw [IntWalk.i64_in _ Ha];omega
   have HC:=He (fun (W':World) (hb':Below w5.heap.size w5 W')=>(HSV.out.at_.below hb').cs);have HR:=He HSV.out.at_.r;have HYE:Hid (2+(v.us+kk)=2+(v.us+kk)):=rfl;clear hbo hb hby hR;generalize hyg:2+(v.us+kk)=y at HS HYI HYE;have HYG:=He hyg;clear hyg;generalize hzg:v.us+kk=z at *;have HZG:=He hzg;clear hzg;go_upto_region 3 with fail
   refine aw (JA q hp v.n v.g v.us kk y z v.r v.fr B c) (fun _ W=>Below w5.heap.size w5 W) (fun _ w w'=>Below w.heap.size w w') Hc Hc (fun i j v w w' _ _ h hs=>by unfold JA at *;exact h) ((Below.refl _ _).drew) ?_;simp only [bW];refine ⟨?_,?_,?_,?_,?_,?_,?_,?_,?_,?_,?_,?_,?_,?_,?_,?_,?_,?_⟩
   ·refine aa.of rfl fun T W L hag hL hJ hLs hd=>?_;have e0:=Hf hag 0;exact Hh
   ·refine aa.of rfl fun T W L hag hL hJ hLs hd=>?_;have d13:T.getD 13 undef=_:=Hg hd 0 rfl;exact Hh
   ·refine aa.of rfl fun T W L hag hL hJ hLs hd=>?_;have d14:T.getD 14 undef=_:=Hg hd 1 rfl;exact Hh
   ·refine aa.of rfl fun T W L hag hL hJ hLs hd=>?_;have d15:T.getD 15 undef=_:=Hg hd 2 rfl;obtain ⟨z0,z1,z2,z3,z4,z5,z6,z7,z8,z9,z10,z11⟩:=HC.out W hJ;exact Hh
   ·refine aa.of rfl fun T W L hag hL hJ hLs hd=>?_;have e0:=Hf hag 0;exact Hh
   ·refine aa.of rfl fun T W L hag hL hJ hLs hd=>?_;have d17:T.getD 17 undef=_:=Hg hd 4 rfl;exact Hh
   ·refine aa.of rfl fun T W L hag hL hJ hLs hd=>?_;have d18:T.getD 18 undef=_:=Hg hd 5 rfl;exact Hh
   ·refine aa.of rfl fun T W L hag hL hJ hLs hd=>?_;have d19:T.getD 19 undef=_:=Hg hd 6 rfl;exact Hh
   ·refine aa.of rfl fun T W L hag hL hJ hLs hd=>?_;have d20:T.getD 20 undef=_:=Hg hd 7 rfl;obtain ⟨z0,z1,z2,z3,z4,z5,z6,z7,z8,z9,z10,z11⟩:=HC.out W hJ;exact Hh
   ·refine aa.of rfl fun T W L hag hL hJ hLs hd=>?_;have e0:=Hf hag 0;exact Hh
   ·refine aa.of rfl fun T W L hag hL hJ hLs hd=>?_;have d22:T.getD 22 undef=_:=Hg hd 9 rfl;exact Hh
   ·refine aa.of rfl fun T W L hag hL hJ hLs hd=>?_;have d23:T.getD 23 undef=_:=Hg hd 10 rfl;exact Hh
   ·refine aa.of rfl fun T W L hag hL hJ hLs hd=>?_;have d24:T.getD 24 undef=_:=Hg hd 11 rfl;obtain ⟨z0,z1,z2,z3,z4,z5,z6,z7,z8,z9,z10,z11⟩:=HC.out W hJ;exact Hh
   ·refine aa.of rfl fun T W L hag hL hJ hLs hd=>?_;have e4:=Hf hag 4;exact Hh
   ·refine aa.of rfl fun T W L hag hL hJ hLs hd=>?_;have d25:T.getD 25 undef=_:=Hg hd 12 rfl;have d26:T.getD 26 undef=_:=Hg hd 13 rfl;exact Hh
   ·refine aa.of rfl fun T W L hag hL hJ hLs hd=>?_;have d21:T.getD 21 undef=_:=Hg hd 8 rfl;have d27:T.getD 27 undef=_:=Hg hd 14 rfl;clear hag hd;go_simp;refine (HS.out W).mono ?_;rintro e w' ⟨rfl,hb⟩;exact ⟨_,rfl,rfl,aP hJ hb,hb⟩
   ·refine aa.of rfl fun T W L hag hL hJ hLs hd=>?_;have e5:=Hf hag 5;exact Hh
   ·refine bg.of rfl fun T W L hag hLs hL hJ hd=>?_;have d16:T.getD 16 undef=_:=hd 3 _ Hb rfl;have d28:T.getD 28 undef=_:=hd 15 _ Hb rfl;have d29:T.getD 29 undef=_:=hd 16 _ Hb rfl;obtain ⟨f,hf,hT⟩:=aH hag;have d13:T.getD 13 undef=_:=hd 0 _ Hb rfl;have h13:=(hf 13).trans d13;have d14:T.getD 14 undef=_:=hd 1 _ Hb rfl;have h14:=(hf 14).trans d14;have d15:T.getD 15 undef=_:=hd 2 _ Hb rfl;have h15:=(hf 15).trans d15;have h16:=(hf 16).trans d16;have d17:T.getD 17 undef=_:=hd 4 _ Hb rfl;have h17:=(hf 17).trans d17;have d18:T.getD 18 undef=_:=hd 5 _ Hb rfl;have h18:=(hf 18).trans d18;have d19:T.getD 19 undef=_:=hd 6 _ Hb rfl;have h19:=(hf 19).trans d19;have d20:T.getD 20 undef=_:=hd 7 _ Hb rfl;have h20:=(hf 20).trans d20;have d21:T.getD 21 undef=_:=hd 8 _ Hb rfl;have h21:=(hf 21).trans d21;have d22:T.getD 22 undef=_:=hd 9 _ Hb rfl;have h22:=(hf 22).trans d22;have d23:T.getD 23 undef=_:=hd 10 _ Hb rfl;have h23:=(hf 23).trans d23;have d24:T.getD 24 undef=_:=hd 11 _ Hb rfl;have h24:=(hf 24).trans d24;have d25:T.getD 25 undef=_:=hd 12 _ Hb rfl;have h25:=(hf 25).trans d25;have d26:T.getD 26 undef=_:=hd 13 _ Hb rfl;have h26:=(hf 26).trans d26;have d27:T.getD 27 undef=_:=hd 14 _ Hb rfl;have h27:=(hf 27).trans d27;have h28:=(hf 28).trans d28;have h29:=(hf 29).trans d29;have HJ:=He hJ;clear hag hd d13 d14 d15 d16 d17 d18 d19 d20 d21 d22 d23 d24 d25 d26 d27 d28 d29 hJ hf;rw [hT];clear hT;simp only [List.pop_toArray,List.dropLast_cons_cons,List.dropLast_singleton,List.filterMap_cons,List.filterMap_nil,List.foldl_cons,List.foldl_nil,List.setIfInBounds_toArray,List.set_cons_succ,List.set_cons_zero,h13,h14,h15,h16,h17,h18,h19,h20,h21,h22,h23,h24,h25,h26,h27,h28,h29];have hd:=HSV.out.below HJ.out;go_simp;refine (mj hd.ds v.r HR.out v.n v.g v.fr (y:Int) HYI.out B b c HBK.out (HBY.out W HJ.out) HM.out).mono ?_;rintro e w' ⟨rfl,hd',hs⟩;have hst:=hd.step hd' hs;have HST:=He hst;have HSM3:=He ((HSM.out.trans (HSV.out.same HJ.out)).trans hs);clear hd hd' hs hst;go_wp2;have key:je v.r m v.us (ls.take (kk+1))=(je v.r m v.us (ls.take kk)).doWrite v.r (y:Int) b:=by
     rw [HTK.out,sG,HLT.out,HZG.out,HYG.out]
    have HF:Hid (SV w0 w' P q (je v.r m v.us (ls.take (kk+1))) hp rb v):=by rw [key];exact HST.out
    clear key
    go_roundw
    case rel=>exact ⟨kk+1,by go_num,Ha,HF.out,HSM3.out⟩
    case measure=>simp [intOf];omega
  ·obtain rfl:kk=n:=Ha;have hki:¬ ((kk:Int)<kk):=Ha;have hsv:=HSV.out;rw [List.take_of_length_le (by rw [HN.out];exact Nat.le_refl _)] at hsv;have h1:=hsv.setHd (i:=11) (u:=.int .i64 ((v.us+kk:Nat):Int)) (v':={ v with us:=v.us+kk }) rfl rfl { hsv.at_.toOk with us:=by show v.us+kk<=2000;omega };have h2:=h1.1.setHd (i:=10) (u:=.int .u32 ((v.sq+1:Nat):Int)) (v':={ v with us:=v.us+kk,sq:=v.sq+1 }) rfl rfl { h1.1.at_.toOk with sq:=by show v.sq+1<4294967296;omega };have HF:=He h2.1;have HFS:=He ((HSM.out.rst.trans h1.2).trans h2.2);have z11:=hsv.at_.c11;have y11:=hsv.at_.f 11;have z10:=h1.1.at_.c10;have y10:=h1.1.at_.f 10;have wz:IntKind.i64.wrap ((v.us:Int)+kk)=((v.us+kk:Nat):Int):=by rw [IntWalk.i64_in _ Ha];omega
   have wq:IntKind.u32.wrap ((v.sq:Int)+1)=((v.sq+1:Nat):Int):=by rw [IntWalk.u32_in _ Ha];omega
   have z10':(w5.setCell ⟨hp,11,none⟩ (.int .i64 ((v.us+kk:Nat):Int))).cell? ⟨hp,10,none⟩=some (.int .u32 v.sq):=z10;clear h1 h2 hsv z10;generalize hzg:v.us+kk=z at *;generalize hsg:v.sq+1=sq1 at *;have HZG:=He (And.intro hzg hsg);clear hzg hsg;go_wp2
   go_end0
   rw [HZG.out.1,HZG.out.2];exact ⟨rfl,HF.out,HFS.out⟩
end Go.Proofs.YtegjelaejbacnaaGreat
