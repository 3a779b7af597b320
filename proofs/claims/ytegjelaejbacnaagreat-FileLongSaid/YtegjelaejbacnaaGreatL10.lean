/- For FileLong: contracts and facts, part 10. -/
import Derived.Test.YtegjelaejbacnaaGreatL01
import Derived.Test.YtegjelaejbacnaaGreatL09
set_option maxRecDepth 100000
set_option maxHeartbeats 25600000
set_option linter.unusedVariables false
open Go.ChangeShapes Go.WideShapes Go.ChangeAt Go.RowKit
namespace Go.Proofs.YtegjelaejbacnaaGreat
def kr (x:HB):HB:={ x with lg:=false }
def bR (r:Int) (g:Nat):DM->Nat->List HB->DM
 | m,_,[]=>m
 | m,o,x :: l=>bR r g (if x.lg then m.doWrite r ((2+g+o:Nat):Int) (cL 0 x.k o x.bs) else m) (o+1) l
theorem mZ (r:Int) (g:Nat):∀ (l:List HB) (m:DM) (o:Nat) (x:HB),bR r g m o (l++[x])=if x.lg then (bR r g m o l).doWrite r ((2+g+(o+l.length):Nat):Int) (cL 0 x.k (o+l.length) x.bs) else bR r g m o l
 | [],m,o,x=>rfl
 | y :: l,m,o,x=>by
   show bR r g _ (o+1) (l++[x])=_;rw [mZ r g l _ (o+1) x,List.length_cons,show o+1+l.length=o+(l.length+1) by omega];rfl
theorem kK (r:Int) (g:Nat):∀ (l:List HB) (m:DM) (o:Nat),(bR r g m o l).done.length<=m.done.length+l.length
 | [],m,o=>by simp [bR]
 | x :: l,m,o=>by
   have a:=kK r g l (if x.lg then m.doWrite r ((2+g+o:Nat):Int) (cL 0 x.k o x.bs) else m) (o+1);have c:=fQ m r ((2+g+o:Nat):Int) (cL 0 x.k o x.bs);show (bR r g _ _ l).done.length<=_;rw [List.length_cons];split at a <;> rename_i b <;> simp only [b] <;> first | (simp only [if_true];omega) | (simp;omega)
theorem Bd {α:Type} {l:List α} {k:Nat} {x:α} (h:l[k]?=some x):l.set k x=l:=by
 obtain ⟨a,b⟩:=List.getElem?_eq_some_iff.1 h;rw [<- b];exact List.set_getElem_self a
def m4 (B:List HB) (k:Nat):List HB:=(B.take k).map kr++B.drop k
theorem Be {B:List HB} {k:Nat} {x:HB} (h:B[k]?=some x):(m4 B k)[k]?=some x:=by
 have a:=(List.getElem?_eq_some_iff.1 h).1;unfold m4;rw [List.getElem?_append_right (by simp;omega)];simp only [List.length_map,List.length_take,List.getElem?_drop];rw [show k+(k-min k B.length)=k by omega];exact h
theorem tR {B:List HB} {k:Nat} {x:HB} (h:B[k]?=some x):m4 B (k+1)=(m4 B k).set k (kr x):=by
 have b:=(List.getElem?_eq_some_iff.1 h).1;have a:((B.take k).map kr).length=k:=by simp;omega
 unfold m4;rw [aw h,List.map_append,List.set_append_right _ _ Ha,a,Nat.sub_self,List.drop_eq_getElem_cons b,(List.getElem?_eq_some_iff.1 h).2,List.append_assoc];rfl
theorem CI {B:List HB} {k:Nat} {x:HB} (h:B[k]?=some x) (a:x.lg=false):m4 B (k+1)=m4 B k:=by
 rw [tR h];have:kr x=x:=by unfold kr;rw [<- a]
 rw [this];exact Bd (Be h)
theorem Ey (B:List HB) {k:Nat} (h:B.length<=k):m4 B k=B.map kr:=by unfold m4;rw [List.take_of_length_le h,List.drop_of_length_le h,List.append_nil]
theorem aO.setL {W:World} {q hp rb:Nat} {v:VM} (h:aO W q hp rb v) (c:hp≠rb) {i:Nat} {x:HB} {b:Bool} (d:v.B[i]?=some x):aO (W.setCell ⟨rb,i*58+57,none⟩ (.bool b)) q hp rb { v with B:=v.B.set i { x with lg:=b } }:=by
 have a:=h.ok x (List.mem_of_getElem? d);refine { h with len:=by rw [List.length_set];exact h.len,ok:=h.ok.set ⟨a.k,a.len,a.b⟩,hd:=?_,row:=?_ }
 ·rw [Below.heap_setCell W ⟨rb,i*58+57,none⟩ _ hp c];exact h.hd
 ·rw [ai h.row]
  congr 2
  rw [List.setIfInBounds_toArray]
  congr 1
  refine nY (k:=i) (x:=x) (y:={ x with lg:=b }) (j:=57) h.ok.fits d Ha ?_;unfold hbL;rw [List.set_append_right _ _ (by rw [bf a.len];omega),bf a.len];rfl
theorem SV.setL {w0 W:World} {P:Nat->Prop} {q:Nat} {m:DM} {hp rb:Nat} {v:VM} (h:SV w0 W P q m hp rb v) {i:Nat} {x:HB} {b:Bool} (a:v.B[i]?=some x) :
 SV w0 (W.setCell ⟨rb,i*58+57,none⟩ (.bool b)) P q m hp rb { v with B:=v.B.set i { x with lg:=b } }/\bz (oW P hp rb) W (W.setCell ⟨rb,i*58+57,none⟩ (.bool b)) :=
 h.own ((aE.refl _ _).setCell (F:=fun k=>k=hp\/k=rb) (Or.inr rfl) _) (h.at_.setL h.ne a)
def fE (m:DM) (v:VM):DM:=(bR v.r v.g m 0 v.B).doBegin v.r (v.ep+1)
def gX (v:VM):VM:={ v with B:=v.B.map kr,ep:=v.ep+1,sq:=0,us:=0 }
def Lt (q hp rb n g k:Nat) (r a b:Int) (c:List Int) (i:Nat) (v:Value) (w:World):Prop :=
 match i with
 | 0 | 1 | 2=>v=.pointer (some ⟨hp,0,none⟩)
 | 3=>v=.agg (bJ (some ⟨q,0,none⟩) r n g a)
 | 4=>v=.int .i64 (k:Int)
 | 5 | 6 | 7=>v=.pointer (some ⟨rb,k*58,none⟩)
 | 8=>v=.agg (ab b c)
 | _=>True
def Lu (q hp n g e:Nat) (r a:Int) (i:Nat) (v:Value) (w:World):Prop :=
 match i with
 | 0 | 1 | 2 | 4 | 5=>v=.pointer (some ⟨hp,0,none⟩)
 | 3=>v=.agg (bJ (some ⟨q,0,none⟩) r n g a)
 | 6=>v=.pointer (some ⟨hp,9,none⟩)
 | 7=>v=.int .u32 (e:Int)
 | _=>True
theorem pM {w0 W:World} {P:Nat->Prop} {q:Nat} {m:DM} {hp rb:Nat} {v:VM} (h:SV w0 W P q m hp rb v) (U:v.ep+1<4294967296) (S:m.done.length<=999000) :
 Calls Tryz.prog 101 #[.pointer (some ⟨hp,0,none⟩)] W fun e w'=>e=.returned (.tuple #[])/\SV w0 w' P q (fE m v) hp rb (gX v)/\bz (oW P hp rb) W w':=by
 have HV:=He h;have bl:=He S;have c8:=h.at_.c8;have V:=He (And.intro h.at_.n h.at_.g);have HR:=He h.at_.r;have HL:=He h.at_.len;unfold fE gX;clear h S;have c6:=V.out.1;go_enter Tryz.func101,Tryz.ntmps101;go_wp2;clear c8
 go_loopw [9] (fun i wr=>∃ k:Nat,i=.int .i64 k/\k<=v.n/\Hid (SV w0 wr P q (bR v.r v.g m 0 (v.B.take k)) hp rb { v with B:=m4 v.B k })/\Hid (bz (oW P hp rb) W wr)) (fun i _=>v.n-(intOf i).toNat)
 case atStart=>exact ⟨0,rfl,Ha,HV.out,bz.refl _ _⟩
 case round =>
  obtain ⟨c,rfl,hk,o,X⟩:=hrel;obtain ⟨t,rfl⟩:∃ t,t=wr:=⟨wr,rfl⟩
  by_cases bn:c<v.n
  ·obtain ⟨x,hx⟩:∃ x,v.B[c]?=some x:=⟨_,List.getElem?_eq_getElem (by rw [HL.out];exact bn)⟩
   have K:Hid ((m4 v.B c)[c]?=some x):=Be hx;have M:=He (HV.out.at_.ok x (List.mem_of_getElem? hx));have bt:Hid ((v.B.take c).length=c):=by unfold Hid;rw [List.length_take,HL.out];omega
   have bx:Hid (v.B.take (c+1)=v.B.take c++[x]):=aw hx;have z8:t.cell? ⟨hp,8,none⟩=some (.slice (some ⟨rb,0,none⟩) v.n v.n):=o.out.at_.c8;have zl:t.cell? ⟨rb,c*58+57,none⟩=some (.bool x.lg):=o.out.at_.lg K.out;have ca:(c:Int)<v.n:=Ha;have HX:=He hx;clear hx;cases p:x.lg
   ·have Y:Hid (m4 v.B (c+1)=m4 v.B c):=CI HX.out p;have Z:Hid (bR v.r v.g m 0 (v.B.take (c+1))=bR v.r v.g m 0 (v.B.take c)):=by unfold Hid;rw [bx.out,mZ,p];rfl
    rw [p] at zl;clear p;go_wp2
    go_roundw
    case rel =>
     refine ⟨c+1,by go_num,Ha,?_,X.out⟩;rw [Y.out,Z.out];exact o.out
    case measure=>simp [intOf];omega
   ·have Y:Hid (m4 v.B (c+1)=(m4 v.B c).set c { x with lg:=false }):=tR HX.out;have Z:Hid (bR v.r v.g m 0 (v.B.take (c+1))=(bR v.r v.g m 0 (v.B.take c)).doWrite v.r ((2+v.g+c:Nat):Int) (cL 0 x.k c x.bs)):=by unfold Hid;rw [bx.out,mZ,p,bt.out,Nat.zero_add];rfl
    have HM:Hid ((bR v.r v.g m 0 (v.B.take c)).done.length<=1000000):=by
     have H:=kK v.r v.g (v.B.take c) m 0;have y:=bl.out;rw [bt.out] at H;unfold Hid;omega
    have HC:=He (fun (W':World) (z:Below t.heap.size t W')=>(o.out.at_.below z).cs);have cb:=He (fun (W':World) (z:Below t.heap.size t W')=>(o.out.at_.below z).rangeB K.out);rw [p] at zl;clear p;go_upto_region 5 with fail
    refine ax (Lt q hp rb v.n v.g c v.r v.fr x.k x.bs) (fun _ W=>Below t.heap.size t W) (fun _ w w'=>Below w.heap.size w w') Hc Hc (fun i j v w w' _ _ h N=>by unfold Lt at *;exact h) ((Below.refl _ _).drew) ?_;simp only [cf];refine ⟨?_,?_,?_,?_,?_,?_,?_,?_,?_,?_⟩
    ·refine aa.of rfl fun T W L hag l hJ a hd=>?_;have e0:=Hf hag 0;exact Hh
    ·refine aa.of rfl fun T W L hag l hJ a hd=>?_;have ad:T.getD 22 undef=_:=Hg hd 0 rfl;exact Hh
    ·refine aa.of rfl fun T W L hag l hJ a hd=>?_;have an:T.getD 23 undef=_:=Hg hd 1 rfl;exact Hh
    ·refine aa.of rfl fun T W L hag l hJ a hd=>?_;have a0:T.getD 24 undef=_:=Hg hd 2 rfl;obtain ⟨z0,z1,z2,z3,z4,z5,z6,z7,z8,z9,a1,a2⟩:=HC.out W hJ;exact Hh
    ·refine aa.of rfl fun T W L hag l hJ a hd=>?_;have e2:=Hf hag 2;exact Hh
    ·refine aa.of rfl fun T W L hag l hJ a hd=>?_;have e3:=Hf hag 3;exact Hh
    ·refine aa.of rfl fun T W L hag l hJ a hd=>?_;have a3:T.getD 27 undef=_:=Hg hd 5 rfl;exact Hh
    ·refine aa.of rfl fun T W L hag l hJ a hd=>?_;have a4:T.getD 28 undef=_:=Hg hd 6 rfl;exact Hh
    ·refine aa.of rfl fun T W L hag l hJ a hd=>?_;have O:T.getD 29 undef=_:=Hg hd 7 rfl;clear hag;refine wp_load_mid 37 (.tmp 29) rfl rb (c*58) O (blkL x.k x.bs) _ (cb.out W hJ) Tryz.underlying37 rfl (by rw [bf M.out.len];exact db) ?_;exact ⟨_,rfl,rfl,hJ,ag _⟩
    ·refine bm.of rfl fun T W L hag a l hJ hd=>?_;have b0:T.getD 25 undef=_:=hd 3 _ Hb rfl;have b1:T.getD 26 undef=_:=hd 4 _ Hb rfl;have b2:T.getD 30 undef=_:=hd 8 _ Hb rfl;obtain ⟨f,d,hT⟩:=aJ hag;have ad:T.getD 22 undef=_:=hd 0 _ Hb rfl;have cc:=(d 22).trans ad;have an:T.getD 23 undef=_:=hd 1 _ Hb rfl;have cg:=(d 23).trans an;have a0:T.getD 24 undef=_:=hd 2 _ Hb rfl;have ch:=(d 24).trans a0;have ci:=(d 25).trans b0;have ck:=(d 26).trans b1;have a3:T.getD 27 undef=_:=hd 5 _ Hb rfl;have cl:=(d 27).trans a3;have a4:T.getD 28 undef=_:=hd 6 _ Hb rfl;have cn:=(d 28).trans a4;have O:T.getD 29 undef=_:=hd 7 _ Hb rfl;have cp:=(d 29).trans O;have cq:=(d 30).trans b2;have HJ:=He hJ;clear hag hd ad an a0 b0 b1 a3 a4 O b2 hJ d;rw [hT];clear hT;simp only [List.pop_toArray,List.dropLast_cons_cons,List.dropLast_singleton,List.filterMap_cons,List.filterMap_nil,List.foldl_cons,List.foldl_nil,List.setIfInBounds_toArray,List.set_cons_succ,List.set_cons_zero,cc,cg,ch,ci,ck,cl,cn,cp,cq];have hd:=o.out.below HJ.out;go_simp;refine (pJ hd.ds v.r HR.out v.n v.g v.fr V.out.1 V.out.2 c bn x.k x.bs M.out.k M.out.len M.out.b HM.out).mono ?_;rintro e w' ⟨rfl,A,N⟩;have R:=hd.step A N;have C:=R.setL (b:=false) K.out;have b3:=((X.out.trans (bz.rst (o.out.same HJ.out))).trans N.rst).trans C.2;have zl:=R.at_.lg K.out;have fl:=R.at_.fr (c*58+57);have cr:=He C.1;have b4:=He b3;clear hd A N R C b3 HJ;go_wp2
     go_roundw
     case rel =>
      refine ⟨c+1,by go_num,Ha,?_,b4.out⟩;rw [Z.out,Y.out];exact cr.out
     case measure=>simp [intOf];omega
  ·obtain rfl:c=v.n:=Ha;have ca:¬ ((v.n:Int)<v.n):=Ha;have s:=o.out;rw [Ey v.B (by rw [HL.out];exact Nat.le_refl _),List.take_of_length_le (by rw [HL.out];exact Nat.le_refl _)] at s;have H:=kK v.r v.g v.B m 0;rw [HL.out] at H;have HM:Hid ((bR v.r v.g m 0 v.B).done.length<=999990):=by have:=bl.out;unfold Hid;omega
   have he:IntKind.u32.wrap ((v.ep:Int)+1)=((v.ep+1:Nat):Int):=by rw [IntWalk.u32_in _ Ha];omega
   obtain ⟨I,a5⟩:∃ I,I=v.ep+1:=⟨_,rfl⟩
   rw [<- a5] at he U;have cu:Hid (I<4294967296):=U;have y:=s.setHd (i:=9) (u:=.int .u32 (I:Int)) (v':={ v with B:=v.B.map kr,ep:=I }) rfl rfl { s.at_.toOk with ep:=U };have a6:=He y.1;have b5:=He (X.out.trans y.2);have z9:t.cell? ⟨hp,9,none⟩=some (.int .u32 v.ep):=s.at_.c9;have y9:=s.at_.f 9;have cv:=He a5;clear H y s a5;generalize b6:bR v.r v.g m 0 v.B=mm at *;have cw:=He b6;clear b6;generalize cx:t.setCell ⟨hp,9,none⟩ (.int .u32 (I:Int))=W6 at *;have HC:=He (fun (W':World) (z:Below W6.heap.size W6 W')=>(a6.out.at_.below z).cs);go_upto_region 9 with fail
   clear cx z9 y9;refine ax (Lu q hp v.n v.g I v.r v.fr) (fun _ W=>Below W6.heap.size W6 W) (fun _ w w'=>Below w.heap.size w w') Hc Hc (fun i j v w w' _ _ h N=>by unfold Lu at *;exact h) ((Below.refl _ _).drew) ?_;simp only [cf];refine ⟨?_,?_,?_,?_,?_,?_,?_,?_,?_⟩
   ·refine aa.of rfl fun T W L hag l hJ a hd=>?_;have e0:=Hf hag 0;exact Hh
   ·refine aa.of rfl fun T W L hag l hJ a hd=>?_;have a7:T.getD 43 undef=_:=Hg hd 0 rfl;exact Hh
   ·refine aa.of rfl fun T W L hag l hJ a hd=>?_;have a8:T.getD 44 undef=_:=Hg hd 1 rfl;exact Hh
   ·refine aa.of rfl fun T W L hag l hJ a hd=>?_;have a9:T.getD 45 undef=_:=Hg hd 2 rfl;obtain ⟨z0,z1,z2,z3,z4,z5,z6,z7,z8,z9,a1,a2⟩:=HC.out W hJ;exact Hh
   ·refine aa.of rfl fun T W L hag l hJ a hd=>?_;have e0:=Hf hag 0;exact Hh
   ·refine aa.of rfl fun T W L hag l hJ a hd=>?_;have bb:T.getD 47 undef=_:=Hg hd 4 rfl;exact Hh
   ·refine aa.of rfl fun T W L hag l hJ a hd=>?_;have bi:T.getD 48 undef=_:=Hg hd 5 rfl;exact Hh
   ·refine aa.of rfl fun T W L hag l hJ a hd=>?_;have bk:T.getD 49 undef=_:=Hg hd 6 rfl;obtain ⟨z0,z1,z2,z3,z4,z5,z6,z7,z8,z9,a1,a2⟩:=HC.out W hJ;exact Hh
   ·refine bm.of rfl fun T W L hag a l hJ hd=>?_;have b8:T.getD 46 undef=_:=hd 3 _ Hb rfl;have b9:T.getD 50 undef=_:=hd 7 _ Hb rfl;obtain ⟨f,d,hT⟩:=aJ hag;have a7:T.getD 43 undef=_:=hd 0 _ Hb rfl;have cz:=(d 43).trans a7;have a8:T.getD 44 undef=_:=hd 1 _ Hb rfl;have cA:=(d 44).trans a8;have a9:T.getD 45 undef=_:=hd 2 _ Hb rfl;have cP:=(d 45).trans a9;have c0:=(d 46).trans b8;have bb:T.getD 47 undef=_:=hd 4 _ Hb rfl;have c1:=(d 47).trans bb;have bi:T.getD 48 undef=_:=hd 5 _ Hb rfl;have c2:=(d 48).trans bi;have bk:T.getD 49 undef=_:=hd 6 _ Hb rfl;have c3:=(d 49).trans bk;have c4:=(d 50).trans b9;have HJ:=He hJ;clear hag hd a7 a8 a9 b8 bb bi bk b9 hJ d;rw [hT];clear hT;simp only [List.pop_toArray,List.dropLast_cons_cons,List.dropLast_singleton,List.filterMap_cons,List.filterMap_nil,List.foldl_cons,List.foldl_nil,List.setIfInBounds_toArray,List.set_cons_succ,List.set_cons_zero,cz,cA,cP,c0,c1,c2,c3,c4];have hd:=a6.out.below HJ.out;go_simp;refine (rc hd.ds v.r HR.out v.n v.g v.fr I cu.out HM.out).mono ?_;rintro en w' ⟨rfl,A,N⟩;have H:=hd.step A N;have y:=H.setHd (i:=10) (u:=.int .u32 0) (v':={ v with B:=v.B.map kr,ep:=I,sq:=0 }) rfl rfl { H.at_.toOk with sq:=by show (0:Nat)<4294967296;omega };have h3:=y.1.setHd (i:=11) (u:=.int .i64 0) (v':={ v with B:=v.B.map kr,ep:=I,sq:=0,us:=0 }) rfl rfl { y.1.at_.toOk with us:=by show (0:Nat)<=2000;omega };have HF:=He h3.1;have c5:=He ((((b5.out.trans (bz.rst (a6.out.same HJ.out))).trans N.rst).trans y.2).trans h3.2);have a1:=H.at_.c10;have c7:=H.at_.f 10;have a2:(w'.setCell ⟨hp,10,none⟩ (.int .u32 0)).cell? ⟨hp,11,none⟩=some (.int .i64 v.us):=y.1.at_.c11;have da:=y.1.at_.f 11;clear hd A N H y h3 HJ;go_wp2
    go_end0
    rw [<- cv.out,cw.out];exact ⟨rfl,HF.out,c5.out⟩
theorem CJ {w0 W:World} {P:Nat->Prop} {q:Nat} {m:DM} {hp rb:Nat} {v:VM} (h:SV w0 W P q m hp rb v) (d:v.ep+1<4294967296) (a:m.done.length<=998999) :
 Calls Tryz.prog 105 #[.pointer (some ⟨hp,0,none⟩)] W fun e w'=>e=.returned (.tuple #[])/\SV w0 w' P q (fE (m.doBarrier v.r) v) hp rb (gX v)/\bz (oW P hp rb) W w':=by
 have c:=He h;have j:=He a;clear h a;go_enter Tryz.func105,Tryz.ntmps105;go_wp2_with (with_reducible refine wpList_load_mid rfl 115 (.tmp 6) rfl hp 0 rfl (pK (some ⟨q,0,none⟩) v.r v.n v.g v.fr) _ c.out.at_.rangeG Tryz.underlying115 rfl (by rw [show (pK (some ⟨q,0,none⟩) v.r v.n v.g v.fr).length=8 from rfl];exact oU) ?_)
 refine (kI c.out.ds v.r c.out.at_.r v.n v.g v.fr (by have:=j.out;omega)).mono ?_;rintro e u ⟨rfl,hd,f⟩;have k:=c.out.step hd f;have p:=cR m v.r;have l:=He (pM k d (by have:=j.out;omega));have s:=He (f.rst (hp:=hp) (rb:=rb));clear hd f k p;go_wp2_with fail
 refine l.out.mono ?_;rintro e w ⟨rfl,o,b⟩;have t:=He o;have i:=He (s.out.trans b);clear o b l;go_wp2
 go_end0
 exact ⟨rfl,t.out,i.out⟩
theorem zF {P:Program} {a:Act} {w:World} {Q:Exit->Act->World->Prop} {c o n:Code} (k i:Act->World->Prop) (μ:Act->World->Nat)
 (p:findLabel c 0=some o) (q:findLabel c 1=some (.seq .skip n))
 (first:(∀ a w,i a w->n.wp P (cK (fun l a w=>match l with | 0=>k a w | 1=>i a w | _=>False) Q) a w)->c.wp P (cK (fun l a w=>match l with | 0=>k a w | 1=>i a w | _=>False) Q) a w)
 (d:∀ a w,i a w->n.wp P (cK (fun l j w'=>match l with | 0=>k j w' | 1=>i j w'/\μ j w'<μ a w | _=>False) Q) a w)
 (g:∀ a w,k a w->o.wp P (cK (fun _ _ _=>False) Q) a w):(Code.scope c).wp P Q a w:=by
 refine gN (fun l a w=>match l with | 0=>k a w | 1=>i a w | _=>False) (fun l a w=>match l with | 1=>μ a w+1 | _=>0) ?_ (first fun a w h=>?_) ?_
 ·intro l a w h
  match l,h with
  | 0,_=>exact ⟨_,p⟩
  | 1,_=>exact ⟨_,q⟩
 ·refine wp_mono (d a w h) ?_;intro e j w' b;cases e with
  | goto m=>match m,b with
    | 0,b=>exact b
    | 1,b=>exact b.1
  | _=>exact b
 ·intro l rest f a w hJ
  match l,hJ with
  | 0,hJ =>
    rw [p] at f;injection f with f;subst f
    refine wp_mono (g a w hJ) ?_;intro e j w' b;cases e with
    | goto m=>exact b.elim
    | _=>exact b
  | 1,hJ =>
    rw [q] at f;injection f with f;subst f
    refine wp_seq (wp_skip (wp_mono (d a w hJ) ?_));intro e j w' b;cases e with
    | goto m=>match m,b with
      | 0,b=>exact ⟨b,Nat.succ_pos _⟩
      | 1,b=>exact ⟨b.1,Nat.succ_lt_succ b.2⟩
    | _=>exact b
theorem yX.mono {W:World} {R f:Nat->Prop} {A:Option Addr} {g:List (List Int)} (h:yX W R A g) (l:∀ k,R k->f k):yX W f A g:=fun i b m =>
 let ⟨a,B,d,e,h1,h2,h3,h4,h5⟩:=h i b m;⟨a,B,d,e,l _ h1,h2,h3,h4,fun j x hj=>let ⟨c,e2,h6,h7⟩:=h5 j x hj;⟨c,e2,l _ h6,h7⟩⟩
def gE (v:VM) (l:List Wr):Prop:=bQ l/\dz v l=true
instance (v:VM) (l:List Wr):Decidable (gE v l):=by unfold gE;infer_instance
def iS (m:DM) (v:VM):DM:=fE (m.doBarrier v.r) v
def jL (v:VM) (l:List Wr):Prop:=v.g-v.us<1+l.length
instance (v:VM) (l:List Wr):Decidable (jL v l):=by unfold jL;infer_instance
def oY (m:DM) (v:VM) (l:List Wr):DM:=jD v.r m v.us (putL 0 v.ep v.sq l)
def vw (v:VM) (l:List Wr):VM:={ v with B:=cY v.B l,us:=v.us+(1+l.length),sq:=v.sq+1 }
def sH (m:DM) (v:VM) (l:List Wr):DM:=if gE v l then (if jL v l then oY (iS m v) (gX v) l else oY m v l) else m
def qe (v:VM) (l:List Wr):VM:=if gE v l then (if jL v l then vw (gX v) l else vw v l) else v
theorem bQ.kinds {l:List Wr} (h:bQ l):nZ l:=fun x a=>(h.2.1 x a).1
theorem xC (e s:Nat) {l:List Wr} (d:bQ l) (a:bW l):∀ b∈putL 0 e s l,cQ b:=fun b c=>by
 refine ⟨?_,tJ e s Ha d a b c⟩;unfold putL at c;rcases List.mem_cons.1 c with rfl | c
 ·exact fC (by rw [cH];have:=d.1.2;omega)
 ·obtain ⟨x,f,rfl⟩:=List.mem_map.1 c;exact fC (by rw [gS (a x f).len];exact Nat.le_refl _)
theorem rh (m:DM) (v:VM):(fE m v).done.length<=m.done.length+v.B.length+3:=by
 have a:=kK v.r v.g v.B m 0;have b:=cR (bR v.r v.g m 0 v.B) v.r;have c:=fQ ((bR v.r v.g m 0 v.B).doBarrier v.r) v.r (((v.ep+1)%2:Nat):Int) (bg 0 (v.ep+1));have d:=cR (((bR v.r v.g m 0 v.B).doBarrier v.r).doWrite v.r (((v.ep+1)%2:Nat):Int) (bg 0 (v.ep+1))) v.r;unfold fE DM.doBegin;omega
theorem rj (m:DM) (v:VM):(iS m v).done.length<=m.done.length+v.B.length+4:=by
 have a:=rh (m.doBarrier v.r) v;have b:=cR m v.r;unfold iS;omega
theorem Ez {v:VM} (h:v.Ok) (a:v.ep+1<4294967296):(gX v).Ok :=
 { len:=by show (v.B.map kr).length=v.n;rw [List.length_map];exact h.len
   ok:=fun x d=>by
    obtain ⟨y,c,rfl⟩:=List.mem_map.1 d;exact ⟨(h.ok y c).k,(h.ok y c).len,(h.ok y c).b⟩
   n:=h.n,g:=h.g,r:=h.r,ep:=a,sq:=by show (0:Nat)<4294967296;omega,us:=by show (0:Nat)<=2000;omega }
def Lw (hp base n d:Nat) (e s:Int) (A:Option Addr) (b:Bool) (a:List (List Int)) (i:Nat) (v:Value) (w:World):Prop :=
 match i with
 | 0 | 1 | 2 | 5 | 6 | 9 | 10=>v=.pointer (some ⟨hp,0,none⟩)
 | 3=>v=.pointer (some ⟨hp,2,none⟩)
 | 4=>v=.int .u8 0
 | 7=>v=.pointer (some ⟨hp,9,none⟩)
 | 8=>v=.int .u32 (e:Int)
 | 11=>v=.pointer (some ⟨hp,10,none⟩)
 | 12=>v=.int .u32 (s:Int)
 | 13=>v=.slice A n d
 | 17=>v=.bool b
 | 14=>∃ u,v=.tuple #[u,.bool b]/\co w base u a
 | 15=>∃ u,v=.tuple #[u,.bool b]/\co w base u a
 | 16=>co w base v a
 | 18=>co w base v a
 | _=>True
def Jp (w0 W:World) (P:Nat->Prop) (q:Nat) (m:DM) (hp rb:Nat) (v:VM) (l:List Wr) (A:Option Addr) (n d:Nat) (a':Act) (w':World):Prop :=
 ∃ a b,Hid (SV w0 w' P q a hp rb b)/\Hid (bz (oW P hp rb) W w')/\Hid ((a=m/\b=v)\/(a=iS m v/\b=gX v/\gE v l/\jL v l))/\∃ u5 u6 u7 u8 u9 c e f g h i j k o p r s t u w x y z B C H I u32 K L M N O R S T U V X Y Z ad an a0 a1 a2 a3 a4 a5 a6 a7 a8:Value,a'={ tmps:=#[.pointer (some ⟨hp,0,none⟩),.slice A n d,undef,undef,.int .i64 0,u5,u6,u7,u8,u9,c,e,f,g,h,i,j,k,o,p,r,s,t,u,w,x,y,z,B,C,H,I,u32,K,L,M,N,O,R,S,T,U,V,X,Y,Z,ad,an,a0,a1,a2,a3,a4,a5,a6,a7,a8],defers:=[] }
def EA (w0 W:World) (P:Nat->Prop) (q:Nat) (m:DM) (hp rb:Nat) (v:VM) (l:List Wr) (a':Act) (w':World):Prop :=
 Hid (SV w0 w' P q m hp rb v)/\Hid (bz (oW P hp rb) W w')/\Hid (¬ gE v l)/\∃ u1 u2 u3 u4 u5 u6 u7 u8 u9 a b c d e f g h i j k n o p r s t u w x y z u32 A B C H I K L M N O R S T U V X Y Z ad an a0 a1 a2 a3:Value,a'={ tmps:=#[.pointer (some ⟨hp,0,none⟩),u1,u2,u3,u4,u5,u6,u7,u8,u9,a,b,c,d,e,f,g,h,i,j,k,n,o,p,r,s,t,u,w,x,y,z,u32,A,B,C,H,I,K,L,M,N,O,R,S,T,U,V,X,Y,Z,ad,an,a0,a1,a2,a3],defers:=[] }
def EB (hp:Nat) (w:World):Nat:=match w.cell? ⟨hp,11,none⟩ with | some v=>(intOf v).toNat | none=>0
theorem Bf {W:World} {q hp rb:Nat} {v:VM} (h:aO W q hp rb v):EB hp W=v.us:=by unfold EB;rw [h.c11];simp [intOf]
theorem xD {w0 W:World} {P:Nat->Prop} {q:Nat} {m:DM} {hp rb:Nat} {v:VM} (h:SV w0 W P q m hp rb v) (A:Option Addr) (l:List Wr) (n d:Nat) (hn:l.length=n) (hl:n<=d) (hd:d<=9223372036854775807) (U:bW l) (hy:mY W (oW P hp rb) A l)
 (cp:v.us<=v.g) (V:13<=v.g) (cq:v.ep+1<4294967296) (cr:v.sq+1<4294967296) (a4:m.done.length<=998000) :
 Calls Tryz.prog 44 #[.pointer (some ⟨hp,0,none⟩),.slice A n d] W fun e w'=>e=.returned (.int .i64 (if gE v l then 0 else 1))/\SV w0 w' P q (sH m v l) hp rb (qe v l)/\bz (oW P hp rb) W w':=by
 have HV:=He h;have Z:=He hn;have HO:=He U;have HY:=He hy;have cu:=He a4;have HB:=He (And.intro cp (And.intro V (And.intro cq cr)));clear h hn U hy a4 cp V cq cr;obtain ⟨WW,rfl⟩:∃ WW,WW=W:=⟨W,rfl⟩
 go_enter Tryz.func44,Tryz.ntmps44;go_wp2;refine zF (EA w0 WW P q m hp rb v l) (Jp w0 WW P q m hp rb v l A n d) (fun _ w'=>EB hp w') rfl rfl ?_ ?_ ?_
 ·intro cv;have HF:=He cv;clear cv;go_wp2;go_step3;rename_i hK;exact hK _ _ (HF.out _ _ ⟨m,v,HV.out,bz.refl _ _,Or.inl ⟨rfl,rfl⟩,_,_,_,_,_,_,_,_,_,_,_,_,_,_,_,_,_,_,_,_,_,_,_,_,_,_,_,_,_,_,_,_,_,_,_,_,_,_,_,_,_,_,_,_,_,_,_,_,_,_,_,_,rfl⟩)
 ·rintro a' K ⟨mm,a,o,ad,z,u5,u6,u7,u8,u9,eb,ec,ed,ee,ef,eg,eh,ei,ej,ek,el,em,en,eo,eq,er,es,et,eu,ev,ew,ex,u32,ey,ez,eA,eB,eC,eD,eE,eF,eG,eH,eI,eJ,eK,eL,eM,eN,eO,eP,eQ,eR,eS,eT,eU,eV,rfl⟩;have HC:=He (fun (W':World) (bn:Below K.heap.size K W')=>(o.out.at_.below bn).cs);have a5:=He (fun (W':World) (bn:Below K.heap.size K W')=>A4 0 a.ep a.sq A l n d W' Ha o.out.at_.ep o.out.at_.sq Z.out hl hd HO.out (((HY.out.same ad.out).wrs).keep bn));go_upto_region 4 with fail
  refine ax (Lw hp K.heap.size n d a.ep a.sq A (decide (bQ l)) (mr 0 a.ep a.sq l)) (fun _ W=>Below K.heap.size K W) (fun _ w w'=>Below w.heap.size w w') Hc Hc (fun i j v w w' _ _ h hs=>by revert h;unfold Lw;split <;> intro h <;> first | exact h | (obtain ⟨p,M,x⟩:=h;exact ⟨p,M,x.keep hs⟩) | exact co.keep h hs | trivial) ((Below.refl _ _).drew) ?_;simp only [cf];refine ⟨?_,?_,?_,?_,?_,?_,?_,?_,?_,?_,?_,?_,?_,?_,?_,?_,?_,?_,?_,?_⟩
  ·refine aa.of rfl fun T W L hag C hJ b hd=>?_;have e0:=Hf hag 0;exact Hh
  ·refine aa.of rfl fun T W L hag C hJ b hd=>?_;have bs:T.getD 10 undef=_:=Hg hd 0 rfl;exact Hh
  ·refine aa.of rfl fun T W L hag C hJ b hd=>?_;have bt:T.getD 11 undef=_:=Hg hd 1 rfl;exact Hh
  ·refine aa.of rfl fun T W L hag C hJ b hd=>?_;have bx:T.getD 12 undef=_:=Hg hd 2 rfl;exact Hh
  ·refine aa.of rfl fun T W L hag C hJ b hd=>?_;have b0:T.getD 13 undef=_:=Hg hd 3 rfl;obtain ⟨z0,z1,z2,z3,z4,z5,z6,z7,z8,z9,cw,cx⟩:=HC.out W hJ;exact Hh
  ·refine aa.of rfl fun T W L hag C hJ b hd=>?_;have e0:=Hf hag 0;exact Hh
  ·refine aa.of rfl fun T W L hag C hJ b hd=>?_;have b1:T.getD 15 undef=_:=Hg hd 5 rfl;exact Hh
  ·refine aa.of rfl fun T W L hag C hJ b hd=>?_;have b2:T.getD 16 undef=_:=Hg hd 6 rfl;exact Hh
  ·refine aa.of rfl fun T W L hag C hJ b hd=>?_;have b3:T.getD 17 undef=_:=Hg hd 7 rfl;obtain ⟨z0,z1,z2,z3,z4,z5,z6,z7,z8,z9,cw,cx⟩:=HC.out W hJ;exact Hh
  ·refine aa.of rfl fun T W L hag C hJ b hd=>?_;have e0:=Hf hag 0;exact Hh
  ·refine aa.of rfl fun T W L hag C hJ b hd=>?_;have b4:T.getD 19 undef=_:=Hg hd 9 rfl;exact Hh
  ·refine aa.of rfl fun T W L hag C hJ b hd=>?_;have b5:T.getD 20 undef=_:=Hg hd 10 rfl;exact Hh
  ·refine aa.of rfl fun T W L hag C hJ b hd=>?_;have b6:T.getD 21 undef=_:=Hg hd 11 rfl;obtain ⟨z0,z1,z2,z3,z4,z5,z6,z7,z8,z9,cw,cx⟩:=HC.out W hJ;exact Hh
  ·refine aa.of rfl fun T W L hag C hJ b hd=>?_;have e1:=Hf hag 1;exact Hh
  ·refine aa.of rfl fun T W L hag C hJ b hd=>?_;have b8:T.getD 14 undef=_:=Hg hd 4 rfl;have b9:T.getD 18 undef=_:=Hg hd 8 rfl;have ca:T.getD 22 undef=_:=Hg hd 12 rfl;have cb:T.getD 23 undef=_:=Hg hd 13 rfl;clear hag hd;go_simp;refine (a5.out W hJ).mono ?_;rintro e w' ⟨u,rfl,hu,hb⟩;exact ⟨_,rfl,⟨_,rfl,hu.mono hJ.size⟩,aR hJ hb,hb⟩
  ·refine aa.of rfl fun T W L hag C hJ b hd=>?_;have eW:=Hg hd 14 rfl;obtain ⟨u,(hs:T.getD 24 undef=_),hp⟩:=eW;clear hag hd;go_simp;exact ⟨_,rfl,⟨_,rfl,hp⟩,ag _⟩
  ·refine aa.of rfl fun T W L hag C hJ b hd=>?_;have x9:=Hg hd 15 rfl;obtain ⟨u,(hs:T.getD 9 undef=_),hp⟩:=x9;clear hag hd;go_simp;exact ⟨_,rfl,hp,ag _⟩
  ·refine aa.of rfl fun T W L hag C hJ b hd=>?_;have x9:=Hg hd 15 rfl;obtain ⟨u,(hs:T.getD 9 undef=_),hp⟩:=x9;exact Hh
  ·refine aa.of rfl fun T W L hag C hJ b hd=>?_;have cz:=Hg hd 16 rfl;have cA:co W K.heap.size (T.getD 25 undef) (mr 0 a.ep a.sq l):=cz;clear hag hd cz;go_simp;exact ⟨_,rfl,(by show co W K.heap.size (T[25]?.getD undef) (mr 0 a.ep a.sq l);simpa using cA),ag _⟩
  ·refine bm.of rfl fun T W L hag b C hJ hd=>?_;have cP:T.getD 26 undef=_:=hd 17 _ Hb rfl;obtain ⟨f,H,hT⟩:=aJ hag;have bs:T.getD 10 undef=_:=hd 0 _ Hb rfl;have cc:=(H 10).trans bs;have bt:T.getD 11 undef=_:=hd 1 _ Hb rfl;have an:=(H 11).trans bt;have bx:T.getD 12 undef=_:=hd 2 _ Hb rfl;have eX:=(H 12).trans bx;have b0:T.getD 13 undef=_:=hd 3 _ Hb rfl;have eY:=(H 13).trans b0;have b8:T.getD 14 undef=_:=hd 4 _ Hb rfl;have eZ:=(H 14).trans b8;have b1:T.getD 15 undef=_:=hd 5 _ Hb rfl;have e3:=(H 15).trans b1;have b2:T.getD 16 undef=_:=hd 6 _ Hb rfl;have e4:=(H 16).trans b2;have b3:T.getD 17 undef=_:=hd 7 _ Hb rfl;have e5:=(H 17).trans b3;have b9:T.getD 18 undef=_:=hd 8 _ Hb rfl;have e6:=(H 18).trans b9;have b4:T.getD 19 undef=_:=hd 9 _ Hb rfl;have e7:=(H 19).trans b4;have b5:T.getD 20 undef=_:=hd 10 _ Hb rfl;have e8:=(H 20).trans b5;have b6:T.getD 21 undef=_:=hd 11 _ Hb rfl;have e9:=(H 21).trans b6;have ca:T.getD 22 undef=_:=hd 12 _ Hb rfl;have fa:=(H 22).trans ca;have cb:T.getD 23 undef=_:=hd 13 _ Hb rfl;have fd:=(H 23).trans cb;have fe:=(H 26).trans cP;have HJ:=He hJ;have x5:co W K.heap.size (T.getD 5 undef) (mr 0 a.ep a.sq l):=hd 18 _ Hb rfl;obtain ⟨B,c,hv,c0,c1,c2⟩:=x5.txR;have h5:=(H 5).trans hv;have c3:=He c2;have a0:=He (And.intro c0 c1);clear x5 hv c2 c0 c1;clear hag hd bs bt bx b0 b8 b1 b2 b3 b9 b4 b5 b6 ca cb cP hJ H;rw [hT];clear hT;simp only [List.pop_toArray,List.dropLast_cons_cons,List.dropLast_singleton,List.filterMap_cons,List.filterMap_nil,List.foldl_cons,List.foldl_nil,List.setIfInBounds_toArray,List.set_cons_succ,List.set_cons_zero,cc,an,eX,eY,eZ,e3,e4,e5,e6,e7,e8,e9,fa,fd,fe];simp only [h5];have a6:=o.out.grow HJ.out (Q:=fun k=>K.heap.size<=k/\k<W.heap.size) (fun k I=>I);have c4:=He a6;have y:=He (o.out.below HJ.out);have a1:=He (ad.out.trans (bz.rst (o.out.same HJ.out)));have c5:=o.out.ds.low _ o.out.ph;have c7:=o.out.ds.low _ o.out.pr;have a7:=He (And.intro c5 c7);clear a6 c5 c7 a5 HC;by_cases t:bQ l
   ·have X:=He t;have cg:mr 0 a.ep a.sq l=putL 0 a.ep a.sq l:=Et t;have a8:(mr 0 a.ep a.sq l).length=1+n:=by rw [cg,bG,Z.out]
    rw [a8] at a0 ⊢;rw [cg] at c3;rw [decide_eq_true t];have fv:n<=12:=by have:=t.1.2;rw [Z.out] at this;exact this
    have c8:=He (xA y.out.at_ A l n d Z.out hl hd HO.out ((HY.out.same a1.out).wrs));clear t cg a8;go_wp2_with fail
    refine c8.out.mono ?_;rintro e w' ⟨rfl,rfl⟩;have a2:dz a l=dz v l:=by rcases z.out with ⟨_,x⟩ | ⟨_,x,_⟩ <;> rw [x] <;> rfl
    cases hq:dz a l
    ·have N:¬ gE v l:=fun h=>by have:=h.2;rw [<- a2,hq] at this;cases this
     have s:mm=m/\a=v:=by rcases z.out with M | ⟨_,_,M,_⟩;exact M;exact absurd M N
     have O:=He N;have ch:Hid (SV w0 W P q m hp rb v):=by rw [<- s.1,<- s.2];exact y.out
     clear N s a2 hq;go_wp2;go_step3;exact (show EA _ _ _ _ _ _ _ _ _ _ _ from ⟨ch.out,a1.out,O.out,_,_,_,_,_,_,_,_,_,_,_,_,_,_,_,_,_,_,_,_,_,_,_,_,_,_,_,_,_,_,_,_,_,_,_,_,_,_,_,_,_,_,_,_,_,_,_,_,_,_,_,_,_,_,_,_,rfl⟩)
    ·have U:gE v l:=⟨X.out,by rw [<- a2];exact hq⟩
     have a3:=He U;have z6:=y.out.at_.c6;have c9:a.g=v.g:=by rcases z.out with ⟨_,x⟩ | ⟨_,x,_⟩ <;> rw [x] <;> rfl
     have V:=HB.out.2.1;have fm:a.us<=a.g:=by rcases z.out with ⟨_,x⟩ | ⟨_,x,_⟩ <;> rw [x];exact HB.out.1;exact Nat.zero_le _
     have d1:decide (a.g<1+n)=false:=decide_eq_false Ha;have da:=He (CH y.out.at_ fm);obtain ⟨n1,ci⟩:∃ n1,n1=1+n:=⟨_,rfl⟩
     rw [<- ci] at d1 a0 ⊢;have R:=He ci;have dc:=He c9;clear U a2 hq c9 c8 ci;go_wp2_with fail
     refine da.out.mono ?_;rintro e W7 ⟨rfl,Y⟩;have fn:=He (c4.out.below Y);have dg:=He (y.out.below Y);have ck:=He (a1.out.trans (bz.rst (y.out.same Y)));have a9:=c3.out.same ((c4.out.same Y).mono fun k I=>Or.inr I);have dl:=He a9;have bb:=(HY.out.same ck.out).mono fun k I=>(⟨Or.inl I.1,I.2⟩:oW (fun k=>P k\/(K.heap.size<=k/\k<W.heap.size)) hp rb k)
     have dn:=He bb;clear Y a9 bb z6 d1 da;by_cases ht:a.g-a.us<n1
     ·have d2:decide (a.g-a.us<n1)=true:=decide_eq_true ht;have s:mm=m/\a=v:=by
       rcases z.out with M | ⟨_,x,_⟩
       ·exact M
       ·have fz:a.us=0:=by rw [x];rfl
        have h3:=R.out;have h4:=dc.out;omega
      have dv:jL v l:=by unfold jL;rw [Z.out,<- s.2,<- R.out];exact ht
      have fr:=He dv;have dT:=He s;have d3:=He (CJ dg.out (by rw [s.2];exact HB.out.2.2.1) (by rw [s.1];have:=cu.out;omega));have fs:Hid (0<a.us):=by have h4:=dc.out;have h5:=R.out;have h6:=HB.out.2.1;unfold Hid;omega
      clear s dv ht;generalize a.g-a.us=rm at *;go_wp2_with fail
      refine d3.out.mono ?_;rintro e W8 ⟨rfl,h8,S⟩;have d4:=He h8;have cl:=He (ck.out.trans S);clear h8 S d3;go_wp2;go_step3;refine (show Jp w0 WW P q m hp rb v l A n d _ W8/\EB hp W8<EB hp K from ⟨⟨iS m v,gX v,?_,cl.out,Or.inr ⟨rfl,rfl,a3.out,fr.out⟩,_,_,_,_,_,_,_,_,_,_,_,_,_,_,_,_,_,_,_,_,_,_,_,_,_,_,_,_,_,_,_,_,_,_,_,_,_,_,_,_,_,_,_,_,_,_,_,_,_,_,_,_,rfl⟩,?_⟩)
      ·have h9:=d4.out;rw [dT.out.1,dT.out.2] at h9;exact h9
      ·rw [Bf d4.out.at_,Bf o.out.at_];exact fs.out
     ·have d2:decide (a.g-a.us<n1)=false:=decide_eq_false ht;have d5:a.sq+1<4294967296:=by
       rcases z.out with ⟨_,x⟩ | ⟨_,x,_⟩ <;> rw [x]
       ·exact HB.out.2.2.2
       ·show 0+1<4294967296;omega
      have d6:mm.done.length+n1<=1000000:=by
       have h3:=cu.out;have h4:=rj m v;have h5:=HV.out.at_.len;have h6:=HV.out.at_.n;have h7:=R.out;rcases z.out with ⟨x,_⟩ | ⟨x,_⟩ <;> rw [x] <;> omega
      have d7:yX W7 (oW (fun k=>P k\/(K.heap.size<=k/\k<W.heap.size)) hp rb) B (putL 0 a.ep a.sq l):=dl.out.mono fun k I=>⟨Or.inr I,by have:=a7.out.1;omega,by have:=a7.out.2;omega⟩
      have d8:=Ex fn.out B (putL 0 a.ep a.sq l) n1 c (by rw [bG,Z.out,R.out]) a0.out.1 a0.out.2 (xC a.ep a.sq X.out HO.out) d7 (by have:=HB.out.1;omega) d5 d6;have d9:=He d8;have cn:Hid (¬ jL a l):=by unfold Hid jL;rw [Z.out,<- R.out];exact ht
      clear d5 d6 d7 d8 ht;generalize a.g-a.us=rm at *;go_wp2_with fail
      refine d9.out.mono ?_;rintro e W8 ⟨rfl,h8,S⟩;have bi:=xB h8 A l n d Z.out hl hd HO.out X.out.kinds (dn.out.same S);have bk:=He bi;have cl:=He (ck.out.trans (S.mono fun k I=>⟨Or.inl I.1,I.2⟩));clear h8 S bi d9;go_wp2_with fail
      refine bk.out.mono ?_;rintro e W9 ⟨rfl,h9,ea⟩;have fu:=He (cl.out.trans (ea.mono fun k I=>⟨Or.inl I.1,I.2⟩));have bl:SV w0 W9 P q (sH m v l) hp rb (qe v l):=by
       have cc:=h9.mono (P':=P) (fun k I=>Or.inl I) o.out.ph o.out.pr;have an:sH m v l=jD a.r mm a.us (putL 0 a.ep a.sq l)/\qe v l=vw a l:=by
        unfold sH qe;rw [if_pos a3.out,if_pos a3.out];rcases z.out with ⟨M,x⟩ | ⟨M,x,h3,h4⟩
        ·rw [x] at cn;rw [if_neg cn.out,if_neg cn.out,M,x];exact ⟨rfl,rfl⟩
        ·rw [if_pos h4,if_pos h4,M,x];exact ⟨rfl,rfl⟩
       rw [an.1,an.2];unfold vw;rw [Z.out,<- R.out];exact cc
      have HF:=He bl;clear h9 ea bl bk;go_wp2;simp only [aU];go_ret;rw [if_pos a3.out];exact ⟨rfl,HF.out,fu.out⟩
   ·have N:¬ gE v l:=fun h=>t h.1;have s:mm=m/\a=v:=by rcases z.out with M | ⟨_,_,M,_⟩;exact M;exact absurd M N
    have O:=He N;have ch:Hid (SV w0 W P q m hp rb v):=by rw [<- s.1,<- s.2];exact y.out
    rw [decide_eq_false t];clear N s t;generalize (mr 0 a.ep a.sq l).length=n1 at *;go_wp2;go_step3;exact (show EA _ _ _ _ _ _ _ _ _ _ _ from ⟨ch.out,a1.out,O.out,_,_,_,_,_,_,_,_,_,_,_,_,_,_,_,_,_,_,_,_,_,_,_,_,_,_,_,_,_,_,_,_,_,_,_,_,_,_,_,_,_,_,_,_,_,_,_,_,_,_,_,_,_,_,_,_,rfl⟩)
 ·rintro a' K ⟨o,ad,O,u1,u2,u3,u4,u5,u6,u7,u8,u9,eb,ec,ed,ee,ef,eg,eh,ei,ej,ek,el,em,en,eo,eq,er,es,et,eu,ev,ew,ex,u32,ey,ez,eA,eB,eC,eD,eE,eF,eG,eH,eI,eJ,eK,eL,eM,eN,eO,eP,eQ,eR,eS,eT,eU,eV,rfl⟩;go_wp2;simp only [aU];go_ret;have e1:sH m v l=m:=if_neg O.out;have e2:qe v l=v:=if_neg O.out;rw [e1,e2,if_neg O.out];exact ⟨rfl,o.out,ad.out⟩
theorem oZ (i:Nat):0<=ir i/\ir i<=7:=by unfold ir;split <;> omega
def dp (r:Int) (g:Nat) (m:DM):Nat->DM
 | 0=>m
 | k+1=>(dp r g m k).doWrite r ((2+g+k:Nat):Int) (cL 0 (ir k) k (gV k))
theorem jM (r:Int) (g:Nat) (m:DM):∀ k,(dp r g m k).done.length<=m.done.length+k
 | 0=>Nat.le_refl _
 | k+1=>by
   have a:=jM r g m k;have b:=fQ (dp r g m k) r ((2+g+k:Nat):Int) (cL 0 (ir k) k (gV k));show (DM.doWrite _ _ _ _).done.length<=_;omega
def kU (m:DM) (r:Int) (n g:Nat):DM:=(dp r g m n).doBegin r 1
def Lx (q n g k:Nat) (r a:Int) (i:Nat) (v:Value) (w:World):Prop :=
 match i with
 | 0=>v=.agg (bJ (some ⟨q,0,none⟩) r n g a)
 | 1 | 2=>v=.int .i64 (k:Int)
 | 3=>v=.agg (ab (ir k) (gV k))
 | _=>True
theorem CK {w0 W:World} {P:Nat->Prop} {q:Nat} {m:DM} (h:DS w0 W P q m) (r:Int) (hr:i64 r) (n g:Nat) (b:Int) (hn:n<=200) (hg:g<=1000) (x:(iY m r ((1+g+n:Nat):Int)).isSome=true) (y:m.done.length+n<=999000) :
 Calls Tryz.prog 42 #[.pointer (some ⟨q,0,none⟩),.int .i64 r,qq 0 0 n g b] W fun e w'=>e=.returned (.bool true)/\DS w0 w' P q (kU m r n g)/\bz P W w':=by
 have HD:=He h;have HR:=He hr;have S:=He (And.intro hn hg);have U:=He y;have a8:=He (fun W=>nV (some ⟨q,0,none⟩) r n g b hn hg W);have V:∀ o,Below W.heap.size W (W.alloc o):=fun o=>(Below.refl _ _).alloc (Nat.le_refl _) _;have X:=He x;have Y:=fun o=>heap_alloc_new W o;unfold qq kU;clear h x y;go_enter Tryz.func42,Tryz.ntmps42;go_wp2_with fail
 have a9:=He (V (Obj.cells #[.int .i64 0,.int .i64 0,.int .i64 n,.int .i64 g,.int .i64 b] 97));have p:=Y (Obj.cells #[.int .i64 0,.int .i64 0,.int .i64 n,.int .i64 g,.int .i64 b] 97);refine (a8.out _).mono ?_;rintro e c ⟨rfl,A⟩;have B:=kb A p;have Z:=He (aR a9.out A);clear V A Y p;unfold ko;go_upto_region 2 with (refine jX rfl (.tmp 7) (.tmp 15) rfl c.heap.size rfl (bJ (some ⟨q,0,none⟩) r n g b) rfl (q9 _ _ _ _ _) rfl _ rfl (heap_alloc_new c _) ?_)
 have e7:=am (D:=bJ (some ⟨q,0,none⟩) r n g b) (heap_alloc_new c (Obj.cells #[.pointer none,.int .i64 0,.int .u8 0,.int .i64 0,.int .i64 0,.int .i64 0,.int .i64 0,.int .i64 0] 115));have C:Below c.heap.size c ((c.alloc (Obj.cells #[.pointer none,.int .i64 0,.int .u8 0,.int .i64 0,.int .i64 0,.int .i64 0,.int .i64 0,.int .i64 0] 115)).setRow c.heap.size (bJ (some ⟨q,0,none⟩) r n g b)):=below_setRow ((Below.refl _ _).alloc (Nat.le_refl _) _) (Nat.le_refl _) _;have H:=He (aR Z.out C);have Y:=kb C B;have ad:W.heap.size<c.heap.size:=ah B;have z:c.heap.size<((c.alloc (Obj.cells #[.pointer none,.int .i64 0,.int .u8 0,.int .i64 0,.int .i64 0,.int .i64 0,.int .i64 0,.int .i64 0] 115)).setRow c.heap.size (bJ (some ⟨q,0,none⟩) r n g b)).heap.size:=ah e7;have an:=Z.out.size;generalize (c.alloc (Obj.cells #[.pointer none,.int .i64 0,.int .u8 0,.int .i64 0,.int .i64 0,.int .i64 0,.int .i64 0,.int .i64 0] 115)).setRow c.heap.size (bJ (some ⟨q,0,none⟩) r n g b)=W3 at *;generalize c.heap.size=I at *;clear C;have t:=CE (W:=W3) ((HD.out.rd r hr).keep H.out) n g b hn hg;rw [X.out] at t;have HF:=He t;obtain ⟨z0,z1,z2,z3,z4,z5,z6,z7⟩:=bj e7;have bb:=He e7;have bi:=He Y;clear e7 t Y B;go_wp2_with fail
 refine HF.out.mono ?_;rintro e W4 ⟨rfl,d⟩;have p:=kb d bi.out;have a0:DS w0 W4 (fun k=>P k\/k=I) q m:=HD.out.below (aR H.out d) (fun k l=>by
  rcases l with l | rfl
  ·exact Or.inl l
  ·exact Or.inr ⟨an,Nat.lt_of_lt_of_le z d.size⟩)
 have bk:=He a0;have a1:=He (kb d bb.out);have a2:=He (HD.out.same (aR H.out d));have y2:W4.cell? ⟨W.heap.size,2,none⟩=some (.int .i64 n):=(af p 2).trans rfl;clear p a0 d z0 z1 z2 z3 z4 z5 z6 z7 ad z an;go_wp2;clear y2
 go_loopw [26] (fun i wr=>∃ k:Nat,i=.int .i64 k/\k<=n/\Hid (DS w0 wr (fun k=>P k\/k=I) q (dp r g m k))/\Hid (bz (fun k=>P k\/k=I) W4 wr)) (fun i _=>n-(intOf i).toNat)
 case atStart=>exact ⟨0,rfl,Ha,bk.out,bz.refl _ _⟩
 case round =>
  obtain ⟨a,rfl,l,K,M⟩:=hrel;obtain ⟨O,rfl⟩:∃ O,O=wr:=⟨wr,rfl⟩
  have a3:=He ((M.out.blk I (Or.inr rfl)).trans a1.out);by_cases bl:a<n
  ·have bn:(a:Int)<n:=Ha;have HM:Hid ((dp r g m a).done.length<=1000000):=by
    have h1:=jM r g m a;have h2:=U.out;unfold Hid;omega
   have HG:Hid (∀ W',Below O.heap.size O W'->W'.heap[I]?=some (.cells (bJ (some ⟨q,0,none⟩) r n g b) 115 (0,0))):=fun W' h=>kb h a3.out;go_upto_region 7 with fail
   refine ax (Lx q n g a r b) (fun _ W=>Below O.heap.size O W) (fun _ w w'=>Below w.heap.size w w') Hc Hc (fun i j v w w' _ _ h R=>by unfold Lx at *;exact h) ((Below.refl _ _).drew) ?_;simp only [cf];refine ⟨?_,?_,?_,?_,?_⟩
   ·refine aa.of rfl fun T W L hag hL hJ u hd=>?_;have e7:=Hf hag 7;obtain ⟨z0,z1,z2,z3,z4,z5,z6,z7⟩:=bj (HG.out W hJ);exact Hh
   ·refine aa.of rfl fun T W L hag hL hJ u hd=>?_;have e9:=Hf hag 9;exact Hh
   ·refine aa.of rfl fun T W L hag hL hJ u hd=>?_;have e9:=Hf hag 9;exact Hh
   ·refine aa.of rfl fun T W L hag hL hJ u hd=>?_;have N:T.getD 31 undef=_:=Hg hd 2 rfl;clear hag hd;go_simp;refine (xw a W).mono ?_;rintro e w' ⟨rfl,hb⟩;exact ⟨_,rfl,rfl,aR hJ hb,hb⟩
   ·refine bm.of rfl fun T W L hag u hL hJ hd=>?_;have a4:T.getD 29 undef=_:=hd 0 _ Hb rfl;have a5:T.getD 30 undef=_:=hd 1 _ Hb rfl;have a6:T.getD 32 undef=_:=hd 3 _ Hb rfl;obtain ⟨f,t,hT⟩:=aJ hag;have bs:=(t 29).trans a4;have bt:=(t 30).trans a5;have N:T.getD 31 undef=_:=hd 2 _ Hb rfl;have bx:=(t 31).trans N;have b0:=(t 32).trans a6;have HJ:=He hJ;clear hag hd a4 a5 N a6 hJ t;rw [hT];clear hT;simp only [List.pop_toArray,List.dropLast_cons_cons,List.dropLast_singleton,List.filterMap_cons,List.filterMap_nil,List.foldl_cons,List.foldl_nil,List.setIfInBounds_toArray,List.set_cons_succ,List.set_cons_zero,bs,bt,bx,b0];have hd:=K.out.below HJ.out (fun k l=>Or.inl l);go_simp;refine (pJ hd r HR.out n g b S.out.1 S.out.2 a bl (ir a) (gV a) (oZ a) (jn a) (oV a) HM.out).mono ?_;rintro e w' ⟨rfl,s,R⟩;have b1:=He s;have a7:=He ((M.out.trans (K.out.same HJ.out)).trans R);clear hd s R HJ;go_wp2
    go_roundw
    case rel=>exact ⟨a+1,by go_num,Ha,b1.out,a7.out⟩
    case measure=>simp [intOf];omega
  ·obtain rfl:a=n:=Ha;have bn:¬ ((a:Int)<a):=Ha;have HM:Hid ((dp r g m a).done.length<=999990):=by
    have h1:=jM r g m a;have h2:=U.out;unfold Hid;omega
   have b2:=He (fun W (h:DS w0 W (fun k=>P k\/k=I) q (dp r g m a))=>rc h r hr a g b 1 Ha HM.out);go_wp2_with (refine ja rfl (.tmp 7) rfl I rfl (bJ (some ⟨q,0,none⟩) r a g b) rfl a3.out ?_)
   refine (b2.out _ K.out).mono ?_;rintro e w' ⟨rfl,s,R⟩;have b3:=He (s.mono fun k l=>Or.inl l);have b4:=He ((a2.out.trans (M.out.mono fun k l=>Or.inl l)).trans (R.mono fun k l=>Or.inl l));clear s R;go_wp2;go_ret;exact ⟨rfl,b3.out,b4.out⟩
def aL (e:Nat):Nat->List (List Wr)->List (List Int)
 | _,[]=>[]
 | s,l :: Rs=>putL 0 e s l++aL e (s+1) Rs
theorem yX.cut {W:World} {R:Nat->Prop} {A:Option Addr} {e:List (List Int)} {c k:Nat} (h:yX W R A e) (m:e.length<=c):yX W R (GA A c k) (e.drop k):=fun i b f=>by
 rw [List.getElem?_drop] at f;have n:k+i<e.length:=(List.getElem?_eq_some_iff.1 f).1;obtain ⟨a,B,d,rfl,g,j,l⟩:=h _ _ f;refine ⟨a.add k,B,d,?_,by rw [di];exact g,by rw [ji];exact j,l⟩;unfold GA;rw [if_neg Ha,Nat.mul_one];rfl
theorem nW.txR {W:World} {base:Nat} {v:Value} {vs:List Value} {d:List (List Int)} (h:nW W base v vs d) (f:∀ b∈d,b.length=64):∃ A c,v=.slice A d.length c/\d.length<=c/\c<=9223372036854775807/\yX W (fun k=>base<=k/\k<W.heap.size) A d:=by
 obtain ⟨A,c,rfl,o,q⟩:=h.row.val;refine ⟨A,c,rfl,o,q,fun i b l=>?_⟩;obtain ⟨p,r,n,h5⟩:=h.blk i b l;have s:=(List.getElem?_eq_some_iff.1 l).1;obtain ⟨g,t,u,w,m,_,_,y,_⟩:=h.row.pos Ha;injection u with z H I
 subst z;have B:=f b (List.mem_of_getElem? l);refine ⟨_,some ⟨p,0,none⟩,64,rfl,⟨w,m⟩,?_,Ha,Ha,fun j x hj=>?_⟩
 ·rw [dU,y i Ha,r,B]
 ·obtain ⟨a,e,C⟩:=gC (bs:=b) n Hb j x hj;injection e with e;subst e
  exact ⟨_,rfl,⟨h5,ah n⟩,C⟩
theorem yX.tx {W:World} {R:Nat->Prop} {A:Option Addr} {f:List (List Int)} (h:yX W R A f):Tx W A f:=fun i b g=>by
 obtain ⟨a,B,d,e,_,k,l,m,h5⟩:=h i b g;exact ⟨a,B,d,e,k,l,m,fun j x hj=>let ⟨c,e2,_,h7⟩:=h5 j x hj;⟨c,e2,h7⟩⟩
theorem gj.wrsR {W:World} {base:Nat} {v:Value} {l:List Wr} (h:gj W base v l) (c:xo l):∃ A d,v=.slice A l.length d/\l.length<=d/\d<=9223372036854775807/\mY W (fun k=>base<=k/\k<W.heap.size) A l:=by
 obtain ⟨A,d,rfl,e,f,j⟩:=h.wrs c;refine ⟨A,d,rfl,e,f,fun i x m=>?_⟩;obtain ⟨a,rfl,n⟩:=j i x m;refine ⟨a,rfl,n,?_⟩;rcases h.2 with ⟨b,_⟩ | ⟨g,o,p,b,q,r,_⟩
 ·cases b
 ·injection b with b;injection b with b;subst b
  exact ⟨q,ah r⟩
def Ly (hp base n c N:Nat) (e k:Int) (A:Option Addr) (b:Bool) (tv:List Wr) (i:Nat) (v:Value) (w:World):Prop :=
 match i with
 | 0 | 1 | 2 | 5 | 6=>v=.pointer (some ⟨hp,0,none⟩)
 | 3=>v=.pointer (some ⟨hp,2,none⟩)
 | 4=>v=.int .u8 0
 | 7=>v=.pointer (some ⟨hp,9,none⟩)
 | 8=>v=.int .u32 (e:Int)
 | 9=>v=.int .u32 (k:Int)
 | 10=>v=.slice A n c
 | 14 | 17=>v=.int .i64 N
 | 15=>v=.bool b
 | 11=>∃ u,v=.tuple #[u,.int .i64 N,.bool b]/\gj w base u tv
 | 12=>∃ u,v=.tuple #[u,.int .i64 N,.bool b]/\gj w base u tv
 | 13=>gj w base v tv
 | 16=>gj w base v tv
 | _=>True
def Bg (w0 W:World) (P:Nat->Prop) (q:Nat) (m:DM) (hp rb:Nat) (v:VM) (Rs:List (List Wr)) (rest:List (List Int)) (R:Act) (w':World):Prop :=
 ∃ (b:Nat->Prop) (k:Nat) (a:List (List Int)) (A:Option Addr) (c:Nat),(∀ k,P k->b k)/\Hid (SV w0 w' b q m hp rb { v with B:=cY v.B (Rs.take k).flatten })/\Hid (bz (oW P hp rb) W w')/\k<=Rs.length/\Hid (a.length<=c)/\Hid (c<=9223372036854775807)/\Hid (yX w' (oW b hp rb) A a)/\Hid (sN a)/\Hid (a=aL v.ep k (Rs.drop k)++rest)/\∃ S T U V X Y d e f g h i j l n o p r s t u w x y z C H I u32 K L M N O:Value,R={ tmps:=#[.pointer (some ⟨hp,0,none⟩),undef,S,T,U,.slice A a.length c,.int .u32 k,V,X,Y,d,e,f,g,h,i,j,l,n,o,p,r,s,t,u,w,x,y,z,C,H,I,u32,K,L,M,N,O],defers:=[] }
theorem xE {w0 W:World} {P:Nat->Prop} {q:Nat} {m:DM} {hp rb:Nat} {v:VM} (h:SV w0 W P q m hp rb v) (L:List (List Int)) (t:L.length=v.g) (K:∀ i b,L[i]?=some b->iY m v.r ((2+i:Nat):Int)=some b) (b9:∀ b∈L,cQ b)
 (Rs:List (List Wr)) (rest:List (List Int)) (ca:∀ l∈Rs,bQ l/\bW l) (a:L=aL v.ep 0 Rs++rest) (M:¬ ge 0 v.ep Rs.length rest) (e2:Rs.length<=1000000) :
 Calls Tryz.prog 99 #[.pointer (some ⟨hp,0,none⟩)] W fun e w'=>e=.returned (.tuple #[])/\SV w0 w' P q m hp rb { v with B:=cY v.B Rs.flatten }/\bz (oW P hp rb) W w':=by
 have HV:=He h;have HL:=He t;have e3:=He K;have cb:=He b9;have eB:=He ca;have cc:=He a;have eC:=He M;have cg:=He (And.intro h.ph h.pr);have ch:=He (Ev (h.ds.rd v.r h.at_.r) v.n v.g v.fr h.at_.g L t K);clear h t K b9 ca a M;obtain ⟨WW,rfl⟩:∃ WW,WW=W:=⟨W,rfl⟩
 go_enter Tryz.func99,Tryz.ntmps99;go_wp2;refine bq (Bg w0 WW P q m hp rb v Rs rest) (fun a' _=>Rs.length-(intOf (a'.tmps.getD 6 undef)).toNat) rfl ?_ ?_
 ·intro ci;have HF:=He ci;clear ci;go_wp2_with (with_reducible refine wpList_load_mid rfl 115 (.tmp 9) rfl hp 0 rfl (pK (some ⟨q,0,none⟩) v.r v.n v.g v.fr) _ HV.out.at_.rangeG Tryz.underlying115 rfl (by rw [show (pK (some ⟨q,0,none⟩) v.r v.n v.g v.fr).length=8 from rfl];exact oU) ?_)
  refine ch.out.mono ?_;rintro e W1 ⟨⟨u,vs,rfl,ck⟩,I⟩;obtain ⟨A,c,rfl,cl,cn,cp⟩:=ck.txR (fun b hb=>(cb.out b hb).1);have a1:=HV.out.grow I (Q:=fun k=>WW.heap.size<=k/\k<W1.heap.size) (fun k x=>x);have Z:=HV.out.ds.low _ HV.out.ph;have ad:=HV.out.ds.low _ HV.out.pr;have hj:∀ (a':Act),(∃ u2 u3 u4 u7 u8 u9 cq cr cu cv cw cx cz cA cP c0 c1 c3 c4 c5 c6 c7 c8 c9 da dc dg dl u32 dn dv dT d1 d2:Value,a'={ tmps:=#[.pointer (some ⟨hp,0,none⟩),undef,u2,u3,u4,.slice A L.length c,.int .u32 0,u7,u8,u9,cq,cr,cu,cv,cw,cx,cz,cA,cP,c0,c1,c3,c4,c5,c6,c7,c8,c9,da,dc,dg,dl,u32,dn,dv,dT,d1,d2],defers:=[] })->Bg w0 WW P q m hp rb v Rs rest a' W1:=fun a' ha=>⟨_,0,L,A,c,fun k x=>Or.inl x,a1,bz.rst (HV.out.same I),Nat.zero_le _,cl,cn,cp.mono (fun k x=>⟨Or.inr x,Ha,Ha⟩),(fun b hb=>(cb.out b hb).2),cc.out,ha⟩
  have eD:=He hj;clear ck I cl cn cp a1 Z ad hj ch;go_wp2;go_step3;rename_i hK;exact hK _ _ (HF.out _ _ (eD.out _ ⟨_,_,_,_,_,_,_,_,_,_,_,_,_,_,_,_,_,_,_,_,_,_,_,_,_,_,_,_,_,_,_,_,_,_,rfl⟩))
 ·rintro a' O ⟨P',k,H,A,c,R,o,eE,e4,a5,d4,d5,a6,d6,u2,u3,u4,u7,u8,u9,cq,cr,cu,cv,cw,cx,cz,cA,cP,c0,c1,c3,c4,c5,c6,c7,c8,c9,da,dc,dg,dl,u32,dn,dv,dT,d1,d2,rfl⟩;have HC:=He (fun (W':World) (a7:Below O.heap.size O W')=>(o.out.at_.below a7).cs);have d7:=He (fun (W':World) (a7:Below O.heap.size O W')=>Ep 0 v.ep k A H H.length c W' Ha o.out.at_.ep Ha rfl a5.out d4.out a6.out ((d5.out.tx).keep a7));have d8:Hid (xo (kT 0 v.ep k H)):=(Eh a6.out).len;generalize S:nR 0 v.ep k H=N at *;generalize z:kT 0 v.ep k H=U at *;generalize d9:decide (ge 0 v.ep k H)=b at *;have ea:=He (And.intro z S);have eb:=He d9;generalize ec:H.length=n at *;have a8:=He ec;clear S z d9 ec;go_upto_region 5 with fail
  refine ax (Ly hp O.heap.size n c N v.ep k A b U) (fun _ W=>Below O.heap.size O W) (fun _ w w'=>Below w.heap.size w w') Hc Hc (fun i j v w w' _ _ h hs=>by revert h;unfold Ly;split <;> intro h <;> first | exact h | (obtain ⟨p,h1,h2⟩:=h;exact ⟨p,h1,ic h2 hs⟩) | exact ic h hs | trivial) ((Below.refl _ _).drew) ?_;simp only [cf];refine ⟨?_,?_,?_,?_,?_,?_,?_,?_,?_,?_,?_,?_,?_,?_,?_,?_,?_,?_,?_⟩
  ·refine aa.of rfl fun T W L hag t hJ a hd=>?_;have e0:=Hf hag 0;exact Hh
  ·refine aa.of rfl fun T W L hag t hJ a hd=>?_;have a9:T.getD 13 undef=_:=Hg hd 0 rfl;exact Hh
  ·refine aa.of rfl fun T W L hag t hJ a hd=>?_;have bb:T.getD 14 undef=_:=Hg hd 1 rfl;exact Hh
  ·refine aa.of rfl fun T W L hag t hJ a hd=>?_;have bi:T.getD 15 undef=_:=Hg hd 2 rfl;exact Hh
  ·refine aa.of rfl fun T W L hag t hJ a hd=>?_;have bk:T.getD 16 undef=_:=Hg hd 3 rfl;obtain ⟨z0,z1,z2,z3,z4,z5,z6,z7,z8,z9,eF,eG⟩:=HC.out W hJ;exact Hh
  ·refine aa.of rfl fun T W L hag t hJ a hd=>?_;have e0:=Hf hag 0;exact Hh
  ·refine aa.of rfl fun T W L hag t hJ a hd=>?_;have bl:T.getD 18 undef=_:=Hg hd 5 rfl;exact Hh
  ·refine aa.of rfl fun T W L hag t hJ a hd=>?_;have bn:T.getD 19 undef=_:=Hg hd 6 rfl;exact Hh
  ·refine aa.of rfl fun T W L hag t hJ a hd=>?_;have bs:T.getD 20 undef=_:=Hg hd 7 rfl;obtain ⟨z0,z1,z2,z3,z4,z5,z6,z7,z8,z9,eF,eG⟩:=HC.out W hJ;exact Hh
  ·refine aa.of rfl fun T W L hag t hJ a hd=>?_;have e6:=Hf hag 6;exact Hh
  ·refine aa.of rfl fun T W L hag t hJ a hd=>?_;have e5:=Hf hag 5;exact Hh
  ·refine aa.of rfl fun T W L hag t hJ a hd=>?_;have bt:T.getD 17 undef=_:=Hg hd 4 rfl;have bx:T.getD 21 undef=_:=Hg hd 8 rfl;have b0:T.getD 22 undef=_:=Hg hd 9 rfl;have b1:T.getD 23 undef=_:=Hg hd 10 rfl;clear hag hd;go_simp;refine (d7.out W hJ).mono ?_;rintro e w' ⟨u,rfl,hu,hb⟩;exact ⟨_,rfl,⟨_,rfl,World.ownsRow.mono hu hJ.size⟩,aR hJ hb,hb⟩
  ·refine aa.of rfl fun T W L hag t hJ a hd=>?_;have eH:=Hg hd 11 rfl;obtain ⟨u,(hs:T.getD 24 undef=_),hp⟩:=eH;clear hag hd;go_simp;exact ⟨_,rfl,⟨_,rfl,hp⟩,ag _⟩
  ·refine aa.of rfl fun T W L hag t hJ a hd=>?_;have V:=Hg hd 12 rfl;obtain ⟨u,(hs:T.getD 12 undef=_),hp⟩:=V;clear hag hd;go_simp;exact ⟨_,rfl,hp,ag _⟩
  ·refine aa.of rfl fun T W L hag t hJ a hd=>?_;have V:=Hg hd 12 rfl;obtain ⟨u,(hs:T.getD 12 undef=_),hp⟩:=V;exact Hh
  ·refine aa.of rfl fun T W L hag t hJ a hd=>?_;have V:=Hg hd 12 rfl;obtain ⟨u,(hs:T.getD 12 undef=_),hp⟩:=V;exact Hh
  ·refine aa.of rfl fun T W L hag t hJ a hd=>?_;have ed:=Hg hd 13 rfl;have ee:gj W O.heap.size (T.getD 25 undef) U:=ed;clear hag hd ed;go_simp;exact ⟨_,rfl,(by show gj W O.heap.size (T[25]?.getD undef) U;simpa using ee),ag _⟩
  ·refine aa.of rfl fun T W L hag t hJ a hd=>?_;have b2:T.getD 26 undef=_:=Hg hd 14 rfl;exact Hh
  ·refine bm.of rfl fun T W L hag a t hJ hd=>?_;have ef:T.getD 27 undef=_:=hd 15 _ Hb rfl;obtain ⟨f,y,hT⟩:=aJ hag;have a9:T.getD 13 undef=_:=hd 0 _ Hb rfl;have eI:=(y 13).trans a9;have bb:T.getD 14 undef=_:=hd 1 _ Hb rfl;have eJ:=(y 14).trans bb;have bi:T.getD 15 undef=_:=hd 2 _ Hb rfl;have eK:=(y 15).trans bi;have bk:T.getD 16 undef=_:=hd 3 _ Hb rfl;have eL:=(y 16).trans bk;have bt:T.getD 17 undef=_:=hd 4 _ Hb rfl;have eM:=(y 17).trans bt;have bl:T.getD 18 undef=_:=hd 5 _ Hb rfl;have eN:=(y 18).trans bl;have bn:T.getD 19 undef=_:=hd 6 _ Hb rfl;have eO:=(y 19).trans bn;have bs:T.getD 20 undef=_:=hd 7 _ Hb rfl;have eP:=(y 20).trans bs;have bx:T.getD 21 undef=_:=hd 8 _ Hb rfl;have eQ:=(y 21).trans bx;have b0:T.getD 22 undef=_:=hd 9 _ Hb rfl;have eR:=(y 22).trans b0;have b1:T.getD 23 undef=_:=hd 10 _ Hb rfl;have eS:=(y 23).trans b1;have b2:T.getD 26 undef=_:=hd 14 _ Hb rfl;have eT:=(y 26).trans b2;have eU:=(y 27).trans ef;have d3:T.getD 3 undef=_:=hd 17 _ Hb rfl;have h3:=(y 3).trans d3;have HJ:=He hJ;have x2:gj W O.heap.size (T.getD 2 undef) U:=hd 16 _ Hb rfl;obtain ⟨B,c2,hv,I,eg,eh⟩:=gj.wrsR x2 d8.out;have h2:=(y 2).trans hv;have eV:=He eh;have ei:=He (And.intro I eg);clear x2 hv eh I eg;clear hag hd a9 bb bi bk bt bl bn bs bx b0 b1 b2 ef d3 hJ y;rw [hT];clear hT;simp only [List.pop_toArray,List.dropLast_cons_cons,List.dropLast_singleton,List.filterMap_cons,List.filterMap_nil,List.foldl_cons,List.foldl_nil,List.setIfInBounds_toArray,List.set_cons_succ,List.set_cons_zero,eI,eJ,eK,eL,eM,eN,eO,eP,eQ,eR,eS,eT,eU,h3];simp only [h2];have ej:=He (o.out.grow HJ.out (Q:=fun k=>O.heap.size<=k/\k<W.heap.size) (fun k x=>x));have ek:=He (eE.out.trans (bz.rst ((o.out.same HJ.out).mono R)));have el:=He (d5.out.same (bz.rst (o.out.same HJ.out)));have Z:=o.out.ds.low _ o.out.ph;have ad:=o.out.ds.low _ o.out.pr;have a2:=He (And.intro Z ad);clear Z ad d7 HC;by_cases b3:k=Rs.length
   ·have M:b=false:=by
     rw [<- eb.out];refine decide_eq_false ?_;rw [d6.out,b3,List.drop_length];exact eC.out
    have em:cY v.B (Rs.take k).flatten=cY v.B Rs.flatten:=by rw [b3,List.take_length]
    have HF:Hid (SV w0 W P q m hp rb { v with B:=cY v.B Rs.flatten }):=by
     have h3:=ej.out.mono (P':=P) (fun k x=>Or.inl (R k x)) cg.out.1 cg.out.2;rw [<- em];exact h3
    rw [M];clear M em b3;go_wp2;simp only [Exit.jump];refine bodyPost_ret (results_none rfl _ _ _) rfl ⟨rfl,HF.out,ek.out⟩
   ·have b4:k<Rs.length:=Ha;obtain ⟨l,hl⟩:∃ l,Rs[k]?=some l:=⟨_,List.getElem?_eq_getElem b4⟩
    have C:=eB.out l (List.mem_of_getElem? hl);have en:Rs.drop k=l :: Rs.drop (k+1):=by rw [List.drop_eq_getElem_cons b4,(List.getElem?_eq_some_iff.1 hl).2]
    have X:H=putL 0 v.ep k l++(aL v.ep (k+1) (Rs.drop (k+1))++rest):=by rw [d6.out,en];show (putL 0 v.ep k l++aL v.ep (k+1) (Rs.drop (k+1)))++rest=_;rw [List.append_assoc]
    have b5:=o.out.at_.ep;have eo:b=true:=by
     rw [<- eb.out,X];exact decide_eq_true ((tM C.1 C.2 b5 b5 Ha Ha).2 ⟨rfl,rfl,rfl⟩)
    have z:=CD (lb:=0) (e:=v.ep) (s:=k) (rest:=aL v.ep (k+1) (Rs.drop (k+1))++rest) C.1 C.2 b5 Ha;rw [<- X] at z;have eq:U=l:=by rw [<- ea.out.1];exact z.1
    have S:N=1+l.length:=by rw [<- ea.out.2];exact z.2
    rw [eo];subst eq;have er:n=H.length:=a8.out.symm;have b6:(putL 0 v.ep k U).length=N:=by rw [bG,S]
    have eW:N<=n:=by rw [er,X,List.length_append,b6];omega
    have es:=xB ej.out B U U.length c2 rfl ei.out.1 ei.out.2 C.2 C.1.kinds (eV.out.mono fun k x=>⟨Or.inr x,by have:=a2.out.1;omega,by have:=a2.out.2;omega⟩);have et:=He es;have eu:Hid (H.drop N=aL v.ep (k+1) (Rs.drop (k+1))++rest):=by
     unfold Hid;rw [X,<- b6];exact List.drop_left
    have eX:Hid (cY (cY v.B (Rs.take k).flatten) U=cY v.B (Rs.take (k+1)).flatten):=by
     unfold Hid;rw [aw hl,List.flatten_append,lz];simp
    have e7:=He eW;have wk:IntKind.u32.wrap ((k:Int)+1)=((k+1:Nat):Int):=by rw [IntWalk.u32_in _ Ha];omega
    have eZ:(N:Int)<=n:=Ha;have eY:=a5.out;have e8:(N:Int)<=c:=Ha;have e9:(n:Int)<=c:=Ha;have an:=He b4;have ev:Hid (sN (H.drop N)):=fun b hb=>a6.out b (List.mem_of_mem_drop hb);clear eo z b6 es X en C hl er S eY;generalize U.length=tl at *;go_wp2_with fail
    refine et.out.mono ?_;rintro e W7 ⟨rfl,h7,b8⟩;have ew:=h7.mono (P':=P') (fun k x=>Or.inl x) o.out.ph o.out.pr;have ex:(cY (cY v.B (Rs.take k).flatten) U)=cY v.B (Rs.take (k+1)).flatten:=eX.out;have ey:Hid (SV w0 W7 P' q m hp rb { v with B:=cY v.B (Rs.take (k+1)).flatten }):=by
     rw [<- ex];exact ew
    have ez:=He (ek.out.trans (b8.mono fun k x=>⟨Or.inl (R k x.1),x.2⟩));have a3:=(el.out.same (b8.mono fun k x=>⟨Or.inl x.1,x.2⟩)).cut (c:=c) (k:=N) (by rw [a8.out];omega);have a4:=He a3;clear h7 b8 ew ex a3 et;have a0:Hid ((H.drop N).length=n-N):=by unfold Hid;rw [List.length_drop,a8.out]
    by_cases eA:c=N
    ·subst eA;have d:=a4.out;unfold GA at d;rw [if_pos rfl] at d;have Y:=He d;clear d;go_wp2;go_step3;refine ⟨rfl,(show Bg w0 WW P q m hp rb v Rs rest _ W7 from ⟨P',k+1,H.drop c,A,0,R,ey.out,ez.out,by have:=an.out;omega,(by rw [a0.out];unfold Hid;omega),by unfold Hid;omega,Y.out,ev.out,eu.out,_,_,_,_,_,_,_,_,_,_,_,_,_,_,_,_,_,_,_,_,_,_,_,_,_,_,_,_,_,_,_,_,_,_,(by rw [a0.out,show ((k+1:Nat):Int)=(k:Int)+1 from rfl])⟩),?_⟩;have:=an.out;simp [intOf];omega
    ·have d:=a4.out;unfold GA at d;rw [if_neg eA,Nat.mul_one] at d;have Y:=He d;have e1:¬ ((c:Int)=N):=Ha;clear d;go_wp2;go_step3;refine ⟨rfl,(show Bg w0 WW P q m hp rb v Rs rest _ W7 from ⟨P',k+1,H.drop N,A.map (·.add N),c-N,R,ey.out,ez.out,by have:=an.out;omega,(by rw [a0.out];have:=a5.out;unfold Hid;omega),(by have:=d4.out;unfold Hid;omega),Y.out,ev.out,eu.out,_,_,_,_,_,_,_,_,_,_,_,_,_,_,_,_,_,_,_,_,_,_,_,_,_,_,_,_,_,_,_,_,_,_,(by rw [a0.out,show ((k+1:Nat):Int)=(k:Int)+1 from rfl])⟩),?_⟩;have:=an.out;simp [intOf];omega
end Go.Proofs.YtegjelaejbacnaaGreat
