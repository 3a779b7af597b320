/- For FileForms: contracts and facts, part 10. -/
import Derived.Test.YtegjelaejbacnaaGreatW01
import Derived.Test.YtegjelaejbacnaaGreatW09
set_option maxRecDepth 100000
set_option maxHeartbeats 25600000
set_option linter.unusedVariables false
open Go.ChangeShapes Go.WideShapes Go.ChangeAt Go.RowKit
namespace Go.Proofs.YtegjelaejbacnaaGreat
def jV (x:HB):HB:={ x with lg:=false }
def bO (r:Int) (g:Nat):DM->Nat->List HB->DM
 | m,_,[]=>m
 | m,o,x :: l=>bO r g (if x.lg then m.doWrite r ((2+g+o:Nat):Int) (cC 0 x.k o x.bs) else m) (o+1) l
theorem mn (r:Int) (g:Nat):∀ (l:List HB) (m:DM) (o:Nat) (x:HB),bO r g m o (l++[x])=if x.lg then (bO r g m o l).doWrite r ((2+g+(o+l.length):Nat):Int) (cC 0 x.k (o+l.length) x.bs) else bO r g m o l
 | [],m,o,x=>rfl
 | y :: l,m,o,x=>by
   show bO r g _ (o+1) (l++[x])=_;rw [mn r g l _ (o+1) x,List.length_cons,show o+1+l.length=o+(l.length+1) by omega];rfl
theorem kd (r:Int) (g:Nat):∀ (l:List HB) (m:DM) (o:Nat),(bO r g m o l).done.length<=m.done.length+l.length
 | [],m,o=>by simp [bO]
 | x :: l,m,o=>by
   have h1:=kd r g l (if x.lg then m.doWrite r ((2+g+o:Nat):Int) (cC 0 x.k o x.bs) else m) (o+1);have h2:=fD m r ((2+g+o:Nat):Int) (cC 0 x.k o x.bs);show (bO r g _ _ l).done.length<=_;rw [List.length_cons];split at h1 <;> rename_i hq <;> simp only [hq] <;> first | (simp only [if_true];omega) | (simp;omega)
theorem zF {α:Type} {l:List α} {k:Nat} {x:α} (h:l[k]?=some x):l.set k x=l:=by
 obtain ⟨h1,h2⟩:=List.getElem?_eq_some_iff.1 h;rw [<- h2];exact List.set_getElem_self h1
def mp (B:List HB) (k:Nat):List HB:=(B.take k).map jV++B.drop k
theorem zG {B:List HB} {k:Nat} {x:HB} (h:B[k]?=some x):(mp B k)[k]?=some x:=by
 have hl:=(List.getElem?_eq_some_iff.1 h).1;unfold mp;rw [List.getElem?_append_right (by simp;omega)];simp only [List.length_map,List.length_take,List.getElem?_drop];rw [show k+(k-min k B.length)=k by omega];exact h
theorem sH {B:List HB} {k:Nat} {x:HB} (h:B[k]?=some x):mp B (k+1)=(mp B k).set k (jV x):=by
 have hl:=(List.getElem?_eq_some_iff.1 h).1;have hlen:((B.take k).map jV).length=k:=by simp;omega
 unfold mp;rw [au h,List.map_append,List.set_append_right _ _ Ha,hlen,Nat.sub_self,List.drop_eq_getElem_cons hl,(List.getElem?_eq_some_iff.1 h).2,List.append_assoc];rfl
theorem Be {B:List HB} {k:Nat} {x:HB} (h:B[k]?=some x) (hx:x.lg=false):mp B (k+1)=mp B k:=by
 rw [sH h];have:jV x=x:=by unfold jV;rw [<- hx]
 rw [this];exact zF (zG h)
theorem Da (B:List HB) {k:Nat} (h:B.length<=k):mp B k=B.map jV:=by unfold mp;rw [List.take_of_length_le h,List.drop_of_length_le h,List.append_nil]
theorem aM.setL {W:World} {q hp rb:Nat} {v:VM} (h:aM W q hp rb v) (hne:hp≠rb) {i:Nat} {x:HB} {b:Bool} (hi:v.B[i]?=some x):aM (W.setCell ⟨rb,i*58+57,none⟩ (.bool b)) q hp rb { v with B:=v.B.set i { x with lg:=b } }:=by
 have hx:=h.ok x (List.mem_of_getElem? hi);refine { h with len:=by rw [List.length_set];exact h.len,ok:=h.ok.set ⟨hx.k,hx.len,hx.b⟩,hd:=?_,row:=?_ }
 ·rw [Below.heap_setCell W ⟨rb,i*58+57,none⟩ _ hp hne];exact h.hd
 ·rw [ah h.row]
  congr 2
  rw [List.setIfInBounds_toArray]
  congr 1
  refine m8 (k:=i) (x:=x) (y:={ x with lg:=b }) (j:=57) h.ok.fits hi Ha ?_;unfold hbL;rw [List.set_append_right _ _ (by rw [aZ hx.len];omega),aZ hx.len];rfl
theorem SV.setL {w0 W:World} {P:Nat->Prop} {q:Nat} {m:DM} {hp rb:Nat} {v:VM} (h:SV w0 W P q m hp rb v) {i:Nat} {x:HB} {b:Bool} (hi:v.B[i]?=some x) :
 SV w0 (W.setCell ⟨rb,i*58+57,none⟩ (.bool b)) P q m hp rb { v with B:=v.B.set i { x with lg:=b } }/\bv (n8 P hp rb) W (W.setCell ⟨rb,i*58+57,none⟩ (.bool b)) :=
 h.own ((aD.refl _ _).setCell (F:=fun k=>k=hp\/k=rb) (Or.inr rfl) _) (h.at_.setL h.ne hi)
def fg (m:DM) (v:VM):DM:=(bO v.r v.g m 0 v.B).doBegin v.r (v.ep+1)
def gG (v:VM):VM:={ v with B:=v.B.map jV,ep:=v.ep+1,sq:=0,us:=0 }
def JB (q hp rb n g k:Nat) (r fr xk:Int) (xb:List Int) (i:Nat) (v:Value) (w:World):Prop :=
 match i with
 | 0 | 1 | 2=>v=.pointer (some ⟨hp,0,none⟩)
 | 3=>v=.agg (bH (some ⟨q,0,none⟩) r n g fr)
 | 4=>v=.int .i64 (k:Int)
 | 5 | 6 | 7=>v=.pointer (some ⟨rb,k*58,none⟩)
 | 8=>v=.agg (ab xk xb)
 | _=>True
def JC (q hp n g e:Nat) (r fr:Int) (i:Nat) (v:Value) (w:World):Prop :=
 match i with
 | 0 | 1 | 2 | 4 | 5=>v=.pointer (some ⟨hp,0,none⟩)
 | 3=>v=.agg (bH (some ⟨q,0,none⟩) r n g fr)
 | 6=>v=.pointer (some ⟨hp,9,none⟩)
 | 7=>v=.int .u32 (e:Int)
 | _=>True
theorem oO {w0 W:World} {P:Nat->Prop} {q:Nat} {m:DM} {hp rb:Nat} {v:VM} (h:SV w0 W P q m hp rb v) (hep:v.ep+1<4294967296) (hmax:m.done.length<=999000) :
 Calls Tryz.prog 101 #[.pointer (some ⟨hp,0,none⟩)] W fun e w'=>e=.returned (.tuple #[])/\SV w0 w' P q (fg m v) hp rb (gG v)/\bv (n8 P hp rb) W w':=by
 have HV:=He h;have HMX:=He hmax;have c8:=h.at_.c8;have HNG:=He (And.intro h.at_.n h.at_.g);have HR:=He h.at_.r;have HL:=He h.at_.len;unfold fg gG;clear h hmax;have hn2:=HNG.out.1;go_enter Tryz.func101,Tryz.ntmps101;go_wp2;clear c8
 go_loopw [9] (fun i wr=>∃ k:Nat,i=.int .i64 k/\k<=v.n/\Hid (SV w0 wr P q (bO v.r v.g m 0 (v.B.take k)) hp rb { v with B:=mp v.B k })/\Hid (bv (n8 P hp rb) W wr)) (fun i _=>v.n-(intOf i).toNat)
 case atStart=>exact ⟨0,rfl,Ha,HV.out,bv.refl _ _⟩
 case round =>
  obtain ⟨kk,rfl,hk,HSV,HSM⟩:=hrel;obtain ⟨w5,rfl⟩:∃ w5,w5=wr:=⟨wr,rfl⟩
  by_cases hlt:kk<v.n
  ·obtain ⟨x,hx⟩:∃ x,v.B[kk]?=some x:=⟨_,List.getElem?_eq_getElem (by rw [HL.out];exact hlt)⟩
   have HXB:Hid ((mp v.B kk)[kk]?=some x):=zG hx;have HXO:=He (HV.out.at_.ok x (List.mem_of_getElem? hx));have HTL:Hid ((v.B.take kk).length=kk):=by unfold Hid;rw [List.length_take,HL.out];omega
   have HTK:Hid (v.B.take (kk+1)=v.B.take kk++[x]):=au hx;have z8:w5.cell? ⟨hp,8,none⟩=some (.slice (some ⟨rb,0,none⟩) v.n v.n):=HSV.out.at_.c8;have zl:w5.cell? ⟨rb,kk*58+57,none⟩=some (.bool x.lg):=HSV.out.at_.lg HXB.out;have hki:(kk:Int)<v.n:=Ha;have HX:=He hx;clear hx;cases hlg:x.lg
   ·have HB2:Hid (mp v.B (kk+1)=mp v.B kk):=Be HX.out hlg;have HM2:Hid (bO v.r v.g m 0 (v.B.take (kk+1))=bO v.r v.g m 0 (v.B.take kk)):=by unfold Hid;rw [HTK.out,mn,hlg];rfl
    rw [hlg] at zl;clear hlg;go_wp2
    go_roundw
    case rel =>
     refine ⟨kk+1,by go_num,Ha,?_,HSM.out⟩;rw [HB2.out,HM2.out];exact HSV.out
    case measure=>simp [intOf];omega
   ·have HB2:Hid (mp v.B (kk+1)=(mp v.B kk).set kk { x with lg:=false }):=sH HX.out;have HM2:Hid (bO v.r v.g m 0 (v.B.take (kk+1))=(bO v.r v.g m 0 (v.B.take kk)).doWrite v.r ((2+v.g+kk:Nat):Int) (cC 0 x.k kk x.bs)):=by unfold Hid;rw [HTK.out,mn,hlg,HTL.out,Nat.zero_add];rfl
    have HM:Hid ((bO v.r v.g m 0 (v.B.take kk)).done.length<=1000000):=by
     have h1:=kd v.r v.g (v.B.take kk) m 0;have h2:=HMX.out;rw [HTL.out] at h1;unfold Hid;omega
    have HC:=He (fun (W':World) (hb':Below w5.heap.size w5 W')=>(HSV.out.at_.below hb').cs);have HRB:=He (fun (W':World) (hb':Below w5.heap.size w5 W')=>(HSV.out.at_.below hb').rangeB HXB.out);rw [hlg] at zl;clear hlg;go_upto_region 5 with fail
    refine aw (JB q hp rb v.n v.g kk v.r v.fr x.k x.bs) (fun _ W=>Below w5.heap.size w5 W) (fun _ w w'=>Below w.heap.size w w') Hc Hc (fun i j v w w' _ _ h hs=>by unfold JB at *;exact h) ((Below.refl _ _).drew) ?_;simp only [bW];refine ⟨?_,?_,?_,?_,?_,?_,?_,?_,?_,?_⟩
    ·refine aa.of rfl fun T W L hag hL hJ hLs hd=>?_;have e0:=Hf hag 0;exact Hh
    ·refine aa.of rfl fun T W L hag hL hJ hLs hd=>?_;have d22:T.getD 22 undef=_:=Hg hd 0 rfl;exact Hh
    ·refine aa.of rfl fun T W L hag hL hJ hLs hd=>?_;have d23:T.getD 23 undef=_:=Hg hd 1 rfl;exact Hh
    ·refine aa.of rfl fun T W L hag hL hJ hLs hd=>?_;have d24:T.getD 24 undef=_:=Hg hd 2 rfl;obtain ⟨z0,z1,z2,z3,z4,z5,z6,z7,z8,z9,z10,z11⟩:=HC.out W hJ;exact Hh
    ·refine aa.of rfl fun T W L hag hL hJ hLs hd=>?_;have e2:=Hf hag 2;exact Hh
    ·refine aa.of rfl fun T W L hag hL hJ hLs hd=>?_;have e3:=Hf hag 3;exact Hh
    ·refine aa.of rfl fun T W L hag hL hJ hLs hd=>?_;have d27:T.getD 27 undef=_:=Hg hd 5 rfl;exact Hh
    ·refine aa.of rfl fun T W L hag hL hJ hLs hd=>?_;have d28:T.getD 28 undef=_:=Hg hd 6 rfl;exact Hh
    ·refine aa.of rfl fun T W L hag hL hJ hLs hd=>?_;have d29:T.getD 29 undef=_:=Hg hd 7 rfl;clear hag;refine wp_load_mid 37 (.tmp 29) rfl rb (kk*58) d29 (blkL x.k x.bs) _ (HRB.out W hJ) Tryz.underlying37 rfl (by rw [aZ HXO.out.len];exact cO) ?_;exact ⟨_,rfl,rfl,hJ,ag _⟩
    ·refine bg.of rfl fun T W L hag hLs hL hJ hd=>?_;have d25:T.getD 25 undef=_:=hd 3 _ Hb rfl;have d26:T.getD 26 undef=_:=hd 4 _ Hb rfl;have d30:T.getD 30 undef=_:=hd 8 _ Hb rfl;obtain ⟨f,hf,hT⟩:=aH hag;have d22:T.getD 22 undef=_:=hd 0 _ Hb rfl;have h22:=(hf 22).trans d22;have d23:T.getD 23 undef=_:=hd 1 _ Hb rfl;have h23:=(hf 23).trans d23;have d24:T.getD 24 undef=_:=hd 2 _ Hb rfl;have h24:=(hf 24).trans d24;have h25:=(hf 25).trans d25;have h26:=(hf 26).trans d26;have d27:T.getD 27 undef=_:=hd 5 _ Hb rfl;have h27:=(hf 27).trans d27;have d28:T.getD 28 undef=_:=hd 6 _ Hb rfl;have h28:=(hf 28).trans d28;have d29:T.getD 29 undef=_:=hd 7 _ Hb rfl;have h29:=(hf 29).trans d29;have h30:=(hf 30).trans d30;have HJ:=He hJ;clear hag hd d22 d23 d24 d25 d26 d27 d28 d29 d30 hJ hf;rw [hT];clear hT;simp only [List.pop_toArray,List.dropLast_cons_cons,List.dropLast_singleton,List.filterMap_cons,List.filterMap_nil,List.foldl_cons,List.foldl_nil,List.setIfInBounds_toArray,List.set_cons_succ,List.set_cons_zero,h22,h23,h24,h25,h26,h27,h28,h29,h30];have hd:=HSV.out.below HJ.out;go_simp;refine (oM hd.ds v.r HR.out v.n v.g v.fr HNG.out.1 HNG.out.2 kk hlt x.k x.bs HXO.out.k HXO.out.len HXO.out.b HM.out).mono ?_;rintro e w' ⟨rfl,hd',hs⟩;have hst:=hd.step hd' hs;have hst2:=hst.setL (b:=false) HXB.out;have hsm:=((HSM.out.trans (bv.rst (HSV.out.same HJ.out))).trans hs.rst).trans hst2.2;have zl:=hst.at_.lg HXB.out;have fl:=hst.at_.fr (kk*58+57);have HST:=He hst2.1;have HSM3:=He hsm;clear hd hd' hs hst hst2 hsm HJ;go_wp2
     go_roundw
     case rel =>
      refine ⟨kk+1,by go_num,Ha,?_,HSM3.out⟩;rw [HM2.out,HB2.out];exact HST.out
     case measure=>simp [intOf];omega
  ·obtain rfl:kk=v.n:=Ha;have hki:¬ ((v.n:Int)<v.n):=Ha;have hsv:=HSV.out;rw [Da v.B (by rw [HL.out];exact Nat.le_refl _),List.take_of_length_le (by rw [HL.out];exact Nat.le_refl _)] at hsv;have h1:=kd v.r v.g v.B m 0;rw [HL.out] at h1;have HM:Hid ((bO v.r v.g m 0 v.B).done.length<=999990):=by have:=HMX.out;unfold Hid;omega
   have he:IntKind.u32.wrap ((v.ep:Int)+1)=((v.ep+1:Nat):Int):=by rw [IntWalk.u32_in _ Ha];omega
   obtain ⟨e1,he1⟩:∃ e1,e1=v.ep+1:=⟨_,rfl⟩
   rw [<- he1] at he hep;have HE1:Hid (e1<4294967296):=hep;have h2:=hsv.setHd (i:=9) (u:=.int .u32 (e1:Int)) (v':={ v with B:=v.B.map jV,ep:=e1 }) rfl rfl { hsv.at_.toOk with ep:=hep };have HS6:=He h2.1;have HFS6:=He (HSM.out.trans h2.2);have z9:w5.cell? ⟨hp,9,none⟩=some (.int .u32 v.ep):=hsv.at_.c9;have y9:=hsv.at_.f 9;have HE0:=He he1;clear h1 h2 hsv he1;generalize hmm:bO v.r v.g m 0 v.B=mm at *;have HMM:=He hmm;clear hmm;generalize hq6:w5.setCell ⟨hp,9,none⟩ (.int .u32 (e1:Int))=W6 at *;have HC:=He (fun (W':World) (hb':Below W6.heap.size W6 W')=>(HS6.out.at_.below hb').cs);go_upto_region 9 with fail
   clear hq6 z9 y9;refine aw (JC q hp v.n v.g e1 v.r v.fr) (fun _ W=>Below W6.heap.size W6 W) (fun _ w w'=>Below w.heap.size w w') Hc Hc (fun i j v w w' _ _ h hs=>by unfold JC at *;exact h) ((Below.refl _ _).drew) ?_;simp only [bW];refine ⟨?_,?_,?_,?_,?_,?_,?_,?_,?_⟩
   ·refine aa.of rfl fun T W L hag hL hJ hLs hd=>?_;have e0:=Hf hag 0;exact Hh
   ·refine aa.of rfl fun T W L hag hL hJ hLs hd=>?_;have d43:T.getD 43 undef=_:=Hg hd 0 rfl;exact Hh
   ·refine aa.of rfl fun T W L hag hL hJ hLs hd=>?_;have d44:T.getD 44 undef=_:=Hg hd 1 rfl;exact Hh
   ·refine aa.of rfl fun T W L hag hL hJ hLs hd=>?_;have d45:T.getD 45 undef=_:=Hg hd 2 rfl;obtain ⟨z0,z1,z2,z3,z4,z5,z6,z7,z8,z9,z10,z11⟩:=HC.out W hJ;exact Hh
   ·refine aa.of rfl fun T W L hag hL hJ hLs hd=>?_;have e0:=Hf hag 0;exact Hh
   ·refine aa.of rfl fun T W L hag hL hJ hLs hd=>?_;have d47:T.getD 47 undef=_:=Hg hd 4 rfl;exact Hh
   ·refine aa.of rfl fun T W L hag hL hJ hLs hd=>?_;have d48:T.getD 48 undef=_:=Hg hd 5 rfl;exact Hh
   ·refine aa.of rfl fun T W L hag hL hJ hLs hd=>?_;have d49:T.getD 49 undef=_:=Hg hd 6 rfl;obtain ⟨z0,z1,z2,z3,z4,z5,z6,z7,z8,z9,z10,z11⟩:=HC.out W hJ;exact Hh
   ·refine bg.of rfl fun T W L hag hLs hL hJ hd=>?_;have d46:T.getD 46 undef=_:=hd 3 _ Hb rfl;have d50:T.getD 50 undef=_:=hd 7 _ Hb rfl;obtain ⟨f,hf,hT⟩:=aH hag;have d43:T.getD 43 undef=_:=hd 0 _ Hb rfl;have h43:=(hf 43).trans d43;have d44:T.getD 44 undef=_:=hd 1 _ Hb rfl;have h44:=(hf 44).trans d44;have d45:T.getD 45 undef=_:=hd 2 _ Hb rfl;have h45:=(hf 45).trans d45;have h46:=(hf 46).trans d46;have d47:T.getD 47 undef=_:=hd 4 _ Hb rfl;have h47:=(hf 47).trans d47;have d48:T.getD 48 undef=_:=hd 5 _ Hb rfl;have h48:=(hf 48).trans d48;have d49:T.getD 49 undef=_:=hd 6 _ Hb rfl;have h49:=(hf 49).trans d49;have h50:=(hf 50).trans d50;have HJ:=He hJ;clear hag hd d43 d44 d45 d46 d47 d48 d49 d50 hJ hf;rw [hT];clear hT;simp only [List.pop_toArray,List.dropLast_cons_cons,List.dropLast_singleton,List.filterMap_cons,List.filterMap_nil,List.foldl_cons,List.foldl_nil,List.setIfInBounds_toArray,List.set_cons_succ,List.set_cons_zero,h43,h44,h45,h46,h47,h48,h49,h50];have hd:=HS6.out.below HJ.out;go_simp;refine (qg hd.ds v.r HR.out v.n v.g v.fr e1 HE1.out HM.out).mono ?_;rintro en w' ⟨rfl,hd',hs⟩;have h1:=hd.step hd' hs;have h2:=h1.setHd (i:=10) (u:=.int .u32 0) (v':={ v with B:=v.B.map jV,ep:=e1,sq:=0 }) rfl rfl { h1.at_.toOk with sq:=by show (0:Nat)<4294967296;omega };have h3:=h2.1.setHd (i:=11) (u:=.int .i64 0) (v':={ v with B:=v.B.map jV,ep:=e1,sq:=0,us:=0 }) rfl rfl { h2.1.at_.toOk with us:=by show (0:Nat)<=2000;omega };have HF:=He h3.1;have HFS:=He ((((HFS6.out.trans (bv.rst (HS6.out.same HJ.out))).trans hs.rst).trans h2.2).trans h3.2);have z10:=h1.at_.c10;have y10:=h1.at_.f 10;have z11:(w'.setCell ⟨hp,10,none⟩ (.int .u32 0)).cell? ⟨hp,11,none⟩=some (.int .i64 v.us):=h2.1.at_.c11;have y11:=h2.1.at_.f 11;clear hd hd' hs h1 h2 h3 HJ;go_wp2
    go_end0
    rw [<- HE0.out,HMM.out];exact ⟨rfl,HF.out,HFS.out⟩
theorem Bf {w0 W:World} {P:Nat->Prop} {q:Nat} {m:DM} {hp rb:Nat} {v:VM} (h:SV w0 W P q m hp rb v) (hep:v.ep+1<4294967296) (hmax:m.done.length<=998999) :
 Calls Tryz.prog 105 #[.pointer (some ⟨hp,0,none⟩)] W fun e w'=>e=.returned (.tuple #[])/\SV w0 w' P q (fg (m.doBarrier v.r) v) hp rb (gG v)/\bv (n8 P hp rb) W w':=by
 have HV:=He h;have HM:=He hmax;clear h hmax;go_enter Tryz.func105,Tryz.ntmps105;go_wp2_with (with_reducible refine wpList_load_mid rfl 115 (.tmp 6) rfl hp 0 rfl (oN (some ⟨q,0,none⟩) v.r v.n v.g v.fr) _ HV.out.at_.rangeG Tryz.underlying115 rfl (by rw [show (oN (some ⟨q,0,none⟩) v.r v.n v.g v.fr).length=8 from rfl];exact n6) ?_)
 refine (j9 HV.out.ds v.r HV.out.at_.r v.n v.g v.fr (by have:=HM.out;omega)).mono ?_;rintro e w1 ⟨rfl,hd,hs⟩;have h1:=HV.out.step hd hs;have hb:=cH m v.r;have HC:=He (oO h1 hep (by have:=HM.out;omega));have HS:=He (hs.rst (hp:=hp) (rb:=rb));clear hd hs h1 hb;go_wp2_with fail
 refine HC.out.mono ?_;rintro e w2 ⟨rfl,h2,hs2⟩;have HF:=He h2;have HFS:=He (HS.out.trans hs2);clear h2 hs2 HC;go_wp2
 go_end0
 exact ⟨rfl,HF.out,HFS.out⟩
theorem yc {P:Program} {a:Act} {w:World} {Q:Exit->Act->World->Prop} {c r0 r1:Code} (J0 J1:Act->World->Prop) (μ:Act->World->Nat)
 (h0:findLabel c 0=some r0) (h1:findLabel c 1=some (.seq .skip r1))
 (first:(∀ a w,J1 a w->r1.wp P (cB (fun l a w=>match l with | 0=>J0 a w | 1=>J1 a w | _=>False) Q) a w)->c.wp P (cB (fun l a w=>match l with | 0=>J0 a w | 1=>J1 a w | _=>False) Q) a w)
 (pass1:∀ a w,J1 a w->r1.wp P (cB (fun l a' w'=>match l with | 0=>J0 a' w' | 1=>J1 a' w'/\μ a' w'<μ a w | _=>False) Q) a w)
 (pass0:∀ a w,J0 a w->r0.wp P (cB (fun _ _ _=>False) Q) a w):(Code.scope c).wp P Q a w:=by
 refine gp (fun l a w=>match l with | 0=>J0 a w | 1=>J1 a w | _=>False) (fun l a w=>match l with | 1=>μ a w+1 | _=>0) ?_ (first fun a w h=>?_) ?_
 ·intro l a w h
  match l,h with
  | 0,_=>exact ⟨_,h0⟩
  | 1,_=>exact ⟨_,h1⟩
 ·refine wp_mono (pass1 a w h) ?_;intro e a' w' he;cases e with
  | goto l'=>match l',he with
    | 0,he=>exact he
    | 1,he=>exact he.1
  | _=>exact he
 ·intro l rest hl a w hJ
  match l,hJ with
  | 0,hJ =>
    rw [h0] at hl;injection hl with hl;subst hl
    refine wp_mono (pass0 a w hJ) ?_;intro e a' w' he;cases e with
    | goto l'=>exact he.elim
    | _=>exact he
  | 1,hJ =>
    rw [h1] at hl;injection hl with hl;subst hl
    refine wp_seq (wp_skip (wp_mono (pass1 a w hJ) ?_));intro e a' w' he;cases e with
    | goto l'=>match l',he with
      | 0,he=>exact ⟨he,Nat.succ_pos _⟩
      | 1,he=>exact ⟨he.1,Nat.succ_lt_succ he.2⟩
    | _=>exact he
theorem xA.mono {W:World} {R R':Nat->Prop} {A:Option Addr} {ls:List (List Int)} (h:xA W R A ls) (hR:∀ k,R k->R' k):xA W R' A ls:=fun i b hi =>
 let ⟨a,B,d,e,h1,h2,h3,h4,h5⟩:=h i b hi;⟨a,B,d,e,hR _ h1,h2,h3,h4,fun j x hj=>let ⟨c,e2,h6,h7⟩:=h5 j x hj;⟨c,e2,hR _ h6,h7⟩⟩
def jW (v:VM) (l:List Wr):Prop:=bM l/\dJ v l=true
instance (v:VM) (l:List Wr):Decidable (jW v l):=by unfold jW;infer_instance
def ip (m:DM) (v:VM):DM:=fg (m.doBarrier v.r) v
def jl (v:VM) (l:List Wr):Prop:=v.g-v.us<1+l.length
instance (v:VM) (l:List Wr):Decidable (jl v l):=by unfold jl;infer_instance
def oc (m:DM) (v:VM) (l:List Wr):DM:=je v.r m v.us (putL 0 v.ep v.sq l)
def ud (v:VM) (l:List Wr):VM:={ v with B:=cN v.B l,us:=v.us+(1+l.length),sq:=v.sq+1 }
def rB (m:DM) (v:VM) (l:List Wr):DM:=if jW v l then (if jl v l then oc (ip m v) (gG v) l else oc m v l) else m
def rC (v:VM) (l:List Wr):VM:=if jW v l then (if jl v l then ud (gG v) l else ud v l) else v
theorem bM.kinds {l:List Wr} (h:bM l):m9 l:=fun x hx=>(h.2.1 x hx).1
theorem vQ (e s:Nat) {l:List Wr} (hm:bM l) (hok:bS l):∀ b∈putL 0 e s l,cG b:=fun b hb=>by
 refine ⟨?_,sx e s Ha hm hok b hb⟩;unfold putL at hb;rcases List.mem_cons.1 hb with rfl | hb
 ·exact fc (by rw [ct];have:=hm.1.2;omega)
 ·obtain ⟨x,hx,rfl⟩:=List.mem_map.1 hb;exact fc (by rw [gz (hok x hx).len];exact Nat.le_refl _)
theorem qj (m:DM) (v:VM):(fg m v).done.length<=m.done.length+v.B.length+3:=by
 have h1:=kd v.r v.g v.B m 0;have h2:=cH (bO v.r v.g m 0 v.B) v.r;have h3:=fD ((bO v.r v.g m 0 v.B).doBarrier v.r) v.r (((v.ep+1)%2:Nat):Int) (ba 0 (v.ep+1));have h4:=cH (((bO v.r v.g m 0 v.B).doBarrier v.r).doWrite v.r (((v.ep+1)%2:Nat):Int) (ba 0 (v.ep+1))) v.r;unfold fg DM.doBegin;omega
theorem qk (m:DM) (v:VM):(ip m v).done.length<=m.done.length+v.B.length+4:=by
 have h1:=qj (m.doBarrier v.r) v;have h2:=cH m v.r;unfold ip;omega
theorem Db {v:VM} (h:v.Ok) (hep:v.ep+1<4294967296):(gG v).Ok :=
 { len:=by show (v.B.map jV).length=v.n;rw [List.length_map];exact h.len
   ok:=fun x hx=>by
    obtain ⟨y,hy,rfl⟩:=List.mem_map.1 hx;exact ⟨(h.ok y hy).k,(h.ok y hy).len,(h.ok y hy).b⟩
   n:=h.n,g:=h.g,r:=h.r,ep:=hep,sq:=by show (0:Nat)<4294967296;omega,us:=by show (0:Nat)<=2000;omega }
def JD (hp base n d:Nat) (e s:Int) (A:Option Addr) (b:Bool) (ls:List (List Int)) (i:Nat) (v:Value) (w:World):Prop :=
 match i with
 | 0 | 1 | 2 | 5 | 6 | 9 | 10=>v=.pointer (some ⟨hp,0,none⟩)
 | 3=>v=.pointer (some ⟨hp,2,none⟩)
 | 4=>v=.int .u8 0
 | 7=>v=.pointer (some ⟨hp,9,none⟩)
 | 8=>v=.int .u32 (e:Int)
 | 11=>v=.pointer (some ⟨hp,10,none⟩)
 | 12=>v=.int .u32 (s:Int)
 | 13=>v=.slice A n d
 | 17=>v=.bool b
 | 14=>∃ u,v=.tuple #[u,.bool b]/\bZ w base u ls
 | 15=>∃ u,v=.tuple #[u,.bool b]/\bZ w base u ls
 | 16=>bZ w base v ls
 | 18=>bZ w base v ls
 | _=>True
def Gu (w0 W:World) (P:Nat->Prop) (q:Nat) (m:DM) (hp rb:Nat) (v:VM) (l:List Wr) (A:Option Addr) (n d:Nat) (a':Act) (w':World):Prop :=
 ∃ mm vv,Hid (SV w0 w' P q mm hp rb vv)/\Hid (bv (n8 P hp rb) W w')/\Hid ((mm=m/\vv=v)\/(mm=ip m v/\vv=gG v/\jW v l/\jl v l))/\∃ u5 u6 u7 u8 u9 u10 u11 u12 u13 u14 u15 u16 u17 u18 u19 u20 u21 u22 u23 u24 u25 u26 u27 u28 u29 u30 u31 u32 u33 u34 u35 u36 u37 u38 u39 u40 u41 u42 u43 u44 u45 u46 u47 u48 u49 u50 u51 u52 u53 u54 u55 u56:Value,a'={ tmps:=#[.pointer (some ⟨hp,0,none⟩),.slice A n d,undef,undef,.int .i64 0,u5,u6,u7,u8,u9,u10,u11,u12,u13,u14,u15,u16,u17,u18,u19,u20,u21,u22,u23,u24,u25,u26,u27,u28,u29,u30,u31,u32,u33,u34,u35,u36,u37,u38,u39,u40,u41,u42,u43,u44,u45,u46,u47,u48,u49,u50,u51,u52,u53,u54,u55,u56],defers:=[] }
def Dc (w0 W:World) (P:Nat->Prop) (q:Nat) (m:DM) (hp rb:Nat) (v:VM) (l:List Wr) (a':Act) (w':World):Prop :=
 Hid (SV w0 w' P q m hp rb v)/\Hid (bv (n8 P hp rb) W w')/\Hid (¬ jW v l)/\∃ u1 u2 u3 u4 u5 u6 u7 u8 u9 u10 u11 u12 u13 u14 u15 u16 u17 u18 u19 u20 u21 u22 u23 u24 u25 u26 u27 u28 u29 u30 u31 u32 u33 u34 u35 u36 u37 u38 u39 u40 u41 u42 u43 u44 u45 u46 u47 u48 u49 u50 u51 u52 u53 u54 u55 u56:Value,a'={ tmps:=#[.pointer (some ⟨hp,0,none⟩),u1,u2,u3,u4,u5,u6,u7,u8,u9,u10,u11,u12,u13,u14,u15,u16,u17,u18,u19,u20,u21,u22,u23,u24,u25,u26,u27,u28,u29,u30,u31,u32,u33,u34,u35,u36,u37,u38,u39,u40,u41,u42,u43,u44,u45,u46,u47,u48,u49,u50,u51,u52,u53,u54,u55,u56],defers:=[] }
def Dd (hp:Nat) (w:World):Nat:=match w.cell? ⟨hp,11,none⟩ with | some v=>(intOf v).toNat | none=>0
theorem zI {W:World} {q hp rb:Nat} {v:VM} (h:aM W q hp rb v):Dd hp W=v.us:=by unfold Dd;rw [h.c11];simp [intOf]
theorem vR {w0 W:World} {P:Nat->Prop} {q:Nat} {m:DM} {hp rb:Nat} {v:VM} (h:SV w0 W P q m hp rb v) (A:Option Addr) (l:List Wr) (n d:Nat) (hn:l.length=n) (hl:n<=d) (hd:d<=9223372036854775807) (hok:bS l) (hy:o6 W (n8 P hp rb) A l)
 (hus:v.us<=v.g) (hg13:13<=v.g) (hep:v.ep+1<4294967296) (hsq:v.sq+1<4294967296) (hmax:m.done.length<=998000) :
 Calls Tryz.prog 44 #[.pointer (some ⟨hp,0,none⟩),.slice A n d] W fun e w'=>e=.returned (.int .i64 (if jW v l then 0 else 1))/\SV w0 w' P q (rB m v l) hp rb (rC v l)/\bv (n8 P hp rb) W w':=by
 have HV:=He h;have HN:=He hn;have HO:=He hok;have HY:=He hy;have HMX:=He hmax;have HB:=He (And.intro hus (And.intro hg13 (And.intro hep hsq)));clear h hn hok hy hmax hus hg13 hep hsq;obtain ⟨WW,rfl⟩:∃ WW,WW=W:=⟨W,rfl⟩
 go_enter Tryz.func44,Tryz.ntmps44;go_wp2;refine yc (Dc w0 WW P q m hp rb v l) (Gu w0 WW P q m hp rb v l A n d) (fun _ w'=>Dd hp w') rfl rfl ?_ ?_ ?_
 ·intro HF0;have HF:=He HF0;clear HF0;go_wp2;go_step3;rename_i hK;exact hK _ _ (HF.out _ _ ⟨m,v,HV.out,bv.refl _ _,Or.inl ⟨rfl,rfl⟩,_,_,_,_,_,_,_,_,_,_,_,_,_,_,_,_,_,_,_,_,_,_,_,_,_,_,_,_,_,_,_,_,_,_,_,_,_,_,_,_,_,_,_,_,_,_,_,_,_,_,_,_,rfl⟩)
 ·rintro a' w5 ⟨mm,vv,HSV,HSM,HST,u5,u6,u7,u8,u9,u10,u11,u12,u13,u14,u15,u16,u17,u18,u19,u20,u21,u22,u23,u24,u25,u26,u27,u28,u29,u30,u31,u32,u33,u34,u35,u36,u37,u38,u39,u40,u41,u42,u43,u44,u45,u46,u47,u48,u49,u50,u51,u52,u53,u54,u55,u56,rfl⟩;have HC:=He (fun (W':World) (hb':Below w5.heap.size w5 W')=>(HSV.out.at_.below hb').cs);have HPUT:=He (fun (W':World) (hb':Below w5.heap.size w5 W')=>zz 0 vv.ep vv.sq A l n d W' Ha HSV.out.at_.ep HSV.out.at_.sq HN.out hl hd HO.out (((HY.out.same HSM.out).wrs).keep hb'));go_upto_region 4 with fail
  refine aw (JD hp w5.heap.size n d vv.ep vv.sq A (decide (bM l)) (lH 0 vv.ep vv.sq l)) (fun _ W=>Below w5.heap.size w5 W) (fun _ w w'=>Below w.heap.size w w') Hc Hc (fun i j v w w' _ _ h hs=>by revert h;unfold JD;split <;> intro h <;> first | exact h | (obtain ⟨p,h1,h2⟩:=h;exact ⟨p,h1,h2.keep hs⟩) | exact bZ.keep h hs | trivial) ((Below.refl _ _).drew) ?_;simp only [bW];refine ⟨?_,?_,?_,?_,?_,?_,?_,?_,?_,?_,?_,?_,?_,?_,?_,?_,?_,?_,?_,?_⟩
  ·refine aa.of rfl fun T W L hag hL hJ hLs hd=>?_;have e0:=Hf hag 0;exact Hh
  ·refine aa.of rfl fun T W L hag hL hJ hLs hd=>?_;have d10:T.getD 10 undef=_:=Hg hd 0 rfl;exact Hh
  ·refine aa.of rfl fun T W L hag hL hJ hLs hd=>?_;have d11:T.getD 11 undef=_:=Hg hd 1 rfl;exact Hh
  ·refine aa.of rfl fun T W L hag hL hJ hLs hd=>?_;have d12:T.getD 12 undef=_:=Hg hd 2 rfl;exact Hh
  ·refine aa.of rfl fun T W L hag hL hJ hLs hd=>?_;have d13:T.getD 13 undef=_:=Hg hd 3 rfl;obtain ⟨z0,z1,z2,z3,z4,z5,z6,z7,z8,z9,z10,z11⟩:=HC.out W hJ;exact Hh
  ·refine aa.of rfl fun T W L hag hL hJ hLs hd=>?_;have e0:=Hf hag 0;exact Hh
  ·refine aa.of rfl fun T W L hag hL hJ hLs hd=>?_;have d15:T.getD 15 undef=_:=Hg hd 5 rfl;exact Hh
  ·refine aa.of rfl fun T W L hag hL hJ hLs hd=>?_;have d16:T.getD 16 undef=_:=Hg hd 6 rfl;exact Hh
  ·refine aa.of rfl fun T W L hag hL hJ hLs hd=>?_;have d17:T.getD 17 undef=_:=Hg hd 7 rfl;obtain ⟨z0,z1,z2,z3,z4,z5,z6,z7,z8,z9,z10,z11⟩:=HC.out W hJ;exact Hh
  ·refine aa.of rfl fun T W L hag hL hJ hLs hd=>?_;have e0:=Hf hag 0;exact Hh
  ·refine aa.of rfl fun T W L hag hL hJ hLs hd=>?_;have d19:T.getD 19 undef=_:=Hg hd 9 rfl;exact Hh
  ·refine aa.of rfl fun T W L hag hL hJ hLs hd=>?_;have d20:T.getD 20 undef=_:=Hg hd 10 rfl;exact Hh
  ·refine aa.of rfl fun T W L hag hL hJ hLs hd=>?_;have d21:T.getD 21 undef=_:=Hg hd 11 rfl;obtain ⟨z0,z1,z2,z3,z4,z5,z6,z7,z8,z9,z10,z11⟩:=HC.out W hJ;exact Hh
  ·refine aa.of rfl fun T W L hag hL hJ hLs hd=>?_;have e1:=Hf hag 1;exact Hh
  ·refine aa.of rfl fun T W L hag hL hJ hLs hd=>?_;have d14:T.getD 14 undef=_:=Hg hd 4 rfl;have d18:T.getD 18 undef=_:=Hg hd 8 rfl;have d22:T.getD 22 undef=_:=Hg hd 12 rfl;have d23:T.getD 23 undef=_:=Hg hd 13 rfl;clear hag hd;go_simp;refine (HPUT.out W hJ).mono ?_;rintro e w' ⟨u,rfl,hu,hb⟩;exact ⟨_,rfl,⟨_,rfl,hu.mono hJ.size⟩,aP hJ hb,hb⟩
  ·refine aa.of rfl fun T W L hag hL hJ hLs hd=>?_;have x24:=Hg hd 14 rfl;obtain ⟨u,(hs:T.getD 24 undef=_),hp⟩:=x24;clear hag hd;go_simp;exact ⟨_,rfl,⟨_,rfl,hp⟩,ag _⟩
  ·refine aa.of rfl fun T W L hag hL hJ hLs hd=>?_;have x9:=Hg hd 15 rfl;obtain ⟨u,(hs:T.getD 9 undef=_),hp⟩:=x9;clear hag hd;go_simp;exact ⟨_,rfl,hp,ag _⟩
  ·refine aa.of rfl fun T W L hag hL hJ hLs hd=>?_;have x9:=Hg hd 15 rfl;obtain ⟨u,(hs:T.getD 9 undef=_),hp⟩:=x9;exact Hh
  ·refine aa.of rfl fun T W L hag hL hJ hLs hd=>?_;have x25:=Hg hd 16 rfl;have x25':bZ W w5.heap.size (T.getD 25 undef) (lH 0 vv.ep vv.sq l):=x25;clear hag hd x25;go_simp;exact ⟨_,rfl,(by show bZ W w5.heap.size (T[25]?.getD undef) (lH 0 vv.ep vv.sq l);simpa using x25'),ag _⟩
  ·refine bg.of rfl fun T W L hag hLs hL hJ hd=>?_;have d26:T.getD 26 undef=_:=hd 17 _ Hb rfl;obtain ⟨f,hf,hT⟩:=aH hag;have d10:T.getD 10 undef=_:=hd 0 _ Hb rfl;have h10:=(hf 10).trans d10;have d11:T.getD 11 undef=_:=hd 1 _ Hb rfl;have h11:=(hf 11).trans d11;have d12:T.getD 12 undef=_:=hd 2 _ Hb rfl;have h12:=(hf 12).trans d12;have d13:T.getD 13 undef=_:=hd 3 _ Hb rfl;have h13:=(hf 13).trans d13;have d14:T.getD 14 undef=_:=hd 4 _ Hb rfl;have h14:=(hf 14).trans d14;have d15:T.getD 15 undef=_:=hd 5 _ Hb rfl;have h15:=(hf 15).trans d15;have d16:T.getD 16 undef=_:=hd 6 _ Hb rfl;have h16:=(hf 16).trans d16;have d17:T.getD 17 undef=_:=hd 7 _ Hb rfl;have h17:=(hf 17).trans d17;have d18:T.getD 18 undef=_:=hd 8 _ Hb rfl;have h18:=(hf 18).trans d18;have d19:T.getD 19 undef=_:=hd 9 _ Hb rfl;have h19:=(hf 19).trans d19;have d20:T.getD 20 undef=_:=hd 10 _ Hb rfl;have h20:=(hf 20).trans d20;have d21:T.getD 21 undef=_:=hd 11 _ Hb rfl;have h21:=(hf 21).trans d21;have d22:T.getD 22 undef=_:=hd 12 _ Hb rfl;have h22:=(hf 22).trans d22;have d23:T.getD 23 undef=_:=hd 13 _ Hb rfl;have h23:=(hf 23).trans d23;have h26:=(hf 26).trans d26;have HJ:=He hJ;have x5:bZ W w5.heap.size (T.getD 5 undef) (lH 0 vv.ep vv.sq l):=hd 18 _ Hb rfl;obtain ⟨B,c,hv,hc1,hc2,htx⟩:=x5.txR;have h5:=(hf 5).trans hv;have HTX:=He htx;have HCC:=He (And.intro hc1 hc2);clear x5 hv htx hc1 hc2;clear hag hd d10 d11 d12 d13 d14 d15 d16 d17 d18 d19 d20 d21 d22 d23 d26 hJ hf;rw [hT];clear hT;simp only [List.pop_toArray,List.dropLast_cons_cons,List.dropLast_singleton,List.filterMap_cons,List.filterMap_nil,List.foldl_cons,List.foldl_nil,List.setIfInBounds_toArray,List.set_cons_succ,List.set_cons_zero,h10,h11,h12,h13,h14,h15,h16,h17,h18,h19,h20,h21,h22,h23,h26];simp only [h5];have hsv6:=HSV.out.grow HJ.out (Q:=fun k=>w5.heap.size<=k/\k<W.heap.size) (fun k hk=>hk);have HS6:=He hsv6;have HS6p:=He (HSV.out.below HJ.out);have HM6:=He (HSM.out.trans (bv.rst (HSV.out.same HJ.out)));have hlp:=HSV.out.ds.low _ HSV.out.ph;have hlr:=HSV.out.ds.low _ HSV.out.pr;have HLOW:=He (And.intro hlp hlr);clear hsv6 hlp hlr HPUT HC;by_cases hmay:bM l
   ·have HMAY:=He hmay;have hcx:lH 0 vv.ep vv.sq l=putL 0 vv.ep vv.sq l:=C5 hmay;have hlen:(lH 0 vv.ep vv.sq l).length=1+n:=by rw [hcx,bE,HN.out]
    rw [hlen] at HCC ⊢;rw [hcx] at HTX;rw [decide_eq_true hmay];have hn12:n<=12:=by have:=hmay.1.2;rw [HN.out] at this;exact this
    have HHA:=He (vO HS6p.out.at_ A l n d HN.out hl hd HO.out ((HY.out.same HM6.out).wrs));clear hmay hcx hlen;go_wp2_with fail
    refine HHA.out.mono ?_;rintro e w' ⟨rfl,rfl⟩;have hhv:dJ vv l=dJ v l:=by rcases HST.out with ⟨_,h2⟩ | ⟨_,h2,_⟩ <;> rw [h2] <;> rfl
    cases hq:dJ vv l
    ·have hno:¬ jW v l:=fun h=>by have:=h.2;rw [<- hhv,hq] at this;cases this
     have hmv:mm=m/\vv=v:=by rcases HST.out with h1 | ⟨_,_,h1,_⟩;exact h1;exact absurd h1 hno
     have HNO:=He hno;have HR6:Hid (SV w0 W P q m hp rb v):=by rw [<- hmv.1,<- hmv.2];exact HS6p.out
     clear hno hmv hhv hq;go_wp2;go_step3;exact (show Dc _ _ _ _ _ _ _ _ _ _ _ from ⟨HR6.out,HM6.out,HNO.out,_,_,_,_,_,_,_,_,_,_,_,_,_,_,_,_,_,_,_,_,_,_,_,_,_,_,_,_,_,_,_,_,_,_,_,_,_,_,_,_,_,_,_,_,_,_,_,_,_,_,_,_,_,_,_,_,rfl⟩)
    ·have hok:jW v l:=⟨HMAY.out,by rw [<- hhv];exact hq⟩
     have HOK:=He hok;have z6:=HS6p.out.at_.c6;have hgv:vv.g=v.g:=by rcases HST.out with ⟨_,h2⟩ | ⟨_,h2,_⟩ <;> rw [h2] <;> rfl
     have hg13:=HB.out.2.1;have hu1:vv.us<=vv.g:=by rcases HST.out with ⟨_,h2⟩ | ⟨_,h2,_⟩ <;> rw [h2];exact HB.out.1;exact Nat.zero_le _
     have d1:decide (vv.g<1+n)=false:=decide_eq_false Ha;have HRM:=He (Bd HS6p.out.at_ hu1);obtain ⟨n1,hn1⟩:∃ n1,n1=1+n:=⟨_,rfl⟩
     rw [<- hn1] at d1 HCC ⊢;have HN1:=He hn1;have HGV:=He hgv;clear hok hhv hq hgv HHA hn1;go_wp2_with fail
     refine HRM.out.mono ?_;rintro e W7 ⟨rfl,hb7⟩;have HS7:=He (HS6.out.below hb7);have HS7p:=He (HS6p.out.below hb7);have HM7:=He (HM6.out.trans (bv.rst (HS6p.out.same hb7)));have htx7:=HTX.out.same ((HS6.out.same hb7).mono fun k hk=>Or.inr hk);have HTX7:=He htx7;have hwy7:=(HY.out.same HM7.out).mono fun k hk=>(⟨Or.inl hk.1,hk.2⟩:n8 (fun k=>P k\/(w5.heap.size<=k/\k<W.heap.size)) hp rb k)
     have HWY7:=He hwy7;clear hb7 htx7 hwy7 z6 d1 HRM;by_cases ht:vv.g-vv.us<n1
     ·have d2:decide (vv.g-vv.us<n1)=true:=decide_eq_true ht;have hmv:mm=m/\vv=v:=by
       rcases HST.out with h1 | ⟨_,h2,_⟩
       ·exact h1
       ·have hu0:vv.us=0:=by rw [h2];rfl
        have h3:=HN1.out;have h4:=HGV.out;omega
      have htt:jl v l:=by unfold jl;rw [HN.out,<- hmv.2,<- HN1.out];exact ht
      have HTT:=He htt;have HMV:=He hmv;have HTD:=He (Bf HS7p.out (by rw [hmv.2];exact HB.out.2.2.1) (by rw [hmv.1];have:=HMX.out;omega));have HU0:Hid (0<vv.us):=by have h4:=HGV.out;have h5:=HN1.out;have h6:=HB.out.2.1;unfold Hid;omega
      clear hmv htt ht;generalize vv.g-vv.us=rm at *;go_wp2_with fail
      refine HTD.out.mono ?_;rintro e W8 ⟨rfl,h8,hs8⟩;have HS8:=He h8;have HM8:=He (HM7.out.trans hs8);clear h8 hs8 HTD;go_wp2;go_step3;refine (show Gu w0 WW P q m hp rb v l A n d _ W8/\Dd hp W8<Dd hp w5 from ⟨⟨ip m v,gG v,?_,HM8.out,Or.inr ⟨rfl,rfl,HOK.out,HTT.out⟩,_,_,_,_,_,_,_,_,_,_,_,_,_,_,_,_,_,_,_,_,_,_,_,_,_,_,_,_,_,_,_,_,_,_,_,_,_,_,_,_,_,_,_,_,_,_,_,_,_,_,_,_,rfl⟩,?_⟩)
      ·have h9:=HS8.out;rw [HMV.out.1,HMV.out.2] at h9;exact h9
      ·rw [zI HS8.out.at_,zI HSV.out.at_];exact HU0.out
     ·have d2:decide (vv.g-vv.us<n1)=false:=decide_eq_false ht;have hq1:vv.sq+1<4294967296:=by
       rcases HST.out with ⟨_,h2⟩ | ⟨_,h2,_⟩ <;> rw [h2]
       ·exact HB.out.2.2.2
       ·show 0+1<4294967296;omega
      have hmd:mm.done.length+n1<=1000000:=by
       have h3:=HMX.out;have h4:=qk m v;have h5:=HV.out.at_.len;have h6:=HV.out.at_.n;have h7:=HN1.out;rcases HST.out with ⟨h2,_⟩ | ⟨h2,_⟩ <;> rw [h2] <;> omega
      have htr:xA W7 (n8 (fun k=>P k\/(w5.heap.size<=k/\k<W.heap.size)) hp rb) B (putL 0 vv.ep vv.sq l):=HTX7.out.mono fun k hk=>⟨Or.inr hk,by have:=HLOW.out.1;omega,by have:=HLOW.out.2;omega⟩
      have hlg:=C9 HS7.out B (putL 0 vv.ep vv.sq l) n1 c (by rw [bE,HN.out,HN1.out]) HCC.out.1 HCC.out.2 (vQ vv.ep vv.sq HMAY.out HO.out) htr (by have:=HB.out.1;omega) hq1 hmd;have HLG:=He hlg;have HT0:Hid (¬ jl vv l):=by unfold Hid jl;rw [HN.out,<- HN1.out];exact ht
      clear hq1 hmd htr hlg ht;generalize vv.g-vv.us=rm at *;go_wp2_with fail
      refine HLG.out.mono ?_;rintro e W8 ⟨rfl,h8,hs8⟩;have hlay:=vP h8 A l n d HN.out hl hd HO.out HMAY.out.kinds (HWY7.out.same hs8);have HLAY:=He hlay;have HM8:=He (HM7.out.trans (hs8.mono fun k hk=>⟨Or.inl hk.1,hk.2⟩));clear h8 hs8 hlay HLG;go_wp2_with fail
      refine HLAY.out.mono ?_;rintro e W9 ⟨rfl,h9,hs9⟩;have HM9:=He (HM8.out.trans (hs9.mono fun k hk=>⟨Or.inl hk.1,hk.2⟩));have hfin:SV w0 W9 P q (rB m v l) hp rb (rC v l):=by
       have h10:=h9.mono (P':=P) (fun k hk=>Or.inl hk) HSV.out.ph HSV.out.pr;have h11:rB m v l=je vv.r mm vv.us (putL 0 vv.ep vv.sq l)/\rC v l=ud vv l:=by
        unfold rB rC;rw [if_pos HOK.out,if_pos HOK.out];rcases HST.out with ⟨h1,h2⟩ | ⟨h1,h2,h3,h4⟩
        ·rw [h2] at HT0;rw [if_neg HT0.out,if_neg HT0.out,h1,h2];exact ⟨rfl,rfl⟩
        ·rw [if_pos h4,if_pos h4,h1,h2];exact ⟨rfl,rfl⟩
       rw [h11.1,h11.2];unfold ud;rw [HN.out,<- HN1.out];exact h10
      have HF:=He hfin;clear h9 hs9 hfin HLAY;go_wp2;simp only [aY];go_ret;rw [if_pos HOK.out];exact ⟨rfl,HF.out,HM9.out⟩
   ·have hno:¬ jW v l:=fun h=>hmay h.1;have hmv:mm=m/\vv=v:=by rcases HST.out with h1 | ⟨_,_,h1,_⟩;exact h1;exact absurd h1 hno
    have HNO:=He hno;have HR6:Hid (SV w0 W P q m hp rb v):=by rw [<- hmv.1,<- hmv.2];exact HS6p.out
    rw [decide_eq_false hmay];clear hno hmv hmay;generalize (lH 0 vv.ep vv.sq l).length=n1 at *;go_wp2;go_step3;exact (show Dc _ _ _ _ _ _ _ _ _ _ _ from ⟨HR6.out,HM6.out,HNO.out,_,_,_,_,_,_,_,_,_,_,_,_,_,_,_,_,_,_,_,_,_,_,_,_,_,_,_,_,_,_,_,_,_,_,_,_,_,_,_,_,_,_,_,_,_,_,_,_,_,_,_,_,_,_,_,_,rfl⟩)
 ·rintro a' w5 ⟨HSV,HSM,HNO,u1,u2,u3,u4,u5,u6,u7,u8,u9,u10,u11,u12,u13,u14,u15,u16,u17,u18,u19,u20,u21,u22,u23,u24,u25,u26,u27,u28,u29,u30,u31,u32,u33,u34,u35,u36,u37,u38,u39,u40,u41,u42,u43,u44,u45,u46,u47,u48,u49,u50,u51,u52,u53,u54,u55,u56,rfl⟩;go_wp2;simp only [aY];go_ret;have e1:rB m v l=m:=if_neg HNO.out;have e2:rC v l=v:=if_neg HNO.out;rw [e1,e2,if_neg HNO.out];exact ⟨rfl,HSV.out,HSM.out⟩
theorem oe (i:Nat):0<=gT i/\gT i<=7:=by unfold gT;split <;> omega
def cY (r:Int) (g:Nat) (m:DM):Nat->DM
 | 0=>m
 | k+1=>(cY r g m k).doWrite r ((2+g+k:Nat):Int) (cC 0 (gT k) k (gD k))
theorem jm (r:Int) (g:Nat) (m:DM):∀ k,(cY r g m k).done.length<=m.done.length+k
 | 0=>Nat.le_refl _
 | k+1=>by
   have h1:=jm r g m k;have h2:=fD (cY r g m k) r ((2+g+k:Nat):Int) (cC 0 (gT k) k (gD k));show (DM.doWrite _ _ _ _).done.length<=_;omega
def kt (m:DM) (r:Int) (n g:Nat):DM:=(cY r g m n).doBegin r 1
def JE (q n g k:Nat) (r fr:Int) (i:Nat) (v:Value) (w:World):Prop :=
 match i with
 | 0=>v=.agg (bH (some ⟨q,0,none⟩) r n g fr)
 | 1 | 2=>v=.int .i64 (k:Int)
 | 3=>v=.agg (ab (gT k) (gD k))
 | _=>True
theorem Bg {w0 W:World} {P:Nat->Prop} {q:Nat} {m:DM} (h:DS w0 W P q m) (r:Int) (hr:i64 r) (n g:Nat) (fr:Int) (hn:n<=200) (hg:g<=1000) (hyes:(iB m r ((1+g+n:Nat):Int)).isSome=true) (hmax:m.done.length+n<=999000) :
 Calls Tryz.prog 42 #[.pointer (some ⟨q,0,none⟩),.int .i64 r,pi 0 0 n g fr] W fun e w'=>e=.returned (.bool true)/\DS w0 w' P q (kt m r n g)/\bv P W w':=by
 have HD:=He h;have HR:=He hr;have HNG:=He (And.intro hn hg);have HMX:=He hmax;have HGO:=He (fun W=>m5 (some ⟨q,0,none⟩) r n g fr hn hg W);have hb1:∀ o,Below W.heap.size W (W.alloc o):=fun o=>(Below.refl _ _).alloc (Nat.le_refl _) _;have HYES:=He hyes;have e5:=fun o=>heap_alloc_new W o;unfold pi kt;clear h hyes hmax;go_enter Tryz.func42,Tryz.ntmps42;go_wp2_with fail
 have HB1:=He (hb1 (Obj.cells #[.int .i64 0,.int .i64 0,.int .i64 n,.int .i64 g,.int .i64 fr] 97));have he5:=e5 (Obj.cells #[.int .i64 0,.int .i64 0,.int .i64 n,.int .i64 g,.int .i64 fr] 97);refine (HGO.out _).mono ?_;rintro e W2 ⟨rfl,hb2⟩;have he6:=kb hb2 he5;have HB2:=He (aP HB1.out hb2);clear hb1 hb2 e5 he5;unfold jS;go_upto_region 2 with (refine jy rfl (.tmp 7) (.tmp 15) rfl W2.heap.size rfl (bH (some ⟨q,0,none⟩) r n g fr) rfl (qf _ _ _ _ _) rfl _ rfl (heap_alloc_new W2 _) ?_)
 have e7:=am (D:=bH (some ⟨q,0,none⟩) r n g fr) (heap_alloc_new W2 (Obj.cells #[.pointer none,.int .i64 0,.int .u8 0,.int .i64 0,.int .i64 0,.int .i64 0,.int .i64 0,.int .i64 0] 115));have hb3:Below W2.heap.size W2 ((W2.alloc (Obj.cells #[.pointer none,.int .i64 0,.int .u8 0,.int .i64 0,.int .i64 0,.int .i64 0,.int .i64 0,.int .i64 0] 115)).setRow W2.heap.size (bH (some ⟨q,0,none⟩) r n g fr)):=below_setRow ((Below.refl _ _).alloc (Nat.le_refl _) _) (Nat.le_refl _) _;have HB3:=He (aP HB2.out hb3);have e5:=kb hb3 he6;have hlt5:W.heap.size<W2.heap.size:=ai he6;have hsz3:W2.heap.size<((W2.alloc (Obj.cells #[.pointer none,.int .i64 0,.int .u8 0,.int .i64 0,.int .i64 0,.int .i64 0,.int .i64 0,.int .i64 0] 115)).setRow W2.heap.size (bH (some ⟨q,0,none⟩) r n g fr)).heap.size:=ai e7;have hws:=HB2.out.size;generalize (W2.alloc (Obj.cells #[.pointer none,.int .i64 0,.int .u8 0,.int .i64 0,.int .i64 0,.int .i64 0,.int .i64 0,.int .i64 0] 115)).setRow W2.heap.size (bH (some ⟨q,0,none⟩) r n g fr)=W3 at *;generalize W2.heap.size=g7 at *;clear hb3;have hf:=Ba (W:=W3) ((HD.out.rd r hr).keep HB3.out) n g fr hn hg;rw [HYES.out] at hf;have HF:=He hf;obtain ⟨z0,z1,z2,z3,z4,z5,z6,z7⟩:=bf e7;have HE7:=He e7;have HE5:=He e5;clear e7 hf e5 he6;go_wp2_with fail
 refine HF.out.mono ?_;rintro e W4 ⟨rfl,hb4⟩;have he5:=kb hb4 HE5.out;have hd4:DS w0 W4 (fun k=>P k\/k=g7) q m:=HD.out.below (aP HB3.out hb4) (fun k hk=>by
  rcases hk with hk | rfl
  ·exact Or.inl hk
  ·exact Or.inr ⟨hws,Nat.lt_of_lt_of_le hsz3 hb4.size⟩)
 have HD4:=He hd4;have HE74:=He (kb hb4 HE7.out);have HSM4:=He (HD.out.same (aP HB3.out hb4));have y2:W4.cell? ⟨W.heap.size,2,none⟩=some (.int .i64 n):=(af he5 2).trans rfl;clear he5 hd4 hb4 z0 z1 z2 z3 z4 z5 z6 z7 hlt5 hsz3 hws;go_wp2;clear y2
 go_loopw [26] (fun i wr=>∃ k:Nat,i=.int .i64 k/\k<=n/\Hid (DS w0 wr (fun k=>P k\/k=g7) q (cY r g m k))/\Hid (bv (fun k=>P k\/k=g7) W4 wr)) (fun i _=>n-(intOf i).toNat)
 case atStart=>exact ⟨0,rfl,Ha,HD4.out,bv.refl _ _⟩
 case round =>
  obtain ⟨kk,rfl,hk,HD5,HSM⟩:=hrel;obtain ⟨w5,rfl⟩:∃ w5,w5=wr:=⟨wr,rfl⟩
  have HG5:=He ((HSM.out.blk g7 (Or.inr rfl)).trans HE74.out);by_cases hlt:kk<n
  ·have hki:(kk:Int)<n:=Ha;have HM:Hid ((cY r g m kk).done.length<=1000000):=by
    have h1:=jm r g m kk;have h2:=HMX.out;unfold Hid;omega
   have HG:Hid (∀ W',Below w5.heap.size w5 W'->W'.heap[g7]?=some (.cells (bH (some ⟨q,0,none⟩) r n g fr) 115 (0,0))):=fun W' h=>kb h HG5.out;go_upto_region 7 with fail
   refine aw (JE q n g kk r fr) (fun _ W=>Below w5.heap.size w5 W) (fun _ w w'=>Below w.heap.size w w') Hc Hc (fun i j v w w' _ _ h hs=>by unfold JE at *;exact h) ((Below.refl _ _).drew) ?_;simp only [bW];refine ⟨?_,?_,?_,?_,?_⟩
   ·refine aa.of rfl fun T W L hag hL hJ hLs hd=>?_;have e7:=Hf hag 7;obtain ⟨z0,z1,z2,z3,z4,z5,z6,z7⟩:=bf (HG.out W hJ);exact Hh
   ·refine aa.of rfl fun T W L hag hL hJ hLs hd=>?_;have e9:=Hf hag 9;exact Hh
   ·refine aa.of rfl fun T W L hag hL hJ hLs hd=>?_;have e9:=Hf hag 9;exact Hh
   ·refine aa.of rfl fun T W L hag hL hJ hLs hd=>?_;have d31:T.getD 31 undef=_:=Hg hd 2 rfl;clear hag hd;go_simp;refine (vK kk W).mono ?_;rintro e w' ⟨rfl,hb⟩;exact ⟨_,rfl,rfl,aP hJ hb,hb⟩
   ·refine bg.of rfl fun T W L hag hLs hL hJ hd=>?_;have d29:T.getD 29 undef=_:=hd 0 _ Hb rfl;have d30:T.getD 30 undef=_:=hd 1 _ Hb rfl;have d32:T.getD 32 undef=_:=hd 3 _ Hb rfl;obtain ⟨f,hf,hT⟩:=aH hag;have h29:=(hf 29).trans d29;have h30:=(hf 30).trans d30;have d31:T.getD 31 undef=_:=hd 2 _ Hb rfl;have h31:=(hf 31).trans d31;have h32:=(hf 32).trans d32;have HJ:=He hJ;clear hag hd d29 d30 d31 d32 hJ hf;rw [hT];clear hT;simp only [List.pop_toArray,List.dropLast_cons_cons,List.dropLast_singleton,List.filterMap_cons,List.filterMap_nil,List.foldl_cons,List.foldl_nil,List.setIfInBounds_toArray,List.set_cons_succ,List.set_cons_zero,h29,h30,h31,h32];have hd:=HD5.out.below HJ.out (fun k hk=>Or.inl hk);go_simp;refine (oM hd r HR.out n g fr HNG.out.1 HNG.out.2 kk hlt (gT kk) (gD kk) (oe kk) (iZ kk) (n7 kk) HM.out).mono ?_;rintro e w' ⟨rfl,hd',hs⟩;have HD6:=He hd';have HSM6:=He ((HSM.out.trans (HD5.out.same HJ.out)).trans hs);clear hd hd' hs HJ;go_wp2
    go_roundw
    case rel=>exact ⟨kk+1,by go_num,Ha,HD6.out,HSM6.out⟩
    case measure=>simp [intOf];omega
  ·obtain rfl:kk=n:=Ha;have hki:¬ ((kk:Int)<kk):=Ha;have HM:Hid ((cY r g m kk).done.length<=999990):=by
    have h1:=jm r g m kk;have h2:=HMX.out;unfold Hid;omega
   have HBG:=He (fun W (h:DS w0 W (fun k=>P k\/k=g7) q (cY r g m kk))=>qg h r hr kk g fr 1 Ha HM.out);go_wp2_with (refine iL rfl (.tmp 7) rfl g7 rfl (bH (some ⟨q,0,none⟩) r kk g fr) rfl HG5.out ?_)
   refine (HBG.out _ HD5.out).mono ?_;rintro e w' ⟨rfl,hd',hs⟩;have HF1:=He (hd'.mono fun k hk=>Or.inl hk);have HF2:=He ((HSM4.out.trans (HSM.out.mono fun k hk=>Or.inl hk)).trans (hs.mono fun k hk=>Or.inl hk));clear hd' hs;go_wp2;go_ret;exact ⟨rfl,HF1.out,HF2.out⟩
end Go.Proofs.YtegjelaejbacnaaGreat
