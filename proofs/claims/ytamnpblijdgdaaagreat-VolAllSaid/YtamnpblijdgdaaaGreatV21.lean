/- For VolAll: contracts and facts, part 21. -/
import Derived.Test.YtamnpblijdgdaaaGreatV20
namespace Go.Proofs.YtamnpblijdgdaaaGreat
open Go.ChangeShapes Go.WideShapes Go.ChangeAt Go.RowKit
set_option linter.unusedVariables false
set_option maxRecDepth 100000
def unlog (x:HB):HB:={ x with lg:=false }
def homeW (r:Int) (g:Nat):DM→Nat→List HB→DM
 | m,_,[]=>m
 | m,o,x :: l=>homeW r g (if x.lg then m.doWrite r ((2+g+o:Nat):Int) (sealB 0 x.k o x.bs) else m) (o+1) l
theorem homeW_snoc (r:Int) (g:Nat):∀ (l:List HB) (m:DM) (o:Nat) (x:HB),homeW r g m o (l++[x])=if x.lg then (homeW r g m o l).doWrite r ((2+g+(o+l.length):Nat):Int) (sealB 0 x.k (o+l.length) x.bs) else homeW r g m o l
 | [],m,o,x=>rfl
 | y :: l,m,o,x=>by
   show homeW r g _ (o+1) (l++[x])=_
   rw [homeW_snoc r g l _ (o+1) x,List.length_cons,show o+1+l.length=o+(l.length+1) by omega];rfl
theorem homeW_done (r:Int) (g:Nat):∀ (l:List HB) (m:DM) (o:Nat),(homeW r g m o l).done.length≤m.done.length+l.length
 | [],m,o=>by simp [homeW]
 | x :: l,m,o=>by
   have h1:=homeW_done r g l (if x.lg then m.doWrite r ((2+g+o:Nat):Int) (sealB 0 x.k o x.bs) else m) (o+1)
   have h2:=done_doWrite m r ((2+g+o:Nat):Int) (sealB 0 x.k o x.bs)
   show (homeW r g _ _ l).done.length≤_
   rw [List.length_cons]
   split at h1 <;> rename_i hq <;> simp only [hq] <;> first | (simp only [if_true];omega) | (simp;omega)
theorem setSame {α:Type} {l:List α} {k:Nat} {x:α} (h:l[k]?=some x):l.set k x=l:=by
 obtain ⟨h1,h2⟩:=List.getElem?_eq_some_iff.1 h
 rw [← h2];exact List.set_getElem_self h1
def gone (B:List HB) (k:Nat):List HB:=(B.take k).map unlog++B.drop k
theorem gone_at {B:List HB} {k:Nat} {x:HB} (h:B[k]?=some x):(gone B k)[k]?=some x:=by
 have hl:=(List.getElem?_eq_some_iff.1 h).1
 unfold gone
 rw [List.getElem?_append_right (by simp;omega)]
 simp only [List.length_map,List.length_take,List.getElem?_drop]
 rw [show k+(k-min k B.length)=k by omega];exact h
theorem gone_next {B:List HB} {k:Nat} {x:HB} (h:B[k]?=some x):gone B (k+1)=(gone B k).set k (unlog x):=by
 have hl:=(List.getElem?_eq_some_iff.1 h).1
 have hlen:((B.take k).map unlog).length=k:=by simp;omega
 unfold gone
 rw [take_snoc' h,List.map_append,List.set_append_right _ _ (by omega),hlen,Nat.sub_self,List.drop_eq_getElem_cons hl,(List.getElem?_eq_some_iff.1 h).2,List.append_assoc]
 rfl
theorem gone_skip {B:List HB} {k:Nat} {x:HB} (h:B[k]?=some x) (hx:x.lg=false):gone B (k+1)=gone B k:=by
 rw [gone_next h]
 have:unlog x=x:=by unfold unlog;rw [← hx]
 rw [this]
 exact setSame (gone_at h)
theorem gone_all (B:List HB) {k:Nat} (h:B.length≤k):gone B k=B.map unlog:=by unfold gone;rw [List.take_of_length_le h,List.drop_of_length_le h,List.append_nil]
theorem VolAt.setL {W:World} {q hp rb:Nat} {v:VM} (h:VolAt W q hp rb v) (hne:hp≠rb) {i:Nat} {x:HB} {b:Bool} (hi:v.B[i]?=some x):VolAt (W.setCell ⟨rb,i*58+57,none⟩ (.bool b)) q hp rb { v with B:=v.B.set i { x with lg:=b } }:=by
 have hx:=h.ok x (List.mem_of_getElem? hi)
 refine { h with len:=by rw [List.length_set];exact h.len,ok:=h.ok.set ⟨hx.k,hx.len,hx.b⟩,hd:=?_,row:=?_ }
 ·rw [Below.heap_setCell W ⟨rb,i*58+57,none⟩ _ hp hne];exact h.hd
 ·rw [heap_setCell_same' h.row]
  congr 2
  rw [List.setIfInBounds_toArray]
  congr 1
  refine rowL_set (k:=i) (x:=x) (y:={ x with lg:=b }) (j:=57) h.ok.fits hi (by omega) ?_
  unfold hbL
  rw [List.set_append_right _ _ (by rw [blkL_len hx.len];omega),blkL_len hx.len]
  rfl
theorem SV.setL {w0 W:World} {P:Nat→Prop} {q:Nat} {m:DM} {hp rb:Nat} {v:VM} (h:SV w0 W P q m hp rb v) {i:Nat} {x:HB} {b:Bool} (hi:v.B[i]?=some x) :
 SV w0 (W.setCell ⟨rb,i*58+57,none⟩ (.bool b)) P q m hp rb { v with B:=v.B.set i { x with lg:=b } }∧Same (Rst P hp rb) W (W.setCell ⟨rb,i*58+57,none⟩ (.bool b)) :=
 h.own ((Touch.refl _ _).setCell (F:=fun k=>k=hp∨k=rb) (Or.inr rfl) _) (h.at_.setL h.ne hi)
def homeM (m:DM) (v:VM):DM:=(homeW v.r v.g m 0 v.B).doBegin v.r (v.ep+1)
def homeV (v:VM):VM:={ v with B:=v.B.map unlog,ep:=v.ep+1,sq:=0,us:=0 }
def VNh5 (q hp rb n g k:Nat) (r fr xk:Int) (xb:List Int) (i:Nat) (v:Value) (w:World):Prop :=
 match i with
 | 0 | 1 | 2=>v=.pointer (some ⟨hp,0,none⟩)
 | 3=>v=.agg (gndC (some ⟨q,0,none⟩) r n g fr)
 | 4=>v=.int .i64 (k:Int)
 | 5 | 6 | 7=>v=.pointer (some ⟨rb,k*58,none⟩)
 | 8=>v=.agg (blkA xk xb)
 | _=>True
def VNh9 (q hp n g e:Nat) (r fr:Int) (i:Nat) (v:Value) (w:World):Prop :=
 match i with
 | 0 | 1 | 2 | 4 | 5=>v=.pointer (some ⟨hp,0,none⟩)
 | 3=>v=.agg (gndC (some ⟨q,0,none⟩) r n g fr)
 | 6=>v=.pointer (some ⟨hp,9,none⟩)
 | 7=>v=.int .u32 (e:Int)
 | _=>True
set_option maxHeartbeats 3200000 in
theorem vgoHome_any {w0 W:World} {P:Nat→Prop} {q:Nat} {m:DM} {hp rb:Nat} {v:VM} (h:SV w0 W P q m hp rb v) (hep:v.ep+1<4294967296) (hmax:m.done.length≤999000) :
 Calls Tryz.prog 47 #[.pointer (some ⟨hp,0,none⟩)] W fun e w'=>e=.returned (.tuple #[])∧SV w0 w' P q (homeM m v) hp rb (homeV v)∧Same (Rst P hp rb) W w':=by
 have HV:=Lib.hid h
 have HMX:=Lib.hid hmax
 have c8:=h.at_.c8
 have HNG:=Lib.hid (And.intro h.at_.n h.at_.g)
 have HR:=Lib.hid h.at_.r
 have HL:=Lib.hid h.at_.len
 unfold homeM homeV
 clear h hmax
 have hn2:=HNG.out.1
 go_enter Tryz.func47,Tryz.ntmps47
 go_wp2
 clear c8
 go_loopw [9] (fun i wr=>∃ k:Nat,i=.int .i64 k∧k≤v.n∧Hid (SV w0 wr P q (homeW v.r v.g m 0 (v.B.take k)) hp rb { v with B:=gone v.B k })∧Hid (Same (Rst P hp rb) W wr)) (fun i _=>v.n-(intOf i).toNat)
 case atStart=>exact ⟨0,rfl,by omega,HV.out,Same.refl _ _⟩
 case round =>
  obtain ⟨kk,rfl,hk,HSV,HSM⟩:=hrel
  obtain ⟨w5,rfl⟩:∃ w5,w5=wr:=⟨wr,rfl⟩
  by_cases hlt:kk<v.n
  ·obtain ⟨x,hx⟩:∃ x,v.B[kk]?=some x:=⟨_,List.getElem?_eq_getElem (by rw [HL.out];exact hlt)⟩
   have HXB:Hid ((gone v.B kk)[kk]?=some x):=gone_at hx
   have HXO:=Lib.hid (HV.out.at_.ok x (List.mem_of_getElem? hx))
   have HTL:Hid ((v.B.take kk).length=kk):=by unfold Hid;rw [List.length_take,HL.out];omega
   have HTK:Hid (v.B.take (kk+1)=v.B.take kk++[x]):=take_snoc' hx
   have z8:w5.cell? ⟨hp,8,none⟩=some (.slice (some ⟨rb,0,none⟩) v.n v.n):=HSV.out.at_.c8
   have zl:w5.cell? ⟨rb,kk*58+57,none⟩=some (.bool x.lg):=HSV.out.at_.lg HXB.out
   have hki:(kk:Int)<v.n:=by omega
   have HX:=Lib.hid hx
   clear hx
   cases hlg:x.lg
   ·have HB2:Hid (gone v.B (kk+1)=gone v.B kk):=gone_skip HX.out hlg
    have HM2:Hid (homeW v.r v.g m 0 (v.B.take (kk+1))=homeW v.r v.g m 0 (v.B.take kk)):=by unfold Hid;rw [HTK.out,homeW_snoc,hlg];rfl
    rw [hlg] at zl
    clear hlg
    go_wp2
    go_roundw
    case rel =>
     refine ⟨kk+1,by go_num,by omega,?_,HSM.out⟩
     rw [HB2.out,HM2.out]
     exact HSV.out
    case measure=>simp [intOf];omega
   ·have HB2:Hid (gone v.B (kk+1)=(gone v.B kk).set kk { x with lg:=false }):=gone_next HX.out
    have HM2:Hid (homeW v.r v.g m 0 (v.B.take (kk+1))=(homeW v.r v.g m 0 (v.B.take kk)).doWrite v.r ((2+v.g+kk:Nat):Int) (sealB 0 x.k kk x.bs)):=by unfold Hid;rw [HTK.out,homeW_snoc,hlg,HTL.out,Nat.zero_add];rfl
    have HM:Hid ((homeW v.r v.g m 0 (v.B.take kk)).done.length≤1000000):=by
     have h1:=homeW_done v.r v.g (v.B.take kk) m 0
     have h2:=HMX.out
     rw [HTL.out] at h1
     unfold Hid;omega
    have HC:=Lib.hid (fun (W':World) (hb':Below w5.heap.size w5 W')=>(HSV.out.at_.below hb').cs)
    have HRB:=Lib.hid (fun (W':World) (hb':Below w5.heap.size w5 W')=>(HSV.out.at_.below hb').rangeB HXB.out)
    rw [hlg] at zl
    clear hlg
    go_upto_region 5 with fail
    refine wp_region_rgk (VNh5 q hp rb v.n v.g kk v.r v.fr x.k x.bs) (fun _ W=>Below w5.heap.size w5 W) (fun _ w w'=>Below w.heap.size w w') (by kernel_rfl) (by kernel_rfl) (fun i j v w w' _ _ h hs=>by unfold VNh5 at *;exact h) ((Below.refl _ _).drew) ?_
    simp only [RAll]
    refine ⟨?_,?_,?_,?_,?_,?_,?_,?_,?_,?_⟩
    ·refine RStepK.of rfl fun T W L hag hL hJ hLs hd=>?_
     have e0:T.getD 0 undef=_:=(agree_at hag 0 (by kernel_rfl)).trans rfl
     clear hag hd
     go_simp
     first | exact ⟨_,rfl,rfl⟩ | exact ⟨_,rfl,rfl,brefl _⟩ | exact ⟨_,rfl,rfl,hJ,brefl _⟩
    ·refine RStepK.of rfl fun T W L hag hL hJ hLs hd=>?_
     have d22:T.getD 22 undef=_:=hd ⟨0,.data⟩ (by simp) rfl _ rfl
     clear hag hd
     go_simp
     first | exact ⟨_,rfl,rfl⟩ | exact ⟨_,rfl,rfl,brefl _⟩ | exact ⟨_,rfl,rfl,hJ,brefl _⟩
    ·refine RStepK.of rfl fun T W L hag hL hJ hLs hd=>?_
     have d23:T.getD 23 undef=_:=hd ⟨1,.data⟩ (by simp) rfl _ rfl
     clear hag hd
     go_simp
     first | exact ⟨_,rfl,rfl⟩ | exact ⟨_,rfl,rfl,brefl _⟩ | exact ⟨_,rfl,rfl,hJ,brefl _⟩
    ·refine RStepK.of rfl fun T W L hag hL hJ hLs hd=>?_
     have d24:T.getD 24 undef=_:=hd ⟨2,.data⟩ (by simp) rfl _ rfl
     obtain ⟨z0,z1,z2,z3,z4,z5,z6,z7,z8,z9,z10,z11⟩:=HC.out W hJ
     clear hag hd
     go_simp
     first | exact ⟨_,rfl,rfl⟩ | exact ⟨_,rfl,rfl,brefl _⟩ | exact ⟨_,rfl,rfl,hJ,brefl _⟩
    ·refine RStepK.of rfl fun T W L hag hL hJ hLs hd=>?_
     have e2:T.getD 2 undef=_:=(agree_at hag 2 (by kernel_rfl)).trans rfl
     clear hag hd
     go_simp
     first | exact ⟨_,rfl,rfl⟩ | exact ⟨_,rfl,rfl,brefl _⟩ | exact ⟨_,rfl,rfl,hJ,brefl _⟩
    ·refine RStepK.of rfl fun T W L hag hL hJ hLs hd=>?_
     have e3:T.getD 3 undef=_:=(agree_at hag 3 (by kernel_rfl)).trans rfl
     clear hag hd
     go_simp
     first | exact ⟨_,rfl,rfl⟩ | exact ⟨_,rfl,rfl,brefl _⟩ | exact ⟨_,rfl,rfl,hJ,brefl _⟩
    ·refine RStepK.of rfl fun T W L hag hL hJ hLs hd=>?_
     have d27:T.getD 27 undef=_:=hd ⟨5,.data⟩ (by simp) rfl _ rfl
     clear hag hd
     go_simp
     first | exact ⟨_,rfl,rfl⟩ | exact ⟨_,rfl,rfl,brefl _⟩ | exact ⟨_,rfl,rfl,hJ,brefl _⟩
    ·refine RStepK.of rfl fun T W L hag hL hJ hLs hd=>?_
     have d28:T.getD 28 undef=_:=hd ⟨6,.data⟩ (by simp) rfl _ rfl
     clear hag hd
     go_simp
     first | exact ⟨_,rfl,rfl⟩ | exact ⟨_,rfl,rfl,brefl _⟩ | exact ⟨_,rfl,rfl,hJ,brefl _⟩
    ·refine RStepK.of rfl fun T W L hag hL hJ hLs hd=>?_
     have d29:T.getD 29 undef=_:=hd ⟨7,.data⟩ (by simp) rfl _ rfl
     clear hag
     refine wp_load_mid 71 (.tmp 29) rfl rb (kk*58) d29 (blkL x.k x.bs) _ (HRB.out W hJ) Tryz.underlying71 rfl (by rw [blkL_len HXO.out.len];exact size24b) ?_
     exact ⟨_,rfl,rfl,hJ,brefl _⟩
    ·refine RLastK.of rfl fun T W L hag hLs hL hJ hd=>?_
     have d25:T.getD 25 undef=_:=hd 3 _ (by simp) rfl
     have d26:T.getD 26 undef=_:=hd 4 _ (by simp) rfl
     have d30:T.getD 30 undef=_:=hd 8 _ (by simp) rfl
     obtain ⟨f,hf,hT⟩:=agree_fn hag
     have d22:T.getD 22 undef=_:=hd 0 _ (by simp) rfl
     have h22:=(hf 22).trans d22
     have d23:T.getD 23 undef=_:=hd 1 _ (by simp) rfl
     have h23:=(hf 23).trans d23
     have d24:T.getD 24 undef=_:=hd 2 _ (by simp) rfl
     have h24:=(hf 24).trans d24
     have h25:=(hf 25).trans d25
     have h26:=(hf 26).trans d26
     have d27:T.getD 27 undef=_:=hd 5 _ (by simp) rfl
     have h27:=(hf 27).trans d27
     have d28:T.getD 28 undef=_:=hd 6 _ (by simp) rfl
     have h28:=(hf 28).trans d28
     have d29:T.getD 29 undef=_:=hd 7 _ (by simp) rfl
     have h29:=(hf 29).trans d29
     have h30:=(hf 30).trans d30
     have HJ:=Lib.hid hJ
     clear hag hd d22 d23 d24 d25 d26 d27 d28 d29 d30 hJ hf
     rw [hT]
     clear hT
     simp only [List.pop_toArray,List.dropLast_cons_cons,List.dropLast_singleton,List.filterMap_cons,List.filterMap_nil,List.foldl_cons,List.foldl_nil,List.setIfInBounds_toArray,List.set_cons_succ,List.set_cons_zero,h22,h23,h24,h25,h26,h27,h28,h29,h30]
     have hd:=HSV.out.below HJ.out
     go_simp
     refine (gsettle_any hd.ds v.r HR.out v.n v.g v.fr HNG.out.1 HNG.out.2 kk hlt x.k x.bs HXO.out.k HXO.out.len HXO.out.b HM.out).mono ?_
     rintro e w' ⟨rfl,hd',hs⟩
     have hst:=hd.step hd' hs
     have hst2:=hst.setL (b:=false) HXB.out
     have hsm:=((HSM.out.trans (Same.rst (HSV.out.same HJ.out))).trans hs.rst).trans hst2.2
     have zl:=hst.at_.lg HXB.out
     have fl:=hst.at_.fr (kk*58+57)
     have HST:=Lib.hid hst2.1
     have HSM3:=Lib.hid hsm
     clear hd hd' hs hst hst2 hsm HJ
     go_wp2
     go_roundw
     case rel =>
      refine ⟨kk+1,by go_num,by omega,?_,HSM3.out⟩
      rw [HM2.out,HB2.out]
      exact HST.out
     case measure=>simp [intOf];omega
  ·obtain rfl:kk=v.n:=by omega
   have hki:¬ ((v.n:Int)<v.n):=by omega
   have hsv:=HSV.out
   rw [gone_all v.B (by rw [HL.out];exact Nat.le_refl _),List.take_of_length_le (by rw [HL.out];exact Nat.le_refl _)] at hsv
   have h1:=homeW_done v.r v.g v.B m 0
   rw [HL.out] at h1
   have HM:Hid ((homeW v.r v.g m 0 v.B).done.length≤999990):=by have:=HMX.out;unfold Hid;omega
   have he:IntKind.u32.wrap ((v.ep:Int)+1)=((v.ep+1:Nat):Int):=by rw [IntWalk.u32_in _ (by omega)];omega
   obtain ⟨e1,he1⟩:∃ e1,e1=v.ep+1:=⟨_,rfl⟩
   rw [← he1] at he hep
   have HE1:Hid (e1<4294967296):=hep
   have h2:=hsv.setHd (i:=9) (u:=.int .u32 (e1:Int)) (v':={ v with B:=v.B.map unlog,ep:=e1 }) rfl rfl { hsv.at_.toOk with ep:=hep }
   have HS6:=Lib.hid h2.1
   have HFS6:=Lib.hid (HSM.out.trans h2.2)
   have z9:w5.cell? ⟨hp,9,none⟩=some (.int .u32 v.ep):=hsv.at_.c9
   have y9:=hsv.at_.f 9
   have HE0:=Lib.hid he1
   clear h1 h2 hsv he1
   generalize hmm:homeW v.r v.g m 0 v.B=mm at *
   have HMM:=Lib.hid hmm
   clear hmm
   generalize hq6:w5.setCell ⟨hp,9,none⟩ (.int .u32 (e1:Int))=W6 at *
   have HC:=Lib.hid (fun (W':World) (hb':Below W6.heap.size W6 W')=>(HS6.out.at_.below hb').cs)
   go_upto_region 9 with fail
   clear hq6 z9 y9
   refine wp_region_rgk (VNh9 q hp v.n v.g e1 v.r v.fr) (fun _ W=>Below W6.heap.size W6 W) (fun _ w w'=>Below w.heap.size w w') (by kernel_rfl) (by kernel_rfl) (fun i j v w w' _ _ h hs=>by unfold VNh9 at *;exact h) ((Below.refl _ _).drew) ?_
   simp only [RAll]
   refine ⟨?_,?_,?_,?_,?_,?_,?_,?_,?_⟩
   ·refine RStepK.of rfl fun T W L hag hL hJ hLs hd=>?_
    have e0:T.getD 0 undef=_:=(agree_at hag 0 (by kernel_rfl)).trans rfl
    clear hag hd
    go_simp
    first | exact ⟨_,rfl,rfl⟩ | exact ⟨_,rfl,rfl,brefl _⟩ | exact ⟨_,rfl,rfl,hJ,brefl _⟩
   ·refine RStepK.of rfl fun T W L hag hL hJ hLs hd=>?_
    have d43:T.getD 43 undef=_:=hd ⟨0,.data⟩ (by simp) rfl _ rfl
    clear hag hd
    go_simp
    first | exact ⟨_,rfl,rfl⟩ | exact ⟨_,rfl,rfl,brefl _⟩ | exact ⟨_,rfl,rfl,hJ,brefl _⟩
   ·refine RStepK.of rfl fun T W L hag hL hJ hLs hd=>?_
    have d44:T.getD 44 undef=_:=hd ⟨1,.data⟩ (by simp) rfl _ rfl
    clear hag hd
    go_simp
    first | exact ⟨_,rfl,rfl⟩ | exact ⟨_,rfl,rfl,brefl _⟩ | exact ⟨_,rfl,rfl,hJ,brefl _⟩
   ·refine RStepK.of rfl fun T W L hag hL hJ hLs hd=>?_
    have d45:T.getD 45 undef=_:=hd ⟨2,.data⟩ (by simp) rfl _ rfl
    obtain ⟨z0,z1,z2,z3,z4,z5,z6,z7,z8,z9,z10,z11⟩:=HC.out W hJ
    clear hag hd
    go_simp
    first | exact ⟨_,rfl,rfl⟩ | exact ⟨_,rfl,rfl,brefl _⟩ | exact ⟨_,rfl,rfl,hJ,brefl _⟩
   ·refine RStepK.of rfl fun T W L hag hL hJ hLs hd=>?_
    have e0:T.getD 0 undef=_:=(agree_at hag 0 (by kernel_rfl)).trans rfl
    clear hag hd
    go_simp
    first | exact ⟨_,rfl,rfl⟩ | exact ⟨_,rfl,rfl,brefl _⟩ | exact ⟨_,rfl,rfl,hJ,brefl _⟩
   ·refine RStepK.of rfl fun T W L hag hL hJ hLs hd=>?_
    have d47:T.getD 47 undef=_:=hd ⟨4,.data⟩ (by simp) rfl _ rfl
    clear hag hd
    go_simp
    first | exact ⟨_,rfl,rfl⟩ | exact ⟨_,rfl,rfl,brefl _⟩ | exact ⟨_,rfl,rfl,hJ,brefl _⟩
   ·refine RStepK.of rfl fun T W L hag hL hJ hLs hd=>?_
    have d48:T.getD 48 undef=_:=hd ⟨5,.data⟩ (by simp) rfl _ rfl
    clear hag hd
    go_simp
    first | exact ⟨_,rfl,rfl⟩ | exact ⟨_,rfl,rfl,brefl _⟩ | exact ⟨_,rfl,rfl,hJ,brefl _⟩
   ·refine RStepK.of rfl fun T W L hag hL hJ hLs hd=>?_
    have d49:T.getD 49 undef=_:=hd ⟨6,.data⟩ (by simp) rfl _ rfl
    obtain ⟨z0,z1,z2,z3,z4,z5,z6,z7,z8,z9,z10,z11⟩:=HC.out W hJ
    clear hag hd
    go_simp
    first | exact ⟨_,rfl,rfl⟩ | exact ⟨_,rfl,rfl,brefl _⟩ | exact ⟨_,rfl,rfl,hJ,brefl _⟩
   ·refine RLastK.of rfl fun T W L hag hLs hL hJ hd=>?_
    have d46:T.getD 46 undef=_:=hd 3 _ (by simp) rfl
    have d50:T.getD 50 undef=_:=hd 7 _ (by simp) rfl
    obtain ⟨f,hf,hT⟩:=agree_fn hag
    have d43:T.getD 43 undef=_:=hd 0 _ (by simp) rfl
    have h43:=(hf 43).trans d43
    have d44:T.getD 44 undef=_:=hd 1 _ (by simp) rfl
    have h44:=(hf 44).trans d44
    have d45:T.getD 45 undef=_:=hd 2 _ (by simp) rfl
    have h45:=(hf 45).trans d45
    have h46:=(hf 46).trans d46
    have d47:T.getD 47 undef=_:=hd 4 _ (by simp) rfl
    have h47:=(hf 47).trans d47
    have d48:T.getD 48 undef=_:=hd 5 _ (by simp) rfl
    have h48:=(hf 48).trans d48
    have d49:T.getD 49 undef=_:=hd 6 _ (by simp) rfl
    have h49:=(hf 49).trans d49
    have h50:=(hf 50).trans d50
    have HJ:=Lib.hid hJ
    clear hag hd d43 d44 d45 d46 d47 d48 d49 d50 hJ hf
    rw [hT]
    clear hT
    simp only [List.pop_toArray,List.dropLast_cons_cons,List.dropLast_singleton,List.filterMap_cons,List.filterMap_nil,List.foldl_cons,List.foldl_nil,List.setIfInBounds_toArray,List.set_cons_succ,List.set_cons_zero,h43,h44,h45,h46,h47,h48,h49,h50]
    have hd:=HS6.out.below HJ.out
    go_simp
    refine (gbegin_any hd.ds v.r HR.out v.n v.g v.fr e1 HE1.out HM.out).mono ?_
    rintro en w' ⟨rfl,hd',hs⟩
    have h1:=hd.step hd' hs
    have h2:=h1.setHd (i:=10) (u:=.int .u32 0) (v':={ v with B:=v.B.map unlog,ep:=e1,sq:=0 }) rfl rfl { h1.at_.toOk with sq:=by show (0:Nat)<4294967296;omega }
    have h3:=h2.1.setHd (i:=11) (u:=.int .i64 0) (v':={ v with B:=v.B.map unlog,ep:=e1,sq:=0,us:=0 }) rfl rfl { h2.1.at_.toOk with us:=by show (0:Nat)≤2000;omega }
    have HF:=Lib.hid h3.1
    have HFS:=Lib.hid ((((HFS6.out.trans (Same.rst (HS6.out.same HJ.out))).trans hs.rst).trans h2.2).trans h3.2)
    have z10:=h1.at_.c10
    have y10:=h1.at_.f 10
    have z11:(w'.setCell ⟨hp,10,none⟩ (.int .u32 0)).cell? ⟨hp,11,none⟩=some (.int .i64 v.us):=h2.1.at_.c11
    have y11:=h2.1.at_.f 11
    clear hd hd' hs h1 h2 h3 HJ
    go_wp2
    go_end0
    rw [← HE0.out,HMM.out]
    exact ⟨rfl,HF.out,HFS.out⟩
end Go.Proofs.YtamnpblijdgdaaaGreat
