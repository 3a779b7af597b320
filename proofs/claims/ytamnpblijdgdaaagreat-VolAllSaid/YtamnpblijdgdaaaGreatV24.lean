/- For VolAll: contracts and facts, part 24. -/
import Derived.Test.YtamnpblijdgdaaaGreatV23
namespace Go.Proofs.YtamnpblijdgdaaaGreat
open Go.ChangeShapes Go.WideShapes Go.ChangeAt Go.RowKit
set_option linter.unusedVariables false
set_option maxRecDepth 100000
def gotH (X:Nat→List Int) (o:Nat) (x:HB):HB:=if x.lg then x else ⟨opK (X o),opBs (X o),false⟩
def fetchB (X:Nat→List Int):Nat→List HB→List HB
 | _,[]=>[]
 | o,x :: l=>gotH X o x :: fetchB X (o+1) l
theorem fetchB_length (X:Nat→List Int):∀ (l:List HB) (o:Nat),(fetchB X o l).length=l.length
 | [],_=>rfl
 | x :: l,o=>by show (fetchB X (o+1) l).length+1=_;rw [fetchB_length X l];rfl
theorem fetchB_snoc (X:Nat→List Int):∀ (l:List HB) (o:Nat) (x:HB),fetchB X o (l++[x])=fetchB X o l++[gotH X (o+l.length) x]
 | [],o,x=>rfl
 | y :: l,o,x=>by
   show gotH X o y :: fetchB X (o+1) (l++[x])=_
   rw [fetchB_snoc X l (o+1) x,List.length_cons,show o+1+l.length=o+(l.length+1) by omega];rfl
theorem fetchB_at (X:Nat→List Int):∀ (l:List HB) (o i:Nat),(fetchB X o l)[i]?=(l[i]?).map (gotH X (o+i))
 | [],_,_=>rfl
 | x :: l,o,0=>rfl
 | x :: l,o,i+1=>by
   show (fetchB X (o+1) l)[i]?=_
   rw [fetchB_at X l (o+1) i,show o+1+i=o+(i+1) by omega];rfl
def got (X:Nat→List Int) (B:List HB) (k:Nat):List HB:=fetchB X 0 (B.take k)++B.drop k
theorem got_at {X:Nat→List Int} {B:List HB} {k:Nat} {x:HB} (h:B[k]?=some x):(got X B k)[k]?=some x:=by
 have hl:=(List.getElem?_eq_some_iff.1 h).1
 unfold got
 rw [List.getElem?_append_right (by rw [fetchB_length,List.length_take];omega),fetchB_length,List.length_take,List.getElem?_drop,show k+(k-min k B.length)=k by omega];exact h
theorem got_next {X:Nat→List Int} {B:List HB} {k:Nat} {x:HB} (h:B[k]?=some x):got X B (k+1)=(got X B k).set k (gotH X k x):=by
 have hl:=(List.getElem?_eq_some_iff.1 h).1
 have hlen:(fetchB X 0 (B.take k)).length=k:=by rw [fetchB_length,List.length_take];omega
 unfold got
 rw [take_snoc' h,fetchB_snoc,List.set_append_right _ _ (by omega),hlen,Nat.sub_self,List.drop_eq_getElem_cons hl,(List.getElem?_eq_some_iff.1 h).2,List.append_assoc,List.length_take,show 0+min k B.length=k by omega]
 rfl
theorem got_skip {X:Nat→List Int} {B:List HB} {k:Nat} {x:HB} (h:B[k]?=some x) (hx:x.lg=true):got X B (k+1)=got X B k:=by
 rw [got_next h]
 have:gotH X k x=x:=by unfold gotH;rw [if_pos hx]
 rw [this]
 exact setSame (got_at h)
theorem got_all {X:Nat→List Int} {B:List HB} {k:Nat} (h:B.length≤k):got X B k=fetchB X 0 B:=by unfold got;rw [List.take_of_length_le h,List.drop_of_length_le h,List.append_nil]
theorem VolAt.setK {W:World} {q hp rb:Nat} {v:VM} (h:VolAt W q hp rb v) (hne:hp≠rb) {i:Nat} {x:HB} {k:Int} {bs:List Int} (hi:v.B[i]?=some x) (hk:0≤k∧k≤7) (h56:bs.length=56) (hB:AllB bs):VolAt (W.setCells rb (i*58) (blkL k bs)) q hp rb { v with B:=v.B.set i ⟨k,bs,x.lg⟩ }:=by
 have hx:=h.ok x (List.mem_of_getElem? hi)
 have hl:(rowL hbL v.B).length=v.n*58:=by rw [rowL_length h.ok.fits,h.len]
 have hlt:=(List.getElem?_eq_some_iff.1 hi).1
 have hmul:(i+1)*58≤v.n*58:=Nat.mul_le_mul_right _ (by rw [← h.len];exact hlt)
 refine { h with len:=by rw [List.length_set];exact h.len,ok:=h.ok.set ⟨hk,h56,hB⟩,hd:=?_,row:=?_ }
 ·rw [heap_setCells_other hne];exact h.hd
 ·rw [heap_setCells (blkL k bs) (i*58) _ W h.row (by rw [List.size_toArray,hl,blkL_len h56];omega)]
  have:=rowL_splice (k:=i) (x:=x) (y:=⟨k,bs,x.lg⟩) (j:=0) (cs:=blkL k bs) h.ok.fits hi (by rw [blkL_len h56];omega) (by
   unfold splice hbL
   rw [blkL_len h56,List.drop_append,List.drop_of_length_le (by rw [blkL_len hx.len];omega),blkL_len hx.len]
   simp)
  rw [Nat.add_zero] at this
  rw [List.toList_toArray,this]
theorem SV.setK {w0 W:World} {P:Nat→Prop} {q:Nat} {m:DM} {hp rb:Nat} {v:VM} (h:SV w0 W P q m hp rb v) {i:Nat} {x:HB} {k:Int} {bs:List Int} (hi:v.B[i]?=some x) (hk:0≤k∧k≤7) (h56:bs.length=56) (hB:AllB bs) :
 SV w0 (W.setCells rb (i*58) (blkL k bs)) P q m hp rb { v with B:=v.B.set i ⟨k,bs,x.lg⟩ }∧Same (Rst P hp rb) W (W.setCells rb (i*58) (blkL k bs)) :=
 h.own ((Touch.refl _ _).setCells (F:=fun k=>k=hp∨k=rb) (Or.inr rfl) _ _) (h.at_.setK h.ne hi hk h56 hB)
def VNfe (hp rb n k:Nat) (bk:Int) (bs:List Int) (i:Nat) (v:Value) (w:World):Prop :=
 match i with
 | 0 | 1=>v=.pointer (some ⟨hp,0,none⟩)
 | 2=>v=.pointer (some ⟨hp,8,none⟩)
 | 3=>v=.slice (some ⟨rb,0,none⟩) n n
 | 4=>v=.int .i64 (k:Int)
 | 5=>v=.agg (blkA bk bs)
 | 6 | 7=>v=.pointer (some ⟨rb,k*58,none⟩)
 | _=>True
def AtFet (w0 W:World) (P:Nat→Prop) (q:Nat) (m:DM) (hp rb:Nat) (v:VM) (X:Nat→List Int) (a':Act) (w':World):Prop :=
 ∃ k:Nat,k≤v.n∧Hid (SV w0 w' P q m hp rb { v with B:=got X v.B k })∧Hid (Same (Rst P hp rb) W w')∧∃ u4 u5 u6 u7 u8 u9 u10 u11 u12 u13 u14 u15 u16 u17 u18 u19 u20 u21 u22 u23 u24 u25 u26 u27 u28 u29 u30 u31 u32 u33 u34 u35 u36 u37 u38 u39 u40 u41 u42:Value,a'={ tmps:=#[.pointer (some ⟨hp,0,none⟩),undef,.bool false,.int .i64 k,u4,u5,u6,u7,u8,u9,u10,u11,u12,u13,u14,u15,u16,u17,u18,u19,u20,u21,u22,u23,u24,u25,u26,u27,u28,u29,u30,u31,u32,u33,u34,u35,u36,u37,u38,u39,u40,u41,u42],defers:=[] }
set_option maxHeartbeats 3200000 in
theorem vfetch_any {w0 WW:World} {P:Nat→Prop} {q:Nat} {m:DM} {hp rb:Nat} {v:VM} (h:SV w0 WW P q m hp rb v) (X:Nat→List Int) (hrow:∀ i,i<v.n→rowV m v.r ((2+v.g+i:Nat):Int)=some (X i)∧BlkOk (X i)) (hop:∀ (i:Nat) (x:HB),v.B[i]?=some x→x.lg=false→Opens 0 i (X i)) :
 Calls Tryz.prog 46 #[.pointer (some ⟨hp,0,none⟩)] WW fun e w'=>e=.returned (.bool true)∧SV w0 w' P q m hp rb { v with B:=fetchB X 0 v.B }∧Same (Rst P hp rb) WW w':=by
 have HV:=Lib.hid h
 have HRW:=Lib.hid hrow
 have HOP:=Lib.hid hop
 have HNL:=Lib.hid h.at_.len
 have HNG:=Lib.hid (And.intro h.at_.n h.at_.g)
 clear h hrow hop
 go_enter Tryz.func46,Tryz.ntmps46
 go_wp2
 refine wp_scope1e (AtFet w0 WW P q m hp rb v X) (fun a' _=>v.n-(intOf (a'.tmps.getD 3 undef)).toNat) rfl ?_ ?_
 ·intro HF0
  have HF:=Lib.hid HF0
  clear HF0
  go_wp2
  go_step3
  rename_i hK
  exact hK _ _ (HF.out _ _ ⟨0,Nat.zero_le _,HV.out,Same.refl _ _,_,_,_,_,_,_,_,_,_,_,_,_,_,_,_,_,_,_,_,_,_,_,_,_,_,_,_,_,_,_,_,_,_,_,_,_,_,_,_,rfl⟩)
 ·rintro a' w5 ⟨kk,hk,HSV,HSM,u4,u5,u6,u7,u8,u9,u10,u11,u12,u13,u14,u15,u16,u17,u18,u19,u20,u21,u22,u23,u24,u25,u26,u27,u28,u29,u30,u31,u32,u33,u34,u35,u36,u37,u38,u39,u40,u41,u42,rfl⟩
  have c8:w5.cell? ⟨hp,8,none⟩=some (.slice (some ⟨rb,0,none⟩) v.n v.n):=HSV.out.at_.c8
  by_cases hkn:kk=v.n
  ·have hq:((kk:Int)==v.n)=true:=by simp;omega
   have hsv:=HSV.out
   rw [got_all (by rw [HNL.out];omega)] at hsv
   have HF:=Lib.hid hsv
   clear hsv
   go_wp2
   simp only [Exit.jump]
   go_ret
   exact ⟨rfl,HF.out,HSM.out⟩
  ·have hkl:kk<v.n:=by omega
   have hq:((kk:Int)==v.n)=false:=by simp;omega
   have hki:(kk:Int)<v.n:=by omega
   obtain ⟨x,hx⟩:∃ x,v.B[kk]?=some x:=⟨_,List.getElem?_eq_getElem (by rw [HNL.out];exact hkl)⟩
   have HXB:Hid ((got X v.B kk)[kk]?=some x):=got_at hx
   have zl:w5.cell? ⟨rb,kk*58+57,none⟩=some (.bool x.lg):=HSV.out.at_.lg HXB.out
   have hn2:=HNG.out.1
   have HKN:Hid (kk<v.n):=hkl
   have HX:=Lib.hid hx
   clear hx
   cases hlg:x.lg
   ·have hop:=HOP.out kk x HX.out hlg
    have HBN:Hid ((got X v.B kk).set kk ⟨opK (X kk),opBs (X kk),x.lg⟩=got X v.B (kk+1)):=by
     unfold Hid
     rw [got_next HX.out]
     unfold gotH
     rw [if_neg (by rw [hlg];simp),hlg]
    have hoa:openA 0 kk (X kk)=blkA (opK (X kk)) (opBs (X kk)):=by unfold openA;rw [if_pos hop]
    have hgo:=gopen_any (HSV.out.ds.rd v.r HSV.out.at_.r) v.n v.g v.fr HNG.out.1 HNG.out.2 kk hkl (X kk) (HRW.out kk hkl).1 (HRW.out kk hkl).2
    rw [hoa,decide_eq_true hop] at hgo
    have HGO:=Lib.hid hgo
    have H56:=Lib.hid (opBs_len (HRW.out kk hkl).2.1)
    have HOKB:=Lib.hid (opBs_allB (HRW.out kk hkl).2.2)
    have HOKK:=Lib.hid hop.2.1.1
    rw [hlg] at zl
    clear hop hoa hgo hlg
    generalize opK (X kk)=bk at *
    generalize opBs (X kk)=bs at *
    go_upto_region 5 with fail
    go_wp2_with (first | (with_reducible refine wpList_load_mid rfl 87 (.tmp 25) rfl hp 0 rfl (gndLs (some ⟨q,0,none⟩) v.r v.n v.g v.fr) _ HSV.out.at_.rangeG Tryz.underlying87 rfl (by rw [show (gndLs (some ⟨q,0,none⟩) v.r v.n v.g v.fr).length=8 from rfl];exact size82) ?_))
    refine HGO.out.mono ?_
    rintro e W4 ⟨rfl,hb4⟩
    have hs4:=HSV.out.below hb4
    have hm4:=HSM.out.trans (Same.rst (HSV.out.same hb4))
    have HS4:=Lib.hid hs4
    have HM4:=Lib.hid hm4
    clear hb4 hs4 hm4 c8 zl HGO
    go_upto_region 6 with (first | (refine wpList_allocB rfl rfl ?_) | (refine wpList_storeB rfl (.tmp 4) (.tmp 29) rfl W4.heap.size rfl bk 0 bs zBs rfl H56.out zBs_len (heap_alloc_new W4 _) ?_))
    have hb5:Below W4.heap.size W4 ((W4.alloc (Obj.cells (blkA 0 zBs) 71)).setRow W4.heap.size (blkA bk bs)):=below_setRow ((Below.refl _ _).alloc (Nat.le_refl _) _) (Nat.le_refl _) _
    have e4:=setRow_blk (D:=blkA bk bs) (heap_alloc_new W4 (Obj.cells (blkA 0 zBs) 71))
    have HS5:=Lib.hid (HS4.out.below hb5)
    have HM5:=Lib.hid (HM4.out.trans (Same.rst (HS4.out.same hb5)))
    generalize (W4.alloc (Obj.cells (blkA 0 zBs) 71)).setRow W4.heap.size (blkA bk bs)=W5 at *
    generalize W4.heap.size=g4 at *
    have HG4:=Lib.hid (fun (W':World) (hb':Below W5.heap.size W5 W')=>kb hb' e4)
    obtain ⟨nn,hnn⟩:∃ nn,nn=v.n:=⟨_,rfl⟩
    have HC8:Hid (∀ W',Below W5.heap.size W5 W'→W'.cell? ⟨hp,8,none⟩=some (.slice (some ⟨rb,0,none⟩) nn nn)):=fun W' hb=>by rw [hnn];exact (HS5.out.at_.below hb).c8
    have hti:(kk:Int)<nn:=by rw [hnn];exact hki
    have hnn2:nn≤200:=by rw [hnn];exact hn2
    clear hb5 e4 hnn
    go_upto_region 8 with fail
    refine wp_region_rgk (VNfe hp rb nn kk bk bs) (fun _ W=>Below W5.heap.size W5 W) (fun _ w w'=>Below w.heap.size w w') (by kernel_rfl) (by kernel_rfl) (fun i j v w w' _ _ h hs=>by unfold VNfe at *;exact h) ((Below.refl _ _).drew) ?_
    simp only [RAll]
    refine ⟨?_,?_,?_,?_,?_,?_,?_,?_,?_⟩
    ·refine RStepK.of rfl fun T W L hag hL hJ hLs hd=>?_
     have e0:T.getD 0 undef=_:=(agree_at hag 0 (by kernel_rfl)).trans rfl
     clear hag hd
     go_simp
     first | exact ⟨_,rfl,rfl⟩ | exact ⟨_,rfl,rfl,brefl _⟩ | exact ⟨_,rfl,rfl,hJ,brefl _⟩
    ·refine RStepK.of rfl fun T W L hag hL hJ hLs hd=>?_
     have d33:T.getD 33 undef=_:=hd ⟨0,.data⟩ (by simp) rfl _ rfl
     clear hag hd
     go_simp
     first | exact ⟨_,rfl,rfl⟩ | exact ⟨_,rfl,rfl,brefl _⟩ | exact ⟨_,rfl,rfl,hJ,brefl _⟩
    ·refine RStepK.of rfl fun T W L hag hL hJ hLs hd=>?_
     have d34:T.getD 34 undef=_:=hd ⟨1,.data⟩ (by simp) rfl _ rfl
     clear hag hd
     go_simp
     first | exact ⟨_,rfl,rfl⟩ | exact ⟨_,rfl,rfl,brefl _⟩ | exact ⟨_,rfl,rfl,hJ,brefl _⟩
    ·refine RStepK.of rfl fun T W L hag hL hJ hLs hd=>?_
     have d35:T.getD 35 undef=_:=hd ⟨2,.data⟩ (by simp) rfl _ rfl
     have z8:=HC8.out W hJ
     clear hag hd
     go_simp
     first | exact ⟨_,rfl,rfl⟩ | exact ⟨_,rfl,rfl,brefl _⟩ | exact ⟨_,rfl,rfl,hJ,brefl _⟩
    ·refine RStepK.of rfl fun T W L hag hL hJ hLs hd=>?_
     have e3:T.getD 3 undef=_:=(agree_at hag 3 (by kernel_rfl)).trans rfl
     clear hag hd
     go_simp
     first | exact ⟨_,rfl,rfl⟩ | exact ⟨_,rfl,rfl,brefl _⟩ | exact ⟨_,rfl,rfl,hJ,brefl _⟩
    ·refine RStepK.of rfl fun T W L hag hL hJ hLs hd=>?_
     have e4:T.getD 4 undef=_:=(agree_at hag 4 (by kernel_rfl)).trans rfl
     clear hag hd
     refine wp_load_row 71 (.tmp 4) rfl g4 e4 _ _ _ _ (HG4.out W hJ) Tryz.underlying71 rfl (by rw [blkA_size H56.out];exact size24b) ?_
     exact ⟨_,rfl,rfl,hJ,brefl _⟩
    ·refine RStepK.of rfl fun T W L hag hL hJ hLs hd=>?_
     have d36:T.getD 36 undef=_:=hd ⟨3,.data⟩ (by simp) rfl _ rfl
     have d37:T.getD 37 undef=_:=hd ⟨4,.data⟩ (by simp) rfl _ rfl
     clear hag hd
     go_simp
     first | exact ⟨_,rfl,rfl⟩ | exact ⟨_,rfl,rfl,brefl _⟩ | exact ⟨_,rfl,rfl,hJ,brefl _⟩
    ·refine RStepK.of rfl fun T W L hag hL hJ hLs hd=>?_
     have d39:T.getD 39 undef=_:=hd ⟨6,.data⟩ (by simp) rfl _ rfl
     clear hag hd
     go_simp
     first | exact ⟨_,rfl,rfl⟩ | exact ⟨_,rfl,rfl,brefl _⟩ | exact ⟨_,rfl,rfl,hJ,brefl _⟩
    ·refine RLastK.of rfl fun T W L hag hLs hL hJ hd=>?_
     have d40:T.getD 40 undef=_:=hd 7 _ (by simp) rfl
     have d38:T.getD 38 undef=_:=hd 5 _ (by simp) rfl
     obtain ⟨f,hf,hT⟩:=agree_fn hag
     have d33:T.getD 33 undef=_:=hd 0 _ (by simp) rfl
     have h33:=(hf 33).trans d33
     have d34:T.getD 34 undef=_:=hd 1 _ (by simp) rfl
     have h34:=(hf 34).trans d34
     have d35:T.getD 35 undef=_:=hd 2 _ (by simp) rfl
     have h35:=(hf 35).trans d35
     have d36:T.getD 36 undef=_:=hd 3 _ (by simp) rfl
     have h36:=(hf 36).trans d36
     have d37:T.getD 37 undef=_:=hd 4 _ (by simp) rfl
     have h37:=(hf 37).trans d37
     have h38:=(hf 38).trans d38
     have d39:T.getD 39 undef=_:=hd 6 _ (by simp) rfl
     have h39:=(hf 39).trans d39
     have h40:=(hf 40).trans d40
     have HJ:=Lib.hid hJ
     clear hag hd d33 d34 d35 d36 d37 d38 d39 d40 hJ hf
     rw [hT]
     clear hT
     simp only [List.pop_toArray,List.dropLast_cons_cons,List.dropLast_singleton,List.filterMap_cons,List.filterMap_nil,List.foldl_cons,List.foldl_nil,List.setIfInBounds_toArray,List.set_cons_succ,List.set_cons_zero,h33,h34,h35,h36,h37,h38,h39,h40]
     have hth:=(HS5.out.at_.below HJ.out).there (i:=kk) (o:=0) (c:=57) HKN.out (by omega)
     refine wp_store_mid 71 (.tmp 40) (.tmp 38) rfl rb (kk*58) _ rfl rfl (by rw [blkA_size H56.out];exact hth) (by rw [blkA_size H56.out];exact size24b) (blkA_one _ _) ?_
     rw [blkA_list]
     have hst:=(HS5.out.below HJ.out).setK (k:=bk) (bs:=bs) HXB.out HOKK.out H56.out HOKB.out
     have hsm:=(HM5.out.trans (Same.rst (HS5.out.same HJ.out))).trans hst.2
     rw [HBN.out] at hst
     have HST:=Lib.hid hst.1
     have HSM3:=Lib.hid hsm
     clear hst hsm hth HJ
     generalize W.setCells rb (kk*58) (blkL bk bs)=W7 at *
     simp only [Act.put]
     go_wp2
     go_step3
     refine ⟨rfl,(show AtFet w0 WW P q m hp rb v X _ W7 from ⟨kk+1,by have:=HKN.out;omega,HST.out,HSM3.out,_,_,_,_,_,_,_,_,_,_,_,_,_,_,_,_,_,_,_,_,_,_,_,_,_,_,_,_,_,_,_,_,_,_,_,_,_,_,_,(by rw [show ((kk+1:Nat):Int)=(kk:Int)+1 from rfl])⟩),?_⟩
     have:=HKN.out
     simp [intOf];omega
   ·have HBN:Hid (got X v.B (kk+1)=got X v.B kk):=got_skip HX.out hlg
    have hsv:=HSV.out
    rw [← HBN.out] at hsv
    have HF:=Lib.hid hsv
    rw [hlg] at zl
    clear hsv hlg
    go_wp2
    go_step3
    refine ⟨rfl,(show AtFet w0 WW P q m hp rb v X _ w5 from ⟨kk+1,by have:=HKN.out;omega,HF.out,HSM.out,_,_,_,_,_,_,_,_,_,_,_,_,_,_,_,_,_,_,_,_,_,_,_,_,_,_,_,_,_,_,_,_,_,_,_,_,_,_,_,(by rw [show ((kk+1:Nat):Int)=(kk:Int)+1 from rfl])⟩),?_⟩
    have:=HKN.out
    simp [intOf];omega
def zH:HB:=⟨0,zBs,false⟩
theorem zH_ok:zH.Ok:=⟨by show (0:Int)≤0∧(0:Int)≤7;omega,zBs_len,zBs_allB⟩
def vm0 (r fr:Int) (n g:Nat):VM:=⟨r,fr,n,g,List.replicate n zH,0,0,0⟩
theorem built90 (q rb:Nat) (r fr:Int) (n g:Nat):Tryz.prog.built 103 [(0,.agg (gndC (some ⟨q,0,none⟩) r n g fr)),(1,.slice (some ⟨rb,0,none⟩) n n)]=some (volC q rb (vm0 r fr n g)):=by kernel_rfl
theorem made95 (n:Nat):madeCells (Value.agg (hbL zH).toArray).cells (n*58)=(rowL hbL (List.replicate n zH)).toArray:=by
 have hf:Fits hbL 58 (List.replicate n zH):=fun x hx=>by rw [List.eq_of_mem_replicate hx];exact hbL_len zBs_len
 apply Array.toList_inj.1
 rw [List.toList_toArray]
 apply List.ext_getElem?
 intro j
 by_cases hj:j<n*58
 ·have hl:(madeCells (Value.agg (hbL zH).toArray).cells (n*58)).toList[j]?=some ((hbL zH).toArray[j%(hbL zH).toArray.size]!):=by simp [madeCells,hj,Value.cells]
  have hsz:(hbL zH).toArray.size=58:=by rw [List.size_toArray];exact hbL_len zBs_len
  have hr:j%58<58:=Nat.mod_lt _ (by omega)
  have hi:j/58<n:=Nat.div_lt_of_lt_mul (by omega)
  obtain ⟨u,hu⟩:∃ u,(hbL zH)[j%58]?=some u:=⟨_,List.getElem?_eq_getElem (by rw [hbL_len zBs_len];exact hr)⟩
  have h2:=rowL_at hf (i:=j/58) (x:=zH) (by rw [List.getElem?_replicate,if_pos hi]) hu
  rw [show j/58*58+j%58=j by omega] at h2
  rw [hl,hsz,h2]
  congr 1
  rw [getElem!_def,List.getElem?_toArray,hu]
 ·rw [List.getElem?_eq_none (by rw [Array.length_toList,size_madeCells];omega),List.getElem?_eq_none (by rw [rowL_length hf,List.length_replicate];omega)]
def VNmo (q g5 n g base:Nat) (r fr:Int) (i:Nat) (v:Value) (w:World):Prop :=
 match i with
 | 0=>v=.agg (gndC (some ⟨q,0,none⟩) r n g fr)
 | 1=>v=.pointer (some ⟨g5,2,none⟩)
 | 2=>v=.int .i64 n
 | 3=>∃ rb,v=.slice (some ⟨rb,0,none⟩) n n∧w.heap[rb]?=some (.cells (rowL hbL (List.replicate n zH)).toArray 129 (0,0))∧base≤rb
 | 4=>∃ rb,v=.agg (volC q rb (vm0 r fr n g))∧w.heap[rb]?=some (.cells (rowL hbL (List.replicate n zH)).toArray 129 (0,0))∧base≤rb
 | 5=>∃ hp rb,v=.pointer (some ⟨hp,0,none⟩)∧w.heap[hp]?=some (.cells (volC q rb (vm0 r fr n g)) 103 (0,0))∧w.heap[rb]?=some (.cells (rowL hbL (List.replicate n zH)).toArray 129 (0,0))∧base≤rb∧base≤hp∧hp≠rb
 | _=>True
set_option maxHeartbeats 3200000 in
theorem vmount_any {w0 W:World} {P:Nat→Prop} {q:Nat} {m:DM} (h:DS w0 W P q m) (r:Int) (hr:i64 r) (n g:Nat) (fr:Int) (hn:n≤200) (hg:g≤1000) (e:Nat) (hep:epN (rowV m r) 2=(e,true)) (he:e+1<4294967296) (hblk:∀ i b,rowV m r i=some b→BlkOk b)
 (LG:List (List Int)) (hL:LG.length=g) (hrow:∀ i b,LG[i]?=some b→rowV m r ((2+i:Nat):Int)=some b) (hLB:∀ b∈LG,BlkOk b)
 (Rs:List (List Wr)) (rest:List (List Int)) (hRs:∀ l∈Rs,MayL l∧WrsOk l) (hLs:LG=putsL e 0 Rs++rest) (hnt:¬ Taken 0 e Rs.length rest) (hrl:Rs.length≤1000000)
 (X:Nat→List Int) (hX:∀ i,i<n→rowV m r ((2+g+i:Nat):Int)=some (X i)∧BlkOk (X i)) (hop:∀ (i:Nat) (x:HB),(layB (List.replicate n zH) Rs.flatten)[i]?=some x→x.lg=false→Opens 0 i (X i)) (hmax:m.done.length≤999000) :
 Calls Tryz.prog 13 #[.pointer (some ⟨q,0,none⟩),.int .i64 r,shQ 0 0 n g fr] W fun en w'=>∃ hp rb,en=.returned (.tuple #[.pointer (some ⟨hp,0,none⟩),.int .i64 0]) ∧
  SV w0 w' (fun k=>P k∨k=hp∨k=rb) q (homeM m ⟨r,fr,n,g,fetchB X 0 (layB (List.replicate n zH) Rs.flatten),e,0,0⟩) hp rb (homeV ⟨r,fr,n,g,fetchB X 0 (layB (List.replicate n zH) Rs.flatten),e,0,0⟩)∧Same P W w'∧W.heap.size≤hp∧W.heap.size≤rb:=by
 obtain ⟨WW,rfl⟩:∃ WW,WW=W:=⟨W,rfl⟩
 have HD:=Lib.hid h
 have HR:=Lib.hid hr
 have HNG:=Lib.hid (And.intro hn hg)
 have HMX:=Lib.hid hmax
 have HGO:=Lib.hid (fun W=>groundOf_any (some ⟨q,0,none⟩) r n g fr hn hg W)
 have hb1:∀ o,Below WW.heap.size WW (WW.alloc o):=fun o=>(Below.refl _ _).alloc (Nat.le_refl _) _
 have e5:=fun o=>heap_alloc_new WW o
 have HEP:=Lib.hid hep
 have HE:=Lib.hid he
 have HBL:=Lib.hid hblk
 have HRP:=Lib.hid (And.intro hL (And.intro hrow (And.intro hLB (And.intro hRs (And.intro hLs (And.intro hnt hrl))))))
 have HXX:=Lib.hid (And.intro hX hop)
 obtain ⟨i0,hi0,hz0,hz1,hz2⟩:=info_parts info95
 have hmk:=fun w:World=>run_make (P:=Tryz.prog) w 101 129 i0 _ Tryz.underlying101 hi0 hz0 .i64 .i64 (n:Int) (n:Int) (by omega) (by omega) (by rw [hz2];omega) (by omega)
 rw [Int.toNat_natCast,hz1,show (hbL ⟨0,zBs,false⟩)=hbL zH from rfl,made95] at hmk
 have HMK:=Lib.hid hmk
 unfold shQ
 clear h hmax hep he hblk hL hrow hLB hRs hLs hnt hrl hX hop hi0 hz0 hz1 hz2 hmk
 go_enter Tryz.func13,Tryz.ntmps13
 go_wp2
 go_step3
 go_wp2_with fail
 have HB1:=Lib.hid (hb1 (Obj.cells #[.int .i64 0,.int .i64 0,.int .i64 n,.int .i64 g,.int .i64 fr] 28))
 have he5:=e5 (Obj.cells #[.int .i64 0,.int .i64 0,.int .i64 n,.int .i64 g,.int .i64 fr] 28)
 refine (HGO.out _).mono ?_
 rintro en W2 ⟨rfl,hb2⟩
 have he6:=kb hb2 he5
 have HB2:=Lib.hid (keepB HB1.out hb2)
 clear hb1 hb2 e5 he5
 unfold gndA
 go_upto_region 3 with (refine wpList_storeG rfl (.tmp 9) (.tmp 16) rfl W2.heap.size rfl (gndC (some ⟨q,0,none⟩) r n g fr) rfl (gndC_one _ _ _ _ _) rfl _ rfl (heap_alloc_new W2 _) ?_)
 have e7:=setRow_blk (D:=gndC (some ⟨q,0,none⟩) r n g fr) (heap_alloc_new W2 (Obj.cells #[.pointer none,.int .i64 0,.int .u8 0,.int .i64 0,.int .i64 0,.int .i64 0,.int .i64 0,.int .i64 0] 87))
 have hb3:Below W2.heap.size W2 ((W2.alloc (Obj.cells #[.pointer none,.int .i64 0,.int .u8 0,.int .i64 0,.int .i64 0,.int .i64 0,.int .i64 0,.int .i64 0] 87)).setRow W2.heap.size (gndC (some ⟨q,0,none⟩) r n g fr)):=below_setRow ((Below.refl _ _).alloc (Nat.le_refl _) _) (Nat.le_refl _) _
 have HB3:=Lib.hid (keepB HB2.out hb3)
 have e5:=kb hb3 he6
 have hlt5:WW.heap.size<W2.heap.size:=room_lt he6
 have hsz3:W2.heap.size<((W2.alloc (Obj.cells #[.pointer none,.int .i64 0,.int .u8 0,.int .i64 0,.int .i64 0,.int .i64 0,.int .i64 0,.int .i64 0] 87)).setRow W2.heap.size (gndC (some ⟨q,0,none⟩) r n g fr)).heap.size:=room_lt e7
 generalize (W2.alloc (Obj.cells #[.pointer none,.int .i64 0,.int .u8 0,.int .i64 0,.int .i64 0,.int .i64 0,.int .i64 0,.int .i64 0] 87)).setRow W2.heap.size (gndC (some ⟨q,0,none⟩) r n g fr)=W3 at *
 generalize W2.heap.size=g9 at *
 clear hb3
 have HSZ:=Lib.hid (And.intro hlt5 hsz3)
 have HG:=Lib.hid (fun (W':World) (hb':Below W3.heap.size W3 W')=>kb hb' e7)
 have HY2:Hid (∀ W',Below W3.heap.size W3 W'→W'.cell? ⟨WW.heap.size,2,none⟩=some (.int .i64 n)):=fun W' hb'=>(blk_cell (kb hb' e5) 2).trans rfl
 clear e7 e5 he6 hlt5 hsz3
 go_upto_region 4 with fail
 refine wp_region_rgk (VNmo q WW.heap.size n g W3.heap.size r fr) (fun _ W=>Below W3.heap.size W3 W) (fun _ w w'=>Below w.heap.size w w') (by kernel_rfl) (by kernel_rfl) (fun i j v w w' _ _ h hs=>by revert h;unfold VNmo;split <;> intro h <;> first | exact h | (obtain ⟨p,h1,h2,h3⟩:=h;exact ⟨p,h1,kb hs h2,h3⟩) | (obtain ⟨p,p2,h1,h2,h3,h4⟩:=h;exact ⟨p,p2,h1,kb hs h2,kb hs h3,h4⟩) | trivial) ((Below.refl _ _).drew) ?_
 simp only [RAll]
 refine ⟨?_,?_,?_,?_,?_,?_,?_⟩
 ·refine RStepK.of rfl fun T W L hag hL hJ hLs hd=>?_
  have e9:T.getD 9 undef=_:=(agree_at hag 9 (by kernel_rfl)).trans rfl
  obtain ⟨z0,z1,z2,z3,z4,z5,z6,z7⟩:=gnd_cells (HG.out W hJ)
  have y2:=HY2.out W hJ
  clear hag hd
  go_simp
  first | exact ⟨_,rfl,rfl⟩ | exact ⟨_,rfl,rfl,brefl _⟩ | exact ⟨_,rfl,rfl,hJ,brefl _⟩
 ·refine RStepK.of rfl fun T W L hag hL hJ hLs hd=>?_
  have e5:T.getD 5 undef=_:=(agree_at hag 5 (by kernel_rfl)).trans rfl
  clear hag hd
  go_simp
  first | exact ⟨_,rfl,rfl⟩ | exact ⟨_,rfl,rfl,brefl _⟩ | exact ⟨_,rfl,rfl,hJ,brefl _⟩
 ·refine RStepK.of rfl fun T W L hag hL hJ hLs hd=>?_
  have d21:T.getD 21 undef=_:=hd ⟨1,.data⟩ (by simp) rfl _ rfl
  obtain ⟨z0,z1,z2,z3,z4,z5,z6,z7⟩:=gnd_cells (HG.out W hJ)
  have y2:=HY2.out W hJ
  clear hag hd
  go_simp
  first | exact ⟨_,rfl,rfl⟩ | exact ⟨_,rfl,rfl,brefl _⟩ | exact ⟨_,rfl,rfl,hJ,brefl _⟩
 ·refine RStepK.of rfl fun T W L hag hL hJ hLs hd=>?_
  have d22:T.getD 22 undef=_:=hd ⟨2,.data⟩ (by simp) rfl _ rfl
  have ev22:(⟨T,[]⟩:Act).eval (.tmp 22)=.int .i64 n:=d22
  clear hag hd
  refine wp_run (v:=.slice (some ⟨W.heap.size,0,none⟩) n n) (w':=W.alloc (.cells (rowL hbL (List.replicate n zH)).toArray 129)) ?_ ⟨_,rfl,⟨_,rfl,heap_alloc_new W _,hJ.size⟩,hJ.alloc hJ.size _,(brefl W).alloc (Nat.le_refl _) _⟩
  have hm:=HMK.out W
  unfold execOp
  simp only [ev22,Sem.run_bind,hm,Result.andThen_ok,Sem.run_pure]
 ·refine RStepK.of rfl fun T W L hag hL hJ hLs hd=>?_
  have d20:T.getD 20 undef=_:=hd ⟨0,.data⟩ (by simp) rfl _ rfl
  have x23:=hd ⟨3,.data⟩ (by simp) rfl _ rfl
  obtain ⟨rb,(hs:T.getD 23 undef=_),hp,hbs⟩:=x23
  have ev20:(⟨T,[]⟩:Act).eval (.tmp 20)=.agg (gndC (some ⟨q,0,none⟩) r n g fr):=d20
  have ev23:(⟨T,[]⟩:Act).eval (.tmp 23)=.slice (some ⟨rb,0,none⟩) n n:=hs
  clear hag hd
  have hb:=run_build (P:=Tryz.prog) W 103 #[(0,.agg (gndC (some ⟨q,0,none⟩) r n g fr)),(1,.slice (some ⟨rb,0,none⟩) n n)] _ (built90 q rb r fr n g)
  refine wp_run (v:=.agg (volC q rb (vm0 r fr n g))) (w':=W) ?_ ⟨_,rfl,⟨_,rfl,hp,hbs⟩,hJ,brefl _⟩
  unfold execOp
  simp only [List.map_toArray,List.map_cons,List.map_nil,ev20,ev23,Sem.run_bind,hb,Result.andThen_ok,Sem.run_pure]
 ·refine RStepK.of rfl fun T W L hag hL hJ hLs hd=>?_
  have x24:=hd ⟨4,.data⟩ (by simp) rfl _ rfl
  obtain ⟨rb,(hs:T.getD 24 undef=_),hp,hbs⟩:=x24
  clear hag hd
  go_simp
  exact ⟨_,rfl,⟨W.heap.size,rb,rfl,heap_alloc_new W _,kb ((brefl W).alloc (Nat.le_refl _) _) hp,hbs,hJ.size,by have:=room_lt hp;omega⟩,hJ.alloc hJ.size _,(brefl W).alloc (Nat.le_refl _) _⟩
 ·refine RLastK.of rfl fun T W L hag hLs hL hJ hd=>?_
  have x25:=hd 5 _ (by simp) rfl
  obtain ⟨f,hf,hT⟩:=agree_fn hag
  have d20:T.getD 20 undef=_:=hd 0 _ (by simp) rfl
  have h20:=(hf 20).trans d20
  have d21:T.getD 21 undef=_:=hd 1 _ (by simp) rfl
  have h21:=(hf 21).trans d21
  have d22:T.getD 22 undef=_:=hd 2 _ (by simp) rfl
  have h22:=(hf 22).trans d22
  have HJ:=Lib.hid hJ
  obtain ⟨hp,rb,(hv:T.getD 25 undef=_),hh1,hh2,hb1,hb2,hne⟩:=x25
  have h25:=(hf 25).trans hv
  have HH:=Lib.hid (And.intro hh1 (And.intro hh2 (And.intro hb1 (And.intro hb2 hne))))
  clear hv hh1 hh2 hb1 hb2 hne
  clear hag hd d20 d21 d22 hJ hf
  rw [hT]
  clear hT
  simp only [List.pop_toArray,List.dropLast_cons_cons,List.dropLast_singleton,List.filterMap_cons,List.filterMap_nil,List.foldl_cons,List.foldl_nil,List.setIfInBounds_toArray,List.set_cons_succ,List.set_cons_zero,h20,h21,h22]
  simp only [h25]
  have HB5:=Lib.hid (keepB HB3.out HJ.out)
  have hlh:=room_lt HH.out.1
  have hlr:=room_lt HH.out.2.1
  have hs3:=HB3.out.size
  have hs0:=HD.out.bel.size
  have hd5:DS w0 W (fun k=>P k∨k=hp∨k=rb) q m:=HD.out.below HB5.out (fun k hk=>by
   rcases hk with hk | rfl | rfl
   ·exact Or.inl hk
   ·exact Or.inr ⟨by have:=HH.out.2.2.2.1;omega,hlh⟩
   ·exact Or.inr ⟨by have:=HH.out.2.2.1;omega,hlr⟩)
  have hv0:VolAt W q hp rb (vm0 r fr n g):={ len:=List.length_replicate,ok:=(fun x hx=>by rw [List.eq_of_mem_replicate hx];exact zH_ok),n:=HNG.out.1,g:=HNG.out.2,r:=HR.out,ep:=(by show (0:Nat)<4294967296;omega),sq:=(by show (0:Nat)<4294967296;omega),us:=(by show (0:Nat)≤2000;omega),hd:=HH.out.1,row:=HH.out.2.1 }
  have hsv5:SV w0 W (fun k=>P k∨k=hp∨k=rb) q m hp rb (vm0 r fr n g):={ ds:=hd5,at_:=hv0,ph:=Or.inr (Or.inl rfl),pr:=Or.inr (Or.inr rfl),lh:=(by have:=HH.out.2.2.2.1;omega),lr:=(by have:=HH.out.2.2.1;omega),ne:=HH.out.2.2.2.2 }
  have HS5:=Lib.hid hsv5
  have HSM5:=Lib.hid (HD.out.same HB5.out)
  have HLO:Hid (WW.heap.size≤hp∧WW.heap.size≤rb):=⟨by have:=HH.out.2.2.2.1;omega,by have:=HH.out.2.2.1;omega⟩
  have HRST:Hid (∀ k,P k→Rst (fun k=>P k∨k=hp∨k=rb) hp rb k):=fun k hk=>by
   have:=HD.out.low k hk
   have h1:=HLO.out.1
   have h2:=HLO.out.2
   exact ⟨Or.inl hk,by omega,by omega⟩
  have he9:=HG.out W HJ.out
  have hepo:=gepoch_any ((HD.out.rd r HR.out).keep HB5.out) HBL.out n g fr
  rw [HEP.out] at hepo
  have HEPO:=Lib.hid hepo
  clear hlh hlr hs3 hs0 hd5 hv0 hsv5 hepo HJ HG HY2 HMK
  go_wp2_with (refine wpList_loadG rfl (.tmp 9) rfl g9 rfl (gndC (some ⟨q,0,none⟩) r n g fr) rfl he9 ?_)
  refine HEPO.out.mono ?_
  rintro en W6 ⟨rfl,hb6⟩
  have hs6:=HS5.out.below hb6
  have hs7:=hs6.setHd (i:=9) (u:=.int .u32 e) (v':={ vm0 r fr n g with ep:=e }) rfl rfl { hs6.at_.toOk with ep:=(by show e<4294967296;have:=HE.out;omega) }
  have z9:W6.cell? ⟨hp,9,none⟩=some (.int .u32 0):=hs6.at_.c9
  have y9:=hs6.at_.f 9
  have HS7:=Lib.hid hs7.1
  have HSM7:=Lib.hid ((HSM5.out.trans ((HS5.out.same hb6).mono fun k hk=>Or.inl hk)).trans (hs7.2.mono HRST.out))
  clear he9 hs6 hs7 hb6 HEPO
  obtain ⟨h1,h2,h3,h4,h5,h6,h7⟩:=HRP.out
  have hre:=fun W (hs:SV w0 W (fun k=>P k∨k=hp∨k=rb) q m hp rb { vm0 r fr n g with ep:=e })=>vreplay_any hs LG h1 h2 h3 Rs rest h4 h5 h6 h7
  have HRE:=Lib.hid hre
  clear hre h1 h2 h3 h4 h5 h6 h7
  go_upto_region 6 with fail
  generalize W6.setCell ⟨hp,9,none⟩ (.int .u32 e)=W7 at *
  clear z9 y9
  go_wp2_with fail
  refine (HRE.out W7 HS7.out).mono ?_
  rintro en W8 ⟨rfl,hs8,hm8⟩
  have hfe:=vfetch_any hs8 X HXX.out.1 HXX.out.2
  have HFE:=Lib.hid hfe
  have HSM8:=Lib.hid (HSM7.out.trans (hm8.mono HRST.out))
  clear hs8 hm8 hfe HRE HS7
  go_wp2_with fail
  refine HFE.out.mono ?_
  rintro en W9 ⟨rfl,hs9,hm9⟩
  have hgo:=vgoHome_any hs9 HE.out HMX.out
  have HGH:=Lib.hid hgo
  have HSM9:=Lib.hid (HSM8.out.trans (hm9.mono HRST.out))
  clear hs9 hm9 hgo HFE
  go_wp2_with fail
  refine HGH.out.mono ?_
  rintro en W10 ⟨rfl,hs10,hm10⟩
  have HF:=Lib.hid hs10
  have HSM10:=Lib.hid (HSM9.out.trans (hm10.mono HRST.out))
  clear hs10 hm10 HGH
  go_wp2
  try rw [Exit.noGoto_ret]
  go_ret2
  exact ⟨hp,rb,rfl,HF.out,HSM10.out,HLO.out.1,HLO.out.2⟩
end Go.Proofs.YtamnpblijdgdaaaGreat
