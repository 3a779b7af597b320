/- For VolAll: contracts and facts, part 29. -/
import Derived.Test.YtamnpblijdgdaaaGreatV28
namespace Go.Proofs.YtamnpblijdgdaaaGreat
open Go.ChangeShapes Go.WideShapes Go.ChangeAt Go.RowKit
set_option linter.unusedVariables false
set_option maxRecDepth 100000
def bksL:List Bk→List Value
 | []=>[]
 | x :: l=>blkL x.k x.bs++bksL l
theorem bksL_append:∀ (l m:List Bk),bksL (l++m)=bksL l++bksL m
 | [],_=>rfl
 | x :: l,m=>by show blkL x.k x.bs++bksL (l++m)=_;rw [bksL_append l m,← List.append_assoc];rfl
theorem bksL_at:∀ {l:List Bk},BksOk l→∀ {i:Nat} {x:Bk},l[i]?=some x→∀ {j:Nat} {v:Value},(blkL x.k x.bs)[j]?=some v→(bksL l)[i*57+j]?=some v
 | [],_,i,x,h,_,_,_=>by cases h
 | y :: l,hl,0,x,h,j,v,hj=>by
   injection h with h;subst h
   show (blkL y.k y.bs++bksL l)[0*57+j]?=some v
   rw [Nat.zero_mul,Nat.zero_add,List.getElem?_append_left (List.getElem?_eq_some_iff.1 hj).1];exact hj
 | y :: l,hl,i+1,x,h,j,v,hj=>by
   show (blkL y.k y.bs++bksL l)[(i+1)*57+j]?=some v
   have hlen:(blkL y.k y.bs).length=57:=blkL_len (hl y (by simp)).len
   rw [List.getElem?_append_right (by omega),hlen,show (i+1)*57+j-57=i*57+j by omega]
   exact bksL_at (l:=l) (fun z hz=>hl z (by simp [hz])) (show l[i]?=some x from h) hj
theorem blkL_one (k:Int) (bs:List Int):∀ v∈blkL k bs,v.oneCell'=true:=by
 have h:=blkA_one k bs
 rw [Array.all_eq_true_iff_forall_mem] at h
 exact fun v hv=>h v (by unfold blkA;simpa using hv)
def OwnK (w:World) (base:Nat) (v:Value) (l:List Bk):Prop:=w.ownsRow base 71 57 v l.length (bksL l)
theorem OwnK.nil (w:World) (base:Nat):OwnK w base (.slice none 0 0) []:=World.ownsRow_nil _ _ _ _
theorem OwnK.keep {w w':World} {base:Nat} {v:Value} {l:List Bk} (h:OwnK w base v l) (hb:Below w.heap.size w w'):OwnK w' base v l:=ownB h hb
def Bks (w:World) (A:Option Addr) (l:List Bk):Prop:=∀ i x,l[i]?=some x→∃ g,A=some ⟨g,0,none⟩∧w.rangeAt g (i*57) (blkL x.k x.bs)
theorem Bks.keep {w w':World} {A:Option Addr} {l:List Bk} (h:Bks w A l) (hb:Below w.heap.size w w'):Bks w' A l:=fun i x hi =>
 let ⟨g,e,h1⟩:=h i x hi;⟨g,e,fun j v hj=>keepC hb (h1 j v hj)⟩
section
variable {ops:Array Oper} {rest:List Oper} {o:Oper} {a:Act} {w:World} {Q:Exit→Act→World→Prop}
end
def Light (l:List Wd):Prop:=l.length≤30∧∀ d∈l,d.l.length≤14∧d.ks.length≤40
def lightK (l:List Wd):Bool:=l.all (fun d=>decide (d.l.length≤14)&&decide (d.ks.length≤40))&&decide (l.length≤30)
theorem lightK_iff (l:List Wd):lightK l=true↔Light l:=by
 unfold lightK Light
 simp only [Bool.and_eq_true,List.all_eq_true,decide_eq_true_eq]
 exact ⟨fun h=>⟨h.2,h.1⟩,fun h=>⟨h.2,h.1⟩⟩
theorem light_any (A:Option Addr) (l:List Wd) (n d:Nat) (w:World) (hn:l.length=n) (hd:n≤d) (hm:d≤9223372036854775807) (hok:WdsOk l) (hy:Wds w A l) :
 Calls Tryz.prog 5 #[.slice A n d] w fun e w'=>e=.returned (.bool (lightK l))∧w=w':=by
 have HN:=Lib.hid hn
 have HO:=Lib.hid hok
 have HY:=Lib.hid hy
 clear hn hok hy
 go_enter Tryz.func5,Tryz.ntmps5
 go_wp2_with fail
 go_loop [3] (fun i=>∃ k:Nat,i=.int .i64 k∧k≤n∧Hid ((l.take k).all (fun d=>decide (d.l.length≤14)&&decide (d.ks.length≤40))=true)) (fun i=>n-(intOf i).toNat)
 case atStart=>exact ⟨0,rfl,by omega,by unfold Hid;rfl⟩
 case round =>
  obtain ⟨k,rfl,hk,HK⟩:=hrel
  by_cases hlt:k<n
  ·obtain ⟨x,hx⟩:∃ x,l[k]?=some x:=⟨_,List.getElem?_eq_getElem (by rw [HN.out];exact hlt)⟩
   obtain ⟨ad,rfl,hw⟩:=HY.out k x hx
   have c1:=hw.c1
   have c2:=hw.c2
   have HT:Hid ((l.take (k+1)).all (fun d=>decide (d.l.length≤14)&&decide (d.ks.length≤40))=(decide (x.l.length≤14)&&decide (x.ks.length≤40))):=by
    unfold Hid;rw [take_snoc' hx,List.all_append,HK.out];simp
   have HX:Hid (x∈l):=List.mem_of_getElem? hx
   have hki:(k:Int)<n:=by omega
   clear hx hw
   obtain ⟨ln,hln⟩:∃ ln,x.l.length=ln:=⟨_,rfl⟩
   obtain ⟨kn,hkn⟩:∃ kn,x.ks.length=kn:=⟨_,rfl⟩
   rw [hln] at c1
   rw [hkn] at c2
   rw [hln,hkn] at HT
   have HLK:=Lib.hid (And.intro hln hkn)
   clear hln hkn
   by_cases h1:ln≤14
   ·have h1i:(ln:Int)≤14:=by omega
    by_cases h2:kn≤40
    ·have h2i:(kn:Int)≤40:=by omega
     have HT2:Hid ((l.take (k+1)).all (fun d=>decide (d.l.length≤14)&&decide (d.ks.length≤40))=true):=by unfold Hid;rw [HT.out,decide_eq_true h1,decide_eq_true h2];rfl
     go_wp2
     go_round
     case rel=>exact ⟨k+1,by go_num,by omega,HT2.out⟩
     case measure=>simp [intOf];omega
    ·have h2i:(40:Int)<kn:=by omega
     have HF:Hid (lightK l=false):=by
      unfold Hid
      rw [Bool.eq_false_iff]
      intro h
      have:=(((lightK_iff l).1 h).2 x HX.out).2
      rw [HLK.out.2] at this;omega
     go_wp2
     go_ret
     exact ⟨by rw [HF.out];rfl,rfl⟩
   ·have h1i:(14:Int)<ln:=by omega
    have HF:Hid (lightK l=false):=by
     unfold Hid
     rw [Bool.eq_false_iff]
     intro h
     have:=(((lightK_iff l).1 h).2 x HX.out).1
     rw [HLK.out.1] at this;omega
    go_wp2
    go_ret
    exact ⟨by rw [HF.out];rfl,rfl⟩
  ·obtain rfl:k=n:=by omega
   have hki:¬ (k:Int)<k:=by omega
   have HF:Hid (lightK l=decide ((k:Int)≤30)):=by
    have h1:=HK.out
    rw [List.take_of_length_le (by rw [HN.out];exact Nat.le_refl _)] at h1
    unfold Hid lightK
    rw [h1,HN.out,Bool.true_and,Bool.eq_iff_iff,decide_eq_true_eq,decide_eq_true_eq]
    omega
   go_wp2
   go_ret
   exact ⟨by rw [HF.out];rfl,rfl⟩
theorem wp_neqB9 {o:Oper} {a:Act} {w:World} {K:Act→World→Prop} {Q:Exit→Act→World→Prop} (x y:Operand) (t:TypeId) (ho:o.op=.binOp .neq 71 x y t) (k j:Int) (bs cs:List Int) (hx:a.eval x=.agg (blkA k bs)) (hy:a.eval y=.agg (blkA j cs)) (hb:bs.length=56) (hB:AllB bs) (hc:cs.length=56) (hC:AllB cs)
 (h:K (a.put o.dst (.bool (!decide (k=j∧bs=cs)))) w):o.wp Tryz.prog a w K Q:=by
 have hg:=run_eqGuard_agg (P:=Tryz.prog) w .neq 71 x y (blkA k bs) (blkA j cs) guardB9
 have hr:=run_neq_struct (P:=Tryz.prog) w 71 (blkA k bs) (blkA j cs)
 rw [eqlB 9997 k j bs cs hb hc hB hC w] at hr
 unfold Oper.wp execOp
 simp only [ho,hx,hy,Sem.run_bind,hg,hr,Result.andThen_ok]
 exact h
theorem getB_no {v:VM} {t:Int} (h:hasV v t=false):getB v t=⟨0,zBs,false⟩:=by unfold getB;rw [if_neg (by rw [h];simp)]
def VBk (x:HB) (y:Bk) (gs n d k:Nat) (b:Bool) (i:Nat) (v:Value) (w:World):Prop :=
 match i with
 | 0=>v=.bool true
 | 1 | 2=>v=.bool false
 | 3=>v=.agg (blkA x.k x.bs)
 | 4=>v=.slice (some ⟨gs,0,none⟩) n d
 | 5=>v=.int .i64 k
 | 6=>v=.pointer (some ⟨gs,k*57,none⟩)
 | 7=>v=.agg (blkA y.k y.bs)
 | 8=>v=.bool b
 | _=>True
set_option maxHeartbeats 3200000 in
theorem blocks_any {W:World} {q hp rb:Nat} {v:VM} (h:VolAt W q hp rb v) (A:Option Addr) (S:List Bk) (n d:Nat) (hn:S.length=n) (hd:n≤d) (hm:d≤9223372036854775807) (hok:BksOk S) (hy:Bks W A S) :
 Calls Tryz.prog 26 #[.pointer (some ⟨hp,0,none⟩),.slice A n d] W fun e w'=>e=.returned (.bool (decide (stV v=S)))∧Below W.heap.size W w':=by
 have HV:=Lib.hid h
 have HN:=Lib.hid hn
 have HO:=Lib.hid hok
 have HY:=Lib.hid hy
 have HBK:=Lib.hid (vblocks_any h)
 have hl:(stV v).length=v.n:=by unfold stV;rw [List.length_map,h.len]
 have HL:=Lib.hid hl
 clear h hn hok hy hl
 go_enter Tryz.func26,Tryz.ntmps26
 by_cases hvn:v.n=n
 ·rw [hvn] at HBK
  have HVN:=Lib.hid hvn
  clear hvn
  go_wp2_with fail
  refine HBK.out.mono ?_
  rintro e w' ⟨rfl,rfl⟩
  go_wp2_with fail
  go_loopw [5,6,7] (fun i p b wr=>∃ k:Nat,i=.int .i64 k∧k≤n∧Hid (∀ j,j<k→(stV v)[j]?=S[j]?)∧Hid (Below W.heap.size W wr)) (fun i _ _ _=>n-(intOf i).toNat)
  case atStart=>exact ⟨0,rfl,by omega,fun j hj=>by omega,brefl _⟩
  case round =>
   obtain ⟨k,rfl,hk,HE,HBR⟩:=hrel
   obtain ⟨w3,rfl⟩:∃ w3,w3=wr:=⟨wr,rfl⟩
   by_cases hlt:k<n
   ·have hki:(k:Int)<n:=by omega
    obtain ⟨y,hyk⟩:∃ y,S[k]?=some y:=⟨_,List.getElem?_eq_getElem (by rw [HN.out];exact hlt)⟩
    obtain ⟨x,hx⟩:∃ x,v.B[k]?=some x:=⟨_,List.getElem?_eq_getElem (by rw [HV.out.len,HVN.out];exact hlt)⟩
    have hxo:=HV.out.ok x (List.mem_of_getElem? hx)
    have hyo:=HO.out y (List.mem_of_getElem? hyk)
    have HX5:=Lib.hid (And.intro hxo.len hxo.b)
    have HY5:=Lib.hid (And.intro hyo.len hyo.b)
    obtain ⟨gs,rfl,_⟩:=HY.out k y hyk
    have HYR0:Hid (∀ w',Below W.heap.size W w'→w'.rangeAt gs (k*57) (blkL y.k y.bs)):=fun w' hb=>by
     obtain ⟨g',e,hr⟩:=(HY.out.keep hb) k y hyk
     injection e with e;injection e with e;rw [e];exact hr
    have hsx:(stV v)[k]?=some (val x):=by unfold stV;rw [List.getElem?_map,hx];rfl
    obtain ⟨b,hbq⟩:∃ b,(!decide (x.k=y.k∧x.bs=y.bs))=b:=⟨_,rfl⟩
    have HBQ:=Lib.hid hbq
    have HEQ:Hid (b=false→(stV v)[k]?=S[k]?):=fun hb=>by
     rw [← hbq,Bool.not_eq_false',decide_eq_true_eq] at hb
     rw [hsx,hyk]
     cases x;cases y
     obtain ⟨h1,h2⟩:=hb
     simp only at h1 h2
     unfold val;rw [h1,h2]
    have HNEQ:Hid (b=true→decide (stV v=S)=false):=fun hb=>by
     rw [← hbq,Bool.not_eq_true',decide_eq_false_iff_not] at hb
     rw [decide_eq_false_iff_not]
     intro h
     rw [h,hyk] at hsx
     injection hsx with hsx
     rw [hsx] at hb
     exact hb ⟨rfl,rfl⟩
    have hget:=vget_any (HV.out.below HBR.out) k (by have:=HV.out.n;have:=HVN.out;constructor <;> omega)
    obtain ⟨g1,g2⟩:=getB_in HV.out.len hx
    rw [g1,g2] at hget
    have HGET:=Lib.hid hget
    clear hxo hyo hsx hbq hget g1 g2 hx hyk
    go_wp2_with fail
    refine HGET.out.mono ?_
    rintro e w4 ⟨rfl,hb4⟩
    have HB4:=Lib.hid (HBR.out.trans (hb4.mono HBR.out.size))
    clear hb4 HGET
    go_upto_region 7 with (first | (refine wpList_allocB rfl rfl ?_) | (refine wpList_storeB rfl (.tmp 6) (.tmp 31) rfl w4.heap.size rfl x.k 0 x.bs zBs rfl HX5.out.1 zBs_len (heap_alloc_new w4 _) ?_))
    have hb5:Below w4.heap.size w4 ((w4.alloc (Obj.cells (blkA 0 zBs) 71)).setRow w4.heap.size (blkA x.k x.bs)):=below_setRow ((Below.refl _ _).alloc (Nat.le_refl _) _) (Nat.le_refl _) _
    have e5:=setRow_blk (D:=blkA x.k x.bs) (heap_alloc_new w4 (Obj.cells (blkA 0 zBs) 71))
    have HB5:=Lib.hid (HB4.out.trans (hb5.mono HB4.out.size))
    have HG6:=Lib.hid e5
    clear hb5 e5
    generalize (w4.alloc (Obj.cells (blkA 0 zBs) 71)).setRow w4.heap.size (blkA x.k x.bs)=w5 at *
    generalize w4.heap.size=g6 at *
    try simp only [Act.put]
    have HYR:Hid (∀ w',Below w5.heap.size w5 w'→w'.rangeAt gs (k*57) (blkL y.k y.bs)):=fun w' hb=>HYR0.out w' (HB5.out.trans (hb.mono HB5.out.size))
    clear HYR0 HB4
    refine wp_region_rgk (VBk x y gs n d k b) (fun _ W=>Below w5.heap.size w5 W) (fun _ w w'=>Below w.heap.size w w') (by kernel_rfl) (by kernel_rfl) (fun i j v w w' _ _ h hs=>by unfold VBk at *;exact h) ((Below.refl _ _).drew) ?_
    simp only [RAll]
    refine ⟨?_,?_,?_,?_,?_,?_,?_,?_,?_,?_⟩
    ·refine RStepK.of rfl fun T W L hag hL hJ hLs hd=>?_
     have e7:T.getD 7 undef=_:=(agree_at hag 7 (by kernel_rfl)).trans rfl
     clear hag hd
     go_simp
     first | exact ⟨_,rfl,rfl⟩ | exact ⟨_,rfl,rfl,brefl _⟩ | exact ⟨_,rfl,rfl,hJ,brefl _⟩
    ·refine RStepK.of rfl fun T W L hag hL hJ hLs hd=>?_
     have d33:T.getD 33 undef=_:=hd ⟨0,.data⟩ (by simp) rfl _ rfl
     clear hag hd
     go_simp
     first | exact ⟨_,rfl,rfl⟩ | exact ⟨_,rfl,rfl,brefl _⟩ | exact ⟨_,rfl,rfl,hJ,brefl _⟩
    ·refine RStepK.of rfl fun T W L hag hL hJ hLs hd=>?_
     have d34:T.getD 34 undef=_:=hd ⟨1,.data⟩ (by simp) rfl _ rfl
     clear hag hd
     go_simp
     first | exact ⟨_,rfl,rfl⟩ | exact ⟨_,rfl,rfl,brefl _⟩ | exact ⟨_,rfl,rfl,hJ,brefl _⟩
    ·refine RStepK.want rfl rfl rfl (by kernel_rfl) (fun v w h=>h) fun T W L hag hL hJ hLs hd=>?_
     have e6:T.getD 6 undef=_:=(agree_at hag 6 (by kernel_rfl)).trans rfl
     clear hag
     refine wp_load_row 71 (.tmp 6) rfl g6 e6 _ _ _ _ (kb hJ HG6.out) Tryz.underlying71 rfl (by rw [blkA_size HX5.out.1];exact size24b) ?_
     exact ⟨_,rfl,rfl,hJ,brefl _⟩
    ·refine RStepK.want rfl rfl rfl (by kernel_rfl) (fun v w h=>h) fun T W L hag hL hJ hLs hd=>?_
     have e1:T.getD 1 undef=_:=(agree_at hag 1 (by kernel_rfl)).trans rfl
     clear hag hd
     go_simp
     first | exact ⟨_,rfl,rfl⟩ | exact ⟨_,rfl,rfl,brefl _⟩ | exact ⟨_,rfl,rfl,hJ,brefl _⟩
    ·refine RStepK.want rfl rfl rfl (by kernel_rfl) (fun v w h=>h) fun T W L hag hL hJ hLs hd=>?_
     have e5:T.getD 5 undef=_:=(agree_at hag 5 (by kernel_rfl)).trans rfl
     clear hag hd
     go_simp
     first | exact ⟨_,rfl,rfl⟩ | exact ⟨_,rfl,rfl,brefl _⟩ | exact ⟨_,rfl,rfl,hJ,brefl _⟩
    ·refine RStepK.want rfl rfl rfl (by kernel_rfl) (fun v w h=>h) fun T W L hag hL hJ hLs hd=>?_
     have d37:T.getD 37 undef=_:=hd ⟨4,.data⟩ (by simp) rfl _ rfl
     have d38:T.getD 38 undef=_:=hd ⟨5,.data⟩ (by simp) rfl _ rfl
     clear hag hd
     go_simp
     first | exact ⟨_,rfl,rfl⟩ | exact ⟨_,rfl,rfl,brefl _⟩ | exact ⟨_,rfl,rfl,hJ,brefl _⟩
    ·refine RStepK.want rfl rfl rfl (by kernel_rfl) (fun v w h=>h) fun T W L hag hL hJ hLs hd=>?_
     have d39:T.getD 39 undef=_:=hd ⟨6,.data⟩ (by simp) rfl _ rfl
     clear hag
     refine wp_load_mid 71 (.tmp 39) rfl gs (k*57) d39 (blkL y.k y.bs) _ (HYR.out W hJ) Tryz.underlying71 rfl (by rw [blkL_len HY5.out.1];exact size24b) ?_
     exact ⟨_,rfl,rfl,hJ,brefl _⟩
    ·refine RStepK.want rfl rfl rfl (by kernel_rfl) (fun v w h=>h) fun T W L hag hL hJ hLs hd=>?_
     have d36:T.getD 36 undef=_:=hd ⟨3,.data⟩ (by simp) rfl _ rfl
     have d40:T.getD 40 undef=_:=hd ⟨7,.data⟩ (by simp) rfl _ rfl
     clear hag
     refine wp_neqB9 (.tmp 36) (.tmp 40) _ rfl x.k y.k x.bs y.bs d36 d40 HX5.out.1 HX5.out.2 HY5.out.1 HY5.out.2 ?_
     rw [HBQ.out]
     exact ⟨_,rfl,rfl,hJ,brefl _⟩
    ·refine RLastK.of rfl fun T W L hag hLs hL hJ hd=>?_
     have d35:T.getD 35 undef=_:=hd 2 _ (by simp) rfl
     have d41:T.getD 41 undef=_:=hd 8 _ (by simp) rfl
     obtain ⟨f,hf,hT⟩:=agree_fn hag
     have d33:T.getD 33 undef=_:=hd 0 _ (by simp) rfl
     have h33:=(hf 33).trans d33
     have d34:T.getD 34 undef=_:=hd 1 _ (by simp) rfl
     have h34:=(hf 34).trans d34
     have h35:=(hf 35).trans d35
     have d36:T.getD 36 undef=_:=hd 3 _ (by simp) rfl
     have h36:=(hf 36).trans d36
     have d37:T.getD 37 undef=_:=hd 4 _ (by simp) rfl
     have h37:=(hf 37).trans d37
     have d38:T.getD 38 undef=_:=hd 5 _ (by simp) rfl
     have h38:=(hf 38).trans d38
     have d39:T.getD 39 undef=_:=hd 6 _ (by simp) rfl
     have h39:=(hf 39).trans d39
     have d40:T.getD 40 undef=_:=hd 7 _ (by simp) rfl
     have h40:=(hf 40).trans d40
     have h41:=(hf 41).trans d41
     have HJ:=Lib.hid hJ
     clear hag hd d33 d34 d35 d36 d37 d38 d39 d40 d41 hJ hf
     rw [hT]
     clear hT
     simp only [List.pop_toArray,List.dropLast_cons_cons,List.dropLast_singleton,List.filterMap_cons,List.filterMap_nil,List.foldl_cons,List.foldl_nil,List.setIfInBounds_toArray,List.set_cons_succ,List.set_cons_zero,h33,h34,h35,h36,h37,h38,h39,h40,h41]
     clear HX5 HY5 HG6 HYR
     cases b
     ·have HSE:Hid ((stV v)[k]?=S[k]?):=HEQ.out rfl
      have HF:=Lib.hid (HB5.out.trans (HJ.out.mono HB5.out.size))
      clear HJ HEQ HNEQ HBQ
      go_wp2
      go_roundw
      case rel =>
       refine ⟨k+1,by go_num,by omega,Lib.hid (fun j hj=>?_),HF.out⟩
       by_cases e:j=k
       ·rw [e];exact HSE.out
       ·exact HE.out j (by omega)
      case measure=>simp [intOf];omega
     ·have HF:=Lib.hid (HB5.out.trans (HJ.out.mono HB5.out.size))
      have HNO:Hid (decide (stV v=S)=false):=HNEQ.out rfl
      clear HJ HEQ HNEQ HBQ
      go_wp2
      go_ret
      exact ⟨by rw [HNO.out];rfl,HF.out⟩
   ·obtain rfl:k=n:=by omega
    have hki:¬ (k:Int)<k:=by omega
    have HEQ:Hid (decide (stV v=S)=true):=by
     unfold Hid
     rw [decide_eq_true_eq]
     apply List.ext_getElem?
     intro j
     by_cases hj:j<k
     ·exact HE.out j hj
     ·rw [List.getElem?_eq_none (by rw [HL.out,HVN.out];omega),List.getElem?_eq_none (by rw [HN.out];omega)]
    have n1:hasV v (-1)=false:=by unfold hasV;simp
    have n2:hasV v (k:Int)=false:=by unfold hasV;rw [HVN.out];simp
    have HG1:Hid (∀ w',Below W.heap.size W w'→Calls Tryz.prog 28 #[.pointer (some ⟨hp,0,none⟩),.int .i64 (-1)] w' fun e w2=>e=.returned (.tuple #[.agg (blkA 0 zBs),.bool false])∧Below w'.heap.size w' w2):=fun w' hb=>by
     have h1:=vget_any (HV.out.below hb) (-1) (by constructor <;> omega)
     rw [n1,getB_no n1] at h1
     exact h1
    have HG2:Hid (∀ w',Below W.heap.size W w'→Calls Tryz.prog 28 #[.pointer (some ⟨hp,0,none⟩),.int .i64 (k:Int)] w' fun e w2=>e=.returned (.tuple #[.agg (blkA 0 zBs),.bool false])∧Below w'.heap.size w' w2):=fun w' hb=>by
     have h1:=vget_any (HV.out.below hb) k (by have:=HV.out.n;have:=HVN.out;constructor <;> omega)
     rw [n2,getB_no n2] at h1
     exact h1
    clear n1 n2
    go_wp2_with fail
    refine (HG1.out w3 HBR.out).mono ?_
    rintro e w4 ⟨rfl,hb4⟩
    have HB4:=Lib.hid (HBR.out.trans (hb4.mono HBR.out.size))
    clear hb4
    go_upto_region 10 with (first | (refine wpList_allocB rfl rfl ?_) | (refine wpList_storeB rfl (.tmp 8) (.tmp 46) rfl w4.heap.size rfl 0 0 zBs zBs rfl zBs_len zBs_len (heap_alloc_new w4 _) ?_))
    have hb5:Below w4.heap.size w4 ((w4.alloc (Obj.cells (blkA 0 zBs) 71)).setRow w4.heap.size (blkA 0 zBs)):=below_setRow ((Below.refl _ _).alloc (Nat.le_refl _) _) (Nat.le_refl _) _
    have HB5:=Lib.hid (HB4.out.trans (hb5.mono HB4.out.size))
    clear hb5
    generalize (w4.alloc (Obj.cells (blkA 0 zBs) 71)).setRow w4.heap.size (blkA 0 zBs)=w5 at *
    generalize w4.heap.size=g8 at *
    try simp only [Act.put]
    go_wp2_with fail
    refine (HG2.out w5 HB5.out).mono ?_
    rintro e w6 ⟨rfl,hb6⟩
    have HB6:=Lib.hid (HB5.out.trans (hb6.mono HB5.out.size))
    clear hb6
    go_upto_region 11 with (first | (refine wpList_allocB rfl rfl ?_) | (refine wpList_storeB rfl (.tmp 10) (.tmp 53) rfl w6.heap.size rfl 0 0 zBs zBs rfl zBs_len zBs_len (heap_alloc_new w6 _) ?_))
    have hb7:Below w6.heap.size w6 ((w6.alloc (Obj.cells (blkA 0 zBs) 71)).setRow w6.heap.size (blkA 0 zBs)):=below_setRow ((Below.refl _ _).alloc (Nat.le_refl _) _) (Nat.le_refl _) _
    have HB7:=Lib.hid (HB6.out.trans (hb7.mono HB6.out.size))
    clear hb7
    generalize (w6.alloc (Obj.cells (blkA 0 zBs) 71)).setRow w6.heap.size (blkA 0 zBs)=w7 at *
    generalize w6.heap.size=g10 at *
    try simp only [Act.put]
    go_wp2
    go_ret
    exact ⟨by rw [HEQ.out];rfl,HB7.out⟩
 ·have hq:((v.n:Int)==n)=false:=by simp;omega
  have HNO:Hid (decide (stV v=S)=false):=by
   unfold Hid
   rw [decide_eq_false_iff_not]
   intro h
   rw [h,HN.out] at HL
   exact hvn HL.out.symm
  generalize v.n=vn at *
  go_wp2_with fail
  refine HBK.out.mono ?_
  rintro e w' ⟨rfl,rfl⟩
  go_wp2
  go_ret
  exact ⟨by rw [HNO.out];rfl,brefl _⟩
theorem Lv.step {m:DM} {v:VM} {r n g:Nat} (h:Lv m v r n g) {l:List Wr} (hok:WrsOk l) (hg:13≤g) (he:v.ep+1<65000) (hns:m.stops=false):Lv (chM m v l) (chV v l) r n g∧(chV v l).ep≤v.ep+1∧(chM m v l).stops=false:=by
 have h1:=h.change hok hg he hns
 exact ⟨h1.1,h1.2.2.1,h1.2.2.2⟩
theorem stV_oks {v:VM} (h:v.Ok):BksOk (stV v):=fun x hx=>by
 unfold stV at hx
 obtain ⟨y,hy,rfl⟩:=List.mem_map.1 hx
 have:=h.ok y hy
 exact ⟨this.k,this.len,this.b⟩
theorem stV_length {v:VM} (h:v.Ok):(stV v).length=v.n:=by unfold stV;rw [List.length_map,h.len]
theorem Mtb.few {m:DM} {r n g e:Nat} {S0:List Bk} {Rs:List (List Wr)} (h:Mtb m r n g e S0 Rs):Rs.length≤g:=by
 obtain ⟨rest,h1,_⟩:=h.lg
 have h2:=congrArg List.length h1
 rw [List.length_append,List.length_take] at h2
 have:=putsL_few e Rs 0
 omega
section
variable {m:DM} {v:VM} {r n g e:Nat} {S0:List Bk} {Rs:List (List Wr)} {k:Nat}
end
def bkE (x:Bk):List Value:=blkL x.k x.bs
theorem bksL_rowL:∀ l:List Bk,bksL l=rowL bkE l
 | []=>rfl
 | x :: l=>by show blkL x.k x.bs++bksL l=bkE x++rowL bkE l;rw [bksL_rowL l];rfl
theorem BksOk.fits {l:List Bk} (h:BksOk l):Fits bkE 57 l:=fun x hx=>blkL_len (h x hx).len
theorem bksL_set {l:List Bk} (h:BksOk l) {i:Nat} {y:Bk} (hi:i<l.length) (hy:y.bs.length=56):splice (bksL l) (i*57) (blkL y.k y.bs)=bksL (l.set i y):=by
 have hx:l[i]?=some l[i]:=List.getElem?_eq_getElem hi
 have:=rowL_splice (k:=i) (y:=y) (j:=0) (cs:=bkE y) h.fits hx (by rw [show (bkE y).length=57 from blkL_len hy];omega) (by rw [splice_whole _ _ (by rw [show (bkE y).length=57 from blkL_len hy];exact h.fits _ (List.mem_of_getElem? hx))])
 rw [Nat.add_zero] at this
 rw [bksL_rowL,bksL_rowL];exact this
theorem Dev.lt {W:World} {F:Nat→Prop} {q:Nat} {m:DM} (h:Dev W F q m):∀ k,F k→k<W.heap.size:=by obtain ⟨O,L,_,_,h⟩:=h;exact h
theorem txt1 {w W:World} {K:Option Addr} {ks:List Int} {c g:Nat} {t:TypeId} {F:Nat→Prop} (hb:Below w.heap.size w W) (hy:Byt w K ks) (hk:AllB ks) (h1:ks.length≤c) (h2:c≤9223372036854775807) (hF:∀ k,F k→w.heap.size≤k) (hg:W.heap[g]?=some (.cells #[.slice K ks.length c] t (0,0))) (hn:¬ F g):TxtsF W F (some ⟨g,0,none⟩) [ks]:=fun i bs hi=>by
 have hlt:=(List.getElem?_eq_some_iff.1 hi).1
 rw [List.length_singleton] at hlt
 obtain rfl:i=0:=by omega
 injection hi with hi
 subst hi
 refine ⟨_,K,c,rfl,fun W' ht=>⟨?_,fun j x hj=>?_⟩,hk,h1,h2⟩
 ·rw [Addr.add_mid,blk_cell ((ht.block _ (room_lt hg) hn).trans hg)];rfl
 ·obtain ⟨a,e,hc⟩:=hy j x hj
  refine ⟨a,e,?_⟩
  have hl:=World.block_lt_of_cell? w _ hc
  have h3:W.heap[(a.add j).block]?=w.heap[(a.add j).block]?:=hb.block _ hl
  have h4:W'.heap[(a.add j).block]?=W.heap[(a.add j).block]?:=ht.block _ (Nat.lt_of_lt_of_le hl hb.size) (fun hf=>by have:=hF _ hf;omega)
  rw [World.cell?_of_block (h4.trans h3)];exact hc
section
variable {w wr wr':World} {P:Nat→Prop} {q hp rb gs n G k:Nat} {m:DM} {v:VM} {sv:Value} {T L:List (List Bk)} {sure:Nat}
end
end Go.Proofs.YtamnpblijdgdaaaGreat
namespace Go.Proofs.YtamnpblijdgdaaaGreat
open Go.ChangeShapes Go.WideShapes Go.ChangeAt Go.RowKit
open Go.Maps (Keyed)
set_option linter.unusedVariables false
set_option maxRecDepth 100000
theorem intK:Keyed Tryz.prog 3:=Maps.int_keyed Tryz.underlying3
theorem keyI {k:Int} (h:i64 k) (h2:k≤9223372036854775807):keyOf Tryz.prog 3 (.int .i64 k)=some (.int .i64 k):=Maps.keyOf_int_mk Tryz.underlying3 (by
 have h1:=h.1
 show (decide (IntKind.i64.min≤k)&&decide (k≤IntKind.i64.max))=true
 rw [decide_eq_true (show IntKind.i64.min≤k from by rw [show IntKind.i64.min = -9223372036854775808 by decide];omega),decide_eq_true (show k≤IntKind.i64.max from by rw [show IntKind.i64.max=9223372036854775807 by decide];omega)];rfl)
def heldR:Value→Option (DataW Value × List MemPlace):=fun v=>some (.held v,[])
def MapI (W:World) (b c:Nat) (f:Int→Option Value):Prop :=
 ∃ D:DataW Value,W.ownsMap Tryz.prog 3 heldR b c D∧∀ k:Int,Maps.has D (.int .i64 k)=(f k).isSome∧∀ z,D.atKey (.int .i64 k) z=match f k with | some x=>.held x | none=>z
theorem MapI.keep {W W':World} {b c:Nat} {f:Int→Option Value} (h:MapI W b c f) (hk:W'.heap[b]?=W.heap[b]?):MapI W' b c f:=by
 obtain ⟨D,⟨es,clock,hb,h2⟩,h3⟩:=h
 exact ⟨D,⟨es,clock,hk.trans hb,h2⟩,h3⟩
theorem MapI.lt {W:World} {b c:Nat} {f:Int→Option Value} (h:MapI W b c f):b<W.heap.size:=by obtain ⟨D,h2,_⟩:=h;exact h2.lt
theorem MapI.new (W:World):MapI (W.alloc (.map #[] 0)) W.heap.size 0 (fun _=>none):=⟨_,World.ownsMap_made W Tryz.prog 3 heldR,fun k=>⟨rfl,fun z=>rfl⟩⟩
theorem MapI.put {W:World} {b c:Nat} {f:Int→Option Value} (h:MapI W b c f) {t e:TypeId} (ht:Tryz.prog.underlying t=some (.map 3 e)) (hc:c<maxLen) {k:Int} (hk:i64 k) (hk2:k≤9223372036854775807) (v:Value) :
 ∃ W',(Instr.mapUpdate t (.map (some b)) (.int .i64 k) v).run Tryz.prog W=.ok () W'∧MapI W' b (c+1) (fun j=>if j=k then some v else f j)∧W.grownBy W' (some b):=by
 obtain ⟨D,h2,h3⟩:=h
 have hm:=h2.isMap
 have hkey:=keyI hk hk2
 obtain ⟨W',hr,ho,hg⟩:=h2.update intK ht hc hkey (show heldR v=some (.held v,[]) from rfl)
 refine ⟨W',hr,⟨_,ho,fun j=>?_⟩,hg⟩
 by_cases e:j=k
 ·subst e
  have e:((fun j'=>if j'=j then some v else f j') j)=some v:=if_pos rfl
  rw [Maps.has_put_same hm (intK.key hkey),e]
  exact ⟨rfl,fun z=>by rw [Maps.atKey_put_same hm (intK.key hkey)]⟩
 ·have hne:(Lit.int .i64 j)≠.int .i64 k:=fun h=>e (by injection h)
  have e2:((fun j'=>if j'=k then some v else f j') j)=f j:=if_neg e
  rw [Maps.has_put_other hne,e2]
  exact ⟨(h3 j).1,fun z=>by rw [Maps.atKey_put_other hne];exact (h3 j).2 z⟩
theorem MapI.look {W:World} {b c:Nat} {f:Int→Option Value} (h:MapI W b c f) {t e:TypeId} (ht:Tryz.prog.underlying t=some (.map 3 e)) {z:Value} (hz:(zeroValue e).run Tryz.prog W=.ok z W) {k:Int} (hk:i64 k) (hk2:k≤9223372036854775807) :
 (Instr.lookup t (.map (some b)) (.int .i64 k) false).run Tryz.prog W=.ok ((f k).getD z) W:=by
 obtain ⟨D,h2,h3⟩:=h
 obtain ⟨v,ps,hr,hv⟩:=h2.lookup intK ht hz (show heldR z=some (.held z,[]) from rfl) (keyI hk hk2)
 rw [(h3 k).2] at hv
 injection hv with hv
 injection hv with hv _
 rw [hr]
 cases hf:f k with
 | none=>rw [hf] at hv;injection hv with hv;rw [hv];rfl
 | some x=>rw [hf] at hv;injection hv with hv;rw [hv];rfl
theorem MapI.look_ok {W:World} {b c:Nat} {f:Int→Option Value} (h:MapI W b c f) {t e:TypeId} (ht:Tryz.prog.underlying t=some (.map 3 e)) {z:Value} (hz:(zeroValue e).run Tryz.prog W=.ok z W) {k:Int} (hk:i64 k) (hk2:k≤9223372036854775807) :
 (Instr.lookup t (.map (some b)) (.int .i64 k) true).run Tryz.prog W=.ok (.tuple #[(f k).getD z,.bool (f k).isSome]) W:=by
 obtain ⟨D,h2,h3⟩:=h
 obtain ⟨v,ps,hr,hv⟩:=h2.look_ok intK ht hz (show heldR z=some (.held z,[]) from rfl) (keyI hk hk2)
 rw [(h3 k).2] at hv
 rw [(h3 k).1] at hr
 injection hv with hv
 injection hv with hv _
 rw [hr]
 cases hf:f k with
 | none=>rw [hf] at hv;injection hv with hv;rw [hv];rfl
 | some x=>rw [hf] at hv;injection hv with hv;rw [hv];rfl
def rvolC (hd rb mb cap:Nat) (v:VM):Array Value:=#[.pointer (some ⟨hd,0,none⟩),.int .i64 v.r,.int .i64 0,.int .i64 0,.int .i64 v.n,.int .i64 v.g,.int .i64 v.fr,.int .u8 0,.int .u32 v.ep,.int .u32 v.sq,.int .i64 v.us,.slice (some ⟨rb,0,none⟩) v.n cap,.map (some mb)]
def dirtyF (B:List HB):Int→Option Value:=fun k=>if 0≤k∧(B[k.toNat]?).map (·.lg)=some true then some (.bool true) else none
structure RVAt (W:World) (hd hp rb mb cap cm:Nat) (v:VM):Prop where
 ok:v.Ok
 pos:0<v.n
 hd_:W.heap[hp]?=some (.cells (rvolC hd rb mb cap v) 59 (0,0))
 row:RowAt W (fun k=>k=rb) 71 57 (.slice (some ⟨rb,0,none⟩) v.n cap) v.n (bksL (stV v))
 map:MapI W mb cm (dirtyF v.B)
theorem RVAt.keep {W W':World} {hd hp rb mb cap cm:Nat} {v:VM} (h:RVAt W hd hp rb mb cap cm v) (h1:W'.heap[hp]?=W.heap[hp]?) (h2:W'.heap[rb]?=W.heap[rb]?) (h3:W'.heap[mb]?=W.heap[mb]?):RVAt W' hd hp rb mb cap cm v :=
 ⟨h.ok,h.pos,h1.trans h.hd_,h.row.keep (fun k _ hk=>by subst hk;exact h2),h.map.keep h3⟩
theorem RVAt.cs {W:World} {hd hp rb mb cap cm:Nat} {v:VM} (h:RVAt W hd hp rb mb cap cm v):W.cell? ⟨hp,0,none⟩=some (.pointer (some ⟨hd,0,none⟩))∧W.cell? ⟨hp,1,none⟩=some (.int .i64 v.r)∧W.cell? ⟨hp,2,none⟩=some (.int .i64 0)∧W.cell? ⟨hp,3,none⟩=some (.int .i64 0)∧W.cell? ⟨hp,4,none⟩=some (.int .i64 v.n)∧W.cell? ⟨hp,5,none⟩=some (.int .i64 v.g)∧W.cell? ⟨hp,6,none⟩=some (.int .i64 v.fr)∧W.cell? ⟨hp,7,none⟩=some (.int .u8 0)∧W.cell? ⟨hp,8,none⟩=some (.int .u32 v.ep)∧W.cell? ⟨hp,9,none⟩=some (.int .u32 v.sq)∧W.cell? ⟨hp,10,none⟩=some (.int .i64 v.us)∧W.cell? ⟨hp,11,none⟩=some (.slice (some ⟨rb,0,none⟩) v.n cap)∧W.cell? ⟨hp,12,none⟩=some (.map (some mb)) :=
 ⟨(blk_cell h.hd_ 0).trans rfl,(blk_cell h.hd_ 1).trans rfl,(blk_cell h.hd_ 2).trans rfl,(blk_cell h.hd_ 3).trans rfl,(blk_cell h.hd_ 4).trans rfl,(blk_cell h.hd_ 5).trans rfl,(blk_cell h.hd_ 6).trans rfl,(blk_cell h.hd_ 7).trans rfl,(blk_cell h.hd_ 8).trans rfl,(blk_cell h.hd_ 9).trans rfl,(blk_cell h.hd_ 10).trans rfl,(blk_cell h.hd_ 11).trans rfl,(blk_cell h.hd_ 12).trans rfl⟩
theorem RVAt.f {W:World} {hd hp rb mb cap cm:Nat} {v:VM} (h:RVAt W hd hp rb mb cap cm v) (i:Nat):W.frozen? ⟨hp,i,none⟩=false:=blk_free h.hd_ i
theorem RVAt.rangeB {W:World} {hd hp rb mb cap cm:Nat} {v:VM} (h:RVAt W hd hp rb mb cap cm v) {i:Nat} {x:HB} (hi:v.B[i]?=some x):W.rangeAt rb (i*57) (blkL x.k x.bs):=fun j u hj=>by
 have hl:=(List.getElem?_eq_some_iff.1 hi).1
 have hj':=(List.getElem?_eq_some_iff.1 hj).1
 rw [blkL_len (h.ok.ok x (List.mem_of_getElem? hi)).len] at hj'
 have hn:=h.ok.len
 have:(i+1)*57≤v.n*57:=Nat.mul_le_mul_right _ (by omega)
 rw [h.row.1.cellAt _ (by omega)]
 exact bksL_at (stV_oks h.ok) (show (stV v)[i]?=some (val x) by unfold stV;rw [List.getElem?_map,hi];rfl) hj
structure RSV (w0 W:World) (Q:Nat→Prop) (hd:Nat) (m:DM) (hp rb mb cap cm:Nat) (v:VM):Prop where
 ds:RS w0 W (fun k=>Q k∨k=hp∨k=rb∨k=mb) hd m
 at_:RVAt W hd hp rb mb cap cm v
 q:∀ k,Q k→k≠hp∧k≠rb∧k≠mb
 ne:hp≠rb∧hp≠mb∧rb≠mb
 lo:w0.heap.size≤hp∧w0.heap.size≤rb∧w0.heap.size≤mb
section
variable {w0 W W':World} {Q:Nat→Prop} {hd:Nat} {m m':DM} {hp rb mb cap cm:Nat} {v v':VM}
theorem RSV.step (h:RSV w0 W Q hd m hp rb mb cap cm v) (hd':RS w0 W' (fun k=>Q k∨k=hp∨k=rb∨k=mb) hd m') (hs:Same (fun k=>Q k∨k=hp∨k=rb∨k=mb) W W'):RSV w0 W' Q hd m' hp rb mb cap cm v :=
 { h with ds:=hd',at_:=h.at_.keep (hs.blk _ (Or.inr (Or.inl rfl))) (hs.blk _ (Or.inr (Or.inr (Or.inl rfl)))) (hs.blk _ (Or.inr (Or.inr (Or.inr rfl)))) }
theorem RSV.below (h:RSV w0 W Q hd m hp rb mb cap cm v) (hb:Below W.heap.size W W'):RSV w0 W' Q hd m hp rb mb cap cm v:=h.step (h.ds.below hb fun k hk=>Or.inl hk) (h.ds.same hb)
theorem RSV.same (h:RSV w0 W Q hd m hp rb mb cap cm v) (hb:Below W.heap.size W W'):Same Q W W':=(h.ds.same hb).mono fun k hk=>Or.inl hk
theorem RSV.grow (h:RSV w0 W Q hd m hp rb mb cap cm v) (hb:Below W.heap.size W W') {Q':Nat→Prop} (hQ:∀ k,Q' k→Q k∨(W.heap.size≤k∧k<W'.heap.size)):RSV w0 W' Q' hd m hp rb mb cap cm v:=by
 have h1:=h.ds.low hp (Or.inr (Or.inl rfl))
 have h2:=h.ds.low rb (Or.inr (Or.inr (Or.inl rfl)))
 have h3:=h.ds.low mb (Or.inr (Or.inr (Or.inr rfl)))
 have hk:=h.below hb
 refine { hk with ds:=h.ds.below hb fun k hk=>?_,q:=fun k hk=>?_ }
 ·rcases hk with hk | hk
  ·exact (hQ k hk).imp Or.inl id
  ·exact Or.inl (Or.inr hk)
 ·rcases hQ k hk with hk | hk
  ·exact h.q k hk
  ·exact ⟨by omega,by omega,by omega⟩
theorem RSV.shrink (h:RSV w0 W Q hd m hp rb mb cap cm v) {Q':Nat→Prop} (hQ:∀ k,Q' k→Q k):RSV w0 W Q' hd m hp rb mb cap cm v :=
 { h with ds:=h.ds.mono fun k hk=>hk.imp (hQ k) id,q:=fun k hk=>h.q k (hQ k hk) }
theorem RSV.write (h:RSV w0 W Q hd m hp rb mb cap cm v) (r i:Int) (hr:i64 r) (hi:i64 i) (A:Option Addr) (bs:List Int) (c:Nat) (hB:BlkOk bs) (hy:BytP W Q A bs) (hmax:m.done.length≤100000) :
 Calls Tryz.prog 40 #[.pointer (some ⟨hd,0,none⟩),.int .i64 r,.int .i64 i,.slice A 64 c] W fun e w'=>e=.returned (.bool (okWrite m r i bs))∧RSV w0 w' Q hd (m.doWrite r i bs) hp rb mb cap cm v∧Same Q W w':=by
 have hw:=h.ds.write r i hr hi A bs c hB.2 (fun k x hk=>let ⟨a,e,hq,hc⟩:=hy k x hk;⟨a,e,Or.inl hq,hc⟩) (by rw [hB.1];omega) hmax
 rw [hB.1] at hw
 refine hw.mono ?_
 rintro e w' ⟨he,hd',hs⟩
 exact ⟨he,h.step hd' hs,hs.mono fun k hk=>Or.inl hk⟩
theorem RSV.barrier (h:RSV w0 W Q hd m hp rb mb cap cm v) (r:Int) (hr:i64 r) (hmax:m.done.length≤100000) :
 Calls Tryz.prog 42 #[.pointer (some ⟨hd,0,none⟩),.int .i64 r] W fun e w'=>e=.returned (.bool (hasR m r))∧RSV w0 w' Q hd (m.doBarrier r) hp rb mb cap cm v∧Same Q W w':=by
 refine (h.ds.barrier r hr hmax).mono ?_
 rintro e w' ⟨he,hd',hs⟩
 exact ⟨he,h.step hd' hs,hs.mono fun k hk=>Or.inl hk⟩
theorem RSV.setHd (h:RSV w0 W Q hd m hp rb mb cap cm v) {i:Nat} {u:Value} (hC:(rvolC hd rb mb cap v).setIfInBounds i u=rvolC hd rb mb cap v') (hB:v'.B=v.B) (hn:v'.n=v.n) (hok:v'.Ok):RSV w0 (W.setCell ⟨hp,i,none⟩ u) Q hd m hp rb mb cap cm v'∧Same Q W (W.setCell ⟨hp,i,none⟩ u):=by
 have ht:Touch (fun k=>k=hp) W (W.setCell ⟨hp,i,none⟩ u):=(Touch.refl (fun k=>k=hp) W).setCell (p:=⟨hp,i,none⟩) rfl u
 have hst:stV v'=stV v:=by unfold stV;rw [hB]
 refine ⟨{ h with ds:=h.ds.own ht fun k hk=>by subst hk;exact ⟨Or.inr (Or.inl rfl),h.lo.1⟩,at_:=⟨hok,by rw [hn];exact h.at_.pos,?_,?_,?_⟩ },⟨fun k hk=>ht.block k (h.ds.low k (Or.inl hk)) (h.q k hk).1,ht.size⟩⟩
 ·rw [heap_setCell_same' h.at_.hd_,hC]
 ·rw [hst,hn];exact h.at_.row.touch ht (fun k hk e=>h.ne.1 (by rw [← e,hk]))
 ·rw [hB];exact h.at_.map.keep (ht.block _ h.at_.map.lt (fun e=>h.ne.2.1 e.symm))
end
end Go.Proofs.YtamnpblijdgdaaaGreat
