/- For VolAll: contracts and facts, part 33. -/
import Derived.BigRegion
import Derived.Test.YtamnpblijdgdaaaGreatV32
namespace Go.Proofs.YtamnpblijdgdaaaGreat
open Go.ChangeShapes Go.WideShapes Go.ChangeAt Go.RowKit
set_option linter.unusedVariables false
set_option maxRecDepth 100000
def VCh6 (hp rb nb cap n d kk:Nat) (ad:Addr) (xt:Int) (i:Nat) (v:Value) (w:World):Prop :=
 match i with
 | 0=>v=.slice (some ad) n d
 | 1=>v=.int .i64 (kk:Int)
 | 2 | 3=>v=.pointer (some (ad.add (kk*58)))
 | 4=>v=.int .i64 xt
 | 5 | 6=>v=.pointer (some ⟨hp,0,none⟩)
 | 7=>v=.pointer (some ⟨hp,11,none⟩)
 | 8=>v=.slice (some ⟨rb,0,none⟩) nb cap
 | 9=>v=.int .i64 (nb:Int)
 | _=>True
def VCh10 (hp n d e s B:Nat) (A:Option Addr) (ls:List (List Int)) (i:Nat) (v:Value) (w:World):Prop :=
 match i with
 | 0 | 1 | 4 | 5 | 8 | 9=>v=.pointer (some ⟨hp,0,none⟩)
 | 2=>v=.pointer (some ⟨hp,7,none⟩)
 | 3=>v=.int .u8 0
 | 6=>v=.pointer (some ⟨hp,8,none⟩)
 | 7=>v=.int .u32 (e:Int)
 | 10=>v=.pointer (some ⟨hp,9,none⟩)
 | 11=>v=.int .u32 (s:Int)
 | 12=>v=.slice A n d
 | 16=>v=.bool true
 | 13=>∃ u,v=.tuple #[u,.bool true]∧OwnTx w B u ls
 | 14=>∃ u,v=.tuple #[u,.bool true]∧OwnTx w B u ls
 | 15=>OwnTx w B v ls
 | 17=>OwnTx w B v ls
 | _=>True
def VCh14 (hp hd n g us kk z y N dR c:Nat) (r fr:Int) (ad:Addr) (B:Option Addr) (i:Nat) (v:Value) (w:World):Prop :=
 match i with
 | 0 | 1 | 2 | 4 | 5 | 8 | 9 | 12 | 13=>v=.pointer (some ⟨hp,0,none⟩)
 | 3=>v=.pointer (some ⟨hd,0,none⟩)
 | 6=>v=.pointer (some ⟨hp,1,none⟩)
 | 7=>v=.int .i64 r
 | 10=>v=.pointer (some ⟨hp,2,none⟩)
 | 11=>v=shQ 0 0 n g fr
 | 14=>v=.pointer (some ⟨hp,10,none⟩)
 | 15=>v=.int .i64 (us:Int)
 | 16 | 20=>v=.int .i64 (kk:Int)
 | 17=>v=.int .i64 (z:Int)
 | 18=>v=.int .i64 (y:Int)
 | 19=>v=.slice (some ad) N dR
 | 21=>v=.pointer (some (ad.add kk))
 | 22=>v=.slice B 64 c
 | _=>True
def VCh19 (hp rb nb cap n d kk t:Nat) (ad:Addr) (xk:Int) (xb:List Int) (i:Nat) (v:Value) (w:World):Prop :=
 match i with
 | 0 | 1=>v=.pointer (some ⟨hp,0,none⟩)
 | 2=>v=.pointer (some ⟨hp,11,none⟩)
 | 3=>v=.slice (some ⟨rb,0,none⟩) nb cap
 | 4 | 9=>v=.slice (some ad) n d
 | 5 | 10=>v=.int .i64 (kk:Int)
 | 6 | 7 | 11=>v=.pointer (some (ad.add (kk*58)))
 | 8=>v=.int .i64 (t:Int)
 | 12=>v=.pointer (some ⟨(ad.add (kk*58)).block,(ad.add (kk*58)).off+1,none⟩)
 | 13=>v=.agg (blkA xk xb)
 | 14=>v=.pointer (some ⟨rb,t*57,none⟩)
 | _=>True
def VCh20 (hp mb n d kk t:Nat) (ad:Addr) (i:Nat) (v:Value) (w:World):Prop :=
 match i with
 | 0 | 1=>v=.pointer (some ⟨hp,0,none⟩)
 | 2=>v=.pointer (some ⟨hp,12,none⟩)
 | 3=>v=.map (some mb)
 | 4=>v=.slice (some ad) n d
 | 5=>v=.int .i64 (kk:Int)
 | 6 | 7=>v=.pointer (some (ad.add (kk*58)))
 | 8=>v=.int .i64 (t:Int)
 | _=>True
set_option maxHeartbeats 12800000 in
theorem rvchange_any {w0 W:World} {Q:Nat→Prop} {hd:Nat} {m:DM} {hp rb mb cap cm:Nat} {v:VM} (h:RSV w0 W Q hd m hp rb mb cap cm v) (A:Option Addr) (l:List Wr) (n d:Nat) (hn:l.length=n) (hl:n≤d) (hd':d≤9223372036854775807) (hok:WrsOk l) (hy:WrsR W Q A l)
 (hus:v.us≤v.g) (hg13:13≤v.g) (hep:v.ep+1<4294967296) (hsq:v.sq+1<4294967296) (hmax:m.done.length≤97000) (hcm:cm≤100000) :
 Calls Tryz.prog 22 #[.pointer (some ⟨hp,0,none⟩),.slice A n d] W fun e w'=>e=.returned (.int .i64 (if ChOk v l then 0 else 1))∧∃ mb' cm',cm'≤cm+n∧RSV w0 w' Q hd (chM m v l) hp rb mb' cap cm' (chV v l)∧Same Q W w':=by
 have HV:=Lib.hid h
 have HN:=Lib.hid hn
 have HO:=Lib.hid hok
 have HY:=Lib.hid hy
 have HMX:=Lib.hid hmax
 have HB:=Lib.hid (And.intro hus (And.intro hg13 (And.intro hep hsq)))
 have HCM:=Lib.hid hcm
 have hn200:=h.at_.ok.n
 have HLN:Hid (v.B.length=v.n):=h.at_.ok.len
 have hg2:=h.at_.ok.g
 have HMAY:=Lib.hid (rmay_any A l n d W hn hl hd' hok hy.wrs)
 clear h hn hok hy hmax hus hg13 hep hsq hcm
 go_enter Tryz.func22,Tryz.ntmps22
 go_wp2_with fail
 refine HMAY.out.mono ?_
 rintro e w1 ⟨rfl,hb1⟩
 have HV1:=Lib.hid (HV.out.below hb1)
 have HM1:=Lib.hid (HV.out.same hb1)
 clear hb1 HMAY
 by_cases hmay:MayL l
 ·rw [decide_eq_true hmay]
  have hn12:n≤12:=by rw [← HN.out];exact hmay.1.2
  have HMY:=Lib.hid hmay
  clear hmay
  go_wp2_with fail
  go_loopw [5] (fun i wr=>∃ k:Nat,i=.int .i64 k∧k≤n∧Hid (hasAllV v (l.take k)=true)∧Hid (RSV w0 wr Q hd m hp rb mb cap cm v)∧Hid (Same Q W wr)) (fun i _=>n-(intOf i).toNat)
  case atStart=>exact ⟨0,rfl,by omega,by rw [List.take_zero];rfl,HV1.out,HM1.out⟩
  case round =>
   clear HV HV1 HM1
   obtain ⟨kk,rfl,hk,HA,HSV,HSM⟩:=hrel
   obtain ⟨w5,rfl⟩:∃ w5,w5=wr:=⟨wr,rfl⟩
   by_cases hlt:kk<n
   ·obtain ⟨x,hx⟩:∃ x,l[kk]?=some x:=⟨_,List.getElem?_eq_getElem (by rw [HN.out];exact hlt)⟩
    obtain ⟨ad,rfl,hat,hRR⟩:=(HY.out.same HSM.out) kk x hx
    have hxt:=(HO.out x (List.mem_of_getElem? hx)).t
    have HX:=Lib.hid hx
    have hki:(kk:Int)<n:=by omega
    have HC0:Hid (∀ W',Below w5.heap.size w5 W'→W'.cell? (ad.add (kk*58))=some (.int .i64 x.t)):=fun W' hb'=>keepC hb' hat.c0
    have HC:=Lib.hid (fun (W':World) (hb':Below w5.heap.size w5 W')=>(HSV.out.below hb').at_.cs)
    clear hat hRR hx
    go_upto_region 6 with fail
    refine wp_region_rgk (VCh6 hp rb v.n cap n d kk ad x.t) (fun _ W=>Below w5.heap.size w5 W) (fun _ w w'=>Below w.heap.size w w') (by kernel_rfl) (by kernel_rfl) (fun i j v w w' _ _ h hs=>by unfold VCh6 at *;exact h) ((Below.refl _ _).drew) ?_
    simp only [RAll]
    refine ⟨?_,?_,?_,?_,?_,?_,?_,?_,?_,?_,?_⟩
    ·refine RStepK.of rfl fun T W L hag hL hJ hLs hd=>?_
     have e1:T.getD 1 undef=_:=(agree_at hag 1 (by kernel_rfl)).trans rfl
     clear hag hd
     go_simp
     first | exact ⟨_,rfl,rfl⟩ | exact ⟨_,rfl,rfl,brefl _⟩ | exact ⟨_,rfl,rfl,hJ,brefl _⟩
    ·refine RStepK.of rfl fun T W L hag hL hJ hLs hd=>?_
     have e5:T.getD 5 undef=_:=(agree_at hag 5 (by kernel_rfl)).trans rfl
     clear hag hd
     go_simp
     first | exact ⟨_,rfl,rfl⟩ | exact ⟨_,rfl,rfl,brefl _⟩ | exact ⟨_,rfl,rfl,hJ,brefl _⟩
    ·refine RStepK.of rfl fun T W L hag hL hJ hLs hd=>?_
     have d19:T.getD 19 undef=_:=hd ⟨0,.data⟩ (by simp) rfl _ rfl
     have d20:T.getD 20 undef=_:=hd ⟨1,.data⟩ (by simp) rfl _ rfl
     clear hag hd
     go_simp
     first | exact ⟨_,rfl,rfl⟩ | exact ⟨_,rfl,rfl,brefl _⟩ | exact ⟨_,rfl,rfl,hJ,brefl _⟩
    ·refine RStepK.of rfl fun T W L hag hL hJ hLs hd=>?_
     have d21:T.getD 21 undef=_:=hd ⟨2,.data⟩ (by simp) rfl _ rfl
     clear hag hd
     go_simp
     first | exact ⟨_,rfl,rfl⟩ | exact ⟨_,rfl,rfl,brefl _⟩ | exact ⟨_,rfl,rfl,hJ,brefl _⟩
    ·refine RStepK.of rfl fun T W L hag hL hJ hLs hd=>?_
     have d22:T.getD 22 undef=_:=hd ⟨3,.data⟩ (by simp) rfl _ rfl
     obtain ⟨z0,z1,z2,z3,z4,z5,z6,z7,z8,z9,z10,z11,z12⟩:=HC.out W hJ
     have c0:=HC0.out W hJ
     clear hag hd
     go_simp
     first | exact ⟨_,rfl,rfl⟩ | exact ⟨_,rfl,rfl,brefl _⟩ | exact ⟨_,rfl,rfl,hJ,brefl _⟩
    ·refine RStepK.of rfl fun T W L hag hL hJ hLs hd=>?_
     have e0:T.getD 0 undef=_:=(agree_at hag 0 (by kernel_rfl)).trans rfl
     clear hag hd
     go_simp
     first | exact ⟨_,rfl,rfl⟩ | exact ⟨_,rfl,rfl,brefl _⟩ | exact ⟨_,rfl,rfl,hJ,brefl _⟩
    ·refine RStepK.of rfl fun T W L hag hL hJ hLs hd=>?_
     have d24:T.getD 24 undef=_:=hd ⟨5,.data⟩ (by simp) rfl _ rfl
     clear hag hd
     go_simp
     first | exact ⟨_,rfl,rfl⟩ | exact ⟨_,rfl,rfl,brefl _⟩ | exact ⟨_,rfl,rfl,hJ,brefl _⟩
    ·refine RStepK.of rfl fun T W L hag hL hJ hLs hd=>?_
     have d25:T.getD 25 undef=_:=hd ⟨6,.data⟩ (by simp) rfl _ rfl
     clear hag hd
     go_simp
     first | exact ⟨_,rfl,rfl⟩ | exact ⟨_,rfl,rfl,brefl _⟩ | exact ⟨_,rfl,rfl,hJ,brefl _⟩
    ·refine RStepK.of rfl fun T W L hag hL hJ hLs hd=>?_
     have d26:T.getD 26 undef=_:=hd ⟨7,.data⟩ (by simp) rfl _ rfl
     obtain ⟨z0,z1,z2,z3,z4,z5,z6,z7,z8,z9,z10,z11,z12⟩:=HC.out W hJ
     have c0:=HC0.out W hJ
     clear hag hd
     go_simp
     first | exact ⟨_,rfl,rfl⟩ | exact ⟨_,rfl,rfl,brefl _⟩ | exact ⟨_,rfl,rfl,hJ,brefl _⟩
    ·refine RStepK.of rfl fun T W L hag hL hJ hLs hd=>?_
     have d27:T.getD 27 undef=_:=hd ⟨8,.data⟩ (by simp) rfl _ rfl
     clear hag hd
     go_simp
     first | exact ⟨_,rfl,rfl⟩ | exact ⟨_,rfl,rfl,brefl _⟩ | exact ⟨_,rfl,rfl,hJ,brefl _⟩
    ·refine RLastK.of rfl fun T W L hag hLs hL hJ hd=>?_
     have d23:T.getD 23 undef=_:=hd 4 _ (by simp) rfl
     have d28:T.getD 28 undef=_:=hd 9 _ (by simp) rfl
     obtain ⟨f,hf,hT⟩:=agree_fn hag
     have d19:T.getD 19 undef=_:=hd 0 _ (by simp) rfl
     have h19:=(hf 19).trans d19
     have d20:T.getD 20 undef=_:=hd 1 _ (by simp) rfl
     have h20:=(hf 20).trans d20
     have d21:T.getD 21 undef=_:=hd 2 _ (by simp) rfl
     have h21:=(hf 21).trans d21
     have d22:T.getD 22 undef=_:=hd 3 _ (by simp) rfl
     have h22:=(hf 22).trans d22
     have h23:=(hf 23).trans d23
     have d24:T.getD 24 undef=_:=hd 5 _ (by simp) rfl
     have h24:=(hf 24).trans d24
     have d25:T.getD 25 undef=_:=hd 6 _ (by simp) rfl
     have h25:=(hf 25).trans d25
     have d26:T.getD 26 undef=_:=hd 7 _ (by simp) rfl
     have h26:=(hf 26).trans d26
     have d27:T.getD 27 undef=_:=hd 8 _ (by simp) rfl
     have h27:=(hf 27).trans d27
     have h28:=(hf 28).trans d28
     have HJ:=Lib.hid hJ
     clear hag hd d19 d20 d21 d22 d23 d24 d25 d26 d27 d28 hJ hf
     rw [hT]
     clear hT
     simp only [List.pop_toArray,List.dropLast_cons_cons,List.dropLast_singleton,List.filterMap_cons,List.filterMap_nil,List.foldl_cons,List.foldl_nil,List.setIfInBounds_toArray,List.set_cons_succ,List.set_cons_zero,h19,h20,h21,h22,h23,h24,h25,h26,h27,h28]
     go_simp
     have HSV5:=Lib.hid (HSV.out.below HJ.out)
     have HSM5:=Lib.hid (HSM.out.trans (HSV.out.same HJ.out))
     clear HSV HSM HJ HC HC0
     by_cases hge:(v.n:Int)≤x.t
     ·have HNO:Hid (¬ ChOk v l):=fun h=>by
       have h1:=List.all_eq_true.1 h.2 x (List.mem_of_getElem? HX.out)
       unfold hasV at h1;simp at h1;omega
      have e1:decide ((v.n:Int)≤x.t)=true:=decide_eq_true hge
      go_wp2_with fail
      go_ret
      refine ⟨by first | rfl | (rw [if_neg HNO.out];rfl),mb,cm,by omega,?_,HSM5.out⟩
      unfold chM chV
      rw [if_neg HNO.out,if_neg HNO.out]
      exact HSV5.out
     ·have e1:decide ((v.n:Int)≤x.t)=false:=decide_eq_false hge
      have HA2:Hid (hasAllV v (l.take (kk+1))=true):=by
       have h0:=(HMY.out.2.1 x (List.mem_of_getElem? HX.out)).2
       have h1:(l.take kk).all (fun x=>hasV v x.t)=true:=HA.out
       unfold Hid hasAllV
       rw [take_snoc' HX.out,List.all_append,h1]
       unfold hasV;simp;omega
      go_wp2
      go_roundw
      case rel=>exact ⟨kk+1,by go_num,by omega,HA2.out,HSV5.out,HSM5.out⟩
      case measure=>simp [intOf];omega
   ·obtain rfl:n=kk:=by omega
    have hki:¬ ((n:Int)<n):=by omega
    have HCH:Hid (ChOk v l):=⟨HMY.out,by have:=HA.out;rwa [List.take_of_length_le (by rw [HN.out];exact Nat.le_refl _)] at this⟩
    have hroom:=rvroom_any HSV.out HB.out.1
    have HRO:=Lib.hid hroom
    clear hroom
    go_wp2_with fail
    refine HRO.out.mono ?_
    rintro e w6 ⟨rfl,hb6⟩
    have HSV6:=Lib.hid (HSV.out.below hb6)
    have HSM6:=Lib.hid (HSM.out.trans (HSV.out.same hb6))
    clear hb6 HSV HSM HRO
    obtain ⟨z,hz⟩:∃ z,z=v.g-v.us:=⟨_,rfl⟩
    rw [← hz]
    have HZ:=Lib.hid hz
    have hz2:z≤1000:=by omega
    clear hz
    go_upto_if 35 with fail
    go_cut [] (fun wx=>∃ (mm:DM) (vv:VM) (mb' cm':Nat),Hid (RSV w0 wx Q hd mm hp rb mb' cap cm' vv)∧Hid (Same Q W wx)∧Hid ((mm=m∧vv=v∧¬ Tight v l)∨(mm=tidyM m v∧vv=homeV v∧Tight v l))∧cm'≤cm)
    case first =>
     by_cases ht:Tight v l
     ·have i1:(z:Int)<(n:Int)+1:=by have h1:=HZ.out;have h2:=HN.out;unfold Tight at ht;omega
      go_wp2_with fail
      refine (rvtidy_any HSV6.out HB.out.2.2.1 (by have:=HMX.out;omega)).mono ?_
      rintro e w7 ⟨rfl,mb',hs,hm⟩
      have HS7:=Lib.hid hs
      have HM7:=Lib.hid (HSM6.out.trans hm)
      clear hs hm HSV6 HSM6
      go_wp2_with fail
      go_meet
      case rel=>exact ⟨_,_,mb',0,HS7.out,HM7.out,Or.inr ⟨rfl,rfl,ht⟩,by omega⟩
     ·have i1:¬ (z:Int)<(n:Int)+1:=by have h1:=HZ.out;have h2:=HN.out;unfold Tight at ht;omega
      go_wp2_with fail
      go_meet
      case rel=>exact ⟨_,_,mb,cm,HSV6.out,HSM6.out,Or.inl ⟨rfl,rfl,ht⟩,by omega⟩
    case rest =>
     obtain ⟨w7,rfl⟩:∃ w7,w7=wc:=⟨wc,rfl⟩
     obtain ⟨mm,vv,mb',cm',HSV7,HSM7,HST,hcm'⟩:=hcut
     clear HSV6 HSM6
     have HF:Hid (vv.us+(1+n)≤vv.g∧vv.sq+1<4294967296∧mm.done.length≤98000∧vv.g≤1000∧chM m v l=putM mm vv l∧chV v l=putV vv l∧hasAllV vv l=true∧vv.n≤200):=by
      have h1:=HB.out.1
      have h2:=HB.out.2.1
      have h3:=HMX.out
      have h4:=tidyM_done m v
      have h5:=HLN.out
      have h6:=HN.out
      unfold Hid
      rcases HST.out with ⟨rfl,rfl,ht⟩ | ⟨rfl,rfl,ht⟩
      ·refine ⟨?_,HB.out.2.2.2,by omega,hg2,?_,?_,HCH.out.2,hn200⟩
       ·unfold Tight at ht;omega
       ·unfold chM;rw [if_pos HCH.out,if_neg ht]
       ·unfold chV;rw [if_pos HCH.out,if_neg ht]
      ·refine ⟨?_,?_,by omega,hg2,?_,?_,HCH.out.2,hn200⟩
       ·show 0+(1+n)≤v.g;omega
       ·show 0+1<4294967296;omega
       ·unfold chM;rw [if_pos HCH.out,if_pos ht]
       ·unfold chV;rw [if_pos HCH.out,if_pos ht]
     have HR:Hid (i64 vv.r):=HSV7.out.at_.ok.r
     have HPUT:=Lib.hid (fun (W':World) (hb':Below w7.heap.size w7 W')=>by
      have:=rput_any 0 vv.ep vv.sq A l n d W' (by omega) HSV7.out.at_.ok.ep HSV7.out.at_.ok.sq HN.out hl hd' HO.out (((HY.out.same HSM7.out).wrs).keep hb')
      rw [decide_eq_true HMY.out] at this
      exact this)
     have HC:=Lib.hid (fun (W':World) (hb':Below w7.heap.size w7 W')=>(HSV7.out.below hb').at_.cs)
     go_upto_region 10 with fail
     refine wp_region_rgk (VCh10 hp n d vv.ep vv.sq w7.heap.size A (putX 0 vv.ep vv.sq l)) (fun _ W=>Below w7.heap.size w7 W) (fun _ w w'=>Below w.heap.size w w') (by kernel_rfl) (by kernel_rfl) (fun i j v w w' _ _ h hs=>by revert h;unfold VCh10;split <;> intro h <;> first | exact h | (obtain ⟨p,h1,h2⟩:=h;exact ⟨p,h1,h2.keep hs⟩) | exact OwnTx.keep h hs | trivial) ((Below.refl _ _).drew) ?_
     simp only [RAll]
     refine ⟨?_,?_,?_,?_,?_,?_,?_,?_,?_,?_,?_,?_,?_,?_,?_,?_,?_,?_,?_⟩
     ·refine RStepK.of rfl fun T W L hag hL hJ hLs hd=>?_
      have e0:T.getD 0 undef=_:=(agree_at hag 0 (by kernel_rfl)).trans rfl
      clear hag hd
      go_simp
      first | exact ⟨_,rfl,rfl⟩ | exact ⟨_,rfl,rfl,brefl _⟩ | exact ⟨_,rfl,rfl,hJ,brefl _⟩
     ·refine RStepK.of rfl fun T W L hag hL hJ hLs hd=>?_
      have d39:T.getD 39 undef=_:=hd ⟨0,.data⟩ (by simp) rfl _ rfl
      clear hag hd
      go_simp
      first | exact ⟨_,rfl,rfl⟩ | exact ⟨_,rfl,rfl,brefl _⟩ | exact ⟨_,rfl,rfl,hJ,brefl _⟩
     ·refine RStepK.of rfl fun T W L hag hL hJ hLs hd=>?_
      have d40:T.getD 40 undef=_:=hd ⟨1,.data⟩ (by simp) rfl _ rfl
      clear hag hd
      go_simp
      first | exact ⟨_,rfl,rfl⟩ | exact ⟨_,rfl,rfl,brefl _⟩ | exact ⟨_,rfl,rfl,hJ,brefl _⟩
     ·refine RStepK.of rfl fun T W L hag hL hJ hLs hd=>?_
      have d41:T.getD 41 undef=_:=hd ⟨2,.data⟩ (by simp) rfl _ rfl
      obtain ⟨z0,z1,z2,z3,z4,z5,z6,z7,z8,z9,z10,z11,z12⟩:=HC.out W hJ
      clear hag hd
      go_simp
      first | exact ⟨_,rfl,rfl⟩ | exact ⟨_,rfl,rfl,brefl _⟩ | exact ⟨_,rfl,rfl,hJ,brefl _⟩
     ·refine RStepK.of rfl fun T W L hag hL hJ hLs hd=>?_
      have e0:T.getD 0 undef=_:=(agree_at hag 0 (by kernel_rfl)).trans rfl
      clear hag hd
      go_simp
      first | exact ⟨_,rfl,rfl⟩ | exact ⟨_,rfl,rfl,brefl _⟩ | exact ⟨_,rfl,rfl,hJ,brefl _⟩
     ·refine RStepK.of rfl fun T W L hag hL hJ hLs hd=>?_
      have d43:T.getD 43 undef=_:=hd ⟨4,.data⟩ (by simp) rfl _ rfl
      clear hag hd
      go_simp
      first | exact ⟨_,rfl,rfl⟩ | exact ⟨_,rfl,rfl,brefl _⟩ | exact ⟨_,rfl,rfl,hJ,brefl _⟩
     ·refine RStepK.of rfl fun T W L hag hL hJ hLs hd=>?_
      have d44:T.getD 44 undef=_:=hd ⟨5,.data⟩ (by simp) rfl _ rfl
      clear hag hd
      go_simp
      first | exact ⟨_,rfl,rfl⟩ | exact ⟨_,rfl,rfl,brefl _⟩ | exact ⟨_,rfl,rfl,hJ,brefl _⟩
     ·refine RStepK.of rfl fun T W L hag hL hJ hLs hd=>?_
      have d45:T.getD 45 undef=_:=hd ⟨6,.data⟩ (by simp) rfl _ rfl
      obtain ⟨z0,z1,z2,z3,z4,z5,z6,z7,z8,z9,z10,z11,z12⟩:=HC.out W hJ
      clear hag hd
      go_simp
      first | exact ⟨_,rfl,rfl⟩ | exact ⟨_,rfl,rfl,brefl _⟩ | exact ⟨_,rfl,rfl,hJ,brefl _⟩
     ·refine RStepK.of rfl fun T W L hag hL hJ hLs hd=>?_
      have e0:T.getD 0 undef=_:=(agree_at hag 0 (by kernel_rfl)).trans rfl
      clear hag hd
      go_simp
      first | exact ⟨_,rfl,rfl⟩ | exact ⟨_,rfl,rfl,brefl _⟩ | exact ⟨_,rfl,rfl,hJ,brefl _⟩
     ·refine RStepK.of rfl fun T W L hag hL hJ hLs hd=>?_
      have d47:T.getD 47 undef=_:=hd ⟨8,.data⟩ (by simp) rfl _ rfl
      clear hag hd
      go_simp
      first | exact ⟨_,rfl,rfl⟩ | exact ⟨_,rfl,rfl,brefl _⟩ | exact ⟨_,rfl,rfl,hJ,brefl _⟩
     ·refine RStepK.of rfl fun T W L hag hL hJ hLs hd=>?_
      have d48:T.getD 48 undef=_:=hd ⟨9,.data⟩ (by simp) rfl _ rfl
      clear hag hd
      go_simp
      first | exact ⟨_,rfl,rfl⟩ | exact ⟨_,rfl,rfl,brefl _⟩ | exact ⟨_,rfl,rfl,hJ,brefl _⟩
     ·refine RStepK.of rfl fun T W L hag hL hJ hLs hd=>?_
      have d49:T.getD 49 undef=_:=hd ⟨10,.data⟩ (by simp) rfl _ rfl
      obtain ⟨z0,z1,z2,z3,z4,z5,z6,z7,z8,z9,z10,z11,z12⟩:=HC.out W hJ
      clear hag hd
      go_simp
      first | exact ⟨_,rfl,rfl⟩ | exact ⟨_,rfl,rfl,brefl _⟩ | exact ⟨_,rfl,rfl,hJ,brefl _⟩
     ·refine RStepK.of rfl fun T W L hag hL hJ hLs hd=>?_
      have e1:T.getD 1 undef=_:=(agree_at hag 1 (by kernel_rfl)).trans rfl
      clear hag hd
      go_simp
      first | exact ⟨_,rfl,rfl⟩ | exact ⟨_,rfl,rfl,brefl _⟩ | exact ⟨_,rfl,rfl,hJ,brefl _⟩
     ·refine RStepK.of rfl fun T W L hag hL hJ hLs hd=>?_
      have d42:T.getD 42 undef=_:=hd ⟨3,.data⟩ (by simp) rfl _ rfl
      have d46:T.getD 46 undef=_:=hd ⟨7,.data⟩ (by simp) rfl _ rfl
      have d50:T.getD 50 undef=_:=hd ⟨11,.data⟩ (by simp) rfl _ rfl
      have d51:T.getD 51 undef=_:=hd ⟨12,.data⟩ (by simp) rfl _ rfl
      clear hag hd
      go_simp
      refine (HPUT.out W hJ).mono ?_
      rintro e w' ⟨u,rfl,hu,hb⟩
      exact ⟨_,rfl,⟨_,rfl,hu.mono hJ.size⟩,keepB hJ hb,hb⟩
     ·refine RStepK.of rfl fun T W L hag hL hJ hLs hd=>?_
      have x52:=hd ⟨13,.data⟩ (by simp) rfl _ rfl
      obtain ⟨u,(hs:T.getD 52 undef=_),hp⟩:=x52
      clear hag hd
      go_simp
      exact ⟨_,rfl,⟨_,rfl,hp⟩,brefl _⟩
     ·refine RStepK.of rfl fun T W L hag hL hJ hLs hd=>?_
      have x38:=hd ⟨14,.data⟩ (by simp) rfl _ rfl
      obtain ⟨u,(hs:T.getD 38 undef=_),hp⟩:=x38
      clear hag hd
      go_simp
      exact ⟨_,rfl,hp,brefl _⟩
     ·refine RStepK.of rfl fun T W L hag hL hJ hLs hd=>?_
      have x38:=hd ⟨14,.data⟩ (by simp) rfl _ rfl
      obtain ⟨u,(hs:T.getD 38 undef=_),hp⟩:=x38
      clear hag hd
      go_simp
      first | exact ⟨_,rfl,rfl⟩ | exact ⟨_,rfl,rfl,brefl _⟩ | exact ⟨_,rfl,rfl,hJ,brefl _⟩
     ·refine RStepK.of rfl fun T W L hag hL hJ hLs hd=>?_
      have x53:=hd ⟨15,.data⟩ (by simp) rfl _ rfl
      have x53':OwnTx W w7.heap.size (T.getD 53 undef) (putX 0 vv.ep vv.sq l):=x53
      clear hag hd x53
      go_simp
      exact ⟨_,rfl,(by show OwnTx W w7.heap.size (T[53]?.getD undef) (putX 0 vv.ep vv.sq l);simpa using x53'),brefl _⟩
     ·refine RLastK.of rfl fun T W L hag hLs hL hJ hd=>?_
      have d54:T.getD 54 undef=_:=hd 16 _ (by simp) rfl
      obtain ⟨f,hf,hT⟩:=agree_fn hag
      have d39:T.getD 39 undef=_:=hd 0 _ (by simp) rfl
      have h39:=(hf 39).trans d39
      have d40:T.getD 40 undef=_:=hd 1 _ (by simp) rfl
      have h40:=(hf 40).trans d40
      have d41:T.getD 41 undef=_:=hd 2 _ (by simp) rfl
      have h41:=(hf 41).trans d41
      have d42:T.getD 42 undef=_:=hd 3 _ (by simp) rfl
      have h42:=(hf 42).trans d42
      have d43:T.getD 43 undef=_:=hd 4 _ (by simp) rfl
      have h43:=(hf 43).trans d43
      have d44:T.getD 44 undef=_:=hd 5 _ (by simp) rfl
      have h44:=(hf 44).trans d44
      have d45:T.getD 45 undef=_:=hd 6 _ (by simp) rfl
      have h45:=(hf 45).trans d45
      have d46:T.getD 46 undef=_:=hd 7 _ (by simp) rfl
      have h46:=(hf 46).trans d46
      have d47:T.getD 47 undef=_:=hd 8 _ (by simp) rfl
      have h47:=(hf 47).trans d47
      have d48:T.getD 48 undef=_:=hd 9 _ (by simp) rfl
      have h48:=(hf 48).trans d48
      have d49:T.getD 49 undef=_:=hd 10 _ (by simp) rfl
      have h49:=(hf 49).trans d49
      have d50:T.getD 50 undef=_:=hd 11 _ (by simp) rfl
      have h50:=(hf 50).trans d50
      have d51:T.getD 51 undef=_:=hd 12 _ (by simp) rfl
      have h51:=(hf 51).trans d51
      have h54:=(hf 54).trans d54
      have HJ:=Lib.hid hJ
      have x6:OwnTx W w7.heap.size (T.getD 6 undef) (putX 0 vv.ep vv.sq l):=hd 17 _ (by simp) rfl
      obtain ⟨RB,dR,hv,hc1,hc2,htx⟩:=x6.txR
      have h6:=(hf 6).trans hv
      have HTX:=Lib.hid htx
      have HCC:=Lib.hid (And.intro hc1 hc2)
      clear x6 hv htx hc1 hc2
      clear hag hd d39 d40 d41 d42 d43 d44 d45 d46 d47 d48 d49 d50 d51 d54 hJ hf
      rw [hT]
      clear hT
      simp only [List.pop_toArray,List.dropLast_cons_cons,List.dropLast_singleton,List.filterMap_cons,List.filterMap_nil,List.foldl_cons,List.foldl_nil,List.setIfInBounds_toArray,List.set_cons_succ,List.set_cons_zero,h39,h40,h41,h42,h43,h44,h45,h46,h47,h48,h49,h50,h51,h54]
      simp only [h6]
      obtain ⟨w8,rfl⟩:∃ w8,w8=W:=⟨W,rfl⟩
      have hcx:putX 0 vv.ep vv.sq l=putL 0 vv.ep vv.sq l:=putX_may HMY.out
      have hlen:(putL 0 vv.ep vv.sq l).length=1+n:=by rw [putL_length,HN.out]
      rw [hcx,hlen] at HCC
      rw [hcx] at HTX
      rw [hcx,hlen]
      have HLS:=Lib.hid hlen
      have HBL:=Lib.hid (putL_blk vv.ep vv.sq HMY.out HO.out)
      have HS8:=Lib.hid (HSV7.out.grow HJ.out (Q':=fun k=>Q k∨(w7.heap.size≤k∧k<w8.heap.size)) fun k hk=>hk)
      have HM8:=Lib.hid (HSM7.out.trans (HSV7.out.same HJ.out))
      have HT8:Hid (TxR w8 (fun k=>Q k∨(w7.heap.size≤k∧k<w8.heap.size)) RB (putL 0 vv.ep vv.sq l)):=HTX.out.mono fun k hk=>Or.inr hk
      obtain ⟨Q8,hQ8⟩:∃ Q8:Nat→Prop,Q8=fun k=>Q k∨(w7.heap.size≤k∧k<w8.heap.size):=⟨_,rfl⟩
      have HQ8:Hid (∀ k,Q k→Q8 k):=fun k hk=>by rw [hQ8];exact Or.inl hk
      rw [← hQ8] at HS8 HT8
      clear hQ8 hcx hlen HTX HPUT HC HSV7 HSM7 HJ
      obtain ⟨ls,hls⟩:∃ ls,ls=putL 0 vv.ep vv.sq l:=⟨_,rfl⟩
      rw [← hls] at HLS HBL HT8
      have HLE:=Lib.hid hls
      clear hls
      have hcc1:=HCC.out.1
      have hcc2:=HCC.out.2
      go_wp2_with fail
      go_loopw [8] (fun i wr=>∃ k:Nat,i=.int .i64 k∧k≤1+n∧Hid (RSV w0 wr Q8 hd (logW vv.r mm vv.us (ls.take k)) hp rb mb' cap cm' vv)∧Hid (Same Q8 w8 wr)) (fun i _=>1+n-(intOf i).toNat)
      case atStart=>exact ⟨0,rfl,by omega,by rw [List.take_zero];exact HS8.out,Same.refl _ _⟩
      case round =>
       clear HS8
       obtain ⟨kk,rfl,hk,HSV,HSM⟩:=hrel
       obtain ⟨w5,rfl⟩:∃ w5,w5=wr:=⟨wr,rfl⟩
       by_cases hlt:kk<1+n
       ·obtain ⟨b,hb⟩:∃ b,ls[kk]?=some b:=⟨_,List.getElem?_eq_getElem (by rw [HLS.out];exact hlt)⟩
        have hbo:=HBL.out b (List.mem_of_getElem? hb)
        obtain ⟨ad,B,c,rfl,hR,hc,hc1,hc2,hby⟩:=(HT8.out.same HSM.out) kk b hb
        rw [hbo.1] at hc hc1
        have HBK:=Lib.hid hbo
        have HBY:Hid (BytP w5 Q8 B b):=fun j x hj=>by
         obtain ⟨c',e,h6,h7⟩:=hby j x hj
         exact ⟨c',e,h6,h7⟩
        have HBC:Hid (∀ W',Below w5.heap.size w5 W'→W'.cell? (ad.add kk)=some (.slice B 64 c)):=fun W' hb'=>keepC hb' hc
        have HTK:Hid (ls.take (kk+1)=ls.take kk++[b]):=take_snoc' hb
        have hki:(kk:Int)<((1+n:Nat):Int):=by omega
        have HLT:Hid ((ls.take kk).length=kk):=by unfold Hid;rw [List.length_take,HLS.out];omega
        have HM:Hid ((logW vv.r mm vv.us (ls.take kk)).done.length≤100000):=by
         have h1:=logW_done vv.r (ls.take kk) mm vv.us
         rw [HLT.out] at h1
         have h2:=HF.out.2.2.1
         unfold Hid;omega
        have hz1:=HF.out.1
        have hz2:=HF.out.2.2.2.1
        have HLG:=Lib.hid (fun W=>rlog_any vv.n vv.g vv.fr (vv.us+kk) (by omega) W)
        have HM2:Hid (logW vv.r mm vv.us (ls.take (kk+1))=(logW vv.r mm vv.us (ls.take kk)).doWrite vv.r ((2+(vv.us+kk):Nat):Int) b):=by unfold Hid;rw [HTK.out,logW_snoc,HLT.out]
        have HYI:Hid (i64 ((2+(vv.us+kk):Nat):Int)):=by constructor <;> omega
        have wz:IntKind.i64.wrap ((vv.us:Int)+kk)=((vv.us+kk:Nat):Int):=by rw [IntWalk.i64_in _ (by omega)];omega
        have HC:=Lib.hid (fun (W':World) (hb':Below w5.heap.size w5 W')=>(HSV.out.below hb').at_.cs)
        clear hbo hb hby hR hc hz1 hz2
        obtain ⟨y,hyg⟩:∃ y,2+(vv.us+kk)=y:=⟨_,rfl⟩
        rw [hyg] at HLG HYI HM2
        clear hyg
        obtain ⟨z,hzg⟩:∃ z,vv.us+kk=z:=⟨_,rfl⟩
        rw [hzg] at HLG wz
        clear hzg
        go_upto_region 14 with fail
        refine wp_region_rgk (VCh14 hp hd vv.n vv.g vv.us kk z y (1+n) dR c vv.r vv.fr ad B) (fun _ W=>Below w5.heap.size w5 W) (fun _ w w'=>Below w.heap.size w w') (by kernel_rfl) (by kernel_rfl) (fun i j v w w' _ _ h hs=>by unfold VCh14 at *;exact h) ((Below.refl _ _).drew) ?_
        simp only [RAll]
        refine ⟨?_,?_,?_,?_,?_,?_,?_,?_,?_,?_,?_,?_,?_,?_,?_,?_,?_,?_,?_,?_,?_,?_,?_,?_⟩
        ·refine RStepK.of rfl fun T W L hag hL hJ hLs hd=>?_
         have e0:T.getD 0 undef=_:=(agree_at hag 0 (by kernel_rfl)).trans rfl
         clear hag hd
         go_simp
         first | exact ⟨_,rfl,rfl⟩ | exact ⟨_,rfl,rfl,brefl _⟩ | exact ⟨_,rfl,rfl,hJ,brefl _⟩
        ·refine RStepK.of rfl fun T W L hag hL hJ hLs hd=>?_
         have d61:T.getD 61 undef=_:=hd ⟨0,.data⟩ (by simp) rfl _ rfl
         clear hag hd
         go_simp
         first | exact ⟨_,rfl,rfl⟩ | exact ⟨_,rfl,rfl,brefl _⟩ | exact ⟨_,rfl,rfl,hJ,brefl _⟩
        ·refine RStepK.of rfl fun T W L hag hL hJ hLs hd=>?_
         have d62:T.getD 62 undef=_:=hd ⟨1,.data⟩ (by simp) rfl _ rfl
         clear hag hd
         go_simp
         first | exact ⟨_,rfl,rfl⟩ | exact ⟨_,rfl,rfl,brefl _⟩ | exact ⟨_,rfl,rfl,hJ,brefl _⟩
        ·refine RStepK.of rfl fun T W L hag hL hJ hLs hd=>?_
         have d63:T.getD 63 undef=_:=hd ⟨2,.data⟩ (by simp) rfl _ rfl
         obtain ⟨z0,z1,z2,z3,z4,z5,z6,z7,z8,z9,z10,z11,z12⟩:=HC.out W hJ
         have y22:=HBC.out W hJ
         clear hag hd
         go_simp
         first | exact ⟨_,rfl,rfl⟩ | exact ⟨_,rfl,rfl,brefl _⟩ | exact ⟨_,rfl,rfl,hJ,brefl _⟩
        ·refine RStepK.of rfl fun T W L hag hL hJ hLs hd=>?_
         have e0:T.getD 0 undef=_:=(agree_at hag 0 (by kernel_rfl)).trans rfl
         clear hag hd
         go_simp
         first | exact ⟨_,rfl,rfl⟩ | exact ⟨_,rfl,rfl,brefl _⟩ | exact ⟨_,rfl,rfl,hJ,brefl _⟩
        ·refine RStepK.of rfl fun T W L hag hL hJ hLs hd=>?_
         have d65:T.getD 65 undef=_:=hd ⟨4,.data⟩ (by simp) rfl _ rfl
         clear hag hd
         go_simp
         first | exact ⟨_,rfl,rfl⟩ | exact ⟨_,rfl,rfl,brefl _⟩ | exact ⟨_,rfl,rfl,hJ,brefl _⟩
        ·refine RStepK.of rfl fun T W L hag hL hJ hLs hd=>?_
         have d66:T.getD 66 undef=_:=hd ⟨5,.data⟩ (by simp) rfl _ rfl
         clear hag hd
         go_simp
         first | exact ⟨_,rfl,rfl⟩ | exact ⟨_,rfl,rfl,brefl _⟩ | exact ⟨_,rfl,rfl,hJ,brefl _⟩
        ·refine RStepK.of rfl fun T W L hag hL hJ hLs hd=>?_
         have d67:T.getD 67 undef=_:=hd ⟨6,.data⟩ (by simp) rfl _ rfl
         obtain ⟨z0,z1,z2,z3,z4,z5,z6,z7,z8,z9,z10,z11,z12⟩:=HC.out W hJ
         have y22:=HBC.out W hJ
         clear hag hd
         go_simp
         first | exact ⟨_,rfl,rfl⟩ | exact ⟨_,rfl,rfl,brefl _⟩ | exact ⟨_,rfl,rfl,hJ,brefl _⟩
        ·refine RStepK.of rfl fun T W L hag hL hJ hLs hd=>?_
         have e0:T.getD 0 undef=_:=(agree_at hag 0 (by kernel_rfl)).trans rfl
         clear hag hd
         go_simp
         first | exact ⟨_,rfl,rfl⟩ | exact ⟨_,rfl,rfl,brefl _⟩ | exact ⟨_,rfl,rfl,hJ,brefl _⟩
        ·refine RStepK.of rfl fun T W L hag hL hJ hLs hd=>?_
         have d69:T.getD 69 undef=_:=hd ⟨8,.data⟩ (by simp) rfl _ rfl
         clear hag hd
         go_simp
         first | exact ⟨_,rfl,rfl⟩ | exact ⟨_,rfl,rfl,brefl _⟩ | exact ⟨_,rfl,rfl,hJ,brefl _⟩
        ·refine RStepK.of rfl fun T W L hag hL hJ hLs hd=>?_
         have d70:T.getD 70 undef=_:=hd ⟨9,.data⟩ (by simp) rfl _ rfl
         clear hag hd
         go_simp
         first | exact ⟨_,rfl,rfl⟩ | exact ⟨_,rfl,rfl,brefl _⟩ | exact ⟨_,rfl,rfl,hJ,brefl _⟩
        ·refine RStepK.of rfl fun T W L hag hL hJ hLs hd=>?_
         have d71:T.getD 71 undef=_:=hd ⟨10,.data⟩ (by simp) rfl _ rfl
         obtain ⟨z0,z1,z2,z3,z4,z5,z6,z7,z8,z9,z10,z11,z12⟩:=HC.out W hJ
         have y22:=HBC.out W hJ
         clear hag hd
         go_simp
         first | exact ⟨_,rfl,rfl⟩ | exact ⟨_,rfl,rfl,brefl _⟩ | exact ⟨_,rfl,rfl,hJ,brefl _⟩
        ·refine RStepK.of rfl fun T W L hag hL hJ hLs hd=>?_
         have e0:T.getD 0 undef=_:=(agree_at hag 0 (by kernel_rfl)).trans rfl
         clear hag hd
         go_simp
         first | exact ⟨_,rfl,rfl⟩ | exact ⟨_,rfl,rfl,brefl _⟩ | exact ⟨_,rfl,rfl,hJ,brefl _⟩
        ·refine RStepK.of rfl fun T W L hag hL hJ hLs hd=>?_
         have d73:T.getD 73 undef=_:=hd ⟨12,.data⟩ (by simp) rfl _ rfl
         clear hag hd
         go_simp
         first | exact ⟨_,rfl,rfl⟩ | exact ⟨_,rfl,rfl,brefl _⟩ | exact ⟨_,rfl,rfl,hJ,brefl _⟩
        ·refine RStepK.of rfl fun T W L hag hL hJ hLs hd=>?_
         have d74:T.getD 74 undef=_:=hd ⟨13,.data⟩ (by simp) rfl _ rfl
         clear hag hd
         go_simp
         first | exact ⟨_,rfl,rfl⟩ | exact ⟨_,rfl,rfl,brefl _⟩ | exact ⟨_,rfl,rfl,hJ,brefl _⟩
        ·refine RStepK.of rfl fun T W L hag hL hJ hLs hd=>?_
         have d75:T.getD 75 undef=_:=hd ⟨14,.data⟩ (by simp) rfl _ rfl
         obtain ⟨z0,z1,z2,z3,z4,z5,z6,z7,z8,z9,z10,z11,z12⟩:=HC.out W hJ
         have y22:=HBC.out W hJ
         clear hag hd
         go_simp
         first | exact ⟨_,rfl,rfl⟩ | exact ⟨_,rfl,rfl,brefl _⟩ | exact ⟨_,rfl,rfl,hJ,brefl _⟩
        ·refine RStepK.of rfl fun T W L hag hL hJ hLs hd=>?_
         have e8:T.getD 8 undef=_:=(agree_at hag 8 (by kernel_rfl)).trans rfl
         clear hag hd
         go_simp
         first | exact ⟨_,rfl,rfl⟩ | exact ⟨_,rfl,rfl,brefl _⟩ | exact ⟨_,rfl,rfl,hJ,brefl _⟩
        ·refine RStepK.of rfl fun T W L hag hL hJ hLs hd=>?_
         have d76:T.getD 76 undef=_:=hd ⟨15,.data⟩ (by simp) rfl _ rfl
         have d77:T.getD 77 undef=_:=hd ⟨16,.data⟩ (by simp) rfl _ rfl
         clear hag hd
         go_simp
         first | exact ⟨_,rfl,rfl⟩ | exact ⟨_,rfl,rfl,brefl _⟩ | exact ⟨_,rfl,rfl,hJ,brefl _⟩
        ·refine RStepK.of rfl fun T W L hag hL hJ hLs hd=>?_
         have d72:T.getD 72 undef=_:=hd ⟨11,.data⟩ (by simp) rfl _ rfl
         have d78:T.getD 78 undef=_:=hd ⟨17,.data⟩ (by simp) rfl _ rfl
         clear hag hd
         go_simp
         refine (HLG.out W).mono ?_
         rintro e w' ⟨rfl,hb⟩
         exact ⟨_,rfl,rfl,keepB hJ hb,hb⟩
        ·refine RStepK.of rfl fun T W L hag hL hJ hLs hd=>?_
         have e6:T.getD 6 undef=_:=(agree_at hag 6 (by kernel_rfl)).trans rfl
         clear hag hd
         go_simp
         first | exact ⟨_,rfl,rfl⟩ | exact ⟨_,rfl,rfl,brefl _⟩ | exact ⟨_,rfl,rfl,hJ,brefl _⟩
        ·refine RStepK.of rfl fun T W L hag hL hJ hLs hd=>?_
         have e8:T.getD 8 undef=_:=(agree_at hag 8 (by kernel_rfl)).trans rfl
         clear hag hd
         go_simp
         first | exact ⟨_,rfl,rfl⟩ | exact ⟨_,rfl,rfl,brefl _⟩ | exact ⟨_,rfl,rfl,hJ,brefl _⟩
        ·refine RStepK.of rfl fun T W L hag hL hJ hLs hd=>?_
         have d80:T.getD 80 undef=_:=hd ⟨19,.data⟩ (by simp) rfl _ rfl
         have d81:T.getD 81 undef=_:=hd ⟨20,.data⟩ (by simp) rfl _ rfl
         clear hag hd
         go_simp
         first | exact ⟨_,rfl,rfl⟩ | exact ⟨_,rfl,rfl,brefl _⟩ | exact ⟨_,rfl,rfl,hJ,brefl _⟩
        ·refine RStepK.of rfl fun T W L hag hL hJ hLs hd=>?_
         have d82:T.getD 82 undef=_:=hd ⟨21,.data⟩ (by simp) rfl _ rfl
         obtain ⟨z0,z1,z2,z3,z4,z5,z6,z7,z8,z9,z10,z11,z12⟩:=HC.out W hJ
         have y22:=HBC.out W hJ
         clear hag hd
         go_simp
         first | exact ⟨_,rfl,rfl⟩ | exact ⟨_,rfl,rfl,brefl _⟩ | exact ⟨_,rfl,rfl,hJ,brefl _⟩
        ·refine RLastK.of rfl fun T W L hag hLs hL hJ hd=>?_
         have d64:T.getD 64 undef=_:=hd 3 _ (by simp) rfl
         have d68:T.getD 68 undef=_:=hd 7 _ (by simp) rfl
         have d79:T.getD 79 undef=_:=hd 18 _ (by simp) rfl
         have d83:T.getD 83 undef=_:=hd 22 _ (by simp) rfl
         obtain ⟨f,hf,hT⟩:=agree_fn hag
         have d61:T.getD 61 undef=_:=hd 0 _ (by simp) rfl
         have h61:=(hf 61).trans d61
         have d62:T.getD 62 undef=_:=hd 1 _ (by simp) rfl
         have h62:=(hf 62).trans d62
         have d63:T.getD 63 undef=_:=hd 2 _ (by simp) rfl
         have h63:=(hf 63).trans d63
         have h64:=(hf 64).trans d64
         have d65:T.getD 65 undef=_:=hd 4 _ (by simp) rfl
         have h65:=(hf 65).trans d65
         have d66:T.getD 66 undef=_:=hd 5 _ (by simp) rfl
         have h66:=(hf 66).trans d66
         have d67:T.getD 67 undef=_:=hd 6 _ (by simp) rfl
         have h67:=(hf 67).trans d67
         have h68:=(hf 68).trans d68
         have d69:T.getD 69 undef=_:=hd 8 _ (by simp) rfl
         have h69:=(hf 69).trans d69
         have d70:T.getD 70 undef=_:=hd 9 _ (by simp) rfl
         have h70:=(hf 70).trans d70
         have d71:T.getD 71 undef=_:=hd 10 _ (by simp) rfl
         have h71:=(hf 71).trans d71
         have d72:T.getD 72 undef=_:=hd 11 _ (by simp) rfl
         have h72:=(hf 72).trans d72
         have d73:T.getD 73 undef=_:=hd 12 _ (by simp) rfl
         have h73:=(hf 73).trans d73
         have d74:T.getD 74 undef=_:=hd 13 _ (by simp) rfl
         have h74:=(hf 74).trans d74
         have d75:T.getD 75 undef=_:=hd 14 _ (by simp) rfl
         have h75:=(hf 75).trans d75
         have d76:T.getD 76 undef=_:=hd 15 _ (by simp) rfl
         have h76:=(hf 76).trans d76
         have d77:T.getD 77 undef=_:=hd 16 _ (by simp) rfl
         have h77:=(hf 77).trans d77
         have d78:T.getD 78 undef=_:=hd 17 _ (by simp) rfl
         have h78:=(hf 78).trans d78
         have h79:=(hf 79).trans d79
         have d80:T.getD 80 undef=_:=hd 19 _ (by simp) rfl
         have h80:=(hf 80).trans d80
         have d81:T.getD 81 undef=_:=hd 20 _ (by simp) rfl
         have h81:=(hf 81).trans d81
         have d82:T.getD 82 undef=_:=hd 21 _ (by simp) rfl
         have h82:=(hf 82).trans d82
         have h83:=(hf 83).trans d83
         have HJ:=Lib.hid hJ
         clear hag hd d61 d62 d63 d64 d65 d66 d67 d68 d69 d70 d71 d72 d73 d74 d75 d76 d77 d78 d79 d80 d81 d82 d83 hJ hf
         rw [hT]
         clear hT
         simp only [List.pop_toArray,List.dropLast_cons_cons,List.dropLast_singleton,List.filterMap_cons,List.filterMap_nil,List.foldl_cons,List.foldl_nil,List.setIfInBounds_toArray,List.set_cons_succ,List.set_cons_zero,h61,h62,h63,h64,h65,h66,h67,h68,h69,h70,h71,h72,h73,h74,h75,h76,h77,h78,h79,h80,h81,h82,h83]
         have hq:=HSV.out.below HJ.out
         have hby:=HBY.out.keep HJ.out
         go_simp
         refine (hq.write vv.r y HR.out HYI.out B _ c HBK.out hby HM.out).mono ?_
         rintro e w' ⟨rfl,hs,hm⟩
         have HS2:Hid (RSV w0 w' Q8 hd (logW vv.r mm vv.us (ls.take (kk+1))) hp rb mb' cap cm' vv):=by rw [HM2.out];exact hs
         have HSM2:=Lib.hid ((HSM.out.trans (HSV.out.same HJ.out)).trans hm)
         clear hq hby hs hm HJ HBY HBC HLG HC HSV HSM
         go_wp2
         go_roundw
         case rel=>exact ⟨kk+1,by go_num,by omega,HS2.out,HSM2.out⟩
         case measure=>simp [intOf];omega
       ·obtain rfl:1+n=kk:=by omega
        have hki:¬ (((1+n:Nat):Int)<((1+n:Nat):Int)):=by omega
        obtain ⟨us2,hus2⟩:∃ us2,us2=vv.us+(1+n):=⟨_,rfl⟩
        obtain ⟨sq2,hsq2⟩:∃ sq2,sq2=vv.sq+1:=⟨_,rfl⟩
        have hz1:=HF.out.1
        have hz2:=HF.out.2.2.2.1
        have hz3:=HF.out.2.1
        have wu:IntKind.i64.wrap ((vv.us:Int)+((1+n:Nat):Int))=(us2:Int):=by rw [IntWalk.i64_in _ (by omega)];omega
        have wu2:IntKind.i64.wrap ((vv.us:Int)+(1+(n:Int)))=(us2:Int):=by rw [IntWalk.i64_in _ (by omega)];omega
        have ws:IntKind.u32.wrap ((vv.sq:Int)+1)=(sq2:Int):=by rw [IntWalk.u32_in _ (by omega)];omega
        have hsv:=HSV.out
        rw [List.take_of_length_le (by rw [HLS.out];exact Nat.le_refl _)] at hsv
        have h1:=hsv.setHd (i:=10) (u:=.int .i64 (us2:Int)) (v':={ vv with us:=us2 }) rfl rfl rfl { hsv.at_.ok with us:=by show us2≤2000;omega }
        have h2:=h1.1.setHd (i:=9) (u:=.int .u32 (sq2:Int)) (v':={ vv with us:=us2,sq:=sq2 }) rfl rfl rfl { h1.1.at_.ok with sq:=by show sq2<4294967296;omega }
        have h3:=h2.1.shrink HQ8.out
        have HS9:=Lib.hid (h3.below ((Below.refl _ _).drew))
        have HM9:=Lib.hid (((HM8.out.trans (HSM.out.mono HQ8.out)).trans ((h1.2.mono HQ8.out).trans (h2.2.mono HQ8.out))).trans (h3.same ((Below.refl _ _).drew)))
        obtain ⟨z0,z1,z2,z3,z4,z5,z6,z7,z8,z9,z10,z11,z12⟩:=hsv.at_.cs
        have y9:=hsv.at_.f 9
        have y10:=hsv.at_.f 10
        have z9':(w5.setCell ⟨hp,10,none⟩ (.int .i64 (us2:Int))).cell? ⟨hp,9,none⟩=some (.int .u32 vv.sq):=h1.1.at_.cs.2.2.2.2.2.2.2.2.2.1
        have y9':(w5.setCell ⟨hp,10,none⟩ (.int .i64 (us2:Int))).frozen? ⟨hp,9,none⟩=false:=h1.1.at_.f 9
        have HU2:=Lib.hid hus2
        have HSQ2:=Lib.hid hsq2
        clear hsv h1 h2 h3 HSV HSM hz1 hz2 hz3 hus2 hsq2 z0 z1 z2 z3 z4 z5 z6 z7 z8 z11 z12
        go_upto_region 15 with fail
        go_region
        generalize hw9:((w5.setCell ⟨hp,10,none⟩ (.int .i64 (us2:Int))).setCell ⟨hp,9,none⟩ (.int .u32 (sq2:Int))).drew=w9 at *
        clear hw9 z9 z10 y9 y10 z9' y9'
        go_wp2_with fail
        go_loopw [9] (fun i wr=>∃ (k cx:Nat),i=.int .i64 k∧k≤n∧cx≤cm'+k∧Hid (RSV w0 wr Q hd (logW vv.r mm vv.us ls) hp rb mb' cap cx { vv with us:=us2,sq:=sq2,B:=layB vv.B (l.take k) })∧Hid (Same Q W wr)) (fun i _=>n-(intOf i).toNat)
        case atStart=>exact ⟨0,cm',rfl,by omega,by omega,by rw [List.take_zero];exact HS9.out,HM9.out⟩
        case round =>
         clear HS9
         obtain ⟨kk,cx,rfl,hk,hcx,HSV,HSM⟩:=hrel
         obtain ⟨wa,rfl⟩:∃ wa,wa=wr:=⟨wr,rfl⟩
         by_cases hlt:kk<n
         ·obtain ⟨x,hx⟩:∃ x,l[kk]?=some x:=⟨_,List.getElem?_eq_getElem (by rw [HN.out];exact hlt)⟩
          obtain ⟨ad,rfl,hat,hRR⟩:=(HY.out.same HSM.out) kk x hx
          have hxo:=HO.out x (List.mem_of_getElem? hx)
          have hki:(kk:Int)<n:=by omega
          have hxk:=(HMY.out.2.1 x (List.mem_of_getElem? hx)).1
          have hhv:=List.all_eq_true.1 HF.out.2.2.2.2.2.2.1 x (List.mem_of_getElem? hx)
          obtain ⟨t,ht⟩:∃ t:Nat,x.t=(t:Int):=⟨x.t.toNat,by unfold hasV at hhv;simp at hhv;omega⟩
          have htn:t<vv.n:=by unfold hasV at hhv;rw [ht] at hhv;simp at hhv;omega
          have hti:(t:Int)<vv.n:=by omega
          have hlb:(layB vv.B (l.take kk)).length=vv.n:=HSV.out.at_.ok.len
          obtain ⟨y,hy⟩:∃ y,(layB vv.B (l.take kk))[t]?=some y:=⟨_,List.getElem?_eq_getElem (by rw [hlb];exact htn)⟩
          have HXO:=Lib.hid hxo
          have HXK:=Lib.hid hxk
          have HY5:=Lib.hid hy
          have HKEY:Hid (layB vv.B (l.take (kk+1))=(layB vv.B (l.take kk)).set t ⟨x.k,x.bs,true⟩):=by
           unfold Hid
           rw [take_snoc' hx,layB_append]
           show layB (if 0≤x.t∧x.t<(layB vv.B (l.take kk)).length then _ else _) []=_
           rw [if_pos ⟨by omega,by rw [hlb,ht];omega⟩,ht];rfl
          have HAT:Hid (WrAt wa (ad.add (kk*58)) x):=hat
          have HC0:Hid (∀ W',Below wa.heap.size wa W'→W'.cell? (ad.add (kk*58))=some (.int .i64 (t:Int))):=fun W' hb'=>by rw [← ht];exact keepC hb' hat.c0
          have HRG:Hid (∀ W',Below wa.heap.size wa W'→W'.rangeAt (ad.add (kk*58)).block ((ad.add (kk*58)).off+1) (blkL x.k x.bs)):=fun W' hb' j u hj=>by
           have:=(hat.keep hb') (j+1) u (by show (Value.int .i64 x.t :: blkL x.k x.bs)[j+1]?=some u;rw [List.getElem?_cons_succ];exact hj)
           rw [add_sum] at this
           rw [show (ad.add (kk*58)).off+1+j=(ad.add (kk*58)).off+(j+1) by omega]
           exact this
          have HC:=Lib.hid (fun (W':World) (hb':Below wa.heap.size wa W')=>(HSV.out.below hb').at_.cs)
          have HX:=Lib.hid hx
          clear hat hxo hxk hhv hlb hy hx hRR
          go_upto_region 19 with fail
          refine wp_region_rgk (VCh19 hp rb vv.n cap n d kk t ad x.k x.bs) (fun _ W=>Below wa.heap.size wa W) (fun _ w w'=>Below w.heap.size w w') (by kernel_rfl) (by kernel_rfl) (fun i j v w w' _ _ h hs=>by unfold VCh19 at *;exact h) ((Below.refl _ _).drew) ?_
          simp only [RAll]
          refine ⟨?_,?_,?_,?_,?_,?_,?_,?_,?_,?_,?_,?_,?_,?_,?_,?_⟩
          ·refine RStepK.of rfl fun T W L hag hL hJ hLs hd=>?_
           have e0:T.getD 0 undef=_:=(agree_at hag 0 (by kernel_rfl)).trans rfl
           clear hag hd
           go_simp
           first | exact ⟨_,rfl,rfl⟩ | exact ⟨_,rfl,rfl,brefl _⟩ | exact ⟨_,rfl,rfl,hJ,brefl _⟩
          ·refine RStepK.of rfl fun T W L hag hL hJ hLs hd=>?_
           have d109:T.getD 109 undef=_:=hd ⟨0,.data⟩ (by simp) rfl _ rfl
           clear hag hd
           go_simp
           first | exact ⟨_,rfl,rfl⟩ | exact ⟨_,rfl,rfl,brefl _⟩ | exact ⟨_,rfl,rfl,hJ,brefl _⟩
          ·refine RStepK.of rfl fun T W L hag hL hJ hLs hd=>?_
           have d110:T.getD 110 undef=_:=hd ⟨1,.data⟩ (by simp) rfl _ rfl
           clear hag hd
           go_simp
           first | exact ⟨_,rfl,rfl⟩ | exact ⟨_,rfl,rfl,brefl _⟩ | exact ⟨_,rfl,rfl,hJ,brefl _⟩
          ·refine RStepK.of rfl fun T W L hag hL hJ hLs hd=>?_
           have d111:T.getD 111 undef=_:=hd ⟨2,.data⟩ (by simp) rfl _ rfl
           obtain ⟨z0,z1,z2,z3,z4,z5,z6,z7,z8,z9,z10,z11,z12⟩:=HC.out W hJ
           have c0:=HC0.out W hJ
           clear hag hd
           go_simp
           first | exact ⟨_,rfl,rfl⟩ | exact ⟨_,rfl,rfl,brefl _⟩ | exact ⟨_,rfl,rfl,hJ,brefl _⟩
          ·refine RStepK.of rfl fun T W L hag hL hJ hLs hd=>?_
           have e1:T.getD 1 undef=_:=(agree_at hag 1 (by kernel_rfl)).trans rfl
           clear hag hd
           go_simp
           first | exact ⟨_,rfl,rfl⟩ | exact ⟨_,rfl,rfl,brefl _⟩ | exact ⟨_,rfl,rfl,hJ,brefl _⟩
          ·refine RStepK.of rfl fun T W L hag hL hJ hLs hd=>?_
           have e9:T.getD 9 undef=_:=(agree_at hag 9 (by kernel_rfl)).trans rfl
           clear hag hd
           go_simp
           first | exact ⟨_,rfl,rfl⟩ | exact ⟨_,rfl,rfl,brefl _⟩ | exact ⟨_,rfl,rfl,hJ,brefl _⟩
          ·refine RStepK.of rfl fun T W L hag hL hJ hLs hd=>?_
           have d113:T.getD 113 undef=_:=hd ⟨4,.data⟩ (by simp) rfl _ rfl
           have d114:T.getD 114 undef=_:=hd ⟨5,.data⟩ (by simp) rfl _ rfl
           clear hag hd
           go_simp
           first | exact ⟨_,rfl,rfl⟩ | exact ⟨_,rfl,rfl,brefl _⟩ | exact ⟨_,rfl,rfl,hJ,brefl _⟩
          ·refine RStepK.of rfl fun T W L hag hL hJ hLs hd=>?_
           have d115:T.getD 115 undef=_:=hd ⟨6,.data⟩ (by simp) rfl _ rfl
           clear hag hd
           go_simp
           first | exact ⟨_,rfl,rfl⟩ | exact ⟨_,rfl,rfl,brefl _⟩ | exact ⟨_,rfl,rfl,hJ,brefl _⟩
          ·refine RStepK.of rfl fun T W L hag hL hJ hLs hd=>?_
           have d116:T.getD 116 undef=_:=hd ⟨7,.data⟩ (by simp) rfl _ rfl
           obtain ⟨z0,z1,z2,z3,z4,z5,z6,z7,z8,z9,z10,z11,z12⟩:=HC.out W hJ
           have c0:=HC0.out W hJ
           clear hag hd
           go_simp
           first | exact ⟨_,rfl,rfl⟩ | exact ⟨_,rfl,rfl,brefl _⟩ | exact ⟨_,rfl,rfl,hJ,brefl _⟩
          ·refine RStepK.of rfl fun T W L hag hL hJ hLs hd=>?_
           have e1:T.getD 1 undef=_:=(agree_at hag 1 (by kernel_rfl)).trans rfl
           clear hag hd
           go_simp
           first | exact ⟨_,rfl,rfl⟩ | exact ⟨_,rfl,rfl,brefl _⟩ | exact ⟨_,rfl,rfl,hJ,brefl _⟩
          ·refine RStepK.of rfl fun T W L hag hL hJ hLs hd=>?_
           have e9:T.getD 9 undef=_:=(agree_at hag 9 (by kernel_rfl)).trans rfl
           clear hag hd
           go_simp
           first | exact ⟨_,rfl,rfl⟩ | exact ⟨_,rfl,rfl,brefl _⟩ | exact ⟨_,rfl,rfl,hJ,brefl _⟩
          ·refine RStepK.of rfl fun T W L hag hL hJ hLs hd=>?_
           have d118:T.getD 118 undef=_:=hd ⟨9,.data⟩ (by simp) rfl _ rfl
           have d119:T.getD 119 undef=_:=hd ⟨10,.data⟩ (by simp) rfl _ rfl
           clear hag hd
           go_simp
           first | exact ⟨_,rfl,rfl⟩ | exact ⟨_,rfl,rfl,brefl _⟩ | exact ⟨_,rfl,rfl,hJ,brefl _⟩
          ·refine RStepK.of rfl fun T W L hag hL hJ hLs hd=>?_
           have d120:T.getD 120 undef=_:=hd ⟨11,.data⟩ (by simp) rfl _ rfl
           clear hag hd
           go_simp
           first | exact ⟨_,rfl,rfl⟩ | exact ⟨_,rfl,rfl,brefl _⟩ | exact ⟨_,rfl,rfl,hJ,brefl _⟩
          ·refine RStepK.of rfl fun T W L hag hL hJ hLs hd=>?_
           have d121:T.getD 121 undef=_:=hd ⟨12,.data⟩ (by simp) rfl _ rfl
           clear hag
           refine wp_load_mid 71 (.tmp 121) rfl (ad.add (kk*58)).block ((ad.add (kk*58)).off+1) d121 (blkL x.k x.bs) _ (HRG.out W hJ) Tryz.underlying71 rfl (by rw [blkL_len HXO.out.len];exact size24b) ?_
           exact ⟨_,rfl,rfl,hJ,brefl _⟩
          ·refine RStepK.of rfl fun T W L hag hL hJ hLs hd=>?_
           have d112:T.getD 112 undef=_:=hd ⟨3,.data⟩ (by simp) rfl _ rfl
           have d117:T.getD 117 undef=_:=hd ⟨8,.data⟩ (by simp) rfl _ rfl
           clear hag hd
           go_simp
           first | exact ⟨_,rfl,rfl⟩ | exact ⟨_,rfl,rfl,brefl _⟩ | exact ⟨_,rfl,rfl,hJ,brefl _⟩
          ·refine RLastK.of rfl fun T W L hag hLs hL hJ hd=>?_
           have d123:T.getD 123 undef=_:=hd 14 _ (by simp) rfl
           have d122:T.getD 122 undef=_:=hd 13 _ (by simp) rfl
           obtain ⟨f,hf,hT⟩:=agree_fn hag
           have d109:T.getD 109 undef=_:=hd 0 _ (by simp) rfl
           have h109:=(hf 109).trans d109
           have d110:T.getD 110 undef=_:=hd 1 _ (by simp) rfl
           have h110:=(hf 110).trans d110
           have d111:T.getD 111 undef=_:=hd 2 _ (by simp) rfl
           have h111:=(hf 111).trans d111
           have d112:T.getD 112 undef=_:=hd 3 _ (by simp) rfl
           have h112:=(hf 112).trans d112
           have d113:T.getD 113 undef=_:=hd 4 _ (by simp) rfl
           have h113:=(hf 113).trans d113
           have d114:T.getD 114 undef=_:=hd 5 _ (by simp) rfl
           have h114:=(hf 114).trans d114
           have d115:T.getD 115 undef=_:=hd 6 _ (by simp) rfl
           have h115:=(hf 115).trans d115
           have d116:T.getD 116 undef=_:=hd 7 _ (by simp) rfl
           have h116:=(hf 116).trans d116
           have d117:T.getD 117 undef=_:=hd 8 _ (by simp) rfl
           have h117:=(hf 117).trans d117
           have d118:T.getD 118 undef=_:=hd 9 _ (by simp) rfl
           have h118:=(hf 118).trans d118
           have d119:T.getD 119 undef=_:=hd 10 _ (by simp) rfl
           have h119:=(hf 119).trans d119
           have d120:T.getD 120 undef=_:=hd 11 _ (by simp) rfl
           have h120:=(hf 120).trans d120
           have d121:T.getD 121 undef=_:=hd 12 _ (by simp) rfl
           have h121:=(hf 121).trans d121
           have h122:=(hf 122).trans d122
           have h123:=(hf 123).trans d123
           have HJ:=Lib.hid hJ
           clear hag hd d109 d110 d111 d112 d113 d114 d115 d116 d117 d118 d119 d120 d121 d122 d123 hJ hf
           rw [hT]
           clear hT
           simp only [List.pop_toArray,List.dropLast_cons_cons,List.dropLast_singleton,List.filterMap_cons,List.filterMap_nil,List.foldl_cons,List.foldl_nil,List.setIfInBounds_toArray,List.set_cons_succ,List.set_cons_zero,h109,h110,h111,h112,h113,h114,h115,h116,h117,h118,h119,h120,h121,h122,h123]
           have hq:=HSV.out.below HJ.out
           have hst:=hq.setB HY5.out HXK.out HXO.out.len HXO.out.b
           have hth:W.there rb (t*57) (blkL x.k x.bs).toArray.size:=by simp only [List.size_toArray];exact hq.at_.row.there _ _ (by rw [blkL_len HXO.out.len];have:(t+1)*57≤vv.n*57:=Nat.mul_le_mul_right _ (by omega);show t*57+57≤vv.n*57;omega)
           have HB1:=Lib.hid hst.1
           have HB2:=Lib.hid ((HSM.out.trans (HSV.out.same HJ.out)).trans hst.2)
           refine wp_store_mid 71 (.tmp 123) (.tmp 122) rfl rb (t*57) (blkL x.k x.bs).toArray (by go_simp) (by go_simp;rfl) hth (by simp only [List.size_toArray];rw [blkL_len HXO.out.len];exact size24b) (all_oneCell_toArray (blkL_one x.k x.bs)) ?_
           simp only []
           clear hst hth
           generalize hwb:W.setCells rb (t*57) (blkL x.k x.bs).toArray.toList=wb at *
           clear HC HC0 HRG HAT HSV HSM HJ
           have HC0:Hid (∀ W',Below wb.heap.size wb W'→W'.cell? (ad.add (kk*58))=some (.int .i64 (t:Int))):=fun W' hb'=>by
            obtain ⟨ad',e',hat',_⟩:=(HY.out.same HB2.out) kk x HX.out
            injection e' with e'
            subst e'
            rw [← ht];exact keepC hb' hat'.c0
           have HC:=Lib.hid (fun (W':World) (hb':Below wb.heap.size wb W')=>(HB1.out.below hb').at_.cs)
           have HY6:Hid (((layB vv.B (l.take kk)).set t ⟨x.k,x.bs,y.lg⟩)[t]?=some ⟨x.k,x.bs,y.lg⟩):=by
            unfold Hid
            rw [List.getElem?_set_self (List.getElem?_eq_some_iff.1 HY5.out).1]
           clear hwb
           go_upto_region 20 with fail
           refine wp_region_rgk (VCh20 hp mb' n d kk t ad) (fun _ W=>Below wb.heap.size wb W) (fun _ w w'=>Below w.heap.size w w') (by kernel_rfl) (by kernel_rfl) (fun i j v w w' _ _ h hs=>by unfold VCh20 at *;exact h) ((Below.refl _ _).drew) ?_
           simp only [RAll]
           refine ⟨?_,?_,?_,?_,?_,?_,?_,?_,?_,?_⟩
           ·refine RStepK.of rfl fun T W L hag hL hJ hLs hd=>?_
            have e0:T.getD 0 undef=_:=(agree_at hag 0 (by kernel_rfl)).trans rfl
            clear hag hd
            go_simp
            first | exact ⟨_,rfl,rfl⟩ | exact ⟨_,rfl,rfl,brefl _⟩ | exact ⟨_,rfl,rfl,hJ,brefl _⟩
           ·refine RStepK.of rfl fun T W L hag hL hJ hLs hd=>?_
            have d124:T.getD 124 undef=_:=hd ⟨0,.data⟩ (by simp) rfl _ rfl
            clear hag hd
            go_simp
            first | exact ⟨_,rfl,rfl⟩ | exact ⟨_,rfl,rfl,brefl _⟩ | exact ⟨_,rfl,rfl,hJ,brefl _⟩
           ·refine RStepK.of rfl fun T W L hag hL hJ hLs hd=>?_
            have d125:T.getD 125 undef=_:=hd ⟨1,.data⟩ (by simp) rfl _ rfl
            clear hag hd
            go_simp
            first | exact ⟨_,rfl,rfl⟩ | exact ⟨_,rfl,rfl,brefl _⟩ | exact ⟨_,rfl,rfl,hJ,brefl _⟩
           ·refine RStepK.of rfl fun T W L hag hL hJ hLs hd=>?_
            have d126:T.getD 126 undef=_:=hd ⟨2,.data⟩ (by simp) rfl _ rfl
            obtain ⟨z0,z1,z2,z3,z4,z5,z6,z7,z8,z9,z10,z11,z12⟩:=HC.out W hJ
            have c0:=HC0.out W hJ
            clear hag hd
            go_simp
            first | exact ⟨_,rfl,rfl⟩ | exact ⟨_,rfl,rfl,brefl _⟩ | exact ⟨_,rfl,rfl,hJ,brefl _⟩
           ·refine RStepK.of rfl fun T W L hag hL hJ hLs hd=>?_
            have e1:T.getD 1 undef=_:=(agree_at hag 1 (by kernel_rfl)).trans rfl
            clear hag hd
            go_simp
            first | exact ⟨_,rfl,rfl⟩ | exact ⟨_,rfl,rfl,brefl _⟩ | exact ⟨_,rfl,rfl,hJ,brefl _⟩
           ·refine RStepK.of rfl fun T W L hag hL hJ hLs hd=>?_
            have e9:T.getD 9 undef=_:=(agree_at hag 9 (by kernel_rfl)).trans rfl
            clear hag hd
            go_simp
            first | exact ⟨_,rfl,rfl⟩ | exact ⟨_,rfl,rfl,brefl _⟩ | exact ⟨_,rfl,rfl,hJ,brefl _⟩
           ·refine RStepK.of rfl fun T W L hag hL hJ hLs hd=>?_
            have d128:T.getD 128 undef=_:=hd ⟨4,.data⟩ (by simp) rfl _ rfl
            have d129:T.getD 129 undef=_:=hd ⟨5,.data⟩ (by simp) rfl _ rfl
            clear hag hd
            go_simp
            first | exact ⟨_,rfl,rfl⟩ | exact ⟨_,rfl,rfl,brefl _⟩ | exact ⟨_,rfl,rfl,hJ,brefl _⟩
           ·refine RStepK.of rfl fun T W L hag hL hJ hLs hd=>?_
            have d130:T.getD 130 undef=_:=hd ⟨6,.data⟩ (by simp) rfl _ rfl
            clear hag hd
            go_simp
            first | exact ⟨_,rfl,rfl⟩ | exact ⟨_,rfl,rfl,brefl _⟩ | exact ⟨_,rfl,rfl,hJ,brefl _⟩
           ·refine RStepK.of rfl fun T W L hag hL hJ hLs hd=>?_
            have d131:T.getD 131 undef=_:=hd ⟨7,.data⟩ (by simp) rfl _ rfl
            obtain ⟨z0,z1,z2,z3,z4,z5,z6,z7,z8,z9,z10,z11,z12⟩:=HC.out W hJ
            have c0:=HC0.out W hJ
            clear hag hd
            go_simp
            first | exact ⟨_,rfl,rfl⟩ | exact ⟨_,rfl,rfl,brefl _⟩ | exact ⟨_,rfl,rfl,hJ,brefl _⟩
           ·refine RLastK.of rfl fun T W L hag hLs hL hJ hd=>?_
            have d127:T.getD 127 undef=_:=hd 3 _ (by simp) rfl
            have d132:T.getD 132 undef=_:=hd 8 _ (by simp) rfl
            obtain ⟨f,hf,hT⟩:=agree_fn hag
            have d124:T.getD 124 undef=_:=hd 0 _ (by simp) rfl
            have h124:=(hf 124).trans d124
            have d125:T.getD 125 undef=_:=hd 1 _ (by simp) rfl
            have h125:=(hf 125).trans d125
            have d126:T.getD 126 undef=_:=hd 2 _ (by simp) rfl
            have h126:=(hf 126).trans d126
            have h127:=(hf 127).trans d127
            have d128:T.getD 128 undef=_:=hd 4 _ (by simp) rfl
            have h128:=(hf 128).trans d128
            have d129:T.getD 129 undef=_:=hd 5 _ (by simp) rfl
            have h129:=(hf 129).trans d129
            have d130:T.getD 130 undef=_:=hd 6 _ (by simp) rfl
            have h130:=(hf 130).trans d130
            have d131:T.getD 131 undef=_:=hd 7 _ (by simp) rfl
            have h131:=(hf 131).trans d131
            have h132:=(hf 132).trans d132
            have HJ:=Lib.hid hJ
            clear hag hd d124 d125 d126 d127 d128 d129 d130 d131 d132 hJ hf
            rw [hT]
            clear hT
            simp only [List.pop_toArray,List.dropLast_cons_cons,List.dropLast_singleton,List.filterMap_cons,List.filterMap_nil,List.foldl_cons,List.foldl_nil,List.setIfInBounds_toArray,List.set_cons_succ,List.set_cons_zero,h124,h125,h126,h127,h128,h129,h130,h131,h132]
            have hq:=HB1.out.below HJ.out
            obtain ⟨we,hr,hs,hm⟩:=hq.mark HY6.out (by have:=HCM.out;simp only [maxLen];omega) (by have:=HF.out.2.2.2.2.2.2.2;omega)
            have HS2:Hid (RSV w0 we Q hd (logW vv.r mm vv.us ls) hp rb mb' cap (cx+1) { vv with us:=us2,sq:=sq2,B:=layB vv.B (l.take (kk+1)) }):=by
             unfold Hid
             rw [HKEY.out]
             have e1:=hs
             simp only [List.set_set] at e1
             exact e1
            have HSM2:=Lib.hid ((HB2.out.trans (HB1.out.same HJ.out)).trans hm)
            clear hq hs hm HJ HB1 HB2 HC HC0
            go_simp
            go_wp2
            go_roundw
            case rel=>exact ⟨kk+1,cx+1,by go_num,by omega,by omega,HS2.out,HSM2.out⟩
            case measure=>simp [intOf];omega
         ·obtain rfl:n=kk:=by omega
          have hki:¬ ((n:Int)<n):=by omega
          have hs:=HSV.out
          rw [List.take_of_length_le (by rw [HN.out];exact Nat.le_refl _)] at hs
          have HFS:=Lib.hid hs
          clear hs HSV
          go_wp2_with fail
          go_ret
          refine ⟨by first | rfl | (rw [if_pos HCH.out];rfl),mb',cx,by omega,?_,HSM.out⟩
          rw [HF.out.2.2.2.2.1,HF.out.2.2.2.2.2.1]
          unfold putM putV
          rw [← HLE.out,HN.out,← HU2.out,← HSQ2.out]
          exact HFS.out
 ·have HNO:Hid (¬ ChOk v l):=fun h=>hmay h.1
  rw [decide_eq_false hmay]
  clear hmay
  go_wp2_with fail
  go_ret
  refine ⟨by first | rfl | (rw [if_neg HNO.out];rfl),mb,cm,by omega,?_,HM1.out⟩
  unfold chM chV
  rw [if_neg HNO.out,if_neg HNO.out]
  exact HV1.out
end Go.Proofs.YtamnpblijdgdaaaGreat
