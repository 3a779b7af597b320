/- For VolAll: contracts and facts, part 11. -/
import Derived.Test.YtamnpblijdgdaaaGreatV09
namespace Go.Proofs.YtamnpblijdgdaaaGreat
open Go.ChangeShapes Go.WideShapes Go.ChangeAt Go.RowKit
set_option linter.unusedVariables false
section
variable {w:World} {O:Nat→RRole} {hp:Nat} {L:Nat→Value} {m:RM}
set_option maxRecDepth 100000 in
set_option maxHeartbeats 6400000 in
theorem rbar_yes (h:RAt w O hp L m.G m.left) (hO:∀ k,O k≠.none→k<w.heap.size) (r:Nat) (hok:m.Ok) (hrl:r<m.seen.length) (hl0:m.left≠0) (hmax:(m.traces.getD r []).length≤100000) :
 Calls Tryz.prog 42 #[.pointer (some ⟨hp,0,none⟩),.int .i64 r] w fun e w'=>e=.returned (.bool true)∧∃ O' ,RAt w' O' hp L (m.barrier r).G (m.barrier r).left∧(∀ k,O' k≠.none→k<w'.heap.size)∧(∀ k,O' k≠.none→O k≠.none∨w.heap.size≤k)∧Touch (fun k=>O k≠.none) w w':=by
 obtain ⟨row,hrow⟩:∃ x,m.seen[r]?=some x:=⟨_,List.getElem?_eq_getElem hrl⟩
 have hfew:=hok.few
 have hle:=(hok.rows r row hrow).1
 have hpos:=(hok.rows r row hrow).2.1
 obtain ⟨srow,hsr⟩:∃ x,m.sure[r]?=some x:=⟨_,List.getElem?_eq_getElem (by rw [hok.sureLen];exact hrl)⟩
 obtain ⟨wrow,hwr⟩:∃ x,m.wait[r]?=some x:=⟨_,List.getElem?_eq_getElem (by rw [hok.waitLen];exact hrl)⟩
 obtain ⟨trow,htr⟩:∃ x,m.traces[r]?=some x:=⟨_,List.getElem?_eq_getElem (by rw [hok.trLen];exact hrl)⟩
 have hHp:O hp=.hd:=h.ohd
 obtain ⟨g0,cap0,u0,hL0,ho0,hg0,hcu0,hfu0,hru0⟩:=h.row (t:=0) (by omega) (G0_at hsr)
 obtain ⟨g1,cap1,u1,hL1,ho1,hg1,hcu1,hfu1,hru1⟩:=h.row (t:=1) (by omega) (G1_at hrow)
 obtain ⟨g2,cap2,u2,hL2,ho2,hg2,hcu2,hfu2,hru2⟩:=h.row (t:=2) (by omega) (G2_at hwr)
 have hL0':=hL0
 have hL1':=hL1
 have hL2':=hL2
 rw [G0_len hok] at hL0'
 rw [G1_len] at hL1'
 rw [G2_len hok] at hL2'
 have C0:=h.cell 0 (by omega)
 have C1:=h.cell 1 (by omega)
 have C2:=h.cell 2 (by omega)
 rw [hL0'] at C0
 rw [hL1'] at C1
 rw [hL2'] at C2
 have c4:=h.c4
 have hne0:(m.left==0)=false:=by simpa using hl0
 rw [List.length_map,flat_str] at hru1
 obtain ⟨Wb,hWb⟩:∃ W,W=(w.alloc (.cells #[] 9)).drew:=⟨_,rfl⟩
 have hbb:Below w.heap.size w Wb:=by rw [hWb];exact ((Below.refl _ _).alloc (Nat.le_refl _) _).drew
 have hqb:Wb.heap[w.heap.size]?=some (.cells #[] 9 (0,0)):=by rw [hWb];exact heap_alloc_new w _
 obtain ⟨v',W3,hrun,hrow3,hb3,⟨A',c',ev⟩⟩:=copy_run (hru1.below hbb) hpos hle (sv_one row) w.heap.size hqb 63
 have hb13:Below w.heap.size w W3:=hbb.trans (hb3.mono hbb.size)
 have hrow3':RowAt W3 (fun k=>O k=.row 0 r∨w.heap.size≤k) (rER 0) (rSz 0) v' (row.map strE).length (row.map strE).flatten:=by
  rw [List.length_map,flat_str]
  exact hrow3.owner fun k _ hk=>Or.inr (Nat.le_trans hbb.size hk)
 obtain ⟨r1,r2,r3⟩:=h.putRow hO (t:=0) (by omega) (row':=row.map strE) (G0_at hsr) hL0 (Touch.of_below hb13 _) hrow3'
 rw [G_sure] at r1
 subst ev
 obtain ⟨O1,hO1⟩:∃ x,x=rOwn O w.heap.size 0 r (.slice A' row.length c'):=⟨_,rfl⟩
 rw [← hO1] at r1 r2 r3
 have r2':∀ k,O1 k≠.none→k<(W3.setCell ⟨g0,r,none⟩ (.slice A' row.length c')).heap.size:=fun k hk=>by have:=r2 k hk;simpa using this
 have hO1t:∀ t q,q<w.heap.size→O q=.tab t→O1 q=.tab t:=fun t q hq h9=>by rw [hO1];unfold rOwn;rw [if_pos hq];exact h9
 obtain ⟨s1,s2,s3⟩:=r1.putRow r2' (t:=2) (by omega) (row:=wrow.map penE) (row':=([]:List (Nat × List Int)).map penE) (G2_at (m:={ m with sure:=m.sure.set r row }) hwr) (u':=.slice none 0 0) (g:=g2) (cap:=cap2) hL2 (Touch.refl _ _) (RowAt.nil _ _ _ _)
 rw [G_wait] at s1
 have hg02:g2≠g0:=fun e=>by rw [e,ho0] at ho2;injection ho2 with h9;cases h9
 have hg3s:w.heap.size≤W3.heap.size:=hb13.size
 have c30:W3.cell? ⟨g0,r,none⟩=some u0:=by rw [hb13.cell hg0];exact hcu0
 have f30:W3.frozen? ⟨g0,r,none⟩=false:=by rw [hb13.frozen hg0];exact hfu0
 have c32:(W3.setCell ⟨g0,r,none⟩ (.slice A' row.length c')).cell? ⟨g2,r,none⟩=some u2:=by
  rw [World.cell?_of_block (w:=W3) (by show (W3.setCell ⟨g0,r,none⟩ _).heap[g2]?=W3.heap[g2]?;exact Below.heap_setCell _ _ _ _ hg02),hb13.cell hg2];exact hcu2
 have f32:(W3.setCell ⟨g0,r,none⟩ (.slice A' row.length c')).frozen? ⟨g2,r,none⟩=false:=by
  rw [World.frozen?_of_block (w:=W3) (by show (W3.setCell ⟨g0,r,none⟩ _).heap[g2]?=W3.heap[g2]?;exact Below.heap_setCell _ _ _ _ hg02),hb13.frozen hg2];exact hfu2
 have HT0:Hid (Touch (fun k=>O k≠.none) w ((W3.setCell ⟨g0,r,none⟩ (.slice A' row.length c')).setCell ⟨g2,r,none⟩ (.slice none 0 0))):=((Touch.of_below hb13 _).setCell (p:=⟨g0,r,none⟩) (by show O g0≠.none;rw [ho0];simp) _).setCell (p:=⟨g2,r,none⟩) (by show O g2≠.none;rw [ho2];simp) _
 have s2':∀ k,rOwn O1 (W3.setCell ⟨g0,r,none⟩ (.slice A' row.length c')).heap.size 2 r (.slice none 0 0) k≠.none→k<((W3.setCell ⟨g0,r,none⟩ (.slice A' row.length c')).setCell ⟨g2,r,none⟩ (.slice none 0 0)).heap.size:=fun k hk=>by have:=s2 k hk;simpa using this
 have s3':∀ k,rOwn O1 (W3.setCell ⟨g0,r,none⟩ (.slice A' row.length c')).heap.size 2 r (.slice none 0 0) k≠.none→O k≠.none∨w.heap.size≤k:=fun k hk=>by
  rcases s3 k hk with h9 | h9
  ·exact r3 k h9
  ·exact Or.inr (by have h10:(W3.setCell ⟨g0,r,none⟩ (.slice A' row.length c')).heap.size=W3.heap.size:=by simp
                    omega)
 have HM0:=Lib.hid (And.intro s1 (And.intro s2' s3'))
 have HRUN:=Lib.hid hrun
 have HOK:=Lib.hid hok
 have HTR:=Lib.hid htr
 have HROW:=Lib.hid hrow
 have HG3A:=Lib.hid (G3_at (m:={ m with sure:=m.sure.set r row,wait:=m.wait.set r [] }) htr)
 have hri:(r:Int)<m.seen.length:=by omega
 have hn0:¬ (r:Int)<0:=by omega
 have hn1:¬ (m.seen.length:Int)≤r:=by omega
 have hd1:decide ((r:Int)<0)=false:=decide_eq_false hn0
 have hd2:decide ((m.seen.length:Int)≤(r:Int))=false:=decide_eq_false hn1
 have k0:w.drew.cell? ⟨hp,0,none⟩=some (.slice (some ⟨g0,0,none⟩) m.seen.length cap0):=C0
 have k1:w.drew.cell? ⟨hp,1,none⟩=some (.slice (some ⟨g1,0,none⟩) m.seen.length cap1):=C1
 have k2:w.drew.cell? ⟨hp,2,none⟩=some (.slice (some ⟨g2,0,none⟩) m.seen.length cap2):=C2
 have k3:w.drew.cell? ⟨g1,r,none⟩=some u1:=hcu1
 have l0:Wb.cell? ⟨hp,0,none⟩=some (.slice (some ⟨g0,0,none⟩) m.seen.length cap0):=keepC hbb C0
 have l1:Wb.cell? ⟨hp,1,none⟩=some (.slice (some ⟨g1,0,none⟩) m.seen.length cap1):=keepC hbb C1
 have l2:Wb.cell? ⟨hp,2,none⟩=some (.slice (some ⟨g2,0,none⟩) m.seen.length cap2):=keepC hbb C2
 have l3:Wb.cell? ⟨g1,r,none⟩=some u1:=keepC hbb hcu1
 have j0:W3.cell? ⟨hp,0,none⟩=some (.slice (some ⟨g0,0,none⟩) m.seen.length cap0):=keepC hb13 C0
 have j2:W3.cell? ⟨hp,2,none⟩=some (.slice (some ⟨g2,0,none⟩) m.seen.length cap2):=keepC hb13 C2
 subst hWb
 clear h hok hrow htr hsr hwr s1 s2 s3 s2' s3' r1 r2 r3 r2' hO1t hrun hru0 hru1 hru2 hrow3 hrow3' hqb hbb hb3 hb13 hL0 hL1 hL2 hL0' hL1' hL2' hO hcu0 hfu0 hfu1 hfu2 hcu2 hl0 hle hpos hO1
 obtain ⟨hp',rfl⟩:∃ x,x=hp:=⟨hp,rfl⟩
 go_enter Tryz.func42,Tryz.ntmps42
 go_upto_region 5 with fail
 go_cut [] (fun wx=>wx=(W3.setCell ⟨g0,r,none⟩ (.slice A' row.length c')).setCell ⟨g2,r,none⟩ (.slice none 0 0))
 case first =>
  go_region_law (refine step_app_run rfl (.tmp 31) (.tmp 38) _ _ rfl _ u1 _ W3 rfl rfl HRUN.out ?_)
  all_goals
   go_wp2
   go_meet
   case rel=>rfl
 case rest =>
  subst hcut
  have HM:=HM0
  have HT:=HT0
  clear c30 f30 c32 f32 k0 k1 k2 k3 l0 l1 l2 l3 j0 j2 C0 C1 C2 c4 HRUN HM0 HT0
  obtain ⟨O3,hO3⟩:∃ x,x=rOwn O1 (W3.setCell ⟨g0,r,none⟩ (.slice A' row.length c')).heap.size 2 r (.slice none 0 0):=⟨_,rfl⟩
  rw [← hO3] at HM
  clear hO3
  generalize (W3.setCell ⟨g0,r,none⟩ (.slice A' row.length c')).setCell ⟨g2,r,none⟩ (.slice none 0 0)=W2 at *
  obtain ⟨g3,cap3,u3,hL3,ho3,hg3,hcu3,hfu3,hru3⟩:=HM.out.1.row (t:=3) (by omega) HG3A.out
  have HL3:=Lib.hid hL3
  have HOG3:=Lib.hid ho3
  have HG3:=Lib.hid hg3
  have CU3:=Lib.hid hcu3
  have HF3:=Lib.hid hfu3
  have htl:trow.length≤100000:=by have:=hmax;rw [List.getD,HTR.out] at this;exact this
  have hL3':L 3=.slice (some ⟨g3,0,none⟩) m.seen.length cap3:=by rw [hL3,show ((({ m with sure:=m.sure.set r row,wait:=m.wait.set r [] }:RM)).G 3).length=m.seen.length from (G3_len (m:=m) HOK.out:(m.G 3).length=m.seen.length)]
  have C3:=Lib.hid (HM.out.1.cell 3 (by omega))
  rw [hL3'] at C3
  have hgn3:¬ O3 g3=.row 3 r:=by rw [ho3];simp
  have hhn3:¬ O3 hp'=.row 3 r:=by rw [HM.out.1.ohd];simp
  obtain ⟨tn,htn⟩:∃ n,n=trow.length:=⟨_,rfl⟩
  obtain ⟨xs3,hxs3⟩:∃ x,x=(trow.map strE).flatten:=⟨_,rfl⟩
  rw [List.length_map,← htn,← hxs3] at hru3
  have htn1:tn≤100000:=by rw [htn];exact htl
  have HTN:Hid (trow.length=tn):=htn.symm
  have HXS3:Hid ((trow.map strE).flatten=xs3):=hxs3.symm
  have HRU3:=Lib.hid hru3
  have hbd3:∀ k,u3.ownBlock=some k→k<W2.heap.size:=fun k hk=>(hru3.1.lt k hk).2
  clear hL3 ho3 hg3 hcu3 hfu3 hru3 htn hxs3 htl hL3'
  go_upto_region 6 with fail
  have srefl3:∀ (i:Nat) (W:World),SU 13 u3 i W W:=fun i W=>by unfold SU;split <;> exact World.grownBy.refl W _
  have hJ0:Touch (fun k=>O3 k=.row 3 r) W2 W2.drew∧RowAt W2.drew (fun k=>O3 k=.row 3 r) 9 1 u3 tn xs3:=⟨(Touch.refl _ _).drew,HRU3.out⟩
  refine wp_region_rgi (VU9 hp' g3 r tn W2.heap.size ⟨#[255,255]⟩ (.slice (some ⟨g3,0,none⟩) m.seen.length cap3) u3 (fun k=>O3 k=.row 3 r) xs3) (fun W=>Touch (fun k=>O3 k=.row 3 r) W2 W∧RowAt W (fun k=>O3 k=.row 3 r) 9 1 u3 tn xs3) (SU 13 u3) (by kernel_rfl) (by kernel_rfl) (fun i j v w w' hij h hg=>h.on hbd3 hij hg) hJ0 ?_
  clear hJ0
  simp only [RAll]
  refine ⟨?_,?_,?_,?_,?_,?_,?_,?_,?_,?_,?_,?_,?_,?_,?_,?_⟩
  ·refine RStep.of rfl fun T W hag hJ hd=>?_
   have e0:T.getD 0 undef=_:=(agree_at hag 0 (by kernel_rfl)).trans rfl
   clear hag hd
   go_simp
   first | exact ⟨_,rfl,rfl⟩ | exact ⟨_,rfl,rfl,hJ,srefl3 _ _⟩
  ·refine RStep.of rfl fun T W hag hJ hd=>?_
   have d42:T.getD 42 undef=_:=hd ⟨0,.data⟩ (by simp) rfl _ rfl
   clear hag hd
   go_simp
   first | exact ⟨_,rfl,rfl⟩ | exact ⟨_,rfl,rfl,hJ,srefl3 _ _⟩
  ·refine RStep.of rfl fun T W hag hJ hd=>?_
   have d43:T.getD 43 undef=_:=hd ⟨1,.data⟩ (by simp) rfl _ rfl
   clear hag hd
   go_simp
   first | exact ⟨_,rfl,rfl⟩ | exact ⟨_,rfl,rfl,hJ,srefl3 _ _⟩
  ·refine RStep.of rfl fun T W hag hJ hd=>?_
   have d44:T.getD 44 undef=_:=hd ⟨2,.data⟩ (by simp) rfl _ rfl
   have fct0:=keepT hJ.1 C3.out hhn3
   clear hag hd
   go_simp
   first | exact ⟨_,rfl,rfl⟩ | exact ⟨_,rfl,rfl,hJ,srefl3 _ _⟩
  ·refine RStep.of rfl fun T W hag hJ hd=>?_
   have e1:T.getD 1 undef=_:=(agree_at hag 1 (by kernel_rfl)).trans rfl
   clear hag hd
   go_simp
   first | exact ⟨_,rfl,rfl⟩ | exact ⟨_,rfl,rfl,hJ,srefl3 _ _⟩
  ·refine RStep.of rfl fun T W hag hJ hd=>?_
   have e0:T.getD 0 undef=_:=(agree_at hag 0 (by kernel_rfl)).trans rfl
   clear hag hd
   go_simp
   first | exact ⟨_,rfl,rfl⟩ | exact ⟨_,rfl,rfl,hJ,srefl3 _ _⟩
  ·refine RStep.of rfl fun T W hag hJ hd=>?_
   have d47:T.getD 47 undef=_:=hd ⟨5,.data⟩ (by simp) rfl _ rfl
   clear hag hd
   go_simp
   first | exact ⟨_,rfl,rfl⟩ | exact ⟨_,rfl,rfl,hJ,srefl3 _ _⟩
  ·refine RStep.of rfl fun T W hag hJ hd=>?_
   have d48:T.getD 48 undef=_:=hd ⟨6,.data⟩ (by simp) rfl _ rfl
   clear hag hd
   go_simp
   first | exact ⟨_,rfl,rfl⟩ | exact ⟨_,rfl,rfl,hJ,srefl3 _ _⟩
  ·refine RStep.of rfl fun T W hag hJ hd=>?_
   have d49:T.getD 49 undef=_:=hd ⟨7,.data⟩ (by simp) rfl _ rfl
   have fct0:=keepT hJ.1 C3.out hhn3
   clear hag hd
   go_simp
   first | exact ⟨_,rfl,rfl⟩ | exact ⟨_,rfl,rfl,hJ,srefl3 _ _⟩
  ·refine RStep.of rfl fun T W hag hJ hd=>?_
   have e1:T.getD 1 undef=_:=(agree_at hag 1 (by kernel_rfl)).trans rfl
   clear hag hd
   go_simp
   first | exact ⟨_,rfl,rfl⟩ | exact ⟨_,rfl,rfl,hJ,srefl3 _ _⟩
  ·refine RStep.of rfl fun T W hag hJ hd=>?_
   have d50:T.getD 50 undef=_:=hd ⟨8,.data⟩ (by simp) rfl _ rfl
   have d51:T.getD 51 undef=_:=hd ⟨9,.data⟩ (by simp) rfl _ rfl
   clear hag hd
   go_simp
   first | exact ⟨_,rfl,rfl⟩ | exact ⟨_,rfl,rfl,hJ,srefl3 _ _⟩
  ·refine RStep.of rfl fun T W hag hJ hd=>?_
   have d52:T.getD 52 undef=_:=hd ⟨10,.data⟩ (by simp) rfl _ rfl
   have fct0:=keepT hJ.1 CU3.out hgn3
   clear hag hd
   go_simp
   first | exact ⟨_,rfl,rfl⟩ | exact ⟨_,rfl,rfl,hJ,srefl3 _ _⟩
  ·refine RStep.of rfl fun T W hag hJ hd=>?_
   obtain ⟨i0,hi0,hz0,hz1,hz2⟩:=info_parts infoStr
   refine wp_one_of 63 (.const (.string ⟨#[255,255]⟩)) rfl 9 i0 _ 1 Tryz.underlying63 hi0 hz0 hz1 (by decide) (by decide) (.string ⟨#[255,255]⟩) rfl rfl ?_
   refine ⟨_,rfl,⟨W.heap.size,rfl,hJ.1.size,heap_alloc_new W _⟩,⟨hJ.1.alloc _,hJ.2.keep fun k hk _=>Below.heap_alloc W _ k hk⟩,?_⟩
   exact World.grownBy_alloc W _ _
  ·refine RStep.of rfl fun T W hag hJ hd=>?_
   have d53:T.getD 53 undef=u3:=hd ⟨11,.data⟩ (by simp) rfl _ rfl
   obtain ⟨p,(d54:T.getD 54 undef=_),hp1,hp2⟩:=hd ⟨12,.data⟩ (by simp) rfl _ rfl
   obtain ⟨i0,hi0,hz0,hz1,hz2⟩:=info_parts infoStr
   refine wp_push_of (.tmp 53) (.tmp 54) 63 rfl 9 i0 _ 1 16 Tryz.underlying63 hi0 hz0 hz1 hz2 rfl (by decide) u3 tn xs3 d53 _ hJ.2 ⟨p,0,none⟩ 1 1 [.string ⟨#[255,255]⟩] d54 rfl (fun j u hj=>by rw [Addr.add_mid,blk_cell hp2,Nat.zero_add,List.getElem?_toArray];exact hj) (fun x hx=>by rw [List.mem_singleton.1 hx];rfl) (by simp only [maxLen];omega) (by omega) ?_
   intro v' w' hrow hgr hold
   refine ⟨_,rfl,hrow.owner ?_,⟨?_,hold⟩,hgr⟩
   ·intro k _ hk;rcases hk with hk | hk
    ·exact Or.inl hk
    ·exact Or.inr (by have:=hJ.1.size;omega)
   ·exact hJ.1.trans' (Touch.of_grown hgr) fun k hk=>by
     have:=hold.2 k hk.symm
     exact Or.inl this
  ·refine RStep.of rfl fun T W hag hJ hd=>?_
   have d45:T.getD 45 undef=_:=hd ⟨3,.data⟩ (by simp) rfl _ rfl
   have d46:T.getD 46 undef=_:=hd ⟨4,.data⟩ (by simp) rfl _ rfl
   clear hag hd
   go_simp
   first | exact ⟨_,rfl,rfl⟩ | exact ⟨_,rfl,rfl,hJ,srefl3 _ _⟩
  ·refine RLast.of rfl fun T W hag hJ hd=>?_
   have d56:T.getD 56 undef=_:=hd 14 _ (by simp) rfl
   have x55:RowAt W (fun k=>O3 k=.row 3 r∨W2.heap.size≤k) 9 1 (T.getD 55 undef) (tn+1) (xs3++[.string ⟨#[255,255]⟩]):=hd 13 _ (by simp) rfl
   obtain ⟨v,d55⟩:∃ v,T.getD 55 undef=v:=⟨_,rfl⟩
   rw [d55] at x55
   obtain ⟨A3,cq3,rfl,_,_⟩:=x55.val
   have hcW:W.cell? ⟨g3,r,none⟩=some u3:=keepT hJ.1 CU3.out hgn3
   have hfW:W.frozen? ⟨g3,r,none⟩=false:=by rw [World.frozen?_of_block (hJ.1.block g3 HG3.out (by exact hgn3))];exact HF3.out
   obtain ⟨n1,n2,n3⟩:=HM.out.1.putRow HM.out.2.1 (t:=3) (by omega) (row':=(trow++[[255,255]]).map strE) HG3A.out HL3.out hJ.1 (by
    rw [List.length_map,List.length_append,List.map_append,List.flatten_append,HTN.out,HXS3.out]
    exact x55)
   rw [G_tr] at n1
   have hF:Touch (fun k=>O k≠.none) w (W.setCell ⟨g3,r,none⟩ (.slice A3 (tn+1) cq3)):=(HT.out.trans' hJ.1 (fun x hx=>HM.out.2.2 x (by rw [hx];simp))).trans' ((Touch.refl (fun k=>k=g3) W).setCell (p:=⟨g3,r,none⟩) rfl _) (fun x hx=>by
    subst hx
    exact HM.out.2.2 x (by rw [HOG3.out];simp))
   have n2':∀ k,rOwn O3 W2.heap.size 3 r (.slice A3 (tn+1) cq3) k≠.none→k<(W.setCell ⟨g3,r,none⟩ (.slice A3 (tn+1) cq3)).heap.size:=fun k hk=>by have:=n2 k hk;simpa using this
   have HZ:=Lib.hid (And.intro n1 (And.intro n2' (And.intro n3 hF)))
   have HAG:=Lib.hid hag
   clear hag hd x55 n1 n2 n2' n3 hF
   go_simp
   obtain ⟨f,hf,hTT⟩:=agree_fn HAG.out
   clear HAG hf
   generalize World.setCell W ⟨g3,r,none⟩ (.slice A3 (tn+1) cq3)=W4 at *
   rw [hTT]
   clear hTT d56 d55 hcW hfW
   simp only [List.filterMap_cons,List.filterMap_nil,List.foldl_cons,List.foldl_nil,List.setIfInBounds_toArray,List.set_cons_succ,List.set_cons_zero]
   go_wp2
   go_ret
   refine ⟨rfl,_,?_,HZ.out.2.1,?_,HZ.out.2.2.2⟩
   ·have e1:m.barrier r={ m with sure:=m.sure.set r row,wait:=m.wait.set r [],traces:=m.traces.set r (trow++[[255,255]]) }:=by
     unfold RM.barrier
     rw [List.getD,HROW.out,List.getD,HTR.out]
     rfl
    rw [e1]
    exact HZ.out.1
   ·intro k hk
    rcases HZ.out.2.2.1 k hk with h9 | h9
    ·exact HM.out.2.2 k h9
    ·exact Or.inr (Nat.le_trans HT.out.size h9)
end
end Go.Proofs.YtamnpblijdgdaaaGreat
