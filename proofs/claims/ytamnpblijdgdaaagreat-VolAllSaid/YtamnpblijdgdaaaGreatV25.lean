/- For VolAll: contracts and facts, part 25. -/
import Derived.Test.YtamnpblijdgdaaaGreatV24
namespace Go.Proofs.YtamnpblijdgdaaaGreat
open Go.ChangeShapes Go.WideShapes Go.ChangeAt Go.RowKit
set_option linter.unusedVariables false
set_option maxRecDepth 100000
def volD (d:Option Addr) (rb:Nat) (v:VM):Array Value:=#[.pointer d,.int .i64 v.r,.int .u8 0,.int .i64 0,.int .i64 0,.int .i64 v.n,.int .i64 v.g,.int .i64 v.fr,.slice (some ⟨rb,0,none⟩) v.n v.n,.int .u32 v.ep,.int .u32 v.sq,.int .i64 v.us]
theorem built90d (d:Option Addr) (rb:Nat) (r fr:Int) (n g:Nat):Tryz.prog.built 103 [(0,.agg (gndC d r n g fr)),(1,.slice (some ⟨rb,0,none⟩) n n)]=some (volD d rb (vm0 r fr n g)):=by kernel_rfl
def VNmn (d:Option Addr) (g5 n g base:Nat) (r fr:Int) (i:Nat) (v:Value) (w:World):Prop :=
 match i with
 | 0=>v=.agg (gndC d r n g fr)
 | 1=>v=.pointer (some ⟨g5,2,none⟩)
 | 2=>v=.int .i64 n
 | 3=>∃ rb,v=.slice (some ⟨rb,0,none⟩) n n∧w.heap[rb]?=some (.cells (rowL hbL (List.replicate n zH)).toArray 129 (0,0))∧base≤rb
 | 4=>∃ rb,v=.agg (volD d rb (vm0 r fr n g))∧w.heap[rb]?=some (.cells (rowL hbL (List.replicate n zH)).toArray 129 (0,0))∧base≤rb
 | 5=>∃ hp rb,v=.pointer (some ⟨hp,0,none⟩)∧w.heap[hp]?=some (.cells (volD d rb (vm0 r fr n g)) 103 (0,0))∧w.heap[rb]?=some (.cells (rowL hbL (List.replicate n zH)).toArray 129 (0,0))∧base≤rb∧base≤hp∧hp≠rb
 | _=>True
def AtMno (d:Option Addr) (W:World) (a':Act) (w':World):Prop:=Hid (Below W.heap.size W w')∧∃ u1 u2 u3 u4 u5 u6 u7 u8 u9 u10 u11 u12 u13 u14 u15 u16 u17 u18 u19 u20 u21 u22 u23 u24 u25 u26 u27 u28 u29 u30 u31 u32 u33 u34 u35 u36 u37 u38 u39 u40 u41 u42 u43:Value,a'={ tmps:=#[.pointer d,u1,u2,u3,u4,u5,u6,u7,u8,u9,u10,u11,u12,u13,u14,u15,u16,u17,u18,u19,u20,u21,u22,u23,u24,u25,u26,u27,u28,u29,u30,u31,u32,u33,u34,u35,u36,u37,u38,u39,u40,u41,u42,u43],defers:=[] }
set_option maxHeartbeats 3200000 in
theorem vmount_no {WW:World} {d:Option Addr} {r:Int} {row:Int→Option (List Int)} (h:Rd WW d r row) (hblk:∀ i b,row i=some b→BlkOk b) (n g:Nat) (fr:Int) (hn:n≤200) (hg:g≤1000) (ep:Nat) (hep:epN row 2=(ep,false)) :
 Calls Tryz.prog 13 #[.pointer d,.int .i64 r,shQ 0 0 n g fr] WW fun en w'=>en=.returned (.tuple #[.pointer none,.int .i64 14])∧Below WW.heap.size WW w':=by
 have H0:=Lib.hid h
 have HNG:=Lib.hid (And.intro hn hg)
 have HGO:=Lib.hid (fun W=>groundOf_any d r n g fr hn hg W)
 have hb1:∀ o,Below WW.heap.size WW (WW.alloc o):=fun o=>(Below.refl _ _).alloc (Nat.le_refl _) _
 have e5:=fun o=>heap_alloc_new WW o
 have HEP:=Lib.hid hep
 have HBL:=Lib.hid hblk
 obtain ⟨i0,hi0,hz0,hz1,hz2⟩:=info_parts info95
 have hmk:=fun w:World=>run_make (P:=Tryz.prog) w 101 129 i0 _ Tryz.underlying101 hi0 hz0 .i64 .i64 (n:Int) (n:Int) (by omega) (by omega) (by rw [hz2];omega) (by omega)
 rw [Int.toNat_natCast,hz1,show (hbL ⟨0,zBs,false⟩)=hbL zH from rfl,made95] at hmk
 have HMK:=Lib.hid hmk
 unfold shQ
 clear h hep hblk hi0 hz0 hz1 hz2 hmk
 go_enter Tryz.func13,Tryz.ntmps13
 go_wp2
 refine wp_scope1e (AtMno d WW) (fun _ _=>0) rfl ?_ ?_
 ·intro HF0
  have HF:=Lib.hid HF0
  clear HF0
  go_wp2_with fail
  have HB1:=Lib.hid (hb1 (Obj.cells #[.int .i64 0,.int .i64 0,.int .i64 n,.int .i64 g,.int .i64 fr] 28))
  have he5:=e5 (Obj.cells #[.int .i64 0,.int .i64 0,.int .i64 n,.int .i64 g,.int .i64 fr] 28)
  refine (HGO.out _).mono ?_
  rintro en W2 ⟨rfl,hb2⟩
  have he6:=kb hb2 he5
  have HB2:=Lib.hid (keepB HB1.out hb2)
  clear hb1 hb2 e5 he5
  unfold gndA
  go_upto_region 3 with (refine wpList_storeG rfl (.tmp 9) (.tmp 16) rfl W2.heap.size rfl (gndC d r n g fr) rfl (gndC_one _ _ _ _ _) rfl _ rfl (heap_alloc_new W2 _) ?_)
  have e7:=setRow_blk (D:=gndC d r n g fr) (heap_alloc_new W2 (Obj.cells #[.pointer none,.int .i64 0,.int .u8 0,.int .i64 0,.int .i64 0,.int .i64 0,.int .i64 0,.int .i64 0] 87))
  have hb3:Below W2.heap.size W2 ((W2.alloc (Obj.cells #[.pointer none,.int .i64 0,.int .u8 0,.int .i64 0,.int .i64 0,.int .i64 0,.int .i64 0,.int .i64 0] 87)).setRow W2.heap.size (gndC d r n g fr)):=below_setRow ((Below.refl _ _).alloc (Nat.le_refl _) _) (Nat.le_refl _) _
  have HB3:=Lib.hid (keepB HB2.out hb3)
  have e5:=kb hb3 he6
  have hlt5:WW.heap.size<W2.heap.size:=room_lt he6
  have hsz3:W2.heap.size<((W2.alloc (Obj.cells #[.pointer none,.int .i64 0,.int .u8 0,.int .i64 0,.int .i64 0,.int .i64 0,.int .i64 0,.int .i64 0] 87)).setRow W2.heap.size (gndC d r n g fr)).heap.size:=room_lt e7
  generalize (W2.alloc (Obj.cells #[.pointer none,.int .i64 0,.int .u8 0,.int .i64 0,.int .i64 0,.int .i64 0,.int .i64 0,.int .i64 0] 87)).setRow W2.heap.size (gndC d r n g fr)=W3 at *
  generalize W2.heap.size=g9 at *
  clear hb3
  have HSZ:=Lib.hid (And.intro hlt5 hsz3)
  have HG:=Lib.hid (fun (W':World) (hb':Below W3.heap.size W3 W')=>kb hb' e7)
  have HY2:Hid (∀ W',Below W3.heap.size W3 W'→W'.cell? ⟨WW.heap.size,2,none⟩=some (.int .i64 n)):=fun W' hb'=>(blk_cell (kb hb' e5) 2).trans rfl
  clear e7 e5 he6 hlt5 hsz3
  go_upto_region 4 with fail
  refine wp_region_rgk (VNmn d WW.heap.size n g W3.heap.size r fr) (fun _ W=>Below W3.heap.size W3 W) (fun _ w w'=>Below w.heap.size w w') (by kernel_rfl) (by kernel_rfl) (fun i j v w w' _ _ h hs=>by revert h;unfold VNmn;split <;> intro h <;> first | exact h | (obtain ⟨p,h1,h2,h3⟩:=h;exact ⟨p,h1,kb hs h2,h3⟩) | (obtain ⟨p,p2,h1,h2,h3,h4⟩:=h;exact ⟨p,p2,h1,kb hs h2,kb hs h3,h4⟩) | trivial) ((Below.refl _ _).drew) ?_
  simp only [RAll]
  refine ⟨?_,?_,?_,?_,?_,?_,?_⟩
  ·refine RStepK.of rfl fun T W L hag hL hJ hLs hd=>?_
   have e9:T.getD 9 undef=_:=(agree_at hag 9 (by kernel_rfl)).trans rfl
   obtain ⟨z0,z1,z2,z3,z4,z5,z6,z7⟩:=gnd_cells (HG.out W hJ)
   have y2:=HY2.out W hJ
   clear hag hd
   go_simp
   first | exact ⟨_,rfl,rfl⟩ | exact ⟨_,rfl,rfl,brefl _⟩ | exact ⟨_,rfl,rfl,hJ,brefl _⟩
  ·refine RStepK.of rfl fun T W L hag hL hJ hLs hd=>?_
   have e5:T.getD 5 undef=_:=(agree_at hag 5 (by kernel_rfl)).trans rfl
   clear hag hd
   go_simp
   first | exact ⟨_,rfl,rfl⟩ | exact ⟨_,rfl,rfl,brefl _⟩ | exact ⟨_,rfl,rfl,hJ,brefl _⟩
  ·refine RStepK.of rfl fun T W L hag hL hJ hLs hd=>?_
   have d21:T.getD 21 undef=_:=hd ⟨1,.data⟩ (by simp) rfl _ rfl
   obtain ⟨z0,z1,z2,z3,z4,z5,z6,z7⟩:=gnd_cells (HG.out W hJ)
   have y2:=HY2.out W hJ
   clear hag hd
   go_simp
   first | exact ⟨_,rfl,rfl⟩ | exact ⟨_,rfl,rfl,brefl _⟩ | exact ⟨_,rfl,rfl,hJ,brefl _⟩
  ·refine RStepK.of rfl fun T W L hag hL hJ hLs hd=>?_
   have d22:T.getD 22 undef=_:=hd ⟨2,.data⟩ (by simp) rfl _ rfl
   have ev22:(⟨T,[]⟩:Act).eval (.tmp 22)=.int .i64 n:=d22
   clear hag hd
   refine wp_run (v:=.slice (some ⟨W.heap.size,0,none⟩) n n) (w':=W.alloc (.cells (rowL hbL (List.replicate n zH)).toArray 129)) ?_ ⟨_,rfl,⟨_,rfl,heap_alloc_new W _,hJ.size⟩,hJ.alloc hJ.size _,(brefl W).alloc (Nat.le_refl _) _⟩
   have hm:=HMK.out W
   unfold execOp
   simp only [ev22,Sem.run_bind,hm,Result.andThen_ok,Sem.run_pure]
  ·refine RStepK.of rfl fun T W L hag hL hJ hLs hd=>?_
   have d20:T.getD 20 undef=_:=hd ⟨0,.data⟩ (by simp) rfl _ rfl
   have x23:=hd ⟨3,.data⟩ (by simp) rfl _ rfl
   obtain ⟨rb,(hs:T.getD 23 undef=_),hp,hbs⟩:=x23
   have ev20:(⟨T,[]⟩:Act).eval (.tmp 20)=.agg (gndC d r n g fr):=d20
   have ev23:(⟨T,[]⟩:Act).eval (.tmp 23)=.slice (some ⟨rb,0,none⟩) n n:=hs
   clear hag hd
   have hb:=run_build (P:=Tryz.prog) W 103 #[(0,.agg (gndC d r n g fr)),(1,.slice (some ⟨rb,0,none⟩) n n)] _ (built90d d rb r fr n g)
   refine wp_run (v:=.agg (volD d rb (vm0 r fr n g))) (w':=W) ?_ ⟨_,rfl,⟨_,rfl,hp,hbs⟩,hJ,brefl _⟩
   unfold execOp
   simp only [List.map_toArray,List.map_cons,List.map_nil,ev20,ev23,Sem.run_bind,hb,Result.andThen_ok,Sem.run_pure]
  ·refine RStepK.of rfl fun T W L hag hL hJ hLs hd=>?_
   have x24:=hd ⟨4,.data⟩ (by simp) rfl _ rfl
   obtain ⟨rb,(hs:T.getD 24 undef=_),hp,hbs⟩:=x24
   clear hag hd
   go_simp
   exact ⟨_,rfl,⟨W.heap.size,rb,rfl,heap_alloc_new W _,kb ((brefl W).alloc (Nat.le_refl _) _) hp,hbs,hJ.size,by have:=room_lt hp;omega⟩,hJ.alloc hJ.size _,(brefl W).alloc (Nat.le_refl _) _⟩
  ·refine RLastK.of rfl fun T W L hag hLs hL hJ hd=>?_
   have x25:=hd 5 _ (by simp) rfl
   obtain ⟨f,hf,hT⟩:=agree_fn hag
   have d20:T.getD 20 undef=_:=hd 0 _ (by simp) rfl
   have h20:=(hf 20).trans d20
   have d21:T.getD 21 undef=_:=hd 1 _ (by simp) rfl
   have h21:=(hf 21).trans d21
   have d22:T.getD 22 undef=_:=hd 2 _ (by simp) rfl
   have h22:=(hf 22).trans d22
   have HJ:=Lib.hid hJ
   obtain ⟨hp,rb,(hv:T.getD 25 undef=_),hh1,hh2,hb1,hb2,hne⟩:=x25
   have h25:=(hf 25).trans hv
   have HH:=Lib.hid (And.intro hh1 (And.intro hh2 (And.intro hb1 (And.intro hb2 hne))))
   clear hv hh1 hh2 hb1 hb2 hne
   clear hag hd d20 d21 d22 hJ hf
   rw [hT]
   clear hT
   simp only [List.pop_toArray,List.dropLast_cons_cons,List.dropLast_singleton,List.filterMap_cons,List.filterMap_nil,List.foldl_cons,List.foldl_nil,List.setIfInBounds_toArray,List.set_cons_succ,List.set_cons_zero,h20,h21,h22]
   simp only [h25]
   have HB5:=Lib.hid (keepB HB3.out HJ.out)
   have he9:=HG.out W HJ.out
   have z9:W.cell? ⟨hp,9,none⟩=some (.int .u32 0):=(blk_cell HH.out.1 9).trans rfl
   have hepo:=gepoch_any (H0.out.keep HB5.out) HBL.out n g fr
   rw [HEP.out] at hepo
   have HEPO:=Lib.hid hepo
   have hlh:WW.heap.size≤hp:=by have h1:=HB3.out.size;have h2:=HH.out.2.2.2.1;omega
   have HH1:=Lib.hid HH.out.1
   have HLH:=Lib.hid hlh
   clear hepo HJ HG HY2 HMK HH hlh z9
   go_wp2_with (refine wpList_loadG rfl (.tmp 9) rfl g9 rfl (gndC d r n g fr) rfl he9 ?_)
   refine HEPO.out.mono ?_
   rintro en W6 ⟨rfl,hb6⟩
   have e6:=kb hb6 HH1.out
   have z9:W6.cell? ⟨hp,9,none⟩=some (.int .u32 0):=(blk_cell e6 9).trans rfl
   have y9:W6.frozen? ⟨hp,9,none⟩=false:=blk_free e6 9
   have HB6:=Lib.hid ((keepB HB5.out hb6).setCell (p:=⟨hp,9,none⟩) HLH.out (.int .u32 ep))
   clear e6 hb6 he9 HEPO
   go_wp2
   go_step3
   exact ⟨rfl,(show AtMno d WW _ _ from ⟨HB6.out,_,_,_,_,_,_,_,_,_,_,_,_,_,_,_,_,_,_,_,_,_,_,_,_,_,_,_,_,_,_,_,_,_,_,_,_,_,_,_,_,_,_,_,rfl⟩)⟩
 ·rintro a' w5 ⟨HB,u1,u2,u3,u4,u5,u6,u7,u8,u9,u10,u11,u12,u13,u14,u15,u16,u17,u18,u19,u20,u21,u22,u23,u24,u25,u26,u27,u28,u29,u30,u31,u32,u33,u34,u35,u36,u37,u38,u39,u40,u41,u42,u43,rfl⟩
  go_wp2
  simp only [Exit.jump]
  go_ret2
  exact ⟨rfl,HB.out⟩
def mk2 (b:List Int):List Int:=(b.drop 56).take 2
def z64b:List Int:=List.replicate 64 0
theorem mk_take (b:List Int):mk2 b=((b.take 60).drop 56).take 2:=by
 unfold mk2
 rw [List.drop_take,List.take_take];rfl
theorem mk_sumd {xs:List Int} (h:xs.length≤60):mk2 (sumd xs)=((fillB xs).drop 56).take 2:=by rw [mk_take,sumd_take h]
theorem mk_head (e s:Nat) {l:List Wr} (hm:MayL l):mk2 (sumd (headR 0 e s l))=[0,0]:=by
 have hl:(headR 0 e s l).length≤47:=by rw [headR_length];have:=hm.1.2;omega
 rw [mk_sumd (by omega)]
 unfold fillB
 rw [List.drop_append,List.drop_of_length_le (by omega),List.nil_append,List.drop_replicate,List.take_replicate]
 rw [show min 2 (60-(headR 0 e s l).length-(56-(headR 0 e s l).length))=2 by omega];rfl
theorem mk_bear (e s:Nat) {bs:List Int} (h:bs.length=56):mk2 (sumd (bearB e s bs))=be e 2:=by
 have hl:(bearB e s bs).length=60:=bearB_length h
 rw [mk_sumd (by omega)]
 unfold fillB
 rw [hl,show 60-60=0 from rfl,List.replicate_zero,List.append_nil]
 unfold bearB
 rw [List.append_assoc,← h,List.drop_left,List.take_append_of_le_length (by rw [be_length];exact Nat.le_refl _),List.take_of_length_le (by rw [be_length];exact Nat.le_refl _)]
theorem be2_zero {e:Nat} (h:e<65536) (h0:be e 2=[0,0]):e=0:=be2_inj h (by omega) (h0.trans rfl)
theorem head_ep {e e0 s s0:Nat} {l l0:List Wr} (hm:MayL l) (hm0:MayL l0) (he:e<4294967296) (he0:e0<4294967296) (h:sumd (headR 0 e s l)=sumd (headR 0 e0 s0 l0)):e=e0:=by
 have h1:∀ (e s:Nat) {l:List Wr},MayL l→(((sumd (headR 0 e s l)).take 60).drop 2).take 4=be e 4:=fun e s l hm=>by
  have hl:(headR 0 e s l).length≤60:=by rw [headR_length];have:=hm.1.2;omega
  rw [sumd_take hl]
  unfold fillB headR front
  simp only [List.append_assoc,List.cons_append,List.nil_append,List.drop_succ_cons,List.drop_zero]
  rw [List.take_append_of_le_length (by rw [be_length];exact Nat.le_refl _),List.take_of_length_le (by rw [be_length];exact Nat.le_refl _)]
 have h2:=congrArg (fun b:List Int=>((b.take 60).drop 2).take 4) h
 simp only [h1 e s hm,h1 e0 s0 hm0] at h2
 exact be4_inj he he0 h2
theorem head_first (e s:Nat) {l:List Wr} (hm:MayL l):(sumd (headR 0 e s l))[0]?=some 72:=by
 rw [head_at hm (by omega)];rfl
def LogB (e:Nat) (b:List Int):Prop:=(∃ s l,MayL l∧b=sumd (headR 0 e s l))∨∃ s bs,bs.length=56∧b=sumd (bearB e s bs)
def Old (e:Nat) (b:List Int):Prop:=b=z64b∨∃ e0,1≤e0∧e0<e∧LogB e0 b
theorem Old.mono {e e':Nat} {b:List Int} (h:Old e b) (he:e≤e'):Old e' b:=by
 rcases h with h | ⟨e0,h1,h2,h3⟩
 ·exact Or.inl h
 ·exact Or.inr ⟨e0,h1,by omega,h3⟩
theorem LogB.old {e:Nat} {b:List Int} (h:LogB e b) (he:1≤e):Old (e+1) b:=Or.inr ⟨e,he,by omega,h⟩
theorem Old.head {e s:Nat} {l:List Wr} (he:e<65536) (hm:MayL l) (h:Old e (sumd (headR 0 e s l))):False:=by
 rcases h with h | ⟨e0,h1,h2,⟨s0,l0,hm0,h3⟩ | ⟨s0,bs,h56,h3⟩⟩
 ·have h4:=head_first e s hm
  rw [h] at h4;exact absurd h4 (by decide)
 ·have:=head_ep hm hm0 (by omega) (by omega) h3;omega
 ·have h4:=congrArg mk2 h3
  rw [mk_head e s hm,mk_bear e0 s0 h56] at h4
  have:=be2_zero (by omega) h4.symm;omega
theorem Old.bear {e s:Nat} {bs:List Int} (he0:1≤e) (he:e<65536) (hb:bs.length=56) (h:Old e (sumd (bearB e s bs))):False:=by
 rcases h with h | ⟨e0,h1,h2,⟨s0,l0,hm0,h3⟩ | ⟨s0,bs0,h56,h3⟩⟩
 ·have h4:=congrArg mk2 h
  rw [mk_bear e s hb] at h4
  have:=be2_zero he (h4.trans (by decide));omega
 ·have h4:=congrArg mk2 h3
  rw [mk_bear e s hb,mk_head e0 s0 hm0] at h4
  have:=be2_zero he h4;omega
 ·have h4:=congrArg mk2 h3
  rw [mk_bear e s hb,mk_bear e0 s0 h56] at h4
  have:=be2_inj he (by omega) h4;omega
theorem putL_logB {e s:Nat} {l:List Wr} (hm:MayL l) (hok:WrsOk l) {c:List Int} (hc:c∈putL 0 e s l):LogB e c:=by
 unfold putL at hc
 rcases List.mem_cons.1 hc with rfl | hc
 ·exact Or.inl ⟨s,l,hm,rfl⟩
 ·obtain ⟨x,hx,rfl⟩:=List.mem_map.1 hc
  exact Or.inr ⟨s,x.bs,(hok x hx).len,rfl⟩
theorem taken_parts {e s:Nat} {rest:List (List Int)} (h:Taken 0 e s rest):∃ l',MayL l'∧l'.length=cnt rest∧(∀ x∈l',x.bs.length=56)∧∀ i,i<1+cnt rest→rest[i]?=(putL 0 e s l')[i]?:=by
 obtain ⟨h1,h2,h3⟩:=h
 refine ⟨readW rest (cnt rest),h2,readW_length _ _,fun x hx=>?_,fun i hi=>?_⟩
 ·unfold readW at hx
  obtain ⟨j,_,rfl⟩:=List.mem_map.1 hx
  exact padB_length _
 ·rw [h3,List.getElem?_take,if_pos hi]
theorem nt_old {e s:Nat} {rest:List (List Int)} (he:e<65536) (h:∀ b,rest[0]?=some b→Old e b):¬ Taken 0 e s rest:=fun ht=>by
 obtain ⟨l',h1,h2,h3,h4⟩:=taken_parts ht
 exact (h _ (h4 0 (by omega))).head he h1
theorem nt_broken {e s:Nat} {l:List Wr} {rest:List (List Int)} (he0:1≤e) (he:e<65536) (hm:MayL l) (h0:∀ i b,i<1+l.length→rest[i]?=some b→some b=(putL 0 e s l)[i]?∨Old e b) {i0:Nat} (hi0:i0<1+l.length) (ho:∀ b,rest[i0]?=some b→Old e b):¬ Taken 0 e s rest:=fun ht=>by
 obtain ⟨l',h1,h2,h3,h4⟩:=taken_parts ht
 have e0:=h4 0 (by omega)
 have hc:cnt rest=l.length:=by
  rcases h0 0 _ (by omega) e0 with h5 | h5
  ·have h6:rest.headD []=sumd (headR 0 e s l):=by
    cases hr:rest with
    | nil=>rw [hr] at e0;cases e0
    | cons y ys =>
      rw [hr] at e0
      injection e0 with e0
      show y=_
      rw [e0];injection h5
   have h7:cnt rest=cnt (putL 0 e s l++[]):=by unfold cnt;rw [h6];rfl
   rw [h7,cnt_put hm]
  ·exact absurd h5 (fun h=>h.head he h1)
 have e1:=h4 i0 (by omega)
 cases i0 with
 | zero=>exact (ho _ e1).head he h1
 | succ i =>
   unfold putL at e1
   rw [List.getElem?_cons_succ,List.getElem?_map] at e1
   obtain ⟨x,hx⟩:∃ x,l'[i]?=some x:=⟨_,List.getElem?_eq_getElem (by omega)⟩
   rw [hx] at e1
   exact (ho _ e1).bear he0 he (h3 x (List.mem_of_getElem? hx))
theorem putsL_append (e:Nat):∀ (Rs Rs':List (List Wr)) (s:Nat),putsL e s (Rs++Rs')=putsL e s Rs++putsL e (s+Rs.length) Rs'
 | [],_,_=>rfl
 | l :: Rs,Rs',s=>by
   show putL 0 e s l++putsL e (s+1) (Rs++Rs')=(putL 0 e s l++putsL e (s+1) Rs)++_
   rw [putsL_append e Rs Rs' (s+1),List.append_assoc,List.length_cons,show s+1+Rs.length=s+(Rs.length+1) by omega]
theorem putsL_one (e s:Nat) (l:List Wr):putsL e s [l]=putL 0 e s l:=by show putL 0 e s l++[]=_;rw [List.append_nil]
theorem putsL_mem {e:Nat}:∀ {Rs:List (List Wr)} {s:Nat} {c:List Int},(∀ l∈Rs,MayL l∧WrsOk l)→c∈putsL e s Rs→LogB e c
 | [],_,_,_,h=>by cases h
 | l :: Rs,s,c,hR,h=>by
   rcases List.mem_append.1 h with h | h
   ·exact putL_logB (hR l (by simp)).1 (hR l (by simp)).2 h
   ·exact putsL_mem (fun l' hl=>hR l' (by simp [hl])) h
theorem log_out {e:Nat} (he0:1≤e) (he:e<65536) (l:List Wr) (j:Nat) (hl:j=0∨(MayL l∧j≤l.length)):∀ (Rs:List (List Wr)) (s:Nat) (X:List (List Int)) (k:Nat),k≤Rs.length→(∀ l∈Rs,MayL l∧WrsOk l)→(putsL e s Rs).length≤X.length →
 (∀ (i:Nat) (c:List Int),(putsL e s Rs)[i]?=some c→∀ b:List Int,X[i]?=some b→b=c∨Old e b)→(∀ (i:Nat) (c:List Int),(putsL e s (Rs.take k))[i]?=some c→∀ b:List Int,X[i]?=some b→b=c) →
 (∀ i:Nat,i<j→∀ b:List Int,X[(putsL e s Rs).length+i]?=some b→some b=(putL 0 e (s+Rs.length) l)[i]?∨Old e b)→(∀ i:Nat,(putsL e s Rs).length+j≤i→∀ b:List Int,X[i]?=some b→Old e b) →
 ∃ k',k≤k'∧k'≤Rs.length∧∃ rest,X=putsL e s (Rs.take k')++rest∧¬ Taken 0 e (s+k') rest
 | [],s,X,k,hk,_,_,_,_,c3,c4=>by
   refine ⟨0,by simpa using hk,Nat.le_refl _,X,rfl,?_⟩
   rcases hl with rfl | ⟨hm,hj⟩
   ·exact nt_old he fun b hb=>c4 0 (by show 0+0≤0;omega) b hb
   ·refine nt_broken (l:=l) (i0:=j) he0 he hm (fun i b hi hb=>?_) (by omega) fun b hb=>c4 j (by show 0+j≤j;omega) b hb
    by_cases hij:i<j
    ·exact c3 i hij b (by rw [show (putsL e s []).length+i=i from Nat.zero_add i];exact hb)
    ·exact Or.inr (c4 i (by show 0+j≤i;omega) b hb)
 | l0 :: Rs,s,X,k,hk,hR,hlen,c1,c2,c3,c4=>by
   have hm0:=hR l0 (by simp)
   have hp:(putL 0 e s l0).length=1+l0.length:=putL_length _ _ _ _
   have hlen':1+l0.length+(putsL e (s+1) Rs).length≤X.length:=by
    have:(putsL e s (l0 :: Rs)).length=(putL 0 e s l0).length+(putsL e (s+1) Rs).length:=List.length_append
    omega
   have hin:∀ (i:Nat) (c:List Int),(putL 0 e s l0)[i]?=some c→(putsL e s (l0 :: Rs))[i]?=some c:=fun i c hi=>by
    show (putL 0 e s l0++putsL e (s+1) Rs)[i]?=_
    rw [List.getElem?_append_left (List.getElem?_eq_some_iff.1 hi).1];exact hi
   by_cases hall:∀ i:Nat,i<1+l0.length→X[i]?=(putL 0 e s l0)[i]?
   ·have hX:X=putL 0 e s l0++X.drop (1+l0.length):=by
     apply List.ext_getElem?
     intro i
     by_cases hi:i<1+l0.length
     ·rw [List.getElem?_append_left (by omega)];exact hall i hi
     ·rw [List.getElem?_append_right (by omega),hp,List.getElem?_drop,show 1+l0.length+(i-(1+l0.length))=i by omega]
    have hsh:∀ i:Nat,(putsL e s (l0 :: Rs))[1+l0.length+i]?=(putsL e (s+1) Rs)[i]?:=fun i=>by
     show (putL 0 e s l0++putsL e (s+1) Rs)[1+l0.length+i]?=_
     rw [List.getElem?_append_right (by omega),hp,show 1+l0.length+i-(1+l0.length)=i by omega]
    have hll:(putsL e s (l0 :: Rs)).length=1+l0.length+(putsL e (s+1) Rs).length:=by
     show (putL 0 e s l0++_).length=_
     rw [List.length_append,hp]
    obtain ⟨k',h1,h2,rest,h3,h4⟩:=log_out he0 he l j hl Rs (s+1) (X.drop (1+l0.length)) (k-1) (by rw [List.length_cons] at hk;omega) (fun l' hl'=>hR l' (by simp [hl'])) (by rw [List.length_drop];omega)
     (fun i c hi b hb=>c1 (1+l0.length+i) c (by rw [hsh];exact hi) b (by rw [List.getElem?_drop] at hb;exact hb))
     (fun i c hi b hb=>by
       cases k with
       | zero=>rw [show (0:Nat)-1=0 from rfl,List.take_zero] at hi;cases hi
       | succ k =>
         refine c2 (1+l0.length+i) c ?_ b (by rw [List.getElem?_drop] at hb;exact hb)
         show (putL 0 e s l0++putsL e (s+1) (Rs.take k))[1+l0.length+i]?=_
         rw [List.getElem?_append_right (by omega),hp,show 1+l0.length+i-(1+l0.length)=i by omega];exact hi)
     (fun i hi b hb=>by
       have:=c3 i hi b (by rw [hll,Nat.add_assoc];rw [List.getElem?_drop] at hb;exact hb)
       rw [List.length_cons,show s+(Rs.length+1)=s+1+Rs.length by omega] at this;exact this)
     (fun i hi b hb=>c4 (1+l0.length+i) (by rw [hll];omega) b (by rw [List.getElem?_drop] at hb;exact hb))
    refine ⟨k'+1,by omega,by rw [List.length_cons];omega,rest,?_,by rw [show s+(k'+1)=s+1+k' by omega];exact h4⟩
    rw [hX,h3]
    show _=(putL 0 e s l0++putsL e (s+1) (Rs.take k'))++rest
    rw [List.append_assoc]
   ·have hex:∃ i:Nat,i<1+l0.length∧X[i]?≠(putL 0 e s l0)[i]?:=by
     apply Classical.byContradiction
     intro hn
     exact hall fun i hi=>Classical.byContradiction fun hne=>hn ⟨i,hi,hne⟩
    obtain ⟨i0,hi0,hne⟩:=hex
    obtain ⟨c,hc⟩:∃ c,(putL 0 e s l0)[i0]?=some c:=⟨_,List.getElem?_eq_getElem (by omega)⟩
    obtain ⟨b,hb⟩:∃ b,X[i0]?=some b:=⟨_,List.getElem?_eq_getElem (by omega)⟩
    have hbc:b≠c:=fun h=>hne (by rw [hb,hc,h])
    have hk0:k=0:=by
     cases k with
     | zero=>rfl
     | succ k =>
       refine absurd (c2 i0 c ?_ b hb) hbc
       show (putL 0 e s l0++putsL e (s+1) (Rs.take k))[i0]?=_
       rw [List.getElem?_append_left (by omega)];exact hc
    refine ⟨0,by omega,Nat.zero_le _,X,rfl,?_⟩
    refine nt_broken (l:=l0) (i0:=i0) he0 he hm0.1 (fun i b' hi hb'=>?_) hi0 fun b' hb'=>?_
    ·obtain ⟨c',hc'⟩:∃ c',(putL 0 e s l0)[i]?=some c':=⟨_,List.getElem?_eq_getElem (by omega)⟩
     rcases c1 i c' (hin i c' hc') b' hb' with h | h
     ·exact Or.inl (by rw [Nat.add_zero,hc',h])
     ·exact Or.inr h
    ·rw [hb] at hb';injection hb' with hb';subst hb'
     rcases c1 i0 c (hin i0 c hc) b hb with h | h
     ·exact absurd h hbc
     ·exact h
structure Bk where
 (k:Int) (bs:List Int)
deriving DecidableEq
def val (x:HB):Bk:=⟨x.k,x.bs⟩
def applyW (S:List Bk):List Wr→List Bk
 | []=>S
 | x :: l=>applyW (if 0≤x.t∧x.t<S.length then S.set x.t.toNat ⟨x.k,x.bs⟩ else S) l
theorem applyW_append (S:List Bk):∀ l m,applyW S (l++m)=applyW (applyW S l) m:=by
 intro l
 induction l generalizing S with
 | nil=>intro m;rfl
 | cons x l ih=>intro m;exact ih _ m
theorem applyW_length:∀ (l:List Wr) (S:List Bk),(applyW S l).length=S.length
 | [],_=>rfl
 | x :: l,S=>by
   show (applyW _ l).length=_
   rw [applyW_length l]
   split
   ·simp
   ·rfl
theorem layB_val:∀ (l:List Wr) (B:List HB),(layB B l).map val=applyW (B.map val) l
 | [],_=>rfl
 | x :: l,B=>by
   show (layB _ l).map val=applyW _ l
   rw [layB_val l,List.length_map]
   congr 1
   split
   ·rw [List.map_set];rfl
   ·rfl
def Untouched (l:List Wr) (i:Nat):Prop:=∀ w∈l,w.t≠(i:Int)
theorem lay_rel:∀ (l:List Wr) (B:List HB) (S:List Bk) (S0:Nat→Option Bk),B.length=S.length→(∀ (i:Nat) (x:HB),B[i]?=some x→(x.lg=true→S[i]?=some (val x))∧(x.lg=false→S[i]?=S0 i)) →
 ∀ (i:Nat) (x:HB),(layB B l)[i]?=some x→(x.lg=true→(applyW S l)[i]?=some (val x))∧(x.lg=false→(applyW S l)[i]?=S0 i∧Untouched l i∧∃ y,B[i]?=some y∧y.lg=false)
 | [],B,S,S0,hl,h,i,x,hx=>⟨(h i x hx).1,fun hf=>⟨(h i x hx).2 hf,(fun w hw=>by cases hw),x,hx,hf⟩⟩
 | w :: l,B,S,S0,hl,h,i,x,hx=>by
   have hx':(layB (if 0≤w.t∧w.t<B.length then B.set w.t.toNat ⟨w.k,w.bs,true⟩ else B) l)[i]?=some x:=hx
   by_cases hc:0≤w.t∧w.t<B.length
   ·rw [if_pos hc] at hx'
    have hc':0≤w.t∧w.t<S.length:=by rw [← hl];exact hc
    have ih:=lay_rel l (B.set w.t.toNat ⟨w.k,w.bs,true⟩) (S.set w.t.toNat ⟨w.k,w.bs⟩) S0 (by simp [hl]) (fun i' x' hx''=>by
     by_cases e:w.t.toNat=i'
     ·subst e
      rw [List.getElem?_set_self (by omega)] at hx''
      injection hx'' with hx'';subst hx''
      exact ⟨fun _=>by rw [List.getElem?_set_self (by omega)];rfl,fun hf=>by cases hf⟩
     ·rw [List.getElem?_set_ne e] at hx''
      rw [List.getElem?_set_ne e]
      exact h i' x' hx'') i x hx'
    have e1:applyW S (w :: l)=applyW (S.set w.t.toNat ⟨w.k,w.bs⟩) l:=by show applyW (if _ then _ else _) l=_;rw [if_pos hc']
    rw [e1]
    refine ⟨ih.1,fun hf=>?_⟩
    obtain ⟨h1,h2,y,h3,h4⟩:=ih.2 hf
    have hne:w.t.toNat≠i:=fun e=>by
     subst e
     rw [List.getElem?_set_self (by omega)] at h3
     injection h3 with h3;subst h3;cases h4
    rw [List.getElem?_set_ne hne] at h3
    refine ⟨h1,fun w' hw'=>?_,y,h3,h4⟩
    rcases List.mem_cons.1 hw' with rfl | hw'
    ·omega
    ·exact h2 w' hw'
   ·rw [if_neg hc] at hx'
    have hc':¬ (0≤w.t∧w.t<S.length):=by rw [← hl];exact hc
    have ih:=lay_rel l B S S0 hl h i x hx'
    have e1:applyW S (w :: l)=applyW S l:=by show applyW (if _ then _ else _) l=_;rw [if_neg hc']
    rw [e1]
    refine ⟨ih.1,fun hf=>?_⟩
    obtain ⟨h1,h2,y,h3,h4⟩:=ih.2 hf
    refine ⟨h1,fun w' hw'=>?_,y,h3,h4⟩
    rcases List.mem_cons.1 hw' with rfl | hw'
    ·have:=(List.getElem?_eq_some_iff.1 h3).1;omega
    ·exact h2 w' hw'
theorem applyW_unt:∀ (l:List Wr) (S:List Bk) (i:Nat),Untouched l i→(applyW S l)[i]?=S[i]?
 | [],_,_,_=>rfl
 | w :: l,S,i,h=>by
   show (applyW (if _ then _ else _) l)[i]?=_
   rw [applyW_unt l _ i fun w' hw'=>h w' (by simp [hw'])]
   have:=h w (by simp)
   split
   ·rw [List.getElem?_set_ne (by omega)]
   ·rfl
structure Bk.Ok (x:Bk):Prop where
 k:0≤x.k∧x.k≤7
 len:x.bs.length=56
 b:AllB x.bs
def BksOk (S:List Bk):Prop:=∀ x∈S,x.Ok
theorem applyW_ok:∀ {l:List Wr} {S:List Bk},WrsOk l→KindsOk l→BksOk S→BksOk (applyW S l)
 | [],_,_,_,h=>h
 | w :: l,S,hw,hk,h=>by
   refine applyW_ok (l:=l) (fun y hy=>hw y (by simp [hy])) (fun y hy=>hk y (by simp [hy])) ?_
   have hx:=hw w (by simp)
   split
   ·intro y hy
    rcases List.mem_or_eq_of_mem_set hy with h1 | h1
    ·exact h y h1
    ·rw [h1];exact ⟨hk w (by simp),hx.len,hx.b⟩
   ·exact h
end Go.Proofs.YtamnpblijdgdaaaGreat
