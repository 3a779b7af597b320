/- For FileForms: contracts and facts, part 19. -/
import Derived.Test.YtegjelaejbacnaaGreatW11
import Derived.Test.YtegjelaejbacnaaGreatW12
import Derived.Test.YtegjelaejbacnaaGreatW15
import Derived.Test.YtegjelaejbacnaaGreatW17
import Derived.Test.YtegjelaejbacnaaGreatW18
set_option maxRecDepth 100000
set_option maxHeartbeats 25600000
set_option linter.unusedVariables false
open Go.ChangeShapes Go.WideShapes Go.ChangeAt Go.RowKit
namespace Go.Proofs.YtegjelaejbacnaaGreat
theorem pa (g:Nat) {m:Nat} (h:m<=42) (w:World):(Instr.slice 22 (.slice (some ⟨g,1,none⟩) 56 56) (some (.int .i64 14)) (some (.int .i64 (14+(m:Int)))) none).run Tryz.prog w=.ok (.slice (some ⟨g,15,none⟩) m 42) w:=by
 have z3:=Tryz.sizeOf5;have e2:Tryz.prog.elem 22=5:=Hc;have e3:Tryz.prog.underlying 22=some (.slice (Tryz.prog.elem 22)):=Hc;rw [run_slice_lh w 22 _ 56 56 e3 .i64 .i64 14 (14+(m:Int)) Ha Ha Ha,e2];have hm:(14+(m:Int)).toNat=14+m:=Ha;simp [z3,sliced,dp,hm]
theorem zY (l a g:Int) (t:List Int) (x y:Int):Tryz.prog.built 168 [(0,jo l a g),(1,.string (strOfNums t)),(2,.int .i64 x),(3,.int .u32 y)]=some (dB ⟨l,a,g,t,x,y⟩):=Hc
theorem tn {o:Oper} {ac:Act} {w:World} {K:Act->World->Prop} {Q:Exit->Act->World->Prop} (ho:o.op=.alloc 168)
 (h:K (ac.put o.dst (.pointer (some ⟨w.heap.size,0,none⟩))) (w.alloc (.cells (dB en0) 168))):o.wp Tryz.prog ac w K Q:=by
 obtain ⟨i0,hi,hz0,hz1⟩:∃ i,Tryz.prog.info? 168=some i/\i.zero=some (.agg (dB en0))/\i.size=6:=by
  have h:=GD;cases hq:Tryz.prog.info? 168 with
  | none=>rw [hq] at h;cases h
  | some i=>rw [hq] at h;simp only [Option.map_some,Option.some.injEq,Prod.mk.injEq] at h;exact ⟨i,rfl,h.1,h.2⟩
 exact bV 168 ho i0 _ hi hz0 h
def FI (W0:World) (b:Bool) (W:World):Prop:=W=(if b=true then W0.alloc (.cells (dB en0) 168) else W0)
theorem FI.blk {W0 W:World} {b:Bool} {g:Nat} {o:Obj} (h:FI W0 b W) (hg:W0.heap[g]?=some o):W.heap[g]?=some o:=by
 unfold FI at h;subst h;split
 ·exact kb (aK _) hg
 ·exact hg
theorem FI.id_ {W0 W:World} {b:Bool} {q:Nat} {l a g:Int} (h:FI W0 b W) (hg:bc W0 q l a g):bc W q l a g:=h.blk hg
structure Cq (w:World) (p:Nat) (k:Int) (bs:List Int) (W:World):Prop where
 bel:Below p w W
 blk:W.heap[p]?=some (.cells (ab k bs) 37 (0,0))
 res:bP W (p+1) en0
structure TF (w:World) (p q:Nat) (k:Int) (bs:List Int) (m:En) (W:World):Prop where
 hq:p+1<q
 to0:Cq w p k bs W
 nd:bP W q m
section
variable {w W W':World} {p q:Nat} {k:Int} {bs:List Int} {m:En}
theorem Cq.sz (h:Cq w p k bs W):p+1<W.heap.size:=ai h.res
theorem Cq.below (h:Cq w p k bs W) (hb:Below W.heap.size W W'):Cq w p k bs W' :=
 ⟨h.bel.trans (hb.mono (by have:=h.sz;omega)),kb hb h.blk,h.res.below hb⟩
theorem TF.below (h:TF w p q k bs m W) (hb:Below W.heap.size W W'):TF w p q k bs m W':=⟨h.hq,h.to0.below hb,h.nd.below hb⟩
theorem Cq.made (h:Cq w p k bs W):TF w p W.heap.size k bs m ((W.alloc (.cells (dB en0) 168)).setRow W.heap.size (dB m)):=by
 have hsz:=h.sz;exact ⟨hsz,⟨below_setRow (h.bel.alloc Ha _) Ha _,by rw [setRow_other _ _ _ _ Ha];exact kb (aK _) h.blk,(h.res.alloc _).other _ Ha⟩,(bP.new W en0).set m⟩
end
def K9 (p q:Nat) (bs:List Int) (l a g:Int) (yn:Nat) (W0:World) (i:Nat) (v:Value) (W:World):Prop :=
 match i with
 | 0=>v=jo l a g
 | 1 | 2 | 9 | 13=>v=.slice (some ⟨p,1,none⟩) 56 56
 | 3=>v=.pointer (some ⟨p,14,none⟩)
 | 4=>v=.int .u8 yn
 | 5=>v=.int .i64 yn
 | 6=>v=.int .i64 (14+(yn:Int))
 | 7=>v=.slice (some ⟨p,15,none⟩) yn 42
 | 8=>v=.string (strOfNums (bh bs 14 yn))
 | 10=>v=.slice (some ⟨p,8,none⟩) 2 49
 | 11=>v=.int .u64 (aB (bh bs 7 2))
 | 12=>v=.int .i64 (aB (bh bs 7 2))
 | 14=>v=.slice (some ⟨p,10,none⟩) 4 47
 | 15=>v=.int .u64 (aB (bh bs 9 4))
 | 16=>v=.int .u32 (aB (bh bs 9 4))
 | 17=>v=.agg (dB ⟨l,a,g,bh bs 14 yn,aB (bh bs 7 2),aB (bh bs 9 4)⟩)
 | 18=>v=.pointer (some ⟨W0.heap.size,0,none⟩)
 | _=>True
theorem wR (k:Int) (bs:List Int) (w:World) (hk:i64 k) (h56:bs.length=56) (hB:ax bs):Calls Tryz.prog 167 #[.agg (ab k bs)] w fun e w'=>e=.returned (.tuple #[.agg (dB (qQ k bs)),.bool (decide (dL k bs))])/\Below w.heap.size w w':=by
 have hok:=DO h56 hB;have HIT:Hid (∀ W:World,W.heap[w.heap.size]?=some (.cells (ab k bs) 37 (0,0))->Calls Tryz.prog 199 #[.slice (some ⟨w.heap.size,1,none⟩) 7 56] W fun e w'=>e=.returned (.tuple #[i8 (bh bs 0 7),.bool (decide (gL (bh bs 0 7)))])/\Below W.heap.size W w'):=fun W h=>by
  have h7:=fI (o:=0) (m:=7) h56 Ha;have h1:=yB (some ⟨w.heap.size,1,none⟩) (bh bs 0 7) 56 W (by rw [h7];omega) Ha (gI hB _ _) (lz h 0 7)
  rwa [h7] at h1
 have HT:=He (fun o m n d W hg hn h2 h3=>qC w.heap.size k bs h56 hB o m n d W hg hn h2 h3);have H56:=He h56;have HBB:=He hB;have HT0:Hid (Cq w w.heap.size k bs ((w.alloc (Obj.cells (ab k bs) 37)).alloc (Obj.cells (dB en0) 168))):=by
  have s1:(w.alloc (Obj.cells (ab k bs) 37)).heap.size=w.heap.size+1:=ak _ _;have B1:=aK (w:=w) (Obj.cells (ab k bs) 37);have H1:=bP.new (w.alloc (Obj.cells (ab k bs) 37)) en0;rw [s1] at H1;exact ⟨B1.alloc B1.size _,kb (aK _) (heap_alloc_new w _),H1⟩
 have hy:=lA hB 13;obtain ⟨yn,hyn⟩:∃ yn:Nat,bs.getD 13 0=(yn:Int):=⟨(bs.getD 13 0).toNat,Ha⟩
 have hx13:bs[13]?=some (yn:Int):=by
  rw [<- hyn,List.getD,List.getElem?_eq_getElem Ha];rfl
 have HC13:Hid (∀ W:World,W.heap[w.heap.size]?=some (.cells (ab k bs) 37 (0,0))->W.cell? ⟨w.heap.size,14,none⟩=some (.int .u8 yn)):=fun W h=>by
  rw [af h,<- Array.getElem?_toList,bp];exact ku (i:=13) hx13
 have HCV:Hid (yn<=42->∀ W:World,W.heap[w.heap.size]?=some (.cells (ab k bs) 37 (0,0))->(convert 22 9 (.slice (some ⟨w.heap.size,15,none⟩) yn 42)).run Tryz.prog W=.ok (.string (strOfNums (bh bs 14 yn))) W):=fun hy42 W h =>
  dY (c:=42) (lz h 14 yn) (show (bh bs 14 yn).length=yn from fI h56 Ha)
 have HTS:Hid (gM bs=⟨(gM bs).l,(gM bs).a,(gM bs).g,bh bs 14 yn,aB (bh bs 7 2),aB (bh bs 9 4)⟩):=by unfold Hid gM;rw [hyn];rfl
 have HTD:Hid (dL k bs↔((yn:Int)<=14/\jC (gM bs)/\k=6/\dh (cK (gM bs))=bs)):=by unfold Hid dL;rw [hyn]
 have HTL:Hid (yn<=42->(gM bs).t.length=yn):=fun h=>by rw [HTS.out];exact fI H56.out Ha
 have HPUT:=He (fun (h:yn<=42) w=>qR (gM bs) w hok (by rw [HTL.out h];omega));have HIS:=He (yE h56);have HTV:Hid (gL (bh bs 0 7)->i8 (bh bs 0 7)=jo (gM bs).l (gM bs).a (gM bs).g):=BF;have hyl:yn<256:=Ha;have hn2:=kK (o:=7) h56 hB Ha;have hn4:=i5 (o:=9) h56 hB Ha;have wy:IntKind.i64.wrap (yn:Int)=yn:=IntWalk.i64_in _ Ha;have wy2:IntKind.i64.wrap (14+(yn:Int))=14+(yn:Int):=IntWalk.i64_in _ Ha;have wn2:IntKind.i64.wrap (aB (bh bs 7 2):Int)=aB (bh bs 7 2):=IntWalk.i64_in _ Ha;have wn4:IntKind.u32.wrap (aB (bh bs 9 4):Int)=aB (bh bs 9 4):=IntWalk.u32_in _ Ha;clear hk hy hyn hx13 hn2 hn4 h56 hB;have HY:Hid (dL k bs->qQ k bs=gM bs):=fun h=>by unfold qQ;rw [if_pos h]
 have HNO:Hid (¬ dL k bs->qQ k bs=en0):=fun h=>by unfold qQ;rw [if_neg h]
 go_enter Tryz.func167,Tryz.ntmps167;go_upto_region 2 with (refine fV rfl rfl ?_;try simp only [ak])
 generalize (w.alloc (Obj.cells (ab k bs) 37)).alloc (Obj.cells (dB en0) 168)=W at *;generalize hp:w.heap.size=p at *;by_cases hit:gL (bh bs 0 7)
 ·have HVE:=He (HTV.out hit);have HDI:=He (decide_eq_true hit);have HMI:=He (HIS.out.1 hit);rw [HVE.out,HDI.out] at HIT;clear hit;generalize hL1:(gM bs).l=l at *;generalize hA1:(gM bs).a=a at *;generalize hG1:(gM bs).g=g at *;clear hL1 hA1 hG1;go_wp2_with fail
  refine (HIT.out _ HT0.out.blk).mono ?_;rintro e w1 ⟨rfl,hb1⟩;have HT1:=He (HT0.out.below hb1);clear hb1 HT0;have HI0:=bc.new w1 0 0 0;have HTR0:Hid (Cq w p k bs ((w1.alloc (Obj.cells #[.int .i64 0,.int .i64 0,.int .u32 0] 82)).setRow w1.heap.size (jc l a g))):=HT1.out.below (below_setRow (aK _) (Nat.le_refl _) _);have HID:=He (HI0.set l a g);go_upto_region 3 with (first
   | (refine aI rfl (.tmp 5) (.tmp 16) rfl w1.heap.size rfl l a g rfl 0 0 0 HI0 ?_
      generalize (w1.alloc (Obj.cells #[.int .i64 0,.int .i64 0,.int .u32 0] 82)).setRow w1.heap.size (jc l a g)=w2 at *))
  clear HT1 HI0;generalize w1.heap.size=q at *;have c13:=HC13.out w2 HTR0.out.blk;by_cases h14:14<yn
  ·have hq:=h14;have hno:¬ dL k bs:=fun h=>by have:=(HTD.out.1 h).1;omega
   have HE:=He (HNO.out hno);have HD:=He (decide_eq_false hno);clear hno;go_wp2_with (first
    | (refine fh rfl rfl ?_)
    | (refine bI rfl (.tmp 2) (.tmp 27) rfl (p+1) rfl en0 en0 rfl HTR0.out.res ?_))
   refine bodyPost_ret (fj rfl _ _ (p+1) en0 rfl (HTR0.out.res.set _)) rfl ?_;have hbl:=below_setRow HTR0.out.bel (show p<=p+1 by omega) (dB en0);exact ⟨by rw [HE.out,HD.out];rfl,by first | exact hbl | (rw [hp];exact hbl)⟩
  have hy42:yn<=42:=Ha;have HCV:=He (HCV.out hy42);have HPUT:=He (HPUT.out hy42);go_upto_region 5 with fail
  clear c13
  go_cut [7] (fun s wx=>∃ r,s=.pointer (some ⟨r,0,none⟩)/\TF w p r k bs (gM bs) wx)
  case first =>
   have hblk:w2.drew.heap[p]?=some (.cells (ab k bs) 37 (0,0)):=HTR0.out.blk;have hid:bc w2.drew q l a g:=HID.out;have hJ0:FI w2.drew false w2.drew:=rfl;have HTR0:Hid (Cq w p k bs w2.drew):=⟨HTR0.out.bel.drew,HTR0.out.blk,HTR0.out.res⟩
   refine aw (K9 p q bs l a g yn w2.drew) (fun L W2=>FI w2.drew (L 18) W2) (fun _ _ _=>True) Hc Hc (fun i j v' w' w'' _ _ hv _=>hv) hJ0 ?_;clear hJ0 HID;generalize w2.drew=W0 at *;simp only [bW];refine ⟨?_,?_,?_,?_,?_,?_,?_,?_,?_,?_,?_,?_,?_,?_,?_,?_,?_,?_,?_,?_⟩
   ·refine aa.of rfl fun T W L hag hL hJ hLs hd=>?_;have e5:=Hf hag 5;clear hag hd;refine kM (.tmp 5) rfl q e5 l a g (hJ.id_ hid) ?_;exact ⟨_,rfl,rfl,hJ,trivial⟩
   ·refine aa.of rfl fun T W L hag hL hJ hLs hd=>?_;have e4:=Hf hag 4;exact Hi
   ·refine aa.of rfl fun T W L hag hL hJ hLs hd=>?_;have e4:=Hf hag 4;exact Hi
   ·refine aa.of rfl fun T W L hag hL hJ hLs hd=>?_;have d30:T.getD 30 undef=_:=Hg hd 2 rfl;exact Hi
   ·refine aa.of rfl fun T W L hag hL hJ hLs hd=>?_;have d31:T.getD 31 undef=_:=Hg hd 3 rfl;have fct0:=HC13.out W (hJ.blk hblk);exact Hi
   ·refine aa.of rfl fun T W L hag hL hJ hLs hd=>?_;have d32:T.getD 32 undef=_:=Hg hd 4 rfl;have fct0:=wy;exact Hi
   ·refine aa.of rfl fun T W L hag hL hJ hLs hd=>?_;have d33:T.getD 33 undef=_:=Hg hd 5 rfl;have fct0:=wy2;exact Hi
   ·refine aa.of rfl fun T W L hag hL hJ hLs hd=>?_;have d29:T.getD 29 undef=_:=Hg hd 1 rfl;have d34:T.getD 34 undef=_:=Hg hd 6 rfl;have fct0:=(fun W=>pa p (m:=yn) hy42 W)
    exact Hi
   ·refine aa.of rfl fun T W L hag hL hJ hLs hd=>?_;have d35:T.getD 35 undef=_:=Hg hd 7 rfl;have fct0:=HCV.out W (hJ.blk hblk);exact Hi
   ·refine aa.of rfl fun T W L hag hL hJ hLs hd=>?_;have e4:=Hf hag 4;exact Hi
   ·refine aa.of rfl fun T W L hag hL hJ hLs hd=>?_;have d37:T.getD 37 undef=_:=Hg hd 9 rfl;exact Hi
   ·refine aa.of rfl fun T W L hag hL hJ hLs hd=>?_;have d38:T.getD 38 undef=_:=Hg hd 10 rfl;clear hag hd;go_simp;refine (HT.out 7 2 2 49 W (hJ.blk hblk) rfl Ha Ha).mono ?_;rintro en w' ⟨rfl,rfl⟩;exact ⟨_,rfl,rfl,hJ⟩
   ·refine aa.of rfl fun T W L hag hL hJ hLs hd=>?_;have d39:T.getD 39 undef=_:=Hg hd 11 rfl;have fct0:=wn2;exact Hi
   ·refine aa.of rfl fun T W L hag hL hJ hLs hd=>?_;have e4:=Hf hag 4;exact Hi
   ·refine aa.of rfl fun T W L hag hL hJ hLs hd=>?_;have d41:T.getD 41 undef=_:=Hg hd 13 rfl;exact Hi
   ·refine aa.of rfl fun T W L hag hL hJ hLs hd=>?_;have d42:T.getD 42 undef=_:=Hg hd 14 rfl;clear hag hd;go_simp;refine (HT.out 9 4 4 47 W (hJ.blk hblk) rfl Ha Ha).mono ?_;rintro en w' ⟨rfl,rfl⟩;exact ⟨_,rfl,rfl,hJ⟩
   ·refine aa.of rfl fun T W L hag hL hJ hLs hd=>?_;have d43:T.getD 43 undef=_:=Hg hd 15 rfl;have fct0:=wn4;exact Hi
   ·refine aa.of rfl fun T W L hag hL hJ hLs hd=>?_;have d28:T.getD 28 undef=_:=Hg hd 0 rfl;have d36:T.getD 36 undef=_:=Hg hd 8 rfl;have d40:T.getD 40 undef=_:=Hg hd 12 rfl;have d44:T.getD 44 undef=_:=Hg hd 16 rfl;clear hag hd;have hbu:=fun W=>run_build (P:=Tryz.prog) W 168 #[(0,jo l a g),(1,.string (strOfNums (bh bs 14 yn))),(2,.int .i64 (aB (bh bs 7 2))),(3,.int .u32 (aB (bh bs 9 4)))] _ (zY l a g (bh bs 14 yn) (aB (bh bs 7 2)) (aB (bh bs 9 4)));simp only [Array.getD_eq_getD_getElem?] at d28 d36 d40 d44;go_simp;exact ⟨_,rfl,rfl,hJ⟩
   ·refine aa.of rfl fun T W L hag hL hJ hLs hd=>?_;have hJ0:W=W0:=by have h:=hJ;unfold FI at h;rw [show L 18=false from hL] at h;exact h
    subst hJ0;clear hag hd;refine tn rfl ?_;exact ⟨_,rfl,rfl,rfl,trivial⟩
   ·refine bg.of rfl fun T W L hag hLs hL hJ hd=>?_;have d7:T.getD 7 undef=_:=hd 18 _ Hb rfl;have d45:T.getD 45 undef=_:=hd 17 _ Hb rfl;obtain ⟨f,hf,hT⟩:=aH hag;have h7:=(hf 7).trans d7;have h45:=(hf 45).trans d45;have HJ:=He hJ;clear hag hd d7 d45 hJ hf;rw [hT];clear hT;simp only [List.pop_toArray,List.dropLast_cons_cons,List.dropLast_singleton,List.filterMap_cons,List.filterMap_nil,List.foldl_cons,List.foldl_nil,List.setIfInBounds_toArray,List.set_cons_succ,List.set_cons_zero,h7,h45];have hJ0:W=W0.alloc (.cells (dB en0) 168):=by have h:=HJ.out;unfold FI at h;rw [show L 18=true from hLs 18 Hd] at h;exact h
    subst hJ0;have HN0:=bP.new W0 en0;refine tm (.tmp 7) (.tmp 45) rfl W0.heap.size rfl ⟨l,a,g,bh bs 14 yn,aB (bh bs 7 2),aB (bh bs 9 4)⟩ en0 rfl HN0 ?_;rename_i hJc hKc;go_wp2_with fail
    refine hJc _ _ ?_
    repeat apply Exists.intro
    exact ⟨⟨_,rfl,by rw [HTS.out];exact HTR0.out.made⟩,rfl⟩
  case rest =>
   obtain ⟨r,rfl,htr⟩:=hcut;have HT3:=He htr;clear htr HTR0 HID wn2 wn4;go_wp2_with (refine fK rfl (.tmp 7) rfl r rfl (gM bs) HT3.out.nd ?_)
   refine (HPUT.out _).mono ?_;rintro e w6 ⟨rfl,hb6⟩;have HT6:=He (HT3.out.below hb6);have hlt6:p+1<w6.heap.size:=HT6.out.to0.sz;clear hb6 HT3;have HQ0:=heap_alloc_new w6 (Obj.cells (ab 0 ay) 37);by_cases hm:jC (gM bs)
   ·have HPK:Hid (fW (gM bs)=6):=by unfold Hid fW;rw [if_pos hm]
    have HPB:Hid (fp (gM bs)=dh (cK (gM bs))):=by unfold Hid fp;rw [if_pos hm]
    have HL:Hid ((dh (cK (gM bs))).length=56):=by unfold Hid;rw [<- HPB.out];exact ou
    have HLB:Hid (ax (dh (cK (gM bs)))):=by unfold Hid;rw [<- HPB.out];exact qP hok.t
    rw [HPK.out,HPB.out,decide_eq_true hm];have HTE:Hid (dL k bs↔(6=k/\dh (cK (gM bs))=bs)):=HTD.out.trans ⟨fun h=>⟨h.2.2.1.symm,h.2.2.2⟩,fun h=>⟨Ha,hm,h.1.symm,h.2⟩⟩;clear hm HPK HPB HTD;generalize dh (cK (gM bs))=cs at *;have b7:=below_setRow (aK (w:=w6) (Obj.cells (ab 0 ay) 37)) (Nat.le_refl w6.heap.size) (ab 6 cs);have HT7:=He (HT6.out.below b7);have HQ7:=He (am (D:=ab 6 cs) HQ0);clear b7 HT6;go_upto_region 7 with (first
     | (refine aq rfl rfl ?_)
     | (refine ap rfl (.tmp 8) (.tmp 49) rfl w6.heap.size rfl 6 0 cs ay rfl HL.out al HQ0 ?_
        generalize (w6.alloc (Obj.cells (ab 0 ay) 37)).setRow w6.heap.size (ab 6 cs)=w7 at *))
    clear HQ0;generalize w6.heap.size=s at *;by_cases hc:6=k/\cs=bs
    ·have HQ:Hid ((!(decide (6=k/\cs=bs)))=false):=by unfold Hid;simp [hc]
     have HE:=He (HY.out (HTE.out.2 hc));have HD:=He (decide_eq_true (HTE.out.2 hc));clear hc;go_wp2_with (first
      | (refine aO Hl (.tmp 8) rfl s rfl 6 cs HL.out HQ7.out ?_)
      | (refine aO Hl (.tmp 1) rfl p rfl k bs H56.out HT7.out.to0.blk ?_)
      | (refine cy Hl (.tmp 54) (.tmp 55) _ rfl 6 k cs bs rfl rfl HL.out H56.out HLB.out HBB.out ?_;rw [HQ.out])
      | (refine fK rfl (.tmp 7) rfl r rfl (gM bs) HT7.out.nd ?_)
      | (refine bI rfl (.tmp 2) (.tmp 59) rfl (p+1) rfl (gM bs) en0 rfl HT7.out.to0.res ?_))
     refine bodyPost_ret (fj rfl _ _ (p+1) (gM bs) rfl (HT7.out.to0.res.set _)) rfl ?_;have hbl:=below_setRow HT7.out.to0.bel (show p<=p+1 by omega) (dB (gM bs));exact ⟨by rw [HE.out,HD.out];rfl,by first | exact hbl | (rw [hp];exact hbl)⟩
    ·have HQ:Hid ((!(decide (6=k/\cs=bs)))=true):=by unfold Hid;rw [decide_eq_false hc];rfl
     have hno:¬ dL k bs:=fun h=>hc (HTE.out.1 h);have HE:=He (HNO.out hno);have HD:=He (decide_eq_false hno);clear hno;clear hc;go_wp2_with (first
      | (refine aO Hl (.tmp 8) rfl s rfl 6 cs HL.out HQ7.out ?_)
      | (refine aO Hl (.tmp 1) rfl p rfl k bs H56.out HT7.out.to0.blk ?_)
      | (refine cy Hl (.tmp 54) (.tmp 55) _ rfl 6 k cs bs rfl rfl HL.out H56.out HLB.out HBB.out ?_;rw [HQ.out])
      | (refine fh rfl rfl ?_)
      | (refine bI rfl (.tmp 2) (.tmp 58) rfl (p+1) rfl en0 en0 rfl HT7.out.to0.res ?_))
     refine bodyPost_ret (fj rfl _ _ (p+1) en0 rfl (HT7.out.to0.res.set _)) rfl ?_;have hbl:=below_setRow HT7.out.to0.bel (show p<=p+1 by omega) (dB en0);exact ⟨by rw [HE.out,HD.out];rfl,by first | exact hbl | (rw [hp];exact hbl)⟩
   ·have HPK:Hid (fW (gM bs)=0):=by unfold Hid fW;rw [if_neg hm]
    have HPB:Hid (fp (gM bs)=ay):=by unfold Hid fp;rw [if_neg hm]
    rw [HPK.out,HPB.out,decide_eq_false hm];have hno:¬ dL k bs:=fun h=>hm (HTD.out.1 h).2.1;have HE:=He (HNO.out hno);have HD:=He (decide_eq_false hno);clear hno;clear hm HPK HPB HTD;have b7:=below_setRow (aK (w:=w6) (Obj.cells (ab 0 ay) 37)) (Nat.le_refl w6.heap.size) (ab 0 ay);have HT7:=He (HT6.out.below b7);clear b7 HT6;go_wp2_with (first
     | (refine aq rfl rfl ?_)
     | (refine ap rfl (.tmp 8) (.tmp 49) rfl w6.heap.size rfl 0 0 ay ay rfl al al HQ0 ?_
        generalize (w6.alloc (Obj.cells (ab 0 ay) 37)).setRow w6.heap.size (ab 0 ay)=w7 at *)
     | (refine fh rfl rfl ?_)
     | (refine bI rfl (.tmp 2) (.tmp 58) rfl (p+1) rfl en0 en0 rfl HT7.out.to0.res ?_))
    refine bodyPost_ret (fj rfl _ _ (p+1) en0 rfl (HT7.out.to0.res.set _)) rfl ?_;have hbl:=below_setRow HT7.out.to0.bel (show p<=p+1 by omega) (dB en0);exact ⟨by rw [HE.out,HD.out];rfl,by first | exact hbl | (rw [hp];exact hbl)⟩
 ·have HVE:=He (BE hit);have HDI:=He (decide_eq_false hit);have hno:¬ dL k bs:=fun h=>hit (HIS.out.2 (HTD.out.1 h).2.1.1.1);have HE:=He (HNO.out hno);have HD:=He (decide_eq_false hno);rw [HVE.out,HDI.out] at HIT;clear hit hno;go_wp2_with fail
  refine (HIT.out _ HT0.out.blk).mono ?_;rintro e w1 ⟨rfl,hb1⟩;have HT1:=He (HT0.out.below hb1);clear hb1 HT0;have HI0:=bc.new w1 0 0 0;have HTR0:Hid (Cq w p k bs ((w1.alloc (Obj.cells #[.int .i64 0,.int .i64 0,.int .u32 0] 82)).setRow w1.heap.size (jc 0 0 0))):=HT1.out.below (below_setRow (aK _) (Nat.le_refl _) _);go_wp2_with (first
   | (refine aI rfl (.tmp 5) (.tmp 16) rfl w1.heap.size rfl 0 0 0 rfl 0 0 0 HI0 ?_
      generalize (w1.alloc (Obj.cells #[.int .i64 0,.int .i64 0,.int .u32 0] 82)).setRow w1.heap.size (jc 0 0 0)=w2 at *)
   | (refine fh rfl rfl ?_)
   | (refine bI rfl (.tmp 2) (.tmp 27) rfl (p+1) rfl en0 en0 rfl HTR0.out.res ?_))
  refine bodyPost_ret (fj rfl _ _ (p+1) en0 rfl (HTR0.out.res.set _)) rfl ?_;have hbl:=below_setRow HTR0.out.bel (show p<=p+1 by omega) (dB en0);exact ⟨by rw [HE.out,HD.out];rfl,by first | exact hbl | (rw [hp];exact hbl)⟩
section
variable {H:Type} {enc:TypeId × Value->H} {w:World} {base:Nat} {spare:Nat->Bool} {held:Bool}
end
def zB:Bk:=⟨0,ay⟩
theorem wS:zB.Ok:=⟨by show (0:Int)<=0/\(0:Int)<=7;omega,al,dN⟩
def iD (b:List Bk) (i:Int):Bk:=b.getD i.toNat zB
theorem kl {b:List Bk} {i:Nat} {x:Bk} (h:b[i]?=some x):iD b (i:Int)=x:=by
 unfold iD;rw [Int.toNat_natCast,List.getD,h];rfl
theorem ID {b:List Bk} (h:dF b) (i:Int):(iD b i).Ok:=by
 unfold iD;cases hx:b[i.toNat]? with
 | none=>rw [List.getD,hx];exact wS
 | some x=>rw [List.getD,hx];exact h x (List.mem_of_getElem? hx)
def it (k:Int):Prop:=k=1\/k=2\/k=3
instance (k:Int):Decidable (it k):=by unfold it;infer_instance
def realL (l:List Int):List Int:=l.filter fun x=>decide (x ≠ -1)
theorem qS (l:List Int) (x:Int):realL (l++[x])=if x = -1 then realL l else realL l++[x]:=by
 unfold realL;rw [List.filter_append];by_cases h:x = -1
 ·rw [if_pos h];simp [h]
 ·rw [if_neg h];simp [h]
theorem i9 {l:List Int} {x:Int}:x∈realL l↔x∈l/\x ≠ -1:=by unfold realL;simp
def Nd.dir (n:Nd):List Int:=[n.a,n.b,n.c,n.d]
def mF (b:List Bk) (x:Int):List Int:=if x<b.length then realL (tkL (iD b x).k (iD b x).bs) else []
def jp (b:List Bk) (n:Nd):List Int:=(if n.x = -1 then [] else n.x :: mF b n.x)++realL n.dir
def namedL (b:List Bk) (x:Bk):List Int:=if x.k=1/\aX x.k x.bs then jp b (cM x.bs) else []
def dz (b:List Bk) (m i:Nat):Bool:=decide (i<m)&&(decide (i=0)||decide (it (iD b i).k)||decide ((iD b i).k=6))||(b.take m).any fun x=>(namedL b x).contains (i:Int)
def jq (b:List Bk) (m:Nat):List Bool:=(List.range b.length).map (dz b m)
def dW (b:List Bk):List Bool:=jq b b.length
theorem bL (b:List Bk) (m:Nat):(jq b m).length=b.length:=by unfold jq;simp
theorem kN (b:List Bk) (m:Nat) {i:Nat} (h:i<b.length):(jq b m)[i]?=some (dz b m i):=by
 unfold jq;rw [List.getElem?_map,List.getElem?_range h];rfl
theorem yF (b:List Bk):jq b 0=List.replicate b.length false:=by
 apply List.ext_getElem?;intro i;by_cases h:i<b.length
 ·rw [kN _ _ h,List.getElem?_replicate,if_pos h];simp [dz]
 ·rw [List.getElem?_eq_none (by rw [bL];omega),List.getElem?_eq_none (by simp;omega)]
def iw (u:List Bool) (l:List Int):List Bool:=l.foldl (fun u x=>u.set x.toNat true) u
theorem fq:∀ (l:List Int) (u:List Bool),(iw u l).length=u.length
 | [],_=>rfl
 | x :: l,u=>by show (iw (u.set x.toNat true) l).length=_;rw [fq l];simp
theorem tp (u:List Bool) (l:List Int) (x:Int):iw u (l++[x])=(iw u l).set x.toNat true:=by unfold iw;rw [List.foldl_append];rfl
def pc:List Bool->Nat->Int
 | [],_ => -1
 | false :: _,i=>(i:Int)
 | true :: l,i=>pc l (i+1)
def bB (b:List Bk) (but:List Int):Int:=pc (iw (dW b) but) 0
def leftL (b:List Bk):Nat:=(dW b).count false
theorem ov {u:List Bool}:∀ (k i:Nat),(∀ j,j<k->u[i+j]?=some true)->pc (u.drop i) i=pc (u.drop (i+k)) (i+k)
 | 0,i,_=>rfl
 | k+1,i,h=>by
   have h0:=h 0 Ha;rw [Nat.add_zero] at h0;have hl:=(List.getElem?_eq_some_iff.1 h0).1;have e:u.drop i=true :: u.drop (i+1):=by
    rw [List.drop_eq_getElem_cons hl]
    congr 1
    exact (List.getElem?_eq_some_iff.1 h0).2
   rw [e];show pc (u.drop (i+1)) (i+1)=_;rw [ov k (i+1) (fun j hj=>by rw [Nat.add_assoc,Nat.add_comm 1 j];exact h (j+1) Ha),Nat.add_assoc,Nat.add_comm 1 k]
theorem zZ {u:List Bool} {k:Nat} (h:∀ j,j<k->u[j]?=some true) (hk:u[k]?=some false):pc u 0=k:=by
 have h1:=ov (u:=u) k 0 (fun j hj=>by rw [Nat.zero_add];exact h j hj);rw [List.drop_zero,Nat.zero_add] at h1;rw [h1,List.drop_eq_getElem_cons (List.getElem?_eq_some_iff.1 hk).1,(List.getElem?_eq_some_iff.1 hk).2];rfl
theorem tr {u:List Bool} (h:∀ j,j<u.length->u[j]?=some true):pc u 0 = -1:=by
 have h1:=ov (u:=u) u.length 0 (fun j hj=>by rw [Nat.zero_add];exact h j hj);rw [List.drop_zero,Nat.zero_add,List.drop_length] at h1;exact h1
theorem Aa {u:List Bool}:∀ (m k:Nat),k+m=u.length->(∀ j,j<k->u[j]?=some true)->(∃ j,k<=j/\j<u.length/\u[j]?=some false/\pc u 0=(j:Int)/\∀ i,i<j->u[i]?=some true)\/(pc u 0 = -1/\∀ j,j<u.length->u[j]?=some true)
 | 0,k,hk,h=>by
   have e:k=u.length:=hk;subst e;exact .inr ⟨tr h,h⟩
 | m+1,k,hk,h=>by
   obtain ⟨x,hx⟩:∃ x,u[k]?=some x:=⟨_,List.getElem?_eq_getElem Ha⟩
   cases x with
   | false=>exact .inl ⟨k,Nat.le_refl _,Ha,hx,zZ h hx,h⟩
   | true =>
     rcases Aa (u:=u) m (k+1) Ha (fun j hj=>by
      by_cases h1:j=k
      ·subst h1;exact hx
      ·exact h j Ha) with ⟨j,h1,h2⟩ | h1
     ·exact .inl ⟨j,Ha,h2⟩
     ·exact .inr h1
theorem mG (u:List Bool):(∃ j:Nat,j<u.length/\u[j]?=some false/\pc u 0=(j:Int)/\∀ i,i<j->u[i]?=some true)\/(pc u 0 = -1/\∀ j,j<u.length->u[j]?=some true):=by
 rcases Aa (u:=u) u.length 0 Ha (fun j hj=>absurd hj Ha) with ⟨j,_,h⟩ | h
 ·exact .inl ⟨j,h⟩
 ·exact .inr h
def yG (b:List Bk) (i:Int):Prop:=0<=i/\i<b.length/\(iD b i).k=1
instance (b:List Bk) (i:Int):Decidable (yG b i):=by unfold yG;infer_instance
def GF (b:List Bk) (i:Int):Prop:=yG b i/\aX (iD b i).k (iD b i).bs
instance (b:List Bk) (i:Int):Decidable (GF b i):=by unfold GF;infer_instance
def jE (k:Int) (n:Nd):Bk:=⟨dV k n,cT k n⟩
def BG (l:List Int):Bk:=⟨jZ l,jI l⟩
def DP (n:En):Bk:=⟨fW n,fp n⟩
def Nd.setDir (n:Nd) (k:Nat) (w:Int):Nd :=
 match k with
 | 0=>{ n with a:=w }
 | 1=>{ n with b:=w }
 | 2=>{ n with c:=w }
 | _=>{ n with d:=w }
def qT (b:List Bk) (i:Int) (x:Bk):List Bk:=b.set i.toNat x
def qU:Bk:=⟨4,ay⟩
def nz (x:Bk) (j:Nat) (v:Int):Bk:=⟨x.k,x.bs.set j v⟩
structure nA where
 l:Int
 a:Int
 g:Int
deriving DecidableEq
def nA.v (d:nA):Value:=jo d.l d.a d.g
structure nA.Ok (d:nA):Prop where
 l:i64 d.l
 a:i64 d.a
 g:u32 d.g
def nA.May (d:nA):Prop:=gj d.l d.a d.g
instance (d:nA):Decidable d.May:=by unfold nA.May;infer_instance
def En.id (n:En):nA:=⟨n.l,n.a,n.g⟩
def iE (d:nA) (t:List Int) (x:Bk):Bool:=decide (x.k=6)&&(decide (dL x.k x.bs)&&(decide ((gM x.bs).id=d)&&decide ((gM x.bs).t=t)))
def oV (d:nA) (t:List Int) (b:List Bk):Option Nat:=b.findIdx? (iE d t)
def gO (d:nA) (t:List Int) (b:List Bk):En:=match oV d t b with | some i=>gM (iD b i).bs | none=>en0
def dA (d:nA) (t:List Int) (b:List Bk):Int:=match oV d t b with | some i=>(i:Int) | none => -1
def pd (was:List Bk) (n:En):List Bk × Int :=
 if ¬ jC n then (was,1) else if 0<=dA n.id n.t was then (was,4) else if bB was []<0 then (was,9) else (qT was (bB was []) (DP n),0)
def nextM (b:List Bk):Nat:=aB (bh (iD b 0).bs 0 4)
def fX (b:List Bk) (v:Nat):List Bk:=qT b 0 ⟨(iD b 0).k,be v 4++(iD b 0).bs.drop 4⟩
def nC (b:List Bk) (d:nA):Bool:=decide (0<=d.a/\d.a<b.length)&&(decide ((iD b d.a).k=2)&&(decide (aX (iD b d.a).k (iD b d.a).bs)&&decide ((cM (iD b d.a).bs).g=d.g)))
def yH (pl:Int) (b:List Bk) (d:nA):Bool:=decide (d.l≠pl)||nC b d
def GG (pl:Int) (b:List Bk) (d:nA):Prop:=d.l=pl/\1<=d.a/\d.a<b.length/\it (iD b d.a).k/\aX (iD b d.a).k (iD b d.a).bs/\(cM (iD b d.a).bs).g=d.g
instance (pl:Int) (b:List Bk) (d:nA):Decidable (GG pl b d):=by unfold GG;infer_instance
def oW (g:Int) (t:List Int):Nd:=⟨g,1,t.length,-1,-1,-1,-1,-1,t⟩
def DQ (pl:Int) (b:List Bk) (d:nA) (nm:List Int) (kind:Int) (t:List Int):List Bk × nA × Int :=
 if ¬ it kind\/¬ zX nm\/¬ d.May\/(kind=3/\¬ sZ t)\/(kind≠3/\t≠[]) then (b,⟨0,0,0⟩,1)
 else if yH pl b d=false then (b,⟨0,0,0⟩,2)
 else if 0<=dA d nm b then (b,⟨0,0,0⟩,4)
 else if leftL b<2\/nextM b=4294967295 then (b,⟨0,0,0⟩,9)
 else ((pd (fX (qT b (bB b []) (jE kind (oW (nextM b) t))) (nextM b+1)) ⟨d.l,d.a,d.g,nm,bB b [],nextM b⟩).1,⟨pl,bB b [],nextM b⟩,0)
def DR (b:List Bk) (p:Int):Prop:=1<=p/\p<b.length/\(iD b p).k=4
def JX (b:List Bk) (x:Int):Prop:=1<=x/\x<b.length/\(iD b x).k=5/\rD (iD b x).k (iD b x).bs=true/\∀ p∈tkL (iD b x).k (iD b x).bs,p ≠ -1->DR b p
structure KB (b:List Bk) (n:Nd):Prop where
 dir:∀ p∈n.dir,p ≠ -1->DR b p
 idx:n.x ≠ -1->JX b n.x
def uB (b:List Bk) (n:Nd):List Int:=n.dir++(if n.x = -1 then [] else n.x :: tkL (iD b n.x).k (iD b n.x).bs)
def IE (i:Int) (x:Bk):Bool:=decide (dL x.k x.bs)&&decide ((gM x.bs).p=i)
def La (b:List Bk) (i:Int):Int:=((b.countP (IE i):Nat):Int)
structure Lb (b:List Bk) (d:Int->Int) (i:Nat) (x:Bk):Prop where
 tk:aX x.k x.bs
 on:KB b (cM x.bs)
 g:(cM x.bs).g<nextM b
 l:(cM x.bs).l=La b i+d i
 one:x.k≠1->(cM x.bs).l=1
structure Lc (b:List Bk) (x:Bk):Prop where
 tk:dL x.k x.bs
 tgt:∃ y,b[(gM x.bs).p.toNat]?=some y/\it y.k/\(cM y.bs).g=(gM x.bs).n
structure DT (b:List Bk) (d:Int->Int):Prop where
 ok:dF b
 len:2<=b.length/\b.length<=200
 sup:(iD b 0).k=7
 gen:1<=nextM b
 nd:∀ (i:Nat) (x:Bk),b[i]?=some x->it x.k->Lb b d i x
 en:∀ (i:Nat) (x:Bk),b[i]?=some x->x.k=6->Lc b x
theorem aX.may {k:Int} {bs:List Int} (h:aX k bs):aS k (cM bs):=h.2.1
theorem Ab {b:List Bk} (h:dF b) {Y:Bk} (hY:Y.Ok) (p:Nat):dF (b.set p Y):=fun z hz=>by
 rcases List.mem_or_eq_of_mem_set hz with h1 | rfl
 ·exact h z h1
 ·exact hY
def Ac (b:List Bk) (p:Nat):Prop:=∀ (i:Nat) (z:Bk),b[i]?=some z->it z.k->(p:Int) ∉ uB b (cM z.bs)
theorem Ae {k:Int} {n:Nd} (hk:0<=k/\k<=7) (ht:ax n.t):(jE k n).Ok :=
 ⟨by show 0<=dV k n/\dV k n<=7;unfold dV;split <;> omega,ly,mz ht⟩
theorem uC (l:List Int):(BG l).Ok:=⟨by show 0<=jZ l/\jZ l<=7;unfold jZ;split <;> omega,uw l,qJ l⟩
theorem FJ {n:En} (ht:ax n.t):(DP n).Ok:=⟨by show 0<=fW n/\fW n<=7;unfold fW;split <;> omega,ou,qP ht⟩
theorem wT:qU.Ok:=⟨by show (0:Int)<=4/\(4:Int)<=7;omega,al,dN⟩
theorem Af:∀ (l:List Int) (u:List Bool) (q:Nat),(iw u l)[q]?=some false->u[q]?=some false/\(∀ t∈l,0<=t->t≠q)
 | [],u,q,h=>⟨h,fun t ht=>by cases ht⟩
 | t :: l,u,q,h=>by
   have h1:=Af l (u.set t.toNat true) q h;by_cases e:t.toNat=q
   ·subst e;have h2:=h1.1;rw [List.getElem?_set] at h2;simp only [if_true] at h2;split at h2 <;> cases h2
   ·rw [List.getElem?_set_ne e] at h1;refine ⟨h1.1,fun s hs h0=>?_⟩;rcases List.mem_cons.1 hs with rfl | hs
    ·omega
    ·exact h1.2 s hs h0
theorem DU {b:List Bk} {q:Nat} (hq:q<b.length) (h:(dW b)[q]?=some false):q≠0/\¬ it (iD b q).k/\(iD b q).k≠6/\∀ z∈b,(q:Int) ∉ namedL b z:=by
 unfold dW at h;rw [kN _ _ hq] at h;injection h with h
 unfold dz at h;rw [decide_eq_true hq,Bool.true_and,List.take_length] at h;simp only [Bool.or_eq_false_iff,decide_eq_false_iff_not,List.any_eq_false,List.contains_eq_mem,decide_eq_true_eq] at h;exact ⟨h.1.1.1,h.1.1.2,h.1.2,h.2⟩
theorem yI {b:List Bk} {d:Int->Int} (hI:DT b d) {q:Nat} (h:∀ z∈b,(q:Int) ∉ namedL b z):Ac b q:=by
 intro i z hz hk hm;have hG:=hI.nd i z hz hk;have hnot:=h z (List.mem_of_getElem? hz);by_cases h1:z.k=1
 ·apply hnot;unfold namedL;rw [if_pos ⟨h1,hG.tk⟩];unfold jp;unfold uB at hm;rcases List.mem_append.1 hm with hm | hm
  ·exact List.mem_append_right _ (i9.2 ⟨hm,Ha⟩)
  ·refine List.mem_append_left _ ?_;by_cases hx:(cM z.bs).x = -1
   ·rw [if_pos hx] at hm;cases hm
   ·rw [if_neg hx] at hm ⊢;have hi:=hG.on.idx hx;rcases List.mem_cons.1 hm with hm | hm
    ·rw [hm];exact List.mem_cons_self
    ·refine List.mem_cons_of_mem _ ?_;unfold mF;rw [if_pos hi.2.1];exact i9.2 ⟨hm,Ha⟩
 ·have hp:(cM z.bs).ps=jn:=by
   rcases hG.tk.may.2 with h2 | h2 | h2
   ·exact absurd h2.1 h1
   ·exact h2.2.2.2.2
   ·exact h2.2.2.2
  unfold Nd.ps jn at hp;simp only [List.cons.injEq,and_true] at hp;unfold uB Nd.dir at hm;rw [hp.1,hp.2.1,hp.2.2.1,hp.2.2.2.1,hp.2.2.2.2] at hm;simp at hm
structure JY (b:List Bk) (q:Nat):Prop where
 lt:q<b.length
 ne:q≠0
 nd:¬ it (iD b q).k
 en:(iD b q).k≠6
 un:Ac b q
theorem wU {b:List Bk} {d:Int->Int} (hI:DT b d) {tk:List Int} (h:¬ bB b tk<0):∃ q:Nat,bB b tk=q/\JY b q/\∀ t∈tk,0<=t->t≠q:=by
 unfold bB at h ⊢;rcases mG (iw (dW b) tk) with ⟨q,h1,h2,h3,h4⟩ | ⟨h1,_⟩
 ·rw [fq] at h1;have hq:q<b.length:=by unfold dW at h1;rw [bL] at h1;exact h1
  obtain ⟨h5,h6⟩:=Af _ _ _ h2;have h7:=DU hq h5;exact ⟨q,h3,⟨hq,h7.1,h7.2.1,h7.2.2.1,yI hI h7.2.2.2⟩,h6⟩
 ·rw [h1] at h;omega
theorem wV (b:List Bk) (i:Nat) (x:Bk):qT b i x=b.set i x:=by unfold qT;rw [Int.toNat_natCast]
theorem Ag (n:Nd) (p:Int):p∈n.dir↔p=n.a\/p=n.b\/p=n.c\/p=n.d:=by unfold Nd.dir;simp
theorem DV {k:Int} {bs:List Int} (h:rD k bs=true):tkL k bs=di bs/\gJ (di bs)=true:=by
 refine ⟨if_pos h,?_⟩;unfold rD at h;rw [Bool.and_eq_true] at h;exact h.1
def d0:Int->Int:=fun _=>0
theorem BH {b:List Bk} {d:nA} {t:List Int} (h:¬ dA d t b<0):∃ (j:Nat) (x:Bk),dA d t b=j/\b[j]?=some x/\dL x.k x.bs/\(gM x.bs).id=d/\(gM x.bs).t=t/\gO d t b=gM x.bs:=by
 unfold dA at h;unfold dA gO;cases hm:oV d t b with
 | none=>rw [hm] at h;simp only at h;omega
 | some j =>
   unfold oV at hm;rw [List.findIdx?_eq_some_iff_getElem] at hm;obtain ⟨hl,hp,_⟩:=hm;have ha:b[j]?=some b[j]:=List.getElem?_eq_getElem hl;unfold iE at hp;simp only [Bool.and_eq_true,decide_eq_true_eq] at hp;simp only;rw [kl ha];exact ⟨j,_,rfl,ha,hp.2.1,hp.2.2.1,hp.2.2.2,rfl⟩
theorem tu:∀ {u:List Bool},2<=u.count false->∀ {q:Nat},∃ r,r≠q/\u[r]?=some false
 | [],h,_=>by simp at h
 | x :: l,h,q=>by
   cases q with
   | zero =>
     have h1:1<=l.count false:=by rw [List.count_cons] at h;split at h <;> omega
     obtain ⟨r,hr⟩:=List.getElem?_of_mem (List.count_pos_iff.1 (show 0<l.count false by omega));exact ⟨r+1,Ha,hr⟩
   | succ q =>
     cases x with
     | false=>exact ⟨0,Ha,rfl⟩
     | true =>
       rw [List.count_cons] at h;simp at h;obtain ⟨r,h1,h2⟩:=tu h (q:=q);exact ⟨r+1,Ha,h2⟩
theorem yJ {b:List Bk} {r:Nat} (h:(dW b)[r]?=some false):¬ bB b []<0:=by
 unfold bB;show ¬ pc (dW b) 0<0;rcases mG (dW b) with ⟨j,h1,h2,h3,h4⟩ | ⟨h1,h2⟩
 ·omega
 ·have:=h2 r (List.getElem?_eq_some_iff.1 h).1;rw [h] at this;cases this
theorem qV:i64 (-1):=⟨Hd,Hd⟩
theorem JZ:i64 1:=⟨Hd,Hd⟩
theorem IF {g:Nat} {t:List Int} (hg:g<4294967296) (ht:ax t) (htl:t.length<=100):mw (oW g t) :=
 ⟨⟨by show (0:Int)<=(g:Int);omega,by show (g:Int)<=4294967295;omega⟩,JZ,⟨by show -2 ^ 63<=((t.length:Nat):Int);omega,by show ((t.length:Nat):Int)<=2 ^ 63;omega⟩,qV,qV,qV,qV,qV,ht,by show t.length<=9223372036854775807;omega⟩
theorem qW (k:Int) (w:World):Calls Tryz.prog 81 #[.int .i64 k] w fun e w'=>e=.returned (.bool (decide (it k)))/\w=w':=by
 go_enter Tryz.func81,Tryz.ntmps81;by_cases h1:k=1
 ·subst h1;go_wp2_with fail
  go_ret;exact ⟨rfl,rfl⟩
 ·by_cases h2:k=2
  ·subst h2;go_wp2_with fail
   go_ret;exact ⟨rfl,rfl⟩
  ·by_cases h3:k=3
   ·subst h3;go_wp2_with fail
    go_ret;exact ⟨rfl,rfl⟩
   ·go_wp2_with fail
    go_ret;exact ⟨aj (by simp [it,h1,h2,h3]),rfl⟩
structure OI (w:World) (B:Nat) (v:Value) (l:List Int) (W:World):Prop where
 bel:Below w.heap.size w W
 le:w.heap.size<=B
 sz:B<=W.heap.size
 own:W.ownsRow B 3 1 v l.length (Is l)
theorem OI.below {w W W':World} {B:Nat} {v:Value} {l:List Int} (h:OI w B v l W) (hb:Below W.heap.size W W'):OI w B v l W' :=
 ⟨h.bel.trans (hb.mono h.bel.size),h.le,Nat.le_trans h.sz hb.size,hU h.own hb⟩
theorem OI.push {w W W':World} {B m:Nat} {v v':Value} {l l':List Int} (h:OI w B v l W) (ho:W'.ownsRow B 3 1 v' m (Is l')) (hm:m=l'.length) (hg:W.grownBy W' v.ownBlock):OI w B v' l' W' :=
 ⟨h.bel.grown hg h.bel.size (fun j e=>Nat.le_trans h.le (h.own.lt j e).1),h.le,Nat.le_trans h.sz hg.size,by subst hm;exact ho⟩
theorem OI.start (w:World):OI w w.heap.size (.slice none 0 0) [] w:=⟨Below.refl _ _,Nat.le_refl _,Nat.le_refl _,⟨rfl,.inl ⟨rfl,rfl⟩⟩⟩
theorem OI.start' {w W:World} {B:Nat} (hb:Below w.heap.size w W) (h1:w.heap.size<=B) (h2:B<=W.heap.size):OI w B (.slice none 0 0) [] W:=⟨hb,h1,h2,⟨rfl,.inl ⟨rfl,rfl⟩⟩⟩
theorem OI.kb {w W W':World} {B:Nat} {v:Value} {l:List Int} {g:Nat} {o:Obj} (h:OI w B v l W) (hg:W.grownBy W' v.ownBlock) (hlt:g<B) (ho:W.heap[g]?=some o):W'.heap[g]?=some o:=by
 rw [hg.block g (ai ho) (fun e=>by have:=(h.own.lt g e.symm).1;omega)];exact ho
theorem OI.mono {w W:World} {B C:Nat} {v:Value} {l:List Int} (h:OI w B v l W) (h1:w.heap.size<=C) (h2:C<=B):OI w C v l W:=⟨h.bel,h1,Nat.le_trans h2 h.sz,h.own.mono h2⟩
theorem OI.nts {w W:World} {B:Nat} {v:Value} {l:List Int} (h:OI w B v l W):∃ A d,v=.slice A l.length d/\l.length<=d/\d<=9223372036854775807/\jf W A l:=j3 h.own rfl
theorem wW (A:Option Addr) (l:List Int) (n d:Nat) (w:World) (hn:l.length=n) (h63:n<=1000) (hy:jf w A l) :
 Calls Tryz.prog 69 #[.slice A n d] w fun e w'=>∃ v,e=.returned v/\OI w w.heap.size v (realL l) w':=by
 have HN:=He hn;have HY:=He hy;have HJ0:=He (OI.start w);clear hn hy;go_enter Tryz.func69,Tryz.ntmps69;go_wp2_with fail
 go_loopw [3,4] (fun v i wr=>∃ j:Nat,j<=n/\i=.int .i64 j/\Hid (OI w w.heap.size v (realL (l.take j)) wr)) (fun _ i _=>n-(intOf i).toNat)
 case atStart=>exact ⟨0,Ha,rfl,HJ0⟩
 case round =>
  obtain ⟨j,hj,rfl,HJ⟩:=hrel;clear HJ0;by_cases hlt:j<n
  ·obtain ⟨x,hx⟩:∃ x,l[j]?=some x:=⟨_,List.getElem?_eq_getElem (by rw [HN.out];exact hlt)⟩
   have hyr:Hid (∀ W',Below w.heap.size w W'->jf W' A l):=fun W' hb=>HY.out.keep hb;obtain ⟨a,rfl,hc⟩:=hyr.out wr HJ.out.bel j x hx;have hji:(j:Int)<n:=Ha;have HT:Hid (l.take (j+1)=l.take j++[x]):=au hx;have HLT:Hid ((realL (l.take j)).length<=1000):=by
    have h1:=List.length_filter_le (fun x=>decide (x ≠ -1)) (l.take j);have h2:(l.take j).length<=j:=by rw [List.length_take];omega
    show (realL _).length<=1000;unfold realL;omega
   clear hx;by_cases hx1:x = -1
   ·subst hx1;go_wp2_with fail
    go_roundw
    case rel=>exact ⟨j+1,Ha,by go_num,by unfold Hid;rw [HT.out,qS,if_pos rfl];exact HJ.out⟩
    case measure=>simp [intOf];omega
   ·have HJ4:=He (HJ.out.below (aK (.cells (Is [x]).toArray 3)));have HY4:Hid (jf (wr.alloc (.cells (Is [x]).toArray 3)) (some ⟨wr.heap.size,0,none⟩) [x]):=ux (heap_alloc_new wr _);obtain ⟨wk,hwk⟩:∃ wk,wk=wr.alloc (.cells (Is [x]).toArray 3):=⟨_,rfl⟩
    rw [<- hwk] at HJ4 HY4;have HWK:Hid (wr.alloc (.cells #[.int .i64 x] 3)=wk):=hwk.symm;clear hwk;go_wp2_with (first
     | (at_builtin
        rw [HWK.out]
        go_loud (refine du wk rfl (.tmp 16) (.tmp 21) rfl w.heap.size u3 _ _ rfl HJ4.out.own (some ⟨wr.heap.size,0,none⟩) 1 1 [x] rfl HY4.out rfl (by have:=HLT.out;omega) HJ4.out.sz ?_)
        intro v5 w5 h1 h2 _;have HJ5:=He (HJ4.out.push h1 Hb h2);clear h1 h2 HJ4))
    go_roundw
    case rel=>exact ⟨j+1,Ha,by go_num,by unfold Hid;rw [HT.out,qS,if_neg hx1];exact HJ5.out⟩
    case measure=>simp [intOf];omega
  ·obtain rfl:j=n:=Ha;have e:l.take j=l:=List.take_of_length_le (by rw [HN.out];exact Nat.le_refl _);rw [e] at HJ;go_wp2_with fail
   go_ret;exact ⟨_,rfl,HJ.out⟩
theorem qs.at_ {w:World} {g:Nat} {b:List Bk} (h:qs w (some ⟨g,0,none⟩) b) {i:Nat} {x:Bk} (hi:b[i]?=some x):w.rangeAt g (i*57) (blkL x.k x.bs):=by
 obtain ⟨g',e,h1⟩:=h i x hi;injection e with e;injection e with e;subst e;exact h1
theorem qs.kind {w:World} {g:Nat} {b:List Bk} (h:qs w (some ⟨g,0,none⟩) b) {i:Nat} {x:Bk} (hi:b[i]?=some x):w.cell? ⟨g,i*57,none⟩=some (.int .i64 x.k):=by
 have h1:=h.at_ hi 0 (.int .i64 x.k) rfl
 rwa [Nat.add_zero] at h1
theorem bQ {x:Bk} (h:x.bs.length=56):(Tryz.prog.info? 37).map (·.size)=some (blkL x.k x.bs).length:=by rw [aZ h];exact cO
theorem nD (l:List Int):(realL l).length<=l.length:=List.length_filter_le _ _
theorem DW (k:Int) (bs:List Int):(tkL k bs).length<=16:=by unfold tkL;split;rw [dK];exact Nat.le_refl _;exact Nat.zero_le _
theorem Ah (b:List Bk) (x:Int):(mF b x).length<=16:=by
 unfold mF;split
 ·exact Nat.le_trans (nD _) (DW _ _)
 ·exact Nat.zero_le _
structure Cr (w:World) (p:Nat) (n:Nd) (v:Value) (l:List Int) (W:World):Prop where
 oi:OI w (p+1) v l W
 at_:aR W p n
theorem Cr.below {w W W':World} {p:Nat} {n:Nd} {v:Value} {l:List Int} (h:Cr w p n v l W) (hb:Below W.heap.size W W'):Cr w p n v l W':=⟨h.oi.below hb,kb hb h.at_⟩
theorem Cr.push {w W W':World} {p m:Nat} {n:Nd} {v v':Value} {l l':List Int} (h:Cr w p n v l W) (ho:W'.ownsRow (p+1) 3 1 v' m (Is l')) (hm:m=l'.length) (hg:W.grownBy W' v.ownBlock):Cr w p n v' l' W':=⟨h.oi.push ho hm hg,h.oi.kb hg (Nat.lt_succ_self p) h.at_⟩
theorem BI (g:Nat) (b:List Bk) (i n d:Nat) (x:Bk) (w:World) (hn:b.length=n) (h200:n<=200) (hok:dF b) (hy:qs w (some ⟨g,0,none⟩) b) (hx:b[i]?=some x) :
 Calls Tryz.prog 110 #[.slice (some ⟨g,0,none⟩) n d,.int .i64 i] w fun e w'=>∃ v,e=.returned v/\OI w w.heap.size v (namedL b x) w':=by
 have hxo:=hok x (List.mem_of_getElem? hx);obtain ⟨k,bs⟩:=x;have HN:=He hn;have HO:=He hok;have HY:Hid (∀ W',Below w.heap.size w W'->qs W' (some ⟨g,0,none⟩) b):=fun W' hb=>hy.keep hb;have HX:=He hx;have H56:Hid (bs.length=56):=hxo.len;have hi:i<n:=by rw [<- hn];exact (List.getElem?_eq_some_iff.1 hx).1
 have hii:(i:Int)<n:=Ha;have hk0:w.cell? ⟨g,i*57,none⟩=some (.int .i64 k):=hy.kind hx;by_cases h1:k=1
 ·subst h1;have HTK:=He (fun W=>qE 1 bs W (by constructor <;> omega) hxo.len hxo.b);have HNO:=He (wB (k:=1) hxo.len hxo.b);clear hn hok hy hx hxo;go_enter Tryz.func110,Tryz.ntmps110;by_cases ht:aX 1 bs
  ·have e0:bj 1 bs=cM bs:=if_pos ht;have HE:Hid (namedL b ⟨1,bs⟩=jp b (cM bs)):=if_pos ⟨rfl,ht⟩;rw [e0,decide_eq_true ht] at HTK;rw [e0] at HNO;have HMAY:=He ht.may;clear e0;generalize cM bs=nd at *;go_wp2_with (first | (with_reducible refine wpList_load_mid rfl 37 (.tmp 19) rfl g (i*57) rfl (blkL 1 bs) _ ((HY.out _ (Below.refl _ _)).at_ HX.out) Tryz.underlying37 rfl (bQ (x:=⟨1,bs⟩) H56.out) ?_))
   refine (HTK.out w).mono ?_;rintro e w1 ⟨rfl,hb1⟩;have h5:=aR.new w1 nd0;go_upto_region 4 with (first | (refine bA rfl rfl ?_) | (refine aL rfl (.tmp 5) (.tmp 22) rfl w1.heap.size rfl nd nd0 rfl h5 ?_))
   have HJ:Hid (Cr w w1.heap.size nd (.slice none 0 0) [] ((w1.alloc (.cells (bD nd0) 137)).setRow w1.heap.size (bD nd))) :=
    ⟨OI.start' (hb1.trans ((below_setRow (aK _) (Nat.le_refl _) _).mono hb1.size)) (Nat.le_succ_of_le hb1.size) (by have:=(h5.set nd);exact ai this),h5.set nd⟩
   clear h5 hb1 HTK hk0;generalize (w1.alloc (.cells (bD nd0) 137)).setRow w1.heap.size (bD nd)=W at *;generalize w1.heap.size=p at *;obtain ⟨c0,c1,c2,c7,c8⟩:=HJ.out.at_.cells;clear c0 c1 c2 c8
   go_upto_if 28 with fail
   go_cut [7] (fun v wx=>Hid (Cr w p nd v (if nd.x = -1 then [] else [nd.x]++mF b nd.x) wx))
   case first =>
    by_cases hx1:nd.x = -1
    ·go_wp2_with fail
     go_meet
     case rel=>rw [if_pos hx1];exact HJ
    ·have HNM:=He hx1;have HJ4:=He (HJ.out.below (aK (.cells (Is [nd.x]).toArray 3)));have HY4:Hid (jf (W.alloc (.cells (Is [nd.x]).toArray 3)) (some ⟨W.heap.size,0,none⟩) [nd.x]):=ux (heap_alloc_new W _);obtain ⟨wk,hwk⟩:∃ wk,wk=W.alloc (.cells (Is [nd.x]).toArray 3):=⟨_,rfl⟩
     rw [<- hwk] at HJ4 HY4;have HWK:Hid (W.alloc (.cells #[.int .i64 nd.x] 3)=wk):=hwk.symm;clear hwk;by_cases hlt:nd.x<(n:Int)
     ·have h0:0<=nd.x:=by have:=HMAY.out.at_ (i:=4) Ha;have e:nd.ps.getD 4 0=nd.x:=rfl;omega
      obtain ⟨y,hy⟩:∃ y,b[nd.x.toNat]?=some y:=⟨_,List.getElem?_eq_getElem (by rw [HN.out];omega)⟩
      have hyo:=HO.out y (List.mem_of_getElem? hy);have HIX:Hid (mF b nd.x=realL (tkL y.k y.bs)):=by
       have e:iD b nd.x=y:=by unfold iD;rw [List.getD,hy];rfl
       unfold Hid mF;rw [if_pos (by rw [HN.out];exact hlt),e]
      have HRX:=He (fun W=>wL y.k y.bs W hyo.len hyo.b);have H57:=He hyo.len;have HYY:=He hy;clear hyo hy;go_wp2_with (first
       | (with_reducible refine wpList_load_mid rfl 37 (.tmp 43) rfl g (nd.x.toNat*57) rfl (blkL y.k y.bs) _ ((HY.out _ HJ5.out.oi.bel).at_ HYY.out) Tryz.underlying37 rfl (bQ H57.out) ?_)
       | (at_builtin
          rw [HWK.out]
          go_loud (refine du wk rfl (.tmp 29) (.tmp 32) rfl (p+1) _ 0 [] rfl HJ4.out.oi.own (some ⟨W.heap.size,0,none⟩) 1 1 [nd.x] rfl HY4.out rfl Ha HJ4.out.oi.sz ?_)
          intro v5 w5 h1 h2 _;have HJ5:Hid (Cr w p nd v5 [nd.x] w5):=HJ4.out.push h1 rfl h2;obtain ⟨_,_,_,c77,_⟩:=HJ5.out.at_.cells;clear h1 h2 HJ4))
      refine (HRX.out _).mono ?_;rintro e w6 ⟨v6,rfl,h6,hb6⟩;have HJ6:=He (HJ5.out.below hb6);obtain ⟨A,cap,rfl,hc1,hc2,hnt⟩:=j3 (bs:=tkL y.k y.bs) h6 rfl;have hl16:=DW y.k y.bs;have HRE:=He (wW A (tkL y.k y.bs) (tkL y.k y.bs).length cap w6 rfl Ha hnt);clear hb6 h6 HJ5 hnt HRX;go_wp2_with fail
      refine HRE.out.mono ?_;rintro e w7 ⟨v7,rfl,h7⟩;have HJ7:=He (HJ6.out.below h7.bel);obtain ⟨A7,cap7,rfl,hc3,hc4,hnt7⟩:=h7.nts;have HY7:=He hnt7;have HL7:Hid ((realL (tkL y.k y.bs)).length<=16):=Nat.le_trans (nD _) hl16;clear h7 hnt7 HJ6 HRE;go_wp2_with (first
       | (at_builtin
          go_loud (refine du w7 rfl (.tmp 48) (.tmp 50) rfl (p+1) _ 1 [nd.x] rfl HJ7.out.oi.own A7 _ cap7 (realL (tkL y.k y.bs)) rfl HY7.out rfl (by have:=HL7.out;omega) HJ7.out.oi.sz ?_)
          intro v8 w8 h1 h2 _;have HJ8:Hid (Cr w p nd v8 ([nd.x]++realL (tkL y.k y.bs)) w8):=HJ7.out.push h1 (by simp;omega) h2;clear h1 h2 HJ7))
      go_meet
      case rel=>rw [if_neg hx1,HIX.out];exact HJ8
     ·have HIX:Hid (mF b nd.x=[]):=by
       unfold Hid mF;rw [if_neg (by rw [HN.out];exact hlt)]
      go_wp2_with (first
       | (at_builtin
          rw [HWK.out]
          go_loud (refine du wk rfl (.tmp 29) (.tmp 32) rfl (p+1) _ 0 [] rfl HJ4.out.oi.own (some ⟨W.heap.size,0,none⟩) 1 1 [nd.x] rfl HY4.out rfl Ha HJ4.out.oi.sz ?_)
          intro v5 w5 h1 h2 _;have HJ5:Hid (Cr w p nd v5 [nd.x] w5):=HJ4.out.push h1 rfl h2;obtain ⟨_,_,_,c77,_⟩:=HJ5.out.at_.cells;clear h1 h2 HJ4))
      go_meet
      case rel=>rw [if_neg hx1,HIX.out,List.append_nil];exact HJ5
   case rest =>
    have HJ:=hcut;have HLL:Hid ((if nd.x = -1 then [] else [nd.x]++mF b nd.x).length<=17):=by
     unfold Hid;split
     ·exact Nat.zero_le _
     ·have:=Ah b nd.x;rw [List.length_append,List.length_singleton];omega
    have HRES:Hid (namedL b ⟨1,bs⟩=(if nd.x = -1 then [] else [nd.x]++mF b nd.x)++realL nd.dir):=by rw [HE.out];rfl
    generalize (if nd.x = -1 then [] else [nd.x]++mF b nd.x)=L0 at *;have HNT:=He HJ.out.at_.nts;have HRE:=He (wW (some ⟨p,3,none⟩) nd.dir 4 4 wc rfl Ha HNT.out);go_wp2_with fail
    refine HRE.out.mono ?_;rintro e w7 ⟨v7,rfl,h7⟩;have HJ7:=He (HJ.out.below h7.bel);obtain ⟨A7,cap7,rfl,hc3,hc4,hnt7⟩:=h7.nts;have HY7:=He hnt7;have HL7:Hid ((realL nd.dir).length<=4):=nD _;clear h7 hnt7 HRE HNT;go_wp2_with (first
     | (at_builtin
        go_loud (refine du w7 rfl (.tmp 52) (.tmp 55) rfl (p+1) _ _ L0 rfl HJ7.out.oi.own A7 _ cap7 (realL nd.dir) rfl HY7.out rfl (by have:=HL7.out;have:=HLL.out;omega) HJ7.out.oi.sz ?_)
        intro v8 w8 h1 h2 _;have HJ8:Hid (Cr w p nd v8 (L0++realL nd.dir) w8):=HJ7.out.push h1 Hb h2;clear h1 h2 HJ7))
    go_ret;exact ⟨_,rfl,by rw [HRES.out];exact HJ8.out.oi.mono (Nat.le_refl _) (by have:=HJ8.out.oi.le;omega)⟩
  ·have e0:bj 1 bs=nd0:=if_neg ht;have HE:Hid (namedL b ⟨1,bs⟩=[]):=if_neg (fun h=>ht h.2);rw [e0,decide_eq_false ht] at HTK;clear e0 HNO;go_wp2_with (first | (with_reducible refine wpList_load_mid rfl 37 (.tmp 19) rfl g (i*57) rfl (blkL 1 bs) _ ((HY.out _ (Below.refl _ _)).at_ HX.out) Tryz.underlying37 rfl (bQ (x:=⟨1,bs⟩) H56.out) ?_))
   refine (HTK.out w).mono ?_;rintro e w1 ⟨rfl,hb1⟩;have h5:=aR.new w1 nd0;go_upto_region 4 with (first | (refine bA rfl rfl ?_) | (refine aL rfl (.tmp 5) (.tmp 22) rfl w1.heap.size rfl nd0 nd0 rfl h5 ?_))
   have HJ:Hid (OI w w.heap.size (.slice none 0 0) [] ((w1.alloc (.cells (bD nd0) 137)).setRow w1.heap.size (bD nd0))) :=
    OI.start' (hb1.trans ((below_setRow (aK _) (Nat.le_refl _) _).mono hb1.size)) (Nat.le_refl _) (by have:=ai (h5.set nd0);have:=hb1.size;omega)
   clear h5 hb1 HTK hk0;generalize (w1.alloc (.cells (bD nd0) 137)).setRow w1.heap.size (bD nd0)=W at *;go_wp2_with fail
   go_ret;exact ⟨_,rfl,by rw [HE.out];exact HJ.out⟩
 ·have hkn:¬ k=1:=h1;clear hn hok hy hx hxo;go_enter Tryz.func110,Tryz.ntmps110;go_wp2_with fail
  go_ret;exact ⟨_,rfl,by unfold namedL;rw [if_neg (fun h=>h1 h.1)];exact OI.start w⟩
end Go.Proofs.YtegjelaejbacnaaGreat
