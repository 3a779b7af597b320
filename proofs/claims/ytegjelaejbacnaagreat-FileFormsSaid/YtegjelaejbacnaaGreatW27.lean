/- For FileForms: contracts and facts, part 27. -/
import Derived.StillTailTactics
import Derived.Deep.DeepCutAuto
import Derived.Test.YtegjelaejbacnaaGreatW19
import Derived.Test.YtegjelaejbacnaaGreatW20
import Derived.Test.YtegjelaejbacnaaGreatW26
set_option maxRecDepth 100000
set_option maxHeartbeats 25600000
set_option linter.unusedVariables false
open Go.ChangeShapes Go.WideShapes Go.ChangeAt Go.RowKit
namespace Go.Proofs.YtegjelaejbacnaaGreat
structure kW (w:World) (B s g n cap:Nat) (pl:Int) (b:List Bk):Prop where
 box:w.heap[s]?=some (.cells #[.int .i64 pl,.slice (some ⟨g,0,none⟩) n cap] 58 (0,0))
 row:cj w B g n cap b
 sg:s≠g
 sB:B<=s
section
variable {w W W':World} {B s g n cap:Nat} {pl:Int} {b:List Bk}
theorem kW.below (h:kW w B s g n cap pl b) (hb:Below w.heap.size w W):kW W B s g n cap pl b:=⟨kb hb h.box,h.row.below hb,h.sg,h.sB⟩
theorem kW.c0 (h:kW w B s g n cap pl b):w.cell? ⟨s,0,none⟩=some (.int .i64 pl):=(af h.box 0).trans rfl
theorem kW.c1 (h:kW w B s g n cap pl b):w.cell? ⟨s,1,none⟩=some (.slice (some ⟨g,0,none⟩) n cap):=(af h.box 1).trans rfl
theorem kW.f (h:kW w B s g n cap pl b) (i:Nat):w.frozen? ⟨s,i,none⟩=false:=az h.box i
theorem kW.bks (h:kW w B s g n cap pl b):qs w (some ⟨g,0,none⟩) b:=h.row.bks
end
structure SF (w:World) (a b:Bool) (e:En) (p:Value) (W:World):Prop where
 bel:Below w.heap.size w W
 nm:a=true->∃ q:Nat,p=.pointer (some ⟨q,0,none⟩)/\w.heap.size<=q/\bP W q (if b=true then e else en0)
section
variable {w W W':World} {a b:Bool} {e:En} {p:Value}
theorem SF.below (h:SF w a b e p W) (hb:Below W.heap.size W W'):SF w a b e p W' :=
 ⟨h.bel.trans (hb.mono h.bel.size),fun ha=>let ⟨q,h1,h2,h3⟩:=h.nm ha;⟨q,h1,h2,kb hb h3⟩⟩
theorem SF.start (hb:Below w.heap.size w W):SF w false false e p W:=⟨hb,fun h=>by cases h⟩
theorem SF.laid {a0:Bool} {p0:Value} (h:SF w a0 false e p0 W):SF w true false e (.pointer (some ⟨W.heap.size,0,none⟩)) (W.alloc (.cells (dB en0) 168)) :=
 ⟨h.bel.trans ((aK _).mono h.bel.size),fun _=>⟨W.heap.size,rfl,h.bel.size,by rw [if_neg Hd];exact bP.new W en0⟩⟩
theorem SF.stored (h:SF w true false e p W) {q:Nat} (h1:p=.pointer (some ⟨q,0,none⟩)) (h2:w.heap.size<=q) (h3:bP W q en0):SF w true true e p (W.setRow q (dB e)) :=
 ⟨below_setRow h.bel h2 _,fun _=>⟨q,h1,h2,by rw [if_pos rfl];exact h3.set e⟩⟩
end
theorem bc.below' {w w':World} {p:Nat} {l a g:Int} (h:bc w p l a g) (hb:Below w.heap.size w w'):bc w' p l a g:=kb hb h
theorem Ep {w:World} {B s g n cap:Nat} {pl:Int} {b:List Bk} (h:kW w B s g n cap pl b) (e:En) :
 Calls Tryz.prog 124 #[.pointer (some ⟨s,0,none⟩),.agg (dB e)] w fun en w'=>en=.returned (.agg #[.int .i64 pl,.int .i64 e.p,.int .u32 e.n])/\Below w.heap.size w w':=by
 have h3:=bP.new w e;have hb1:=aK (w:=w) (.cells (dB e) 168);have HS1:=He (h.below hb1);go_enter Tryz.func124,Tryz.ntmps124;go_upto_region 1 with fail
 have hb2:Below w.heap.size w ((w.alloc (.cells (dB e) 168)).alloc (.cells #[.int .i64 0,.int .i64 0,.int .u32 0] 82)):=hb1.trans ((aK _).mono hb1.size);have HS2:=He (h.below hb2);have H3:Hid (bP ((w.alloc (.cells (dB e) 168)).alloc (.cells #[.int .i64 0,.int .i64 0,.int .u32 0] 82)) w.heap.size e):=bP.alloc h3 _;have H4:=bc.new (w.alloc (.cells (dB e) 168)) 0 0 0;have hsz:(w.alloc (.cells (dB e) 168)).heap.size=w.heap.size+1:=Hb;rw [hsz] at H4;have HB2:=He hb2;clear h3 hb1 hb2 HS1 hsz;generalize (w.alloc (.cells (dB e) 168)).alloc (.cells #[.int .i64 0,.int .i64 0,.int .u32 0] 82)=W at *;have c0:=HS2.out.c0;obtain ⟨_,c4,c5⟩:=H3.out.cells;have d0':W.drew.cell? ⟨s,0,none⟩=some (.int .i64 pl):=c0;have d4':W.drew.cell? ⟨w.heap.size,4,none⟩=some (.int .i64 e.p):=c4;have d5':W.drew.cell? ⟨w.heap.size,5,none⟩=some (.int .u32 e.n):=c5;have H4':Hid (bc W.drew (w.heap.size+1) 0 0 0):=H4;have HB3:Hid (Below w.heap.size w W.drew):=HB2.out.drew
 go_still_tail 9,Hc
 change wpList _ _ _ _ _ W.drew;clear c0 c4 c5 H4;generalize W.drew=W2 at *;go_wp2_with (refine aI rfl (.tmp 4) (.tmp 13) rfl (w.heap.size+1) rfl pl e.p e.n rfl 0 0 0 H4'.out ?_)
 refine bodyPost_ret (mE rfl _ _ (w.heap.size+1) pl e.p e.n rfl (H4'.out.set pl e.p e.n)) rfl ?_;exact ⟨rfl,below_setRow HB3.out (Nat.le_succ _) _⟩
def J9 (s g n cap:Nat) (dl da dg:Int) (t:List Int) (fe:En) (fi:Int) (i:Nat) (v:Value) (W:World):Prop :=
 match i with
 | 0 | 1=>v=.pointer (some ⟨s,0,none⟩)
 | 2=>v=.pointer (some ⟨s,1,none⟩)
 | 3=>v=.slice (some ⟨g,0,none⟩) n cap
 | 4=>v=jo dl da dg
 | 5=>v=.string (strOfNums t)
 | 6 | 7=>v=.tuple #[.agg (dB fe),.int .i64 fi]
 | 8=>v=.agg (dB fe)
 | 9 | 12=>v=.int .i64 fi
 | _=>True
theorem xv {w:World} {B s g n cap:Nat} {pl:Int} {b:List Bk} (h:kW w B s g n cap pl b) (h200:n<=200) (D:nA) (t:List Int) (ht:ax t) :
 Calls Tryz.prog 86 #[.pointer (some ⟨s,0,none⟩),D.v,.string (strOfNums t)] w fun e w'=>e=.returned (if dA D t b<0 then .tuple #[jo 0 0 0,.bool false] else .tuple #[jo pl (gO D t b).p (gO D t b).n,.bool true])/\Below w.heap.size w w':=by
 obtain ⟨dl,da,dg⟩:=D;have hb1:Below w.heap.size w ((w.alloc (.cells #[.int .i64 dl,.int .i64 da,.int .u32 dg] 82)).alloc (.cells #[.int .i64 0,.int .i64 0,.int .u32 0] 82)):=(aK _).trans ((aK _).mono Hb);have HS0:=He (fun W hb=>h.below (W:=W) hb);have HI4:Hid (bc ((w.alloc (.cells #[.int .i64 dl,.int .i64 da,.int .u32 dg] 82)).alloc (.cells #[.int .i64 0,.int .i64 0,.int .u32 0] 82)) w.heap.size dl da dg):=(bc.new w dl da dg).alloc _;have hid6:=bc.new (w.alloc (.cells #[.int .i64 dl,.int .i64 da,.int .u32 dg] 82)) 0 0 0;have hsz:(w.alloc (.cells #[.int .i64 dl,.int .i64 da,.int .u32 dg] 82)).heap.size=w.heap.size+1:=Hb;rw [hsz] at hid6;have HID6:=He hid6;have HFI0:=He (fun W (hb:Below w.heap.size w W)=>rt g b n cap ⟨dl,da,dg⟩ t W h.row.len h200 h.row.ok (h.below hb).bks ht);obtain ⟨r,hr⟩:∃ r,r=(if dA ⟨dl,da,dg⟩ t b<0 then Value.tuple #[jo 0 0 0,.bool false] else .tuple #[jo pl (gO ⟨dl,da,dg⟩ t b).p (gO ⟨dl,da,dg⟩ t b).n,.bool true]):=⟨_,rfl⟩
 rw [<- hr];have HR:=He hr;clear hr h hid6 hsz;generalize gO ⟨dl,da,dg⟩ t b=fe at *;generalize dA ⟨dl,da,dg⟩ t b=fi at *;show Calls Tryz.prog 86 #[.pointer (some ⟨s,0,none⟩),.agg #[.int .i64 dl,.int .i64 da,.int .u32 dg],.string (strOfNums t)] w _;go_enter Tryz.func86,Tryz.ntmps86;go_upto_region 1 with fail
 have HB0:=He hb1;clear hb1;generalize (w.alloc (.cells #[.int .i64 dl,.int .i64 da,.int .u32 dg] 82)).alloc (.cells #[.int .i64 0,.int .i64 0,.int .u32 0] 82)=w0 at *;obtain ⟨p4,hp4⟩:∃ p4,p4=w.heap.size:=⟨_,rfl⟩
 obtain ⟨p6,hp6⟩:∃ p6,p6=w.heap.size+1:=⟨_,rfl⟩
 rw [<- hp6] at HID6 ⊢;rw [<- hp4] at HI4 ⊢;have HP6:Hid (w.heap.size<=p6):=by unfold Hid;omega
 have HS:Hid (∀ W,Below w0.heap.size w0 W->kW W B s g n cap pl b):=fun W hb=>HS0.out W (HB0.out.trans (hb.mono HB0.out.size));have HFI:Hid (∀ W,Below w0.heap.size w0 W->Calls Tryz.prog 119 #[.slice (some ⟨g,0,none⟩) n cap,.agg #[.int .i64 dl,.int .i64 da,.int .u32 dg],.string (strOfNums t)] W fun e w'=>e=.returned (.tuple #[.agg (dB fe),.int .i64 fi])/\Below W.heap.size W w'):=fun W hb=>HFI0.out W (HB0.out.trans (hb.mono HB0.out.size));clear hp4 hp6 HS0 HFI0;have hJ0:SF w0 false false fe undef w0.drew:=SF.start (Below.refl _ _).drew;refine r7 (J9 s g n cap dl da dg t fe fi) 8 (fun L p W=>SF w0 (L 10) (L 11) fe p W) (fun _ _ _=>True) Hc Hc (fun i j v w w' _ _ h hs=>by unfold J9 at *;exact h) hJ0 ?_ ?_
 all_goals clear hJ0
 ·simp only [tz];refine ⟨?_,?_,?_,?_,?_,?_,?_,?_,?_,?_,?_,?_,?_,trivial⟩
  ·refine fw.of rfl fun T W L hag hL hcl hJ hLs hd=>?_;have e0:=Hf hag 0;clear hag hd hcl;generalize T.getD 8 undef=p8 at *;go_simp;exact ⟨_,rfl,rfl⟩
  ·refine fw.of rfl fun T W L hag hL hcl hJ hLs hd=>?_;have d11:T.getD 11 undef=_:=Hg hd 0 rfl;clear hag hd hcl;generalize T.getD 8 undef=p8 at *;go_simp;exact ⟨_,rfl,rfl⟩
  ·refine fw.of rfl fun T W L hag hL hcl hJ hLs hd=>?_;have d12:T.getD 12 undef=_:=Hg hd 1 rfl;clear hag hd hcl;generalize T.getD 8 undef=p8 at *;go_simp;exact ⟨_,rfl,rfl⟩
  ·refine fw.of rfl fun T W L hag hL hcl hJ hLs hd=>?_;have d13:T.getD 13 undef=_:=Hg hd 2 rfl;have fct0:=(HS.out W hJ.bel).c1;clear hag hd hcl;generalize T.getD 8 undef=p8 at *;go_simp;exact ⟨_,rfl,rfl⟩
  ·refine fw.of rfl fun T W L hag hL hcl hJ hLs hd=>?_;have e4:=Hf hag 4;refine kM (.tmp 4) rfl p4 e4 dl da dg (HI4.out.below' hJ.bel) ?_;exact ⟨_,rfl,rfl,hJ,trivial⟩
  ·refine fw.of rfl fun T W L hag hL hcl hJ hLs hd=>?_;have e2:=Hf hag 2;clear hag hd hcl;generalize T.getD 8 undef=p8 at *;go_simp;exact ⟨_,rfl,rfl⟩
  ·refine fw.of rfl fun T W L hag hL hcl hJ hLs hd=>?_;have d14:T.getD 14 undef=_:=Hg hd 3 rfl;have d15:T.getD 15 undef=_:=Hg hd 4 rfl;have d16:T.getD 16 undef=_:=Hg hd 5 rfl;clear hag hd hcl;generalize T.getD 8 undef=p8 at *;go_simp;refine (HFI.out W hJ.bel).mono ?_;rintro en w' ⟨rfl,hb⟩;exact ⟨_,rfl,rfl,hJ.below hb⟩
  ·refine fw.of rfl fun T W L hag hL hcl hJ hLs hd=>?_;have d17:T.getD 17 undef=_:=Hg hd 6 rfl;clear hag hd hcl;generalize T.getD 8 undef=p8 at *;go_simp;exact ⟨_,rfl,rfl⟩
  ·refine fw.of rfl fun T W L hag hL hcl hJ hLs hd=>?_;have d10:T.getD 10 undef=_:=Hg hd 7 rfl;clear hag hd hcl;generalize T.getD 8 undef=p8 at *;go_simp;exact ⟨_,rfl,rfl⟩
  ·refine fw.of rfl fun T W L hag hL hcl hJ hLs hd=>?_;have d10:T.getD 10 undef=_:=Hg hd 7 rfl;clear hag hd hcl;generalize T.getD 8 undef=p8 at *;go_simp;exact ⟨_,rfl,rfl⟩
  ·refine fw.of rfl fun T W L hag hL hcl hJ hLs hd=>?_;have hL10:L 10=false:=hL;have hL11:L 11=false:=by
    cases h:L 11 with
    | false=>rfl
    | true=>exact absurd (hcl 11 _ rfl h ⟨10,.data⟩ Hb rfl) (by rw [hL10];decide)
   clear hag hd hcl;refine tn rfl ?_;refine ⟨_,rfl,trivial,?_,trivial⟩;show SF w0 (if (10:Nat)=10 then true else L 10) (if (10:Nat)=11 then true else L 11) fe (if some 8=some 8 then _ else _) _;rw [if_pos rfl,if_pos rfl,if_neg Hd,hL11];rw [hL11] at hJ;exact hJ.laid
  ·refine fw.of rfl fun T W L hag hL hcl hJ hLs hd=>?_;have x8:=Hg hd 10 rfl;have d18:T.getD 18 undef=_:=Hg hd 8 rfl;have hL10:L 10=true:=hLs ⟨10,.data⟩ Hb rfl;have hL11:L 11=false:=hL;have hJ':SF w0 true false fe (T.getD 8 undef) W:=by have h:=hJ;simp only [hL10,hL11] at h;exact h
   obtain ⟨q,hq,hq1,hq2⟩:=hJ'.nm rfl;rw [if_neg Hd] at hq2;refine tm (.tmp 8) (.tmp 18) rfl q hq fe en0 d18 hq2 ?_;refine ⟨_,rfl,trivial,?_,trivial⟩;show SF w0 (if (11:Nat)=10 then true else L 10) (if (11:Nat)=11 then true else L 11) fe (if none=some 8 then _ else _) _;rw [if_pos rfl,if_neg Hd,if_neg Hb,hL10];exact hJ'.stored hq hq1 hq2
  ·refine fw.of rfl fun T W L hag hL hcl hJ hLs hd=>?_;have d19:T.getD 19 undef=_:=Hg hd 9 rfl;clear hag hd hcl;generalize T.getD 8 undef=p8 at *;go_simp;exact ⟨_,rfl,rfl⟩
 ·refine fun T W L hag hall hJ hd=>?_;have d11:T.getD 11 undef=_:=hd 0 _ rfl;have d12:T.getD 12 undef=_:=hd 1 _ rfl;have d13:T.getD 13 undef=_:=hd 2 _ rfl;have d14:T.getD 14 undef=_:=hd 3 _ rfl;have d15:T.getD 15 undef=_:=hd 4 _ rfl;have d16:T.getD 16 undef=_:=hd 5 _ rfl;have d17:T.getD 17 undef=_:=hd 6 _ rfl;have d10:T.getD 10 undef=_:=hd 7 _ rfl;have d18:T.getD 18 undef=_:=hd 8 _ rfl;have d19:T.getD 19 undef=_:=hd 9 _ rfl;have d9:T.getD 9 undef=_:=hd 12 _ rfl;obtain ⟨f,hf,hT⟩:=aH hag;have h11:=(hf 11).trans d11;have h12:=(hf 12).trans d12;have h13:=(hf 13).trans d13;have h14:=(hf 14).trans d14;have h15:=(hf 15).trans d15;have h16:=(hf 16).trans d16;have h17:=(hf 17).trans d17;have h10:=(hf 10).trans d10;have h18:=(hf 18).trans d18;have h19:=(hf 19).trans d19;have h9:=(hf 9).trans d9;rw [<- hf 8] at hJ
  try dsimp only at hJ
  have HJ:=He hJ;clear hag hd d11 d12 d13 d14 d15 d16 d17 d10 d18 d19 d9 hJ hf;rw [hT];clear hT;simp only [List.filterMap_cons,List.filterMap_nil,List.foldl_cons,List.foldl_nil,List.setIfInBounds_toArray,List.set_cons_succ,List.set_cons_zero,h11,h12,h13,h14,h15,h16,h17,h10,h18,h19,h9];rw [hall 10 Hd,hall 11 Hd] at HJ;clear hall;obtain ⟨q,hq,hq1,hq2⟩:=HJ.out.nm rfl;rw [if_pos rfl] at hq2;rw [hq];have H8:=He hq2;have HB6:=He HJ.out.bel;clear hq HJ hq2;by_cases hf0:fi<0
  ·have HE:Hid (r=.tuple #[jo 0 0 0,.bool false]):=by unfold Hid;rw [HR.out,if_pos hf0]
   have HI6:=He (kb HB6.out HID6.out);have HBR:=He (below_setRow (HB0.out.trans (HB6.out.mono HB0.out.size)) (g:=p6) HP6.out (jc 0 0 0));go_wp2_with (first | (refine aI rfl (.tmp 6) (.tmp 22) rfl p6 rfl 0 0 0 rfl 0 0 0 HI6.out ?_))
   refine bodyPost_ret (bF rfl _ _ p6 0 0 0 rfl (bc.set HI6.out 0 0 0)) rfl ?_;exact ⟨by rw [HE.out];rfl,HBR.out⟩
  ·have HE:Hid (r=.tuple #[jo pl fe.p fe.n,.bool true]):=by unfold Hid;rw [HR.out,if_neg hf0]
   have HIDC:=He (Ep (HS.out W HB6.out) fe);go_wp2_with (refine fK rfl (.tmp 8) rfl q rfl fe H8.out ?_)
   refine HIDC.out.mono ?_;rintro e9 w9 ⟨rfl,hb9⟩;have HB9:=He (HB6.out.trans (hb9.mono HB6.out.size));have HI6:=He (kb HB9.out HID6.out);have HBR:=He (below_setRow (HB0.out.trans (HB9.out.mono HB0.out.size)) (g:=p6) HP6.out (jc pl fe.p fe.n));clear hb9 HIDC;go_wp2_with (first | (refine aI rfl (.tmp 6) (.tmp 25) rfl p6 rfl pl fe.p fe.n rfl 0 0 0 HI6.out ?_))
   refine bodyPost_ret (bF rfl _ _ p6 pl fe.p fe.n rfl (bc.set HI6.out pl fe.p fe.n)) rfl ?_;exact ⟨by rw [HE.out];rfl,HBR.out⟩
def GQ (p3 s:Nat) (dl pl:Int) (i:Nat) (v:Value) (W:World):Prop :=
 match i with
 | 0=>v=.pointer (some ⟨p3,0,none⟩)
 | 1=>v=.int .i64 dl
 | 2 | 3 | 4=>v=.pointer (some ⟨s,0,none⟩)
 | 5=>v=.int .i64 pl
 | 6 | 7 | 14=>v=.bool true
 | _=>True
def GR (p3 s g n cap:Nat) (dl da dg pl:Int) (fo:Bool) (i:Nat) (v:Value) (W:World):Prop :=
 match i with
 | 0=>v=.pointer (some ⟨p3,0,none⟩)
 | 1=>v=.int .i64 dl
 | 2 | 3 | 4 | 8 | 9=>v=.pointer (some ⟨s,0,none⟩)
 | 5=>v=.int .i64 pl
 | 6 | 7=>v=.bool false
 | 10=>v=.pointer (some ⟨s,1,none⟩)
 | 11=>v=.slice (some ⟨g,0,none⟩) n cap
 | 12=>v=jo dl da dg
 | 13 | 14=>v=.bool fo
 | _=>True
theorem Ck {w:World} {B s g n cap:Nat} {pl:Int} {b:List Bk} (h:kW w B s g n cap pl b) (h200:n<=200) (D:nA) (hD:D.Ok) :
 Calls Tryz.prog 85 #[.pointer (some ⟨s,0,none⟩),D.v] w fun e w'=>e=.returned (.bool (yH pl b D))/\Below w.heap.size w w':=by
 obtain ⟨dl,da,dg⟩:=D;have HB0:=He (aK (w:=w) (.cells #[.int .i64 dl,.int .i64 da,.int .u32 dg] 82));have hid:=bc.new w dl da dg;have HFO0:=He (fun W (hb:Below w.heap.size w W)=>uT g b n cap ⟨dl,da,dg⟩ W h.row.len h200 h.row.ok hD (h.below hb).bks);have HS0:=He (fun W hb=>h.below (W:=W) hb);obtain ⟨r,hr⟩:∃ r,r=yH pl b ⟨dl,da,dg⟩:=⟨_,rfl⟩
 rw [<- hr];have HR:Hid (r=(decide (dl≠pl)||nC b ⟨dl,da,dg⟩)):=hr;clear hr h hD;generalize nC b ⟨dl,da,dg⟩=fo at *;show Calls Tryz.prog 85 #[.pointer (some ⟨s,0,none⟩),.agg #[.int .i64 dl,.int .i64 da,.int .u32 dg]] w _;go_enter Tryz.func85,Tryz.ntmps85;go_upto_region 1 with fail
 generalize w.alloc (.cells #[.int .i64 dl,.int .i64 da,.int .u32 dg] 82)=w0 at *;obtain ⟨p3,hp3⟩:∃ p3,p3=w.heap.size:=⟨_,rfl⟩
 rw [<- hp3] at hid ⊢;have HID:Hid (∀ W,Below w0.heap.size w0 W->bc W p3 dl da dg):=fun W hb=>hid.below hb;have HS:Hid (∀ W,Below w0.heap.size w0 W->kW W B s g n cap pl b):=fun W hb=>HS0.out W (HB0.out.trans (hb.mono HB0.out.size));have HFO:Hid (∀ W,Below w0.heap.size w0 W->Calls Tryz.prog 146 #[.slice (some ⟨g,0,none⟩) n cap,.agg #[.int .i64 dl,.int .i64 da,.int .u32 dg]] W fun e w'=>e=.returned (.bool fo)/\Below W.heap.size W w'):=fun W hb=>HFO0.out W (HB0.out.trans (hb.mono HB0.out.size));have hJ0:Below w0.heap.size w0 w0.drew:=(Below.refl _ _).drew;have srefl:∀ (W:World),W.grownBy W none:=fun W=>World.grownBy.refl _ _;clear hp3 HS0 HFO0 hid;by_cases hl:dl=pl
 ·have HE:Hid (r=fo):=by unfold Hid;rw [HR.out,decide_eq_false (fun h=>h hl),Bool.false_or]
  have hlb:(dl != pl)=false:=by simp [hl]
  have hld:decide (dl=pl)=true:=decide_eq_true hl;clear hl;refine aw (GR p3 s g n cap dl da dg pl fo) (fun _ W=>Below w0.heap.size w0 W) (fun _ w w'=>w.grownBy w' none) Hc Hc (fun i j v w w' _ _ h hs=>by unfold GR at *;exact h) hJ0 ?_;clear hJ0;simp only [bW];refine ⟨?_,?_,?_,?_,?_,?_,?_,?_,?_,?_,?_,?_,?_,?_,?_,?_⟩
  ·refine aa.of rfl fun T W L hag hL hJ hLs hd=>?_;have e3:=Hf hag 3;exact Hi
  ·refine aa.of rfl fun T W L hag hL hJ hLs hd=>?_;have d5:T.getD 5 undef=_:=Hg hd 0 rfl;have fct0:=(HID.out W hJ).cells.1;exact Hi
  ·refine aa.of rfl fun T W L hag hL hJ hLs hd=>?_;have e0:=Hf hag 0;exact Hi
  ·refine aa.of rfl fun T W L hag hL hJ hLs hd=>?_;have d7:T.getD 7 undef=_:=Hg hd 2 rfl;exact Hi
  ·refine aa.of rfl fun T W L hag hL hJ hLs hd=>?_;have d8:T.getD 8 undef=_:=Hg hd 3 rfl;exact Hi
  ·refine aa.of rfl fun T W L hag hL hJ hLs hd=>?_;have d9:T.getD 9 undef=_:=Hg hd 4 rfl;have fct0:=(HS.out W hJ).c0;exact Hi
  ·refine aa.of rfl fun T W L hag hL hJ hLs hd=>?_;have d6:T.getD 6 undef=_:=Hg hd 1 rfl;have d10:T.getD 10 undef=_:=Hg hd 5 rfl;exact Hi
  ·refine aa.of rfl fun T W L hag hL hJ hLs hd=>?_;have d11:T.getD 11 undef=_:=Hg hd 6 rfl;exact Hi
  ·refine aa.want rfl rfl rfl Hc (fun v w h=>h) fun T W L hag hL hJ hLs hd=>?_;have e0:=Hf hag 0;exact Hi
  ·refine aa.want rfl rfl rfl Hc (fun v w h=>h) fun T W L hag hL hJ hLs hd=>?_;have d13:T.getD 13 undef=_:=Hg hd 8 rfl;exact Hi
  ·refine aa.want rfl rfl rfl Hc (fun v w h=>h) fun T W L hag hL hJ hLs hd=>?_;have d14:T.getD 14 undef=_:=Hg hd 9 rfl;exact Hi
  ·refine aa.want rfl rfl rfl Hc (fun v w h=>h) fun T W L hag hL hJ hLs hd=>?_;have d15:T.getD 15 undef=_:=Hg hd 10 rfl;have fct0:=(HS.out W hJ).c1;exact Hi
  ·refine aa.want rfl rfl rfl Hc (fun v w h=>h) fun T W L hag hL hJ hLs hd=>?_;have e3:=Hf hag 3;refine kM (.tmp 3) rfl p3 e3 dl da dg (HID.out W hJ) ?_;exact ⟨_,rfl,rfl,hJ,srefl _⟩
  ·refine aa.want rfl rfl rfl Hc (fun v w h=>h) fun T W L hag hL hJ hLs hd=>?_;have d16:T.getD 16 undef=_:=Hg hd 11 rfl;have d17:T.getD 17 undef=_:=Hg hd 12 rfl;clear hag hd;go_simp;refine (HFO.out W hJ).mono ?_;rintro en w' ⟨rfl,hb⟩;exact ⟨_,rfl,rfl,hJ.trans (hb.mono hJ.size),dM hb⟩
  ·refine aa.of rfl fun T W L hag hL hJ hLs hd=>?_;have d12:T.getD 12 undef=_:=Hg hd 7 rfl;have d18:T.getD 18 undef=_:=Hg hd 13 rfl;exact Hi
  ·refine bg.of rfl fun T W L hag hLs hL hJ hd=>?_;have d19:T.getD 19 undef=_:=hd 14 _ Hb rfl;obtain ⟨f,hf,hT⟩:=aH hag;have h19:=(hf 19).trans d19;have HJ:=He hJ;clear hag hd d19 hJ hf;rw [hT];clear hT;simp only [List.pop_toArray,List.dropLast_cons_cons,List.dropLast_singleton,List.filterMap_cons,List.filterMap_nil,List.foldl_cons,List.foldl_nil,List.setIfInBounds_toArray,List.set_cons_succ,List.set_cons_zero,h19];have HB6:=He HJ.out;go_wp2_with fail
   go_ret;exact ⟨aj HE.out.symm,HB0.out.trans (HB6.out.mono HB0.out.size)⟩
 ·have HE:Hid (r=true):=by unfold Hid;rw [HR.out,decide_eq_true (show dl≠pl from hl),Bool.true_or]
  have hlb:(dl != pl)=true:=by simp [hl]
  have hld:decide (dl=pl)=false:=decide_eq_false hl;clear hl;refine aw (GQ p3 s dl pl) (fun _ W=>Below w0.heap.size w0 W) (fun _ w w'=>w.grownBy w' none) Hc Hc (fun i j v w w' _ _ h hs=>by unfold GQ at *;exact h) hJ0 ?_;clear hJ0;simp only [bW];refine ⟨?_,?_,?_,?_,?_,?_,?_,?_,?_,?_,?_,?_,?_,?_,?_,?_⟩
  ·refine aa.of rfl fun T W L hag hL hJ hLs hd=>?_;have e3:=Hf hag 3;exact Hi
  ·refine aa.of rfl fun T W L hag hL hJ hLs hd=>?_;have d5:T.getD 5 undef=_:=Hg hd 0 rfl;have fct0:=(HID.out W hJ).cells.1;exact Hi
  ·refine aa.of rfl fun T W L hag hL hJ hLs hd=>?_;have e0:=Hf hag 0;exact Hi
  ·refine aa.of rfl fun T W L hag hL hJ hLs hd=>?_;have d7:T.getD 7 undef=_:=Hg hd 2 rfl;exact Hi
  ·refine aa.of rfl fun T W L hag hL hJ hLs hd=>?_;have d8:T.getD 8 undef=_:=Hg hd 3 rfl;exact Hi
  ·refine aa.of rfl fun T W L hag hL hJ hLs hd=>?_;have d9:T.getD 9 undef=_:=Hg hd 4 rfl;have fct0:=(HS.out W hJ).c0;exact Hi
  ·refine aa.of rfl fun T W L hag hL hJ hLs hd=>?_;have d6:T.getD 6 undef=_:=Hg hd 1 rfl;have d10:T.getD 10 undef=_:=Hg hd 5 rfl;exact Hi
  ·refine aa.of rfl fun T W L hag hL hJ hLs hd=>?_;have d11:T.getD 11 undef=_:=Hg hd 6 rfl;exact Hi
  ·exact aa.skip rfl rfl rfl Hc (fun v w hv=>hv) (fun W=>trivial) (fun L W hJ=>hJ)
  ·exact aa.skip rfl rfl rfl Hc (fun v w hv=>hv) (fun W=>trivial) (fun L W hJ=>hJ)
  ·exact aa.skip rfl rfl rfl Hc (fun v w hv=>hv) (fun W=>trivial) (fun L W hJ=>hJ)
  ·exact aa.skip rfl rfl rfl Hc (fun v w hv=>hv) (fun W=>trivial) (fun L W hJ=>hJ)
  ·exact aa.skip rfl rfl rfl Hc (fun v w hv=>hv) (fun W=>trivial) (fun L W hJ=>hJ)
  ·exact aa.skip rfl rfl rfl Hc (fun v w hv=>hv) (fun W=>trivial) (fun L W hJ=>hJ)
  ·refine aa.of rfl fun T W L hag hL hJ hLs hd=>?_;have d12:T.getD 12 undef=_:=Hg hd 7 rfl;have x18:=Hg hd 13 rfl;exact Hi
  ·refine bg.of rfl fun T W L hag hLs hL hJ hd=>?_;have d19:T.getD 19 undef=_:=hd 14 _ Hb rfl;obtain ⟨f,hf,hT⟩:=aH hag;have h19:=(hf 19).trans d19;have HJ:=He hJ;clear hag hd d19 hJ hf;rw [hT];clear hT;simp only [List.pop_toArray,List.dropLast_cons_cons,List.dropLast_singleton,List.filterMap_cons,List.filterMap_nil,List.foldl_cons,List.foldl_nil,List.setIfInBounds_toArray,List.set_cons_succ,List.set_cons_zero,h19];have HB6:=He HJ.out;go_wp2_with fail
   go_ret;exact ⟨aj HE.out.symm,HB0.out.trans (HB6.out.mono HB0.out.size)⟩
section
variable {w W W':World} {a b:Bool} {e:Nd} {p:Value}
end
section
variable {w W W':World} {g n cap p:Nat} {b:List Bk} {v v':Value} {tk:List Int} {nd:Nd}
end
theorem kW.ne {w:World} {B s g n cap:Nat} {b:List Bk} {A:Array Value} {fr:Nat × Nat} (hb:w.heap[s]?=some (.cells A 58 fr)) (hR:cj w B g n cap b):s≠g:=by
 rintro rfl;obtain ⟨_,h1,_⟩:=gE hR.own;rw [hb] at h1;injection h1 with h1
 injection h1 with _ h2 _
 exact absurd h2 Hd
theorem kW.put {w W:World} {B s g n cap g' cap':Nat} {pl:Int} {b b':List Bk} (h:kW w B s g n cap pl b) (hb:Below w.heap.size w W) (hR:cj W B g' n cap' b'):kW (W.setCell ⟨s,1,none⟩ (.slice (some ⟨g',0,none⟩) n cap')) B s g' n cap' pl b'/\w.grownBy (W.setCell ⟨s,1,none⟩ (.slice (some ⟨g',0,none⟩) n cap')) (some s):=by
 have hbx:=(h.below hb).box;have hg:=dM hb;refine ⟨⟨?_,hR.grown (p:=some s) ⟨rfl,rfl,rfl,Hb,fun k _ hk=>heap_setCell_other _ _ _ _ (fun e=>hk (by rw [e]))⟩ (by intro e;injection e with e;exact kW.ne hbx hR e),kW.ne hbx hR,h.sB⟩,⟨hg.os,hg.tape,hg.output,by simpa using hg.size,fun k hk hks=>?_⟩⟩
 ·exact ah hbx _
 ·rw [heap_setCell_other _ _ _ _ (fun e=>hks (by rw [e]))];exact hg.block k hk Hb
theorem kW.same {w W:World} {B s g n cap:Nat} {pl:Int} {b:List Bk} (h:kW w B s g n cap pl b) (hb:Below w.heap.size w W):kW W B s g n cap pl b/\w.grownBy W (some s):=by
 have hg:=dM hb;exact ⟨h.below hb,hg.os,hg.tape,hg.output,hg.size,fun k hk _=>hg.block k hk Hb⟩
theorem ze {o:Oper} {ac:Act} {w:World} {Q:Exit->Act->World->Prop} {K:Act->World->Prop} (x y z u:Operand) (ho:o.op=.build 168 #[(0,x),(1,y),(2,z),(3,u)]) (l a g:Int) (t:List Int) (p n:Int)
 (hx:ac.eval x=jo l a g) (hy:ac.eval y=.string (strOfNums t)) (hz:ac.eval z=.int .i64 p) (hu:ac.eval u=.int .u32 n) (h:K (ac.put o.dst (.agg (dB ⟨l,a,g,t,p,n⟩))) w):o.wp Tryz.prog ac w K Q:=by
 unfold Oper.wp execOp;have hb:=run_build (P:=Tryz.prog) w 168 #[(0,jo l a g),(1,.string (strOfNums t)),(2,.int .i64 p),(3,.int .u32 n)] _ (zY l a g t p n);simp only [ho,List.map_toArray,List.map_cons,List.map_nil,Sem.run_bind,hx,hy,hz,hu,hb,Result.andThen_ok];exact h
section
variable {ops:Array Oper} {rest:List Oper} {o:Oper} {a:Act} {w:World} {K:Act->World->Prop} {Q:Exit->Act->World->Prop}
end
def Er (g:Int) (t:List Int) (i:Nat):Nd:=⟨g,1,t.length,if 0<i then -1 else 0,if 1<i then -1 else 0,if 2<i then -1 else 0,if 3<i then -1 else 0,-1,t⟩
theorem Es (g:Int) (t:List Int) {i:Nat} (hi:i<4):(bD (Er g t i)).setIfInBounds (3+i) (.int .i64 (-1))=bD (Er g t (i+1)):=by
 obtain rfl | rfl | rfl | rfl:i=0\/i=1\/i=2\/i=3:=Ha
 all_goals rfl
theorem IU (g:Int) (t:List Int) {i:Nat} (hi:i<4):(bD (Er g t i))[3+i]?=some (.int .i64 0):=by
 obtain rfl | rfl | rfl | rfl:i=0\/i=1\/i=2\/i=3:=Ha
 all_goals rfl
theorem Et (g:Int) (t:List Int):Er g t 4=oW g t:=rfl
structure NW (w:World) (gb n capb:Nat) (b:List Bk) (p6:Nat) (dl da dg:Int) (p10 p15:Nat) (nd:Nd) (W:World):Prop where
 row:cj W w.heap.size gb n capb b
 bel:Below w.heap.size w W
 d:bc W p6 dl da dg
 r:bc W p10 0 0 0
 nd:aR W p15 nd
 h6:p6≠gb/\p6≠p15/\p6≠p10
 h10:p10≠gb/\p10≠p15/\w.heap.size<=p10
 h15:p15≠gb/\w.heap.size<=p15
section
variable {w W W':World} {gb n capb p6 p10 p15:Nat} {b b':List Bk} {dl da dg:Int} {nd:Nd}
theorem NW.below (h:NW w gb n capb b p6 dl da dg p10 p15 nd W) (hb:Below W.heap.size W W'):NW w gb n capb b p6 dl da dg p10 p15 nd W' :=
 ⟨h.row.below hb,h.bel.trans (hb.mono h.bel.size),h.d.below' hb,h.r.below' hb,h.nd.below hb,h.h6,h.h10,h.h15⟩
theorem NW.row_ (h:NW w gb n capb b p6 dl da dg p10 p15 nd W) (hR:cj W' w.heap.size gb n capb b') (hg:W.grownBy W' (some gb)):NW w gb n capb b' p6 dl da dg p10 p15 nd W' :=
 ⟨hR,h.bel.grown hg h.bel.size (fun k e=>by injection e with e;subst e;exact h.row.lt.1),bo hg h.d (fun e=>h.h6.1 (by injection e with e;exact e.symm)),bo hg h.r (fun e=>h.h10.1 (by injection e with e;exact e.symm)),bo hg h.nd (fun e=>h.h15.1 (by injection e with e;exact e.symm)),h.h6,h.h10,h.h15⟩
theorem NW.cell (h:NW w gb n capb b p6 dl da dg p10 p15 nd W) {c:Nat} {v:Value} {m:Nd} (he:(bD nd).setIfInBounds c v=bD m):NW w gb n capb b p6 dl da dg p10 p15 m (W.setCell ⟨p15,c,none⟩ v):=by
 have hg:=br W p15 c v;refine ⟨h.row.grown hg (by intro e;injection e with e;exact h.h15.1 e),h.bel.grown hg h.bel.size (fun k e=>by injection e with e;subst e;exact h.h15.2),bo hg h.d (fun e=>h.h6.2.1 (by injection e with e;exact e.symm)),bo hg h.r (fun e=>h.h10.2.1 (by injection e with e;exact e.symm)),?_,h.h6,h.h10,h.h15⟩;unfold aR;rw [<- he];exact ah h.nd v
end
theorem Gf (g l:Int) (t:ByteArray):Tryz.prog.built 137 [(0,.int .u32 g),(1,.int .i64 1),(2,.int .i64 l),(4,.int .i64 (-1)),(5,.string t)]=some #[.int .u32 g,.int .i64 1,.int .i64 l,.int .i64 0,.int .i64 0,.int .i64 0,.int .i64 0,.int .i64 (-1),.string t]:=Hc
theorem rv {ops:Array Oper} {rest:List Oper} {o:Oper} {ac:Act} {w:World} {Q:Exit->Act->World->Prop} (hgd:o.guard=none) (x y z:Operand) (ho:o.op=.build 137 #[(0,x),(1,.const (.int .i64 1)),(2,y),(4,.const (.int .i64 (-1))),(5,z)]) (g:Int) (t:List Int) (hx:ac.eval x=.int .u32 g) (hy:ac.eval y=.int .i64 (t.length:Int)) (hz:ac.eval z=.string (strOfNums t))
 (h:wpList Tryz.prog ops Q rest (ac.put o.dst (.agg (bD (Er g t 0)))) w):wpList Tryz.prog ops Q (o :: rest) ac w :=
 wpList_plain hgd fun _ hK=>by
  unfold Oper.wp execOp;have hb:=run_build (P:=Tryz.prog) w 137 #[(0,.int .u32 g),(1,.int .i64 1),(2,.int .i64 t.length),(4,.int .i64 (-1)),(5,.string (strOfNums t))] _ (Gf g t.length (strOfNums t));simp only [ho,List.map_toArray,List.map_cons,List.map_nil,hx,hy,hz,Sem.run_bind];simp only [Act.eval] at hb ⊢;rw [hb];exact hK _ _ h
theorem Cl {W:World} {p B g n cap:Nat} {l:List Bk} {a b c:Int} (h:bc W p a b c) (hR:cj W B g n cap l):p≠g:=by
 intro e;subst e;obtain ⟨cur,h1,_⟩:=gE hR.own;rw [show W.heap[p]?=_ from h] at h1;injection h1 with h1
 injection h1 with _ h1 _
 exact absurd h1 Hd
theorem kW.offRow {w W:World} {B s g n cap p:Nat} {pl:Int} {b:List Bk} {C:Array Value} (h:kW W B s g n cap pl b) (hg:w.grownBy W (some s)) (hs:s≠p) (hp:w.heap.size<=p) (hpg:p≠g):kW (W.setRow p C) B s g n cap pl b/\w.grownBy (W.setRow p C) (some s):=by
 have hgr:W.grownBy (W.setRow p C) (some p):=⟨rfl,rfl,rfl,Hb,fun k hk hne=>setRow_other W p k C (fun e=>hne (by rw [e]))⟩
 refine ⟨⟨by rw [setRow_other W p s C hs];exact h.box,h.row.grown hgr (by intro e;injection e with e;exact hpg e),h.sg,h.sB⟩,r6 hg hgr hp⟩
theorem Cm {b:List Bk} (h:DT b d0) (h2:¬ leftL b<2):∃ q:Nat,bB b []=q/\q<b.length:=by
 obtain ⟨r0,_,hr0⟩:=tu (u:=dW b) (q:=0) (by unfold leftL at h2;omega);obtain ⟨q,hq,hF,_⟩:=wU h (yJ hr0);exact ⟨q,hq,by have:=tJ b [];omega⟩
theorem Eu {b:List Bk} (h:dF b):nextM b<4294967296:=by
 unfold nextM;have hx:=ID h 0;exact i5 hx.len hx.b Ha
def mJ (nm:List Int) (dl da dg kind:Int) (t:List Int):Prop:=¬ it kind\/¬ zX nm\/¬ gj dl da dg\/(kind=3/\¬ sZ t)\/(kind≠3/\t≠[])
instance (nm:List Int) (dl da dg kind:Int) (t:List Int):Decidable (mJ nm dl da dg kind t):=by unfold mJ;infer_instance
theorem rx {w:World} {B s g n cap:Nat} {pl:Int} {b:List Bk} (h:kW w B s g n cap pl b) (h200:n<=200) (hpl:i64 pl) (hI:DT b d0) (D:nA) (hD:D.Ok) (nm:List Int) (hnm:ax nm) (hnl:nm.length<=100) (kind:Int) (hk:i64 kind) (t:List Int) (ht:ax t) (htl:t.length<=100) :
 Calls Tryz.prog 38 #[.pointer (some ⟨s,0,none⟩),D.v,.string (strOfNums nm),.int .i64 kind,.string (strOfNums t)] w fun e w'=>∃ g' cap',e=.returned (.tuple #[(DQ pl b D nm kind t).2.1.v,.int .i64 (DQ pl b D nm kind t).2.2])/\kW w' B s g' n cap' pl (DQ pl b D nm kind t).1/\w.grownBy w' (some s):=by
 have HDK:=He hD;obtain ⟨dl,da,dg⟩:=D;have hb1:Below w.heap.size w ((w.alloc (.cells #[.int .i64 dl,.int .i64 da,.int .u32 dg] 82)).alloc (.cells #[.int .i64 0,.int .i64 0,.int .u32 0] 82)):=(aK _).trans ((aK _).mono Hb);have HS0:=He h;have HI6:Hid (bc ((w.alloc (.cells #[.int .i64 dl,.int .i64 da,.int .u32 dg] 82)).alloc (.cells #[.int .i64 0,.int .i64 0,.int .u32 0] 82)) w.heap.size dl da dg):=(bc.new w dl da dg).alloc _;have hid10:=bc.new (w.alloc (.cells #[.int .i64 dl,.int .i64 da,.int .u32 dg] 82)) 0 0 0;have hsz:(w.alloc (.cells #[.int .i64 dl,.int .i64 da,.int .u32 dg] 82)).heap.size=w.heap.size+1:=Hb;rw [hsz] at hid10;have HI10:=He hid10;have HMN:=He (fun W=>ny nm W hnm hnl);have HMT:=He (fun W=>lV t W ht htl);have HDR0:=He (fun W hb=>Ck (h.below (W:=W) hb) h200 ⟨dl,da,dg⟩ hD);have HSF:=He (fun W (hb:Below w.heap.size w W)=>xv (h.below hb) h200 ⟨dl,da,dg⟩ nm hnm);have HLF:=He (fun W (hb:Below w.heap.size w W)=>yK g b n cap W h.row.len h200 h.row.ok (h.below hb).bks);have hBw:B<=w.heap.size:=by have:=h.row.lt;omega
 have h0n:0<n:=by have:=hI.len;have:=h.row.len;omega
 have HNX:=He (fun W (hb:Below w.heap.size w W)=>ru g b n cap W h.row.len h0n h200 h.row.ok (h.below hb).bks);have HF2:=He (Cm hI);have HNL:=He (Eu h.row.ok);have HLEN:=He h.row.len;have HBOK:=He h.row.ok;obtain ⟨r,hr⟩:∃ r,r=DQ pl b ⟨dl,da,dg⟩ nm kind t:=⟨_,rfl⟩
 rw [<- hr];have HR:Hid (r=if mJ nm dl da dg kind t then (b,⟨0,0,0⟩,1)
  else if yH pl b ⟨dl,da,dg⟩=false then (b,⟨0,0,0⟩,2)
  else if 0<=dA ⟨dl,da,dg⟩ nm b then (b,⟨0,0,0⟩,4)
  else if leftL b<2\/nextM b=4294967295 then (b,⟨0,0,0⟩,9)
  else ((pd (fX (qT b (bB b []) (jE kind (oW (nextM b) t))) (nextM b+1)) ⟨dl,da,dg,nm,bB b [],nextM b⟩).1,⟨pl,bB b [],nextM b⟩,0)):=hr
 clear hr h hI hD hid10 hsz;show Calls Tryz.prog 38 #[.pointer (some ⟨s,0,none⟩),.agg #[.int .i64 dl,.int .i64 da,.int .u32 dg],.string (strOfNums nm),.int .i64 kind,.string (strOfNums t)] w _;go_enter Tryz.func38,Tryz.ntmps38;go_upto_region 1 with fail
 have HB0:=He hb1;clear hb1;generalize (w.alloc (.cells #[.int .i64 dl,.int .i64 da,.int .u32 dg] 82)).alloc (.cells #[.int .i64 0,.int .i64 0,.int .u32 0] 82)=w0 at *;obtain ⟨p6,hp6⟩:∃ p6,p6=w.heap.size:=⟨_,rfl⟩
 obtain ⟨p10,hp10⟩:∃ p10,p10=w.heap.size+1:=⟨_,rfl⟩
 rw [<- hp10] at HI10 ⊢;rw [<- hp6] at HI6 ⊢;have H610:Hid (p6≠p10/\w.heap.size<=p10):=⟨Ha,Ha⟩
 clear hp6 hp10;obtain ⟨bad,hbad⟩:∃ bad,bad=decide (mJ nm dl da dg kind t):=⟨_,rfl⟩
 have HBAD:=He hbad;clear hbad;have HB0':Hid (∀ v,v=Value.bool true->mJ nm dl da dg kind t->v=.bool bad):=fun v h1 h2=>by rw [h1,HBAD.out,decide_eq_true h2]
 have HB1':Hid (∀ v,v=Value.bool false->¬ mJ nm dl da dg kind t->v=.bool bad):=fun v h1 h2=>by rw [h1,HBAD.out,decide_eq_false h2]
 have HIS:=He (qW kind w0);have HMI:=He (ot dl da dg w0)
 go_cut [47] (fun v wx=>v=.bool bad/\Hid (Below w0.heap.size w0 wx))
 case first =>
  by_cases h1:it kind
  case neg =>
   rw [decide_eq_false h1] at HIS;go_wp2_with fail
   refine HIS.out.mono ?_;rintro e w2 ⟨rfl,rfl⟩;go_wp2_with fail
   go_meet
   case rel=>exact ⟨HB0'.out _ rfl (.inl h1),Below.refl _ _⟩
  rw [decide_eq_true h1] at HIS;go_wp2_with fail
  refine HIS.out.mono ?_;rintro e w2 ⟨rfl,rfl⟩;by_cases h2:zX nm
  case neg =>
   have HM1:=He (HMN.out w0);rw [decide_eq_false h2] at HM1;go_wp2_with fail
   refine HM1.out.mono ?_;rintro e w2 ⟨rfl,rfl⟩;go_wp2_with fail
   go_meet
   case rel=>exact ⟨HB0'.out _ rfl (.inr (.inl h2)),Below.refl _ _⟩
  have HM1:=He (HMN.out w0);rw [decide_eq_true h2] at HM1;go_wp2_with fail
  refine HM1.out.mono ?_;rintro e w2 ⟨rfl,rfl⟩;go_wp2_with (refine hH Hl (.tmp 6) rfl p6 rfl dl da dg HI6.out ?_)
  by_cases h3:gj dl da dg
  case neg =>
   rw [decide_eq_false h3] at HMI;refine HMI.out.mono ?_;rintro e w2 ⟨rfl,hb2⟩;have HB2:=He hb2;clear hb2;go_wp2_with fail
   go_meet
   case rel=>exact ⟨HB0'.out _ rfl (.inr (.inr (.inl h3))),HB2.out⟩
  rw [decide_eq_true h3] at HMI;refine HMI.out.mono ?_;rintro e w2 ⟨rfl,hb2⟩;have HB2:=He hb2;clear hb2;have hst:=ul ht;by_cases h4:kind=3
  ·subst h4;by_cases h5:sZ t
   ·have HM2:=He (HMT.out w2);rw [decide_eq_true h5] at HM2;go_wp2_with fail
    refine HM2.out.mono ?_;rintro e w3 ⟨rfl,rfl⟩;go_wp2_with fail
    go_meet
    case rel=>exact ⟨HB1'.out _ rfl (fun h=>h.elim (fun h=>h h1) fun h=>h.elim (fun h=>h h2) fun h=>h.elim (fun h=>h h3) fun h=>h.elim (fun h=>h.2 h5) (fun h=>h.1 rfl)),HB2.out⟩
   ·have HM2:=He (HMT.out w2);rw [decide_eq_false h5] at HM2;go_wp2_with fail
    refine HM2.out.mono ?_;rintro e w3 ⟨rfl,rfl⟩;go_wp2_with fail
    go_meet
    case rel=>exact ⟨HB0'.out _ rfl (.inr (.inr (.inr (.inl ⟨rfl,h5⟩)))),HB2.out⟩
  ·have hk3:(kind==3)=false:=beq_eq_false_iff_ne.2 h4;have hk4:(kind != 3)=true:=bne_iff_ne.2 h4;have hk5:decide (kind=3)=false:=decide_eq_false h4;by_cases h5:t=[]
   ·subst h5;go_wp2_with fail
    go_meet
    case rel=>exact ⟨HB1'.out _ rfl (fun h=>h.elim (fun h=>h h1) fun h=>h.elim (fun h=>h h2) fun h=>h.elim (fun h=>h h3) fun h=>h.elim (fun h=>h4 h.1) (fun h=>h.2 rfl)),HB2.out⟩
   ·have hse:((strOfNums t).toList==[])=false:=by rw [hst];exact decide_eq_false h5
    go_wp2_with fail
    go_meet
    case rel=>exact ⟨HB0'.out _ rfl (.inr (.inr (.inr (.inr ⟨h4,h5⟩)))),HB2.out⟩
 case rest =>
 obtain ⟨e47,HBX⟩:=hcut;subst e47;have HB1:=He (HB0.out.trans (HBX.out.mono HB0.out.size));have HI61:=He (HI6.out.below' HBX.out);have HI101:=He (HI10.out.below' HBX.out);clear HB0' HB1' HIS HMI HMN HMT HBX HI6 HI10 HB0;generalize wc=w1 at *;by_cases hb:mJ nm dl da dg kind t
 case pos =>
  have HE:Hid (r=(b,⟨0,0,0⟩,1)):=by unfold Hid;rw [HR.out,if_pos hb]
  obtain rfl:bad=true:=by rw [HBAD.out];exact decide_eq_true hb
  have h:=HS0.out.same (below_setRow HB1.out (g:=p10) H610.out.2 (jc 0 0 0));go_wp2_with (first | (refine aI rfl (.tmp 10) (.tmp 48) rfl p10 rfl 0 0 0 rfl 0 0 0 HI101.out ?_))
  refine bodyPost_ret (bF rfl _ _ p10 0 0 0 rfl (bc.set HI101.out 0 0 0)) rfl ?_;rw [HE.out];exact ⟨g,cap,rfl,h⟩
 obtain rfl:bad=false:=by rw [HBAD.out];exact decide_eq_false hb
 have HR1:Hid (r=if yH pl b ⟨dl,da,dg⟩=false then (b,⟨0,0,0⟩,2)
  else if 0<=dA ⟨dl,da,dg⟩ nm b then (b,⟨0,0,0⟩,4)
  else if leftL b<2\/nextM b=4294967295 then (b,⟨0,0,0⟩,9)
  else ((pd (fX (qT b (bB b []) (jE kind (oW (nextM b) t))) (nextM b+1)) ⟨dl,da,dg,nm,bB b [],nextM b⟩).1,⟨pl,bB b [],nextM b⟩,0)):=by unfold Hid;rw [HR.out,if_neg hb]
 have HKD:Hid (it kind):=Classical.byContradiction fun h=>hb (.inl h);clear HR hb HBAD;go_upto_region 3 with fail
 have HDR:=He (HDR0.out w1 HB1.out);go_wp2_with (refine gK rfl (.tmp 6) rfl p6 rfl dl da dg HI61.out ?_)
 refine HDR.out.mono ?_;by_cases hdr:yH pl b ⟨dl,da,dg⟩=false
 case pos =>
  rw [hdr];rintro e w3 ⟨rfl,hb3⟩;have HE:Hid (r=(b,⟨0,0,0⟩,2)):=by unfold Hid;rw [HR1.out,if_pos hdr]
  have HB3:=He (HB1.out.trans (hb3.mono HB1.out.size));have HI103:=He (HI101.out.below' hb3);clear hb3;have h:=HS0.out.same (below_setRow HB3.out (g:=p10) H610.out.2 (jc 0 0 0));go_wp2_with (first | (refine aI rfl (.tmp 10) (.tmp 53) rfl p10 rfl 0 0 0 rfl 0 0 0 HI103.out ?_))
  refine bodyPost_ret (bF rfl _ _ p10 0 0 0 rfl (bc.set HI103.out 0 0 0)) rfl ?_;rw [HE.out];exact ⟨g,cap,rfl,h⟩
 have hdt:yH pl b ⟨dl,da,dg⟩=true:=by simpa using hdr
 rw [hdt];rintro e w3 ⟨rfl,hb3⟩;have HR2:Hid (r=if 0<=dA ⟨dl,da,dg⟩ nm b then (b,⟨0,0,0⟩,4)
  else if leftL b<2\/nextM b=4294967295 then (b,⟨0,0,0⟩,9)
  else ((pd (fX (qT b (bB b []) (jE kind (oW (nextM b) t))) (nextM b+1)) ⟨dl,da,dg,nm,bB b [],nextM b⟩).1,⟨pl,bB b [],nextM b⟩,0)):=by unfold Hid;rw [HR1.out,if_neg hdr]
 have HB3:=He (HB1.out.trans (hb3.mono HB1.out.size));have HI63:=He (HI61.out.below' hb3);have HI103:=He (HI101.out.below' hb3);clear hb3 HR1 HB1 HI61 HI101 HDR HDR0 hdr hdt;have HSF3:=He (HSF.out w3 HB3.out);go_upto_region 5 with fail
 go_wp2_with (refine gK rfl (.tmp 6) rfl p6 rfl dl da dg HI63.out ?_)
 refine HSF3.out.mono ?_;by_cases hfi:0<=dA ⟨dl,da,dg⟩ nm b
 case pos =>
  rw [if_neg Ha];rintro e w4 ⟨rfl,hb4⟩;have HE:Hid (r=(b,⟨0,0,0⟩,4)):=by unfold Hid;rw [HR2.out,if_pos hfi]
  generalize gO ⟨dl,da,dg⟩ nm b=fe at *;generalize dA ⟨dl,da,dg⟩ nm b=fi at *;have hidn:=bc.new w4 0 0 0;have hb5:Below w3.heap.size w3 ((w4.alloc (.cells #[.int .i64 0,.int .i64 0,.int .u32 0] 82)).setRow w4.heap.size (jc pl fe.p fe.n)):=hb4.trans ((below_setRow (aK _) (Nat.le_refl _) _).mono hb4.size);have HB5:=He (HB3.out.trans (hb5.mono HB3.out.size));have HI105:=He (HI103.out.below' hb5);clear hb4 hb5 HB3 HI63 HI103;go_upto_region 6 with (first | (refine aI rfl (.tmp 12) (.tmp 59) rfl w4.heap.size rfl pl fe.p fe.n rfl 0 0 0 hidn ?_))
  have h:=HS0.out.same (below_setRow HB5.out (g:=p10) H610.out.2 (jc 0 0 0));clear hidn;generalize (w4.alloc (.cells #[.int .i64 0,.int .i64 0,.int .u32 0] 82)).setRow w4.heap.size (jc pl fe.p fe.n)=w5 at *;go_wp2_with (first | (refine aI rfl (.tmp 10) (.tmp 62) rfl p10 rfl 0 0 0 rfl 0 0 0 HI105.out ?_))
  refine bodyPost_ret (bF rfl _ _ p10 0 0 0 rfl (bc.set HI105.out 0 0 0)) rfl ?_;rw [HE.out];exact ⟨g,cap,rfl,h⟩
 rw [if_pos Ha];rintro e w4 ⟨rfl,hb4⟩;have HR3:Hid (r=if leftL b<2\/nextM b=4294967295 then (b,⟨0,0,0⟩,9)
  else ((pd (fX (qT b (bB b []) (jE kind (oW (nextM b) t))) (nextM b+1)) ⟨dl,da,dg,nm,bB b [],nextM b⟩).1,⟨pl,bB b [],nextM b⟩,0)):=by unfold Hid;rw [HR2.out,if_neg hfi]
 have hidn:=bc.new w4 0 0 0;have hb5:Below w3.heap.size w3 ((w4.alloc (.cells #[.int .i64 0,.int .i64 0,.int .u32 0] 82)).setRow w4.heap.size (jc 0 0 0)):=hb4.trans ((below_setRow (aK _) (Nat.le_refl _) _).mono hb4.size);have HB5:=He (HB3.out.trans (hb5.mono HB3.out.size));have HI65:=He (HI63.out.below' hb5);have HI105:=He (HI103.out.below' hb5);clear hb4 hb5 HB3 HI63 HI103 HSF HSF3 HR2 hfi;go_upto_region 6 with (first | (refine aI rfl (.tmp 12) (.tmp 59) rfl w4.heap.size rfl 0 0 0 rfl 0 0 0 hidn ?_))
 clear hidn;generalize (w4.alloc (.cells #[.int .i64 0,.int .i64 0,.int .u32 0] 82)).setRow w4.heap.size (jc 0 0 0)=w5 at *;have c1:=(HS0.out.below HB5.out).c1;have HLF5:=He (HLF.out w5 HB5.out);go_wp2_with fail
 refine HLF5.out.mono ?_;rintro e w6 ⟨rfl,hb6⟩;have HB6:=He (HB5.out.trans (hb6.mono HB5.out.size));have HI66:=He (HI65.out.below' hb6);have HI106:=He (HI105.out.below' hb6);clear hb6 HB5 HI65 HI105 HLF HLF5 c1;have HQ2:Hid (¬ leftL b<2->∃ q:Nat,bB b []=q/\q<b.length):=HF2;have HLL:Hid (leftL b<=200):=by
  unfold Hid leftL;have h1:(dW b).count false<=(dW b).length:=List.count_le_length;have h2:(dW b).length=b.length:=bL b _;have:=HLEN.out;omega
 have hll:=HLL.out;generalize leftL b=lf at *;have c1:=(HS0.out.below HB6.out).c1;by_cases hl2:lf<2
 case pos =>
  have hl2d:decide ((lf:Int)<2)=true:=decide_eq_true Ha;have hl2n:decide (lf<2)=true:=decide_eq_true hl2;have HE:Hid (r=(b,⟨0,0,0⟩,9)):=by unfold Hid;rw [HR3.out,if_pos (.inl hl2)]
  have h:=HS0.out.same (below_setRow HB6.out (g:=p10) H610.out.2 (jc 0 0 0));go_wp2_with (first | (refine aI rfl (.tmp 10) (.tmp 77) rfl p10 rfl 0 0 0 rfl 0 0 0 HI106.out ?_))
  refine bodyPost_ret (bF rfl _ _ p10 0 0 0 rfl (bc.set HI106.out 0 0 0)) rfl ?_;rw [HE.out];exact ⟨g,cap,rfl,h⟩
 have hl2d:decide ((lf:Int)<2)=false:=decide_eq_false Ha;have hl2n:decide (lf<2)=false:=decide_eq_false hl2;have HNX6:=He (HNX.out w6 HB6.out);obtain ⟨q,hq,hqn⟩:=HQ2.out hl2;have hqn:q<n:=by rw [<- HLEN.out];exact hqn
 have HNLT:=HNL;generalize hnx:nextM b=nx at *;have HNXE:=He hnx;clear hnx;go_wp2_with fail
 refine HNX6.out.mono ?_;rintro e w7 ⟨rfl,rfl⟩;by_cases hnm2:nx=4294967295
 case pos =>
  have HE:Hid (r=(b,⟨0,0,0⟩,9)):=by unfold Hid;rw [HR3.out,if_pos (.inr hnm2)]
  have hx1:((nx:Int)==4294967295)=true:=by rw [hnm2];rfl
  have hx2:decide ((nx:Int)=4294967295)=true:=decide_eq_true Ha;have h:=HS0.out.same (below_setRow HB6.out (g:=p10) H610.out.2 (jc 0 0 0));clear hnm2;go_wp2_with (first | (refine aI rfl (.tmp 10) (.tmp 77) rfl p10 rfl 0 0 0 rfl 0 0 0 HI106.out ?_))
  refine bodyPost_ret (bF rfl _ _ p10 0 0 0 rfl (bc.set HI106.out 0 0 0)) rfl ?_;rw [HE.out];exact ⟨g,cap,rfl,h⟩
 have hx1:((nx:Int)==4294967295)=false:=beq_eq_false_iff_ne.2 Ha;have hx2:decide ((nx:Int)=4294967295)=false:=decide_eq_false Ha;have hnlt:nx<4294967295:=by have:=HNLT.out;omega
 have HE:Hid (r=((pd (fX (b.set q (jE kind (oW nx t))) (nx+1)) ⟨dl,da,dg,nm,q,nx⟩).1,⟨pl,q,nx⟩,0)):=by
  unfold Hid;rw [HR3.out,if_neg (fun h=>h.elim hl2 hnm2),hq,wV]
 clear HR3 hl2 hnm2 HNX6 HNX HNLT HLL hll HQ2 HF2 HNL c1;go_upto_region 10 with fail
 clear hl2d hl2n hx1 hx2;have cA:(w6.alloc (.cells #[] 37)).cell? ⟨s,1,none⟩=some (.slice (some ⟨g,0,none⟩) n cap):=((HS0.out.below HB6.out).below (aK _)).c1;go_upto_region 11 with (first
  | (at_builtin
     refine kV (w0:=w) rfl (.tmp 78) (.tmp 82) rfl w6.heap.size rfl (heap_alloc_new w6 _) ((HB6.out).alloc HB6.out.size _) HB6.out.size g n cap b rfl HLEN.out h0n h200 HBOK.out ((HS0.out.below ((HB6.out).alloc HB6.out.size _)).bks) ?_;intro gb capb w8 hrow hb8 hkp;have HROW:=He hrow;have HB8:=He hb8;have hk6:=He (hkp p6 _ (by have:=ai HI66.out;omega) (kb (aK _) HI66.out));have hk10:=He (hkp p10 _ (by have:=ai HI106.out;omega) (kb (aK _) HI106.out));clear hrow hb8 hkp))
 clear cA HB6 HI66 HI106;have HNX8:=He (ru gb b n capb w8 HLEN.out h0n h200 HBOK.out HROW.out.bks);rw [HNXE.out] at HNX8;go_wp2_with fail
 refine HNX8.out.mono ?_;rintro e w9 ⟨rfl,rfl⟩;have hndn:=aR.new w8 nd0;have htc:(strOfNums t).size=t.length:=strOfNums_size t;go_upto_region 12 with (first | (refine rv rfl (.tmp 85) (.tmp 87) (.tmp 88) rfl nx t rfl rfl rfl ?_) | (refine bA rfl rfl ?_) | (refine aL rfl (.tmp 15) (.tmp 89) rfl w8.heap.size rfl (Er nx t 0) nd0 rfl hndn ?_))
 have hbb:Below w8.heap.size w8 ((w8.alloc (.cells (bD nd0) 137)).setRow w8.heap.size (bD (Er nx t 0))):=below_setRow (aK _) (Nat.le_refl _) _;have HW:Hid (NW w gb n capb b p6 dl da dg p10 w8.heap.size (Er nx t 0) ((w8.alloc (.cells (bD nd0) 137)).setRow w8.heap.size (bD (Er nx t 0)))) :=
  ⟨HROW.out.below hbb,HB8.out.trans (hbb.mono HB8.out.size),kb hbb hk6.out.1,kb hbb hk10.out.1,hndn.set _,⟨hk6.out.2,by have:=ai hk6.out.1;omega,H610.out.1⟩,⟨hk10.out.2,by have:=ai hk10.out.1;omega,H610.out.2⟩,⟨by have:=HROW.out.lt;omega,HB8.out.size⟩⟩
 clear hbb hndn HROW HB8 hk6 hk10 HNX8;generalize (w8.alloc (.cells (bD nd0) 137)).setRow w8.heap.size (bD (Er nx t 0))=w10 at *;generalize w8.heap.size=p15 at *;go_wp2_with fail
 go_loopw [16] (fun i wr=>∃ k:Nat,k<=4/\i=.int .i64 k/\Hid (NW w gb n capb b p6 dl da dg p10 p15 (Er nx t k) wr)) (fun i _=>4-(intOf i).toNat)
 case atStart=>exact ⟨0,Ha,rfl,HW⟩
 case round =>
  obtain ⟨k,hk4,rfl,HWk⟩:=hrel;clear HW;by_cases hlt:k<4
  ·have hki:(k:Int)<4:=Ha;have hkn:decide (4<=k)=false:=decide_eq_false Ha;have hfz:=az HWk.out.nd (3+k);have hcx:wr.cell? ⟨p15,3+k,none⟩=some (.int .i64 0):=by rw [af HWk.out.nd];exact IU nx t hlt
   have HWn:=He (HWk.out.cell (Es nx t hlt));go_wp2_with fail
   go_roundw
   case rel=>exact ⟨k+1,Ha,by go_num,HWn⟩
   case measure=>simp [intOf];omega
  ·obtain rfl:k=4:=Ha;rw [Et] at HWk;obtain ⟨w11,hw11⟩:∃ w11,w11=wr:=⟨wr,rfl⟩
   go_upto_region 16 with fail
   have HFS:=He (oX gb b n capb none [] 0 0 wr HLEN.out h200 HBOK.out HWk.out.row.bks rfl Ha (fun i x h=>by cases h) (fun t h=>by cases h));rw [hq] at HFS;go_wp2_with fail
   refine HFS.out.mono ?_;rintro e w12 ⟨rfl,hb12⟩;have HW2:=He (HWk.out.below hb12);clear hb12 HFS HWk hw11 w11;have hno:mw (oW nx t):=IF Ha ht htl;have HPN:=He (s8 kind (oW nx t) w12 hno htl);go_wp2_with (refine aU rfl (.tmp 15) rfl p15 rfl (oW nx t) HW2.out.nd ?_)
   refine HPN.out.mono ?_;rintro e w13 ⟨rfl,hb13⟩;have HW3:=He (HW2.out.below hb13);clear hb13 HPN HW2;have H56:Hid ((cT kind (oW nx t)).length=56):=ly;have HTH:=He (HW3.out.row.there (i:=q) hqn);have hqi:(q:Int)<n:=Ha;have hqd:decide (n<=q)=false:=decide_eq_false Ha;obtain ⟨xq,hxq⟩:∃ x,b[q]?=some x:=⟨_,List.getElem?_eq_getElem (by rw [HLEN.out];exact hqn)⟩
   have HXQ:=He hxq;clear hxq hno;have HYK:Hid ((jE kind (oW nx t)).Ok):=Ae (by have:=HKD.out;unfold it at this;omega) ht;go_upto_region 18 with (first
    | (refine wpList_store_mid rfl 37 (.tmp 107) (.tmp 105) rfl gb (q*57) (ab (dV kind (oW nx t)) (cT kind (oW nx t))) rfl rfl (by rw [aN H56.out];exact HTH.out) (by rw [aN H56.out];exact cO) (jL _ _) ?_))
   rw [bp];have HW4:Hid (NW w gb n capb (b.set q (jE kind (oW nx t))) p6 dl da dg p10 p15 (oW nx t) (w13.setCells gb (q*57) (blkL (dV kind (oW nx t)) (cT kind (oW nx t))))):=HW3.out.row_ (HW3.out.row.setB (y:=jE kind (oW nx t)) HXQ.out HYK.out) (cE gb _ _ _);clear HTH HW3 HXQ HYK;generalize w13.setCells gb (q*57) (blkL (dV kind (oW nx t)) (cT kind (oW nx t)))=w14 at *;generalize b.set q (jE kind (oW nx t))=b1 at *;have cg:=HW4.out.nd.cells.1;have hw1:IntKind.u32.wrap ((nx:Int)+1)=((nx+1:Nat):Int):=by rw [IntKind.wrap_u32];omega
   have hw1':IntKind.u32.wrap ((oW nx t).g+1)=((nx+1:Nat):Int):=hw1;have HSN:=He (se w.heap.size gb n capb b1 (nx+1) w14 HW4.out.row h0n h200 Ha);go_wp2_with fail
   refine HSN.out.mono ?_;rintro e w15 ⟨rfl,hR15,hg15⟩;have HW5:=He (HW4.out.row_ hR15 hg15);clear hR15 hg15 HSN HW4 cg hw1 hw1';generalize fX b1 (nx+1)=b2 at *;have cg:=HW5.out.nd.cells.1;have hEO:DK ⟨dl,da,dg,nm,q,nx⟩:=⟨HDK.out.l,HDK.out.a,HDK.out.g,hnm,(by show nm.length<=_;omega),⟨by show (-2 ^ 63:Int)<=(q:Int);omega,by show (q:Int)<=2 ^ 63;omega⟩,⟨by show (0:Int)<=(nx:Int);omega,by show (nx:Int)<=4294967295;omega⟩⟩
   have HAD:=He (Cj w.heap.size gb n capb b2 ⟨dl,da,dg,nm,q,nx⟩ w15 HW5.out.row HW5.out.bel.size h0n h200 hEO hnl);clear hEO;go_wp2_with (first
    | (refine gK rfl (.tmp 6) rfl p6 rfl dl da dg HW5.out.d ?_)
    | (refine wpList_plain rfl fun _ hK=>ze (.tmp 116) (.tmp 117) (.tmp 118) (.tmp 120) rfl dl da dg nm q nx rfl rfl rfl rfl (hK _ _ ?_)))
   refine HAD.out.mono ?_;rintro e w16 ⟨g',cap',rfl,hR16,_,hb16⟩;have HB16:=He (HW5.out.bel.trans (hb16.mono HW5.out.bel.size));have HR16:=He (kb hb16 HW5.out.r);have HN16:=He (kb hb16 HW5.out.nd);have HST:=He (HS0.out.put HB16.out (hR16.mono hBw));have hbx:=(HS0.out.below HB16.out).c1;have hfz:=(HS0.out.below HB16.out).f 1;have hs10:s≠p10:=fun e=>by have:=HW5.out.h10.2.2;have:=ai HS0.out.box;omega
   have hs15:s≠p15:=fun e=>by have:=HW5.out.h15.2;have:=ai HS0.out.box;omega
   have hp10w:=HW5.out.h10.2.2;have hpg:p10≠g':=Cl HR16.out hR16;clear hR16 hb16 HAD HW5 cg;go_upto_region 20 with fail
   generalize hW17:w16.setCell ⟨s,1,none⟩ (.slice (some ⟨g',0,none⟩) n cap')=W17 at *;have HR17:Hid (bc W17 p10 0 0 0):=by unfold Hid bc;rw [<- hW17,heap_setCell_other _ _ _ _ (fun e=>hs10 (by rw [e]))];exact HR16.out
   have HN17:Hid (aR W17 p15 (oW nx t)):=by unfold Hid aR;rw [<- hW17,heap_setCell_other _ _ _ _ (fun e=>hs15 (by rw [e]))];exact HN16.out
   have q0:W17.drew.cell? ⟨s,0,none⟩=some (.int .i64 pl):=HST.out.1.c0;have q1:W17.drew.cell? ⟨p15,0,none⟩=some (.int .u32 (nx:Int)):=HN17.out.cells.1;have HR18:Hid (bc W17.drew p10 0 0 0):=HR17.out;have HS18:Hid (kW W17.drew B s g' n cap' pl (pd b2 ⟨dl,da,dg,nm,q,nx⟩).1/\w.grownBy W17.drew (some s)):=⟨HST.out.1.below (Below.refl _ _).drew,HST.out.2.os,HST.out.2.tape,HST.out.2.output,HST.out.2.size,HST.out.2.block⟩
   clear hbx hfz hW17 HR17 HN17 HST
   go_still_tail 8,Hc
   change wpList _ _ _ _ _ W17.drew;clear q0 q1;generalize W17.drew=W18 at *;have HF:Hid (kW (W18.setRow p10 (jc pl q nx)) B s g' n cap' pl (pd b2 ⟨dl,da,dg,nm,q,nx⟩).1/\w.grownBy (W18.setRow p10 (jc pl q nx)) (some s)):=HS18.out.1.offRow HS18.out.2 hs10 hp10w hpg;go_wp2_with (refine aI rfl (.tmp 10) (.tmp 134) rfl p10 rfl pl q nx rfl 0 0 0 HR18.out ?_)
   refine bodyPost_ret (bF rfl _ _ p10 pl q nx rfl (bc.set HR18.out pl q nx)) rfl ?_;rw [HE.out];exact ⟨g',cap',rfl,HF.out⟩
theorem uU (a:Addr) (i:Nat):(a.add i).block=a.block:=by unfold Addr.add;split <;> rfl
section
variable {w0 W W':World} {pb:Nat} {A:Option Addr} {bs:List Int} {c nn N:Nat}
end
end Go.Proofs.YtegjelaejbacnaaGreat
