/- For FileLong: contracts and facts, part 18. -/
import Derived.Test.YtegjelaejbacnaaGreatL11
import Derived.Test.YtegjelaejbacnaaGreatL15
import Derived.Test.YtegjelaejbacnaaGreatL16
import Derived.Test.YtegjelaejbacnaaGreatL17
set_option maxRecDepth 100000
set_option maxHeartbeats 25600000
set_option linter.unusedVariables false
open Go.ChangeShapes Go.WideShapes Go.ChangeAt Go.RowKit
namespace Go.Proofs.YtegjelaejbacnaaGreat
structure Gu (w:World) (p:Nat) (n:En) (W:World):Prop where
 bel:Below p w W
 sz:p+1+1<=W.heap.size
 at_:bS W p n
 res:W.heap[p+1]?=some (.cells (ab 0 az) 37 (0,0))
section
variable {w W W':World} {p:Nat} {n:En}
theorem Gu.below (h:Gu w p n W) (a:Below W.heap.size W W'):Gu w p n W' :=
 ⟨h.bel.trans (a.mono (by have:=h.sz;omega)),Nat.le_trans h.sz a.size,h.at_.below a,kb a h.res⟩
theorem Gu.grown {r:Option Nat} (h:Gu w p n W) (a:W.grownBy W' r) (b:∀ j,r=some j->p<=j) (c:r≠some p) (d:r≠some (p+1)):Gu w p n W' :=
 ⟨h.bel.grown a (by have:=h.sz;omega) b,Nat.le_trans h.sz a.size,h.at_.grown a c,by rw [a.block _ (by have:=h.sz;omega) (fun e=>d e.symm)];exact h.res⟩
end
def Ks (p:Nat) (n:En) (i:Nat) (v:Value) (W:World):Prop :=
 match i with
 | 0=>v=.pointer (some ⟨p,0,none⟩)
 | 1=>v=jO n.l n.a n.g
 | 3=>v=.pointer (some ⟨p,4,none⟩)
 | 4=>v=.int .i64 n.p
 | 5=>v=.int .u64 n.p
 | 8=>v=.pointer (some ⟨p,5,none⟩)
 | 9=>v=.int .u32 n.n
 | 10=>v=.int .u64 n.n
 | 2=>W.ownsRow (p+1+1) 5 1 v 7 (Bs (wG n.l n.a n.g))
 | 6=>aD W (p+1+1) v (be n.p.toNat 2)
 | 7=>W.ownsRow (p+1+1) 5 1 v 9 (Bs (wG n.l n.a n.g++be n.p.toNat 2))
 | 11=>aD W (p+1+1) v (be n.n.toNat 4)
 | 12=>W.ownsRow (p+1+1) 5 1 v 13 (Bs (rT n))
 | _=>True
def LO (i:Nat) (w w':World):Prop:=if i=7 then bV 7 9 w w' else if i=12 then bV 9 13 w w' else w.grownBy w' none
theorem Ks.on {p:Nat} {n:En} {i j:Nat} {v:Value} {w w':World} (c:i≠j) (d:¬ (i=7/\j=12)) (h:Ks p n j v w) (a:LO i w w'):Ks p n j v w':=by
 unfold LO at a;by_cases e:i=7
 ·rw [if_pos e] at a;unfold Ks at *;split <;> try exact h
  ·exact iL h a Hd
  ·exact aD.keep h a (by rw [au];decide)
  ·exact absurd e c
  ·exact aD.keep h a (by rw [au];decide)
  ·exact absurd ⟨e,rfl⟩ d
  ·trivial
 ·rw [if_neg e] at a;by_cases b:i=12
  ·rw [if_pos b] at a;unfold Ks at *;split <;> try exact h
   ·exact iL h a Hd
   ·exact aD.keep h a (by rw [au];decide)
   ·exact iL h a Hd
   ·exact aD.keep h a (by rw [au];decide)
   ·exact absurd b c
   ·trivial
  ·rw [if_neg b] at a;unfold Ks at *;split <;> try exact h
   ·exact World.ownsRow.kept h a (by cases v.ownBlock <;> simp)
   ·exact aD.grown h a
   ·exact World.ownsRow.kept h a (by cases v.ownBlock <;> simp)
   ·exact aD.grown h a
   ·exact World.ownsRow.kept h a (by cases v.ownBlock <;> simp)
   ·trivial
structure yk (w:World) (p:Nat) (n:En) (v6:Value) (b7 b12:Bool) (W:World):Prop where
 bel:Below p w W
 sz:p+1+1<=W.heap.size
 at_:bS W p n
 row:b7=false->W.ownsRow (p+1+1) 5 1 v6 13 (Bs (rT n))
 res0:b12=false->W.heap[p+1]?=some (.cells (ab 0 az) 37 (0,0))
 res1:b12=true->W.heap[p+1]?=some (.cells (ab 6 (bH (cU n))) 37 (0,0))
section
variable {w W W':World} {p:Nat} {n:En} {v6:Value} {b7 b12:Bool}
theorem yk.below (h:yk w p n v6 b7 b12 W) (a:Below W.heap.size W W'):yk w p n v6 b7 b12 W' :=
 ⟨h.bel.trans (a.mono (by have:=h.sz;omega)),Nat.le_trans h.sz a.size,h.at_.below a,fun e=>ic (h.row e) a,fun e=>kb a (h.res0 e),fun e=>kb a (h.res1 e)⟩
theorem yk.alloc (h:yk w p n v6 b7 b12 W) (o:Obj):yk w p n v6 b7 b12 (W.alloc o):=h.below (aM o)
theorem yk.push {r:Option Nat} (h:yk w p n v6 b7 b12 W) (b:W.grownBy W' r) (a:∀ j,r=some j->p+1+1<=j):yk w p n v6 true b12 W':=by
 have c:r≠some (p+1):=fun e=>by have:=a _ e;omega
 exact ⟨h.bel.grown b (by have:=h.sz;omega) (fun j e=>by have:=a j e;omega),Nat.le_trans h.sz b.size,h.at_.grown b (fun e=>by have:=a _ e;omega),(fun e=>by cases e),(fun e=>by rw [b.block _ (by have:=h.sz;omega) (fun e=>c e.symm)];exact h.res0 e),(fun e=>by rw [b.block _ (by have:=h.sz;omega) (fun e=>c e.symm)];exact h.res1 e)⟩
theorem yk.push2 {r:Option Nat} (h:yk w p n v6 b7 b12 W) (b:W.grownBy W' r) (a:∀ j,r=some j->p+1+1<=j) (c:b7=true):yk w p n v6 b7 b12 W':=by
 have:=h.push b a;subst c;exact this
theorem yk.stored (h:yk w p n v6 b7 b12 W):yk w p n v6 b7 true (W.setRow (p+1) (ab 6 (bH (cU n)))):=by
 have b:W.heap[p+1]?=some (.cells (ab 6 (bH (cU n))) 37 (0,0))\/W.heap[p+1]?=some (.cells (ab 0 az) 37 (0,0)):=by
  cases b12
  ·exact Or.inr (h.res0 rfl)
  ·exact Or.inl (h.res1 rfl)
 exact ⟨below_setRow h.bel Ha _,by rw [size_setRow];exact h.sz,h.at_.other _ Ha,(fun e=>World.ownsRow.kept (h.row e) (ct _ _ _) (Or.inr fun c=>by have:=((h.row e).lt _ c).1;omega)),(fun e=>by cases e),(fun _=>by rcases b with a | a <;> exact am a)⟩
end
def Jy (p:Nat) (n:En) (v6:Value) (i:Nat) (v:Value) (W:World):Prop :=
 match i with
 | 0=>v=v6
 | 1 | 7=>v=.pointer (some ⟨p,3,none⟩)
 | 2 | 8=>v=.string (strOfNums n.t)
 | 3=>v=.int .i64 n.t.length
 | 4=>v=.int .u8 n.t.length
 | 10=>v=.agg (ab 6 (bH (cU n)))
 | 5=>aD W (p+1+1) v [(n.t.length:Int)]
 | 6=>W.ownsRow (p+1+1) 5 1 v 14 (Bs (rU n))
 | 9=>W.ownsRow (p+1+1) 5 1 v (14+n.t.length) (Bs (cU n))
 | _=>True
def LP (p:Nat) (n:En) (i:Nat) (w w':World):Prop:=if i=6 then bV 13 14 w w' else if i=9 then bV 14 (14+n.t.length) w w' else if i=11 then w.grownBy w' (some (p+1)) else w.grownBy w' none
theorem Jy.on {p:Nat} {n:En} {v6:Value} {i j:Nat} {v:Value} {w w':World} (c:i≠j) (d:¬ (i=6/\j=9)) (h:Jy p n v6 j v w) (a:LP p n i w w'):Jy p n v6 j v w':=by
 unfold LP at a;by_cases f:i=6
 ·rw [if_pos f] at a;unfold Jy at *;split <;> try exact h
  ·exact aD.keep h a (show 1<14 by omega)
  ·exact absurd f c
  ·exact absurd ⟨f,rfl⟩ d
  ·trivial
 ·rw [if_neg f] at a;by_cases b:i=9
  ·rw [if_pos b] at a;unfold Jy at *;split <;> try exact h
   ·exact aD.keep h a (show 1<14+n.t.length by omega)
   ·exact iL h a Hd
   ·exact absurd b c
   ·trivial
  ·rw [if_neg b] at a;by_cases e:i=11
   ·rw [if_pos e] at a;unfold Jy at *;split <;> try exact h
    ·exact aD.kept h a Ha
    ·exact oh h a Ha
    ·exact oh h a Ha
    ·trivial
   ·rw [if_neg e] at a;unfold Jy at *;split <;> try exact h
    ·exact aD.grown h a
    ·exact World.ownsRow.kept h a (by cases v.ownBlock <;> simp)
    ·exact World.ownsRow.kept h a (by cases v.ownBlock <;> simp)
    ·trivial
theorem rZ (n:En) (w:World) (U:Fk n) (V:n.t.length<=100):Calls Tryz.prog 122 #[.agg (dL n)] w fun e w'=>e=.returned (.tuple #[.agg (ab (gw n) (fI n)),.bool (decide (j3 n))])/\Below w.heap.size w w':=by
 have HM:=He (fun w=>Ae n w U V);have HT:=He U.t;have C:Hid (Gu w w.heap.size n ((w.alloc (Obj.cells (dL n) 168)).alloc (Obj.cells (ab 0 az) 37))):=by
  have s1:(w.alloc (Obj.cells (dL n) 168)).heap.size=w.heap.size+1:=al _ _;have B1:=aM (w:=w) (Obj.cells (dL n) 168);have H1:=heap_alloc_new (w.alloc (Obj.cells (dL n) 168)) (Obj.cells (ab 0 az) 37);rw [s1] at H1;exact ⟨B1.alloc B1.size _,by rw [al,s1];exact Nat.le_refl _,(bS.new w n).alloc _,H1⟩
 go_enter Tryz.func122,Tryz.ntmps122;go_upto_region 1 with (refine aq rfl rfl ?_;try simp only [al])
 generalize (w.alloc (Obj.cells (dL n) 168)).alloc (Obj.cells (ab 0 az) 37)=W at *;go_wp2_with (refine fX rfl (.tmp 1) rfl w.heap.size rfl n C.out.at_ ?_)
 refine (HM.out _).mono ?_;rintro e w1 ⟨rfl,X⟩;have m:=He (C.out.below X);clear X C;by_cases o:j3 n
 ·have H:Hid (gw n=6):=by unfold Hid gw;rw [if_pos o]
  have I:Hid (fI n=bH (cU n)):=by unfold Hid fI;rw [if_pos o]
  have Y:=He (decide_eq_true o);rw [Y.out];have b9:=o.tl;have ca:=o.2.1;have cb:=o.2.2;have b6:n.n<4294967296:=by have:=U.n.2;omega
  have Z:=He (fV (ys:=cU n) (by rw [j4];omega));have HA:=He oe;have a7:Hid (∀ W:World,Calls Tryz.prog 170 #[jO n.l n.a n.g] W fun e w'=>∃ v,e=.returned v/\w'.ownsRow W.heap.size 5 1 v 7 (Bs (wG n.l n.a n.g))/\Below W.heap.size W w'):=fun W=>by
   have h:=ut n.l n.a n.g W U.l U.a U.g
   rwa [yh o.1.1,rW] at h
  have ad:0<=n.p/\n.p<18446744073709551616:=Ha;have an:0<=n.n/\n.n<18446744073709551616:=Ha;have a0:IntKind.u64.wrap n.p=n.p:=IntWalk.u64_in _ Ha;have a1:IntKind.u64.wrap n.n=n.n:=IntWalk.u64_in _ Ha;clear o;go_upto_region 3 with fail
  generalize hp:w.heap.size=p at *
  go_cut [4] (fun s wx=>wx.ownsRow (p+1+1) 5 1 s 13 (Bs (rT n))/\Gu w p n wx)
  case first =>
   have r:Gu w p n w1.drew:=⟨m.out.bel.drew,m.out.sz,m.out.at_,m.out.res⟩
   refine ax (Ks p n) (fun _ W=>Gu w p n W) LO Hc Hc (fun i j v' w' a8 K x h hg=>h.on K (fun hh=>by obtain ⟨rfl,rfl⟩:=hh;exact absurd (x.symm.trans (show jU _ 12 7=false by kernel_rfl)) Hd) hg) r ?_;have srefl:∀ (i:Nat) (W:World),LO i W W:=fun i W=>by
    unfold LO;split
    ·exact bV.grown (World.grownBy.refl _ _)
    ·split
     ·exact bV.grown (World.grownBy.refl _ _)
     ·exact World.grownBy.refl _ _
   clear r m;simp only [cf];refine ⟨?_,?_,?_,?_,?_,?_,?_,?_,?_,?_,?_,?_,?_,?_⟩
   ·refine aa.of rfl fun T W L hag c hJ b hd=>?_;have e1:=Hf hag 1;exact Hi
   ·refine aa.of rfl fun T W L hag c hJ b hd=>?_;have d9:T.getD 9 undef=_:=Hg hd 0 rfl;exact Ac (.tmp 9) rfl p d9 n hJ.at_ ⟨_,rfl,rfl,hJ,srefl _ _⟩
   ·refine aa.of rfl fun T W L hag c hJ b hd=>?_;have cc:T.getD 10 undef=_:=Hg hd 1 rfl;clear hag hd;go_simp;refine (a7.out W).mono ?_;rintro en w' ⟨u,rfl,A,y⟩;exact ⟨_,rfl,A.mono hJ.sz,hJ.below y,dZ y⟩
   ·refine aa.of rfl fun T W L hag c hJ b hd=>?_;have e1:=Hf hag 1;exact Hi
   ·refine aa.of rfl fun T W L hag c hJ b hd=>?_;have cg:T.getD 12 undef=_:=Hg hd 3 rfl;have d:=(show W.cell? ⟨p,4,none⟩=some (.int .i64 n.p) from hJ.at_.cell 4)
    exact Hi
   ·refine aa.of rfl fun T W L hag c hJ b hd=>?_;have ch:T.getD 13 undef=_:=Hg hd 4 rfl;have d:=a0;exact Hi
   ·refine aa.of rfl fun T W L hag c hJ b hd=>?_;have ci:T.getD 14 undef=_:=Hg hd 5 rfl;clear hag hd;go_simp;refine (HA.out n.p 2 W ad Ha).mono ?_;rintro en w' ⟨u,rfl,A,y⟩;exact ⟨_,rfl,A.mono hJ.sz,hJ.below y,dZ y⟩
   ·refine aa.of rfl fun T W L hag c hJ b hd=>?_;have a2:W.ownsRow (p+1+1) 5 1 (T.getD 11 undef) 7 (Bs (wG n.l n.a n.g)):=Hg hd 2 rfl;have a9:aD W (p+1+1) (T.getD 15 undef) (be n.p.toNat 2):=Hg hd 6 rfl;obtain ⟨q,(bb:T.getD 15 undef=_),hy⟩:=a9.byt;refine gI W (.tmp 11) (.tmp 15) rfl (p+1+1) _ 7 _ rfl a2 (some ⟨q,0,none⟩) 2 2 (be n.p.toNat 2) bb hy rfl Ha hJ.sz ?_;intro v' w' M N O;have k:∀ j,(T.getD 11 undef).ownBlock=some j->p+1+1<=j:=fun j e=>(a2.lt j e).1;exact ⟨_,rfl,M,hJ.grown N (fun j e=>by have:=k j e;omega) (fun e=>by have:=k p e;omega) (fun e=>by have:=k (p+1) e;omega),O⟩
   ·refine aa.of rfl fun T W L hag c hJ b hd=>?_;have e1:=Hf hag 1;exact Hi
   ·refine aa.of rfl fun T W L hag c hJ b hd=>?_;have ck:T.getD 17 undef=_:=Hg hd 8 rfl;have d:=(show W.cell? ⟨p,5,none⟩=some (.int .u32 n.n) from hJ.at_.cell 5)
    exact Hi
   ·refine aa.of rfl fun T W L hag c hJ b hd=>?_;have cl:T.getD 18 undef=_:=Hg hd 9 rfl;have d:=a1;exact Hi
   ·refine aa.of rfl fun T W L hag c hJ b hd=>?_;have cn:T.getD 19 undef=_:=Hg hd 10 rfl;clear hag hd;go_simp;refine (HA.out n.n 4 W an Ha).mono ?_;rintro en w' ⟨u,rfl,A,y⟩;exact ⟨_,rfl,A.mono hJ.sz,hJ.below y,dZ y⟩
   ·refine aa.of rfl fun T W L hag c hJ b hd=>?_;have a3:W.ownsRow (p+1+1) 5 1 (T.getD 16 undef) 9 (Bs (wG n.l n.a n.g++be n.p.toNat 2)):=Hg hd 7 rfl;have x20:aD W (p+1+1) (T.getD 20 undef) (be n.n.toNat 4):=Hg hd 11 rfl;obtain ⟨q,(bi:T.getD 20 undef=_),hy⟩:=x20.byt;refine gI W (.tmp 16) (.tmp 20) rfl (p+1+1) _ 9 _ rfl a3 (some ⟨q,0,none⟩) 4 4 (be n.n.toNat 4) bi hy rfl Ha hJ.sz ?_;intro v' w' M N O;have k:∀ j,(T.getD 16 undef).ownBlock=some j->p+1+1<=j:=fun j e=>(a3.lt j e).1;exact ⟨_,rfl,M,hJ.grown N (fun j e=>by have:=k j e;omega) (fun e=>by have:=k p e;omega) (fun e=>by have:=k (p+1) e;omega),O⟩
   ·refine bm.of rfl fun T W L hag b c hJ hd=>?_;have R:W.ownsRow (p+1+1) 5 1 (T.getD 21 undef) 13 (Bs (rT n)):=hd 12 _ Hb rfl;obtain ⟨f,A,hT⟩:=aJ hag;have a4:=A 21;rw [<- a4] at R;have a5:=He R;clear a4 R;have z:=He hJ;clear hag hd hJ A;rw [hT];clear hT;simp only [List.pop_toArray,List.dropLast_cons_cons,List.dropLast_singleton,List.filterMap_cons,List.filterMap_nil,List.foldl_cons,List.foldl_nil,List.setIfInBounds_toArray,List.set_cons_succ,List.set_cons_zero];rename_i bk cp;go_wp2_with fail
    refine bk _ _ ?_
    repeat apply Exists.intro
    exact ⟨⟨a5.out,z.out⟩,rfl⟩
  case rest =>
   obtain ⟨own,hJ⟩:=hcut;generalize u4=v6 at *;have HO:=He own;have z:=He hJ;clear own hJ m a0 a1 ad an;have bl:((strOfNums n.t).size:Int)=n.t.length:=by rw [strOfNums_size]
   have wt:IntKind.u8.wrap (n.t.length:Int)=n.t.length:=IntWalk.u8_in _ Ha;go_upto_region 4 with fail
   have r:yk w p n v6 false false wc.drew:=⟨z.out.bel.drew,z.out.sz,z.out.at_,(fun _=>HO.out),(fun _=>z.out.res),(fun e=>by cases e)⟩
   refine ax (Jy p n v6) (fun L W=>yk w p n v6 (L 6) (L 11) W) (LP p n) Hc Hc (fun i j v' w' a8 K x h hg=>h.on K (fun hh=>by obtain ⟨rfl,rfl⟩:=hh;exact absurd (x.symm.trans (show jU _ 9 6=false by kernel_rfl)) Hd) hg) r ?_;have srefl:∀ (i:Nat) (W:World),LP p n i W W:=fun i W=>by
    unfold LP;split
    ·exact bV.grown (World.grownBy.refl _ _)
    ·split
     ·exact bV.grown (World.grownBy.refl _ _)
     ·split <;> exact World.grownBy.refl _ _
   clear r z HO;simp only [cf];refine ⟨?_,?_,?_,?_,?_,?_,?_,?_,?_,?_,?_,?_,?_⟩
   ·refine aa.of rfl fun T W L hag c hJ b hd=>?_;have e4:=Hf hag 4;exact Hi
   ·refine aa.of rfl fun T W L hag c hJ b hd=>?_;have e1:=Hf hag 1;exact Hi
   ·refine aa.of rfl fun T W L hag c hJ b hd=>?_;have cq:T.getD 23 undef=_:=Hg hd 1 rfl;have d:=(show W.cell? ⟨p,3,none⟩=some (.string (strOfNums n.t)) from hJ.at_.cell 3)
    exact Hi
   ·refine aa.of rfl fun T W L hag c hJ b hd=>?_;have cr:T.getD 24 undef=_:=Hg hd 2 rfl;have d:=bl;exact Hi
   ·refine aa.of rfl fun T W L hag c hJ b hd=>?_;have cs:T.getD 25 undef=_:=Hg hd 3 rfl;have d:=wt;exact Hi
   ·refine aa.of rfl fun T W L hag c hJ b hd=>?_;have bn:T.getD 26 undef=_:=Hg hd 4 rfl;simp only [Array.getD_eq_getD_getElem?] at bn;clear hag hd;go_simp;exact ⟨_,rfl,⟨_,_,rfl,hJ.sz,heap_alloc_new _ _,rfl⟩,hJ.alloc _,World.grownBy_alloc W _ _⟩
   ·refine aa.of rfl fun T W L hag c hJ b hd=>?_;have bs:T.getD 22 undef=_:=Hg hd 0 rfl;have bt:aD W (p+1+1) (T.getD 27 undef) [(n.t.length:Int)]:=Hg hd 5 rfl;obtain ⟨q,(bx:T.getD 27 undef=_),hy⟩:=bt.byt;have B:=hJ.row c;refine gI W (.tmp 22) (.tmp 27) rfl (p+1+1) _ 13 _ bs B (some ⟨q,0,none⟩) 1 1 [(n.t.length:Int)] bx hy rfl Ha hJ.sz ?_;intro v' w' M N O;have k:∀ j,v6.ownBlock=some j->p+1+1<=j:=fun j e=>(B.lt j e).1;exact ⟨_,rfl,M,hJ.push N k,O⟩
   ·refine aa.of rfl fun T W L hag c hJ b hd=>?_;have e1:=Hf hag 1;exact Hi
   ·refine aa.of rfl fun T W L hag c hJ b hd=>?_;have cu:T.getD 29 undef=_:=Hg hd 7 rfl;have d:=(show W.cell? ⟨p,3,none⟩=some (.string (strOfNums n.t)) from hJ.at_.cell 3)
    exact Hi
   ·refine aa.of rfl fun T W L hag c hJ b hd=>?_;have a6:W.ownsRow (p+1+1) 5 1 (T.getD 28 undef) 14 (Bs (rU n)):=Hg hd 6 rfl;have b0:T.getD 30 undef=_:=Hg hd 8 rfl;refine rG W (.tmp 28) (.tmp 30) rfl (p+1+1) _ 14 _ rfl a6 n.t b0 HT.out Ha hJ.sz ?_;intro v' w' M N O;have k:∀ j,(T.getD 28 undef).ownBlock=some j->p+1+1<=j:=fun j e=>(a6.lt j e).1;exact ⟨_,rfl,M,hJ.push2 N k (b ⟨6,.data⟩ Hb rfl),O⟩
   ·refine aa.of rfl fun T W L hag c hJ b hd=>?_;have b1:W.ownsRow (p+1+1) 5 1 (T.getD 31 undef) (14+n.t.length) (Bs (cU n)):=Hg hd 9 rfl;have S:(cU n).length=14+n.t.length:=j4 n;obtain ⟨A2,d2,b2,b8,cv,b3⟩:=bM b1 S;rw [S] at b2;have b4:=rF 6 A2 (cU n) (14+n.t.length) d2 W S Ha b3;clear hag hd;go_simp;refine b4.mono ?_;rintro en w' ⟨rfl,y⟩;exact ⟨_,rfl,rfl,hJ.below y,dZ y⟩
   ·refine aa.of rfl fun T W L hag c hJ b hd=>?_;have e2:=Hf hag 2;have b5:T.getD 32 undef=_:=Hg hd 10 rfl;clear hag hd;refine uh (.tmp 2) (.tmp 32) rfl (p+1) e2 6 0 (bH (cU n)) az b5 Z.out ak (hJ.res0 c) ?_;exact ⟨undef,rfl,trivial,hJ.stored,ct _ _ _⟩
   ·refine bm.of rfl fun T W L hag b c hJ hd=>?_;obtain ⟨f,A,hT⟩:=aJ hag;have z:=He hJ;clear hag hd hJ A;rw [hT];clear hT;simp only [List.pop_toArray,List.dropLast_cons_cons,List.dropLast_singleton,List.filterMap_cons,List.filterMap_nil,List.foldl_cons,List.foldl_nil,List.setIfInBounds_toArray,List.set_cons_succ,List.set_cons_zero];go_wp2_with fail
    refine bodyPost_ret (aY rfl _ _ (p+1) 6 (bH (cU n)) rfl Z.out (z.out.res1 (b 11 Hd))) rfl ?_;exact ⟨by rw [H.out,I.out,Y.out];rfl,by first | exact z.out.bel | (rw [hp];exact z.out.bel)⟩
 ·have H:Hid (gw n=0):=by unfold Hid gw;rw [if_neg o]
  have I:Hid (fI n=az):=by unfold Hid fI;rw [if_neg o]
  have Y:=He (decide_eq_false o);rw [Y.out];clear o;go_wp2_with (first
   | (refine bN rfl rfl ?_)
   | (refine ap rfl (.tmp 2) (.tmp 8) rfl (w.heap.size+1) rfl 0 0 az az rfl ak ak m.out.res ?_))
  refine bodyPost_ret (aY rfl _ _ (w.heap.size+1) 0 az rfl ak (am m.out.res)) rfl ?_;exact ⟨by rw [H.out,I.out,Y.out];rfl,below_setRow m.out.bel Ha _⟩
theorem qj (g:Nat) {m:Nat} (h:m<=42) (w:World):(Instr.slice 22 (.slice (some ⟨g,1,none⟩) 56 56) (some (.int .i64 14)) (some (.int .i64 (14+(m:Int)))) none).run Tryz.prog w=.ok (.slice (some ⟨g,15,none⟩) m 42) w:=by
 have a:=Tryz.sizeOf5;have b:Tryz.prog.elem 22=5:=Hc;have c:Tryz.prog.underlying 22=some (.slice (Tryz.prog.elem 22)):=Hc;rw [run_slice_lh w 22 _ 56 56 c .i64 .i64 14 (14+(m:Int)) Ha Ha Ha,b];have d:(14+(m:Int)).toNat=14+m:=Ha;simp [a,sliced,cZ,d]
theorem Bx (l a g:Int) (t:List Int) (x y:Int):Tryz.prog.built 168 [(0,jO l a g),(1,.string (strOfNums t)),(2,.int .i64 x),(3,.int .u32 y)]=some (dL ⟨l,a,g,t,x,y⟩):=Hc
theorem ux {o:Oper} {ac:Act} {w:World} {K:Act->World->Prop} {Q:Exit->Act->World->Prop} (c:o.op=.alloc 168)
 (h:K (ac.put o.dst (.pointer (some ⟨w.heap.size,0,none⟩))) (w.alloc (.cells (dL en0) 168))):o.wp Tryz.prog ac w K Q:=by
 obtain ⟨d,e,a,f⟩:∃ i,Tryz.prog.info? 168=some i/\i.zero=some (.agg (dL en0))/\i.size=6:=by
  have h:=Jx;cases b:Tryz.prog.info? 168 with
  | none=>rw [b] at h;cases h
  | some i=>rw [b] at h;simp only [Option.map_some,Option.some.injEq,Prod.mk.injEq] at h;exact ⟨i,rfl,h.1,h.2⟩
 exact ce 168 c d _ e a h
def ID (W0:World) (b:Bool) (W:World):Prop:=W=(if b=true then W0.alloc (.cells (dL en0) 168) else W0)
theorem ID.blk {W0 W:World} {b:Bool} {g:Nat} {o:Obj} (h:ID W0 b W) (a:W0.heap[g]?=some o):W.heap[g]?=some o:=by
 unfold ID at h;subst h;split
 ·exact kb (aM _) a
 ·exact a
theorem ID.id_ {W0 W:World} {b:Bool} {q:Nat} {l a g:Int} (h:ID W0 b W) (c:bh W0 q l a g):bh W q l a g:=h.blk c
structure DN (w:World) (p:Nat) (k:Int) (bs:List Int) (W:World):Prop where
 bel:Below p w W
 blk:W.heap[p]?=some (.cells (ab k bs) 37 (0,0))
 res:bS W (p+1) en0
structure TF (w:World) (p q:Nat) (k:Int) (bs:List Int) (m:En) (W:World):Prop where
 hq:p+1<q
 to0:DN w p k bs W
 nd:bS W q m
section
variable {w W W':World} {p q:Nat} {k:Int} {bs:List Int} {m:En}
theorem DN.sz (h:DN w p k bs W):p+1<W.heap.size:=ah h.res
theorem DN.below (h:DN w p k bs W) (a:Below W.heap.size W W'):DN w p k bs W' :=
 ⟨h.bel.trans (a.mono (by have:=h.sz;omega)),kb a h.blk,h.res.below a⟩
theorem TF.below (h:TF w p q k bs m W) (a:Below W.heap.size W W'):TF w p q k bs m W':=⟨h.hq,h.to0.below a,h.nd.below a⟩
theorem DN.made (h:DN w p k bs W):TF w p W.heap.size k bs m ((W.alloc (.cells (dL en0) 168)).setRow W.heap.size (dL m)):=by
 have a:=h.sz;exact ⟨a,⟨below_setRow (h.bel.alloc Ha _) Ha _,by rw [setRow_other _ _ _ _ Ha];exact kb (aM _) h.blk,(h.res.alloc _).other _ Ha⟩,(bS.new W en0).set m⟩
end
def M1 (p q:Nat) (bs:List Int) (l a g:Int) (b:Nat) (W0:World) (i:Nat) (v:Value) (W:World):Prop :=
 match i with
 | 0=>v=jO l a g
 | 1 | 2 | 9 | 13=>v=.slice (some ⟨p,1,none⟩) 56 56
 | 3=>v=.pointer (some ⟨p,14,none⟩)
 | 4=>v=.int .u8 b
 | 5=>v=.int .i64 b
 | 6=>v=.int .i64 (14+(b:Int))
 | 7=>v=.slice (some ⟨p,15,none⟩) b 42
 | 8=>v=.string (strOfNums (aW bs 14 b))
 | 10=>v=.slice (some ⟨p,8,none⟩) 2 49
 | 11=>v=.int .u64 (aB (aW bs 7 2))
 | 12=>v=.int .i64 (aB (aW bs 7 2))
 | 14=>v=.slice (some ⟨p,10,none⟩) 4 47
 | 15=>v=.int .u64 (aB (aW bs 9 4))
 | 16=>v=.int .u32 (aB (aW bs 9 4))
 | 17=>v=.agg (dL ⟨l,a,g,aW bs 14 b,aB (aW bs 7 2),aB (aW bs 9 4)⟩)
 | 18=>v=.pointer (some ⟨W0.heap.size,0,none⟩)
 | _=>True
theorem ym (k:Int) (bs:List Int) (w:World) (hk:i64 k) (C:bs.length=56) (hB:ay bs):Calls Tryz.prog 167 #[.agg (ab k bs)] w fun e w'=>e=.returned (.tuple #[.agg (dL (rY k bs)),.bool (decide (dV k bs))])/\Below w.heap.size w w':=by
 have bl:=Fo C hB;have a0:Hid (∀ W:World,W.heap[w.heap.size]?=some (.cells (ab k bs) 37 (0,0))->Calls Tryz.prog 199 #[.slice (some ⟨w.heap.size,1,none⟩) 7 56] W fun e w'=>e=.returned (.tuple #[jv (aW bs 0 7),.bool (decide (g8 (aW bs 0 7)))])/\Below W.heap.size W w'):=fun W h=>by
  have h7:=fW (o:=0) (m:=7) C Ha;have h1:=Ab (some ⟨w.heap.size,1,none⟩) (aW bs 0 7) 56 W (by rw [h7];omega) Ha (gZ hB _ _) (me h 0 7)
  rwa [h7] at h1
 have HT:=He (fun o m n d W hg hn h2 h3=>rJ w.heap.size k bs C hB o m n d W hg hn h2 h3);have V:=He C;have bn:=He hB;have O:Hid (DN w w.heap.size k bs ((w.alloc (Obj.cells (ab k bs) 37)).alloc (Obj.cells (dL en0) 168))):=by
  have s1:(w.alloc (Obj.cells (ab k bs) 37)).heap.size=w.heap.size+1:=al _ _;have B1:=aM (w:=w) (Obj.cells (ab k bs) 37);have H1:=bS.new (w.alloc (Obj.cells (ab k bs) 37)) en0;rw [s1] at H1;exact ⟨B1.alloc B1.size _,kb (aM _) (heap_alloc_new w _),H1⟩
 have hy:=mf hB 13;obtain ⟨y,a1⟩:∃ y:Nat,bs.getD 13 0=(y:Int):=⟨(bs.getD 13 0).toNat,Ha⟩
 have a5:bs[13]?=some (y:Int):=by
  rw [<- a1,List.getD,List.getElem?_eq_getElem Ha];rfl
 have a6:Hid (∀ W:World,W.heap[w.heap.size]?=some (.cells (ab k bs) 37 (0,0))->W.cell? ⟨w.heap.size,14,none⟩=some (.int .u8 y)):=fun W h=>by
  rw [af h,<- Array.getElem?_toList,bu];exact kR (i:=13) a5
 have a7:Hid (y<=42->∀ W:World,W.heap[w.heap.size]?=some (.cells (ab k bs) 37 (0,0))->(convert 22 9 (.slice (some ⟨w.heap.size,15,none⟩) y 42)).run Tryz.prog W=.ok (.string (strOfNums (aW bs 14 y))) W):=fun K W h =>
  dB (c:=42) (me h 14 y) (show (aW bs 14 y).length=y from fW C Ha)
 have bt:Hid (hH bs=⟨(hH bs).l,(hH bs).a,(hH bs).g,aW bs 14 y,aB (aW bs 7 2),aB (aW bs 9 4)⟩):=by unfold Hid hH;rw [a1];rfl
 have R:Hid (dV k bs↔((y:Int)<=14/\j3 (hH bs)/\k=6/\bH (cU (hH bs))=bs)):=by unfold Hid dV;rw [a1]
 have b8:Hid (y<=42->(hH bs).t.length=y):=fun h=>by rw [bt.out];exact fW V.out Ha
 have X:=He (fun (h:y<=42) w=>rZ (hH bs) w bl (by rw [b8.out h];omega));have bx:=He (Af C);have b9:Hid (g8 (aW bs 0 7)->jv (aW bs 0 7)=jO (hH bs).l (hH bs).a (hH bs).g):=C9;have cA:y<256:=Ha;have ca:=lB (o:=7) C hB Ha;have cb:=js (o:=9) C hB Ha;have wy:IntKind.i64.wrap (y:Int)=y:=IntWalk.i64_in _ Ha;have cc:IntKind.i64.wrap (14+(y:Int))=14+(y:Int):=IntWalk.i64_in _ Ha;have b0:IntKind.i64.wrap (aB (aW bs 7 2):Int)=aB (aW bs 7 2):=IntWalk.i64_in _ Ha;have b1:IntKind.u32.wrap (aB (aW bs 9 4):Int)=aB (aW bs 9 4):=IntWalk.u32_in _ Ha;clear hk hy a1 a5 ca cb C hB;have HY:Hid (dV k bs->rY k bs=hH bs):=fun h=>by unfold rY;rw [if_pos h]
 have a2:Hid (¬ dV k bs->rY k bs=en0):=fun h=>by unfold rY;rw [if_neg h]
 go_enter Tryz.func167,Tryz.ntmps167;go_upto_region 2 with (refine gq rfl rfl ?_;try simp only [al])
 generalize (w.alloc (Obj.cells (ab k bs) 37)).alloc (Obj.cells (dL en0) 168)=W at *;generalize hp:w.heap.size=p at *;by_cases H:g8 (aW bs 0 7)
 ·have a8:=He (b9.out H);have a9:=He (decide_eq_true H);have cP:=He (bx.out.1 H);rw [a8.out,a9.out] at a0;clear H;generalize cg:(hH bs).l=l at *;generalize ch:(hH bs).a=a at *;generalize ci:(hH bs).g=g at *;clear cg ch ci;go_wp2_with fail
  refine (a0.out _ O.out.blk).mono ?_;rintro e M ⟨rfl,Y⟩;have a3:=He (O.out.below Y);clear Y O;have Z:=bh.new M 0 0 0;have b:Hid (DN w p k bs ((M.alloc (Obj.cells #[.int .i64 0,.int .i64 0,.int .u32 0] 82)).setRow M.heap.size (jA l a g))):=a3.out.below (below_setRow (aM _) (Nat.le_refl _) _);have bb:=He (Z.set l a g);go_upto_region 3 with (first
   | (refine aK rfl (.tmp 5) (.tmp 16) rfl M.heap.size rfl l a g rfl 0 0 0 Z ?_
      generalize (M.alloc (Obj.cells #[.int .i64 0,.int .i64 0,.int .u32 0] 82)).setRow M.heap.size (jA l a g)=w2 at *))
  clear a3 Z;generalize M.heap.size=q at *;have ck:=a6.out w2 b.out.blk;by_cases cl:14<y
  ·have hq:=cl;have v:¬ dV k bs:=fun h=>by have:=(R.out.1 h).1;omega
   have HE:=He (a2.out v);have HD:=He (decide_eq_false v);clear v;go_wp2_with (first
    | (refine fF rfl rfl ?_)
    | (refine bK rfl (.tmp 2) (.tmp 27) rfl (p+1) rfl en0 en0 rfl b.out.res ?_))
   refine bodyPost_ret (fG rfl _ _ (p+1) en0 rfl (b.out.res.set _)) rfl ?_;have x:=below_setRow b.out.bel (show p<=p+1 by omega) (dL en0);exact ⟨by rw [HE.out,HD.out];rfl,by first | exact x | (rw [hp];exact x)⟩
  have K:y<=42:=Ha;have a7:=He (a7.out K);have X:=He (X.out K);go_upto_region 5 with fail
  clear ck
  go_cut [7] (fun s wx=>∃ r,s=.pointer (some ⟨r,0,none⟩)/\TF w p r k bs (hH bs) wx)
  case first =>
   have N:w2.drew.heap[p]?=some (.cells (ab k bs) 37 (0,0)):=b.out.blk;have cn:bh w2.drew q l a g:=bb.out;have S:ID w2.drew false w2.drew:=rfl;have b:Hid (DN w p k bs w2.drew):=⟨b.out.bel.drew,b.out.blk,b.out.res⟩
   refine ax (M1 p q bs l a g y w2.drew) (fun L W2=>ID w2.drew (L 18) W2) (fun _ _ _=>True) Hc Hc (fun i j v' w' c0 _ _ hv _=>hv) S ?_;clear S bb;generalize w2.drew=W0 at *;simp only [cf];refine ⟨?_,?_,?_,?_,?_,?_,?_,?_,?_,?_,?_,?_,?_,?_,?_,?_,?_,?_,?_,?_⟩
   ·refine aa.of rfl fun T W L hag A hJ u hd=>?_;have e5:=Hf hag 5;clear hag hd;refine lD (.tmp 5) rfl q e5 l a g (hJ.id_ cn) ?_;exact ⟨_,rfl,rfl,hJ,trivial⟩
   ·refine aa.of rfl fun T W L hag A hJ u hd=>?_;have e4:=Hf hag 4;exact Hi
   ·refine aa.of rfl fun T W L hag A hJ u hd=>?_;have e4:=Hf hag 4;exact Hi
   ·refine aa.of rfl fun T W L hag A hJ u hd=>?_;have c1:T.getD 30 undef=_:=Hg hd 2 rfl;exact Hi
   ·refine aa.of rfl fun T W L hag A hJ u hd=>?_;have c2:T.getD 31 undef=_:=Hg hd 3 rfl;have B:=a6.out W (hJ.blk N);exact Hi
   ·refine aa.of rfl fun T W L hag A hJ u hd=>?_;have c3:T.getD 32 undef=_:=Hg hd 4 rfl;have B:=wy;exact Hi
   ·refine aa.of rfl fun T W L hag A hJ u hd=>?_;have c4:T.getD 33 undef=_:=Hg hd 5 rfl;have B:=cc;exact Hi
   ·refine aa.of rfl fun T W L hag A hJ u hd=>?_;have c5:T.getD 29 undef=_:=Hg hd 1 rfl;have c6:T.getD 34 undef=_:=Hg hd 6 rfl;have B:=(fun W=>qj p (m:=y) K W)
    exact Hi
   ·refine aa.of rfl fun T W L hag A hJ u hd=>?_;have c7:T.getD 35 undef=_:=Hg hd 7 rfl;have B:=a7.out W (hJ.blk N);exact Hi
   ·refine aa.of rfl fun T W L hag A hJ u hd=>?_;have e4:=Hf hag 4;exact Hi
   ·refine aa.of rfl fun T W L hag A hJ u hd=>?_;have c8:T.getD 37 undef=_:=Hg hd 9 rfl;exact Hi
   ·refine aa.of rfl fun T W L hag A hJ u hd=>?_;have c9:T.getD 38 undef=_:=Hg hd 10 rfl;clear hag hd;go_simp;refine (HT.out 7 2 2 49 W (hJ.blk N) rfl Ha Ha).mono ?_;rintro en w' ⟨rfl,rfl⟩;exact ⟨_,rfl,rfl,hJ⟩
   ·refine aa.of rfl fun T W L hag A hJ u hd=>?_;have da:T.getD 39 undef=_:=Hg hd 11 rfl;have B:=b0;exact Hi
   ·refine aa.of rfl fun T W L hag A hJ u hd=>?_;have e4:=Hf hag 4;exact Hi
   ·refine aa.of rfl fun T W L hag A hJ u hd=>?_;have dc:T.getD 41 undef=_:=Hg hd 13 rfl;exact Hi
   ·refine aa.of rfl fun T W L hag A hJ u hd=>?_;have dg:T.getD 42 undef=_:=Hg hd 14 rfl;clear hag hd;go_simp;refine (HT.out 9 4 4 47 W (hJ.blk N) rfl Ha Ha).mono ?_;rintro en w' ⟨rfl,rfl⟩;exact ⟨_,rfl,rfl,hJ⟩
   ·refine aa.of rfl fun T W L hag A hJ u hd=>?_;have dl:T.getD 43 undef=_:=Hg hd 15 rfl;have B:=b1;exact Hi
   ·refine aa.of rfl fun T W L hag A hJ u hd=>?_;have cp:T.getD 28 undef=_:=Hg hd 0 rfl;have cq:T.getD 36 undef=_:=Hg hd 8 rfl;have cr:T.getD 40 undef=_:=Hg hd 12 rfl;have cu:T.getD 44 undef=_:=Hg hd 16 rfl;clear hag hd;have dn:=fun W=>run_build (P:=Tryz.prog) W 168 #[(0,jO l a g),(1,.string (strOfNums (aW bs 14 y))),(2,.int .i64 (aB (aW bs 7 2))),(3,.int .u32 (aB (aW bs 9 4)))] _ (Bx l a g (aW bs 14 y) (aB (aW bs 7 2)) (aB (aW bs 9 4)));simp only [Array.getD_eq_getD_getElem?] at cp cq cr cu;go_simp;exact ⟨_,rfl,rfl,hJ⟩
   ·refine aa.of rfl fun T W L hag A hJ u hd=>?_;have S:W=W0:=by have h:=hJ;unfold ID at h;rw [show L 18=false from A] at h;exact h
    subst S;clear hag hd;refine ux rfl ?_;exact ⟨_,rfl,rfl,rfl,trivial⟩
   ·refine bm.of rfl fun T W L hag u A hJ hd=>?_;have d7:T.getD 7 undef=_:=hd 18 _ Hb rfl;have b2:T.getD 45 undef=_:=hd 17 _ Hb rfl;obtain ⟨f,hf,hT⟩:=aJ hag;have h7:=(hf 7).trans d7;have cv:=(hf 45).trans b2;have HJ:=He hJ;clear hag hd d7 b2 hJ hf;rw [hT];clear hT;simp only [List.pop_toArray,List.dropLast_cons_cons,List.dropLast_singleton,List.filterMap_cons,List.filterMap_nil,List.foldl_cons,List.foldl_nil,List.setIfInBounds_toArray,List.set_cons_succ,List.set_cons_zero,h7,cv];have S:W=W0.alloc (.cells (dL en0) 168):=by have h:=HJ.out;unfold ID at h;rw [show L 18=true from u 18 Hd] at h;exact h
    subst S;have cw:=bS.new W0 en0;refine uw (.tmp 7) (.tmp 45) rfl W0.heap.size rfl ⟨l,a,g,aW bs 14 y,aB (aW bs 7 2),aB (aW bs 9 4)⟩ en0 rfl cw ?_;rename_i cx dv;go_wp2_with fail
    refine cx _ _ ?_
    repeat apply Exists.intro
    exact ⟨⟨_,rfl,by rw [bt.out];exact b.out.made⟩,rfl⟩
  case rest =>
   obtain ⟨r,rfl,b3⟩:=hcut;have bi:=He b3;clear b3 b bb b0 b1;go_wp2_with (refine fX rfl (.tmp 7) rfl r rfl (hH bs) bi.out.nd ?_)
   refine (X.out _).mono ?_;rintro e U ⟨rfl,b4⟩;have ad:=He (bi.out.below b4);have cz:p+1<U.heap.size:=ad.out.to0.sz;clear b4 bi;have a4:=heap_alloc_new U (Obj.cells (ab 0 az) 37);by_cases hm:j3 (hH bs)
   ·have an:Hid (gw (hH bs)=6):=by unfold Hid gw;rw [if_pos hm]
    have I:Hid (fI (hH bs)=bH (cU (hH bs))):=by unfold Hid fI;rw [if_pos hm]
    have HL:Hid ((bH (cU (hH bs))).length=56):=by unfold Hid;rw [<- I.out];exact pf
    have b5:Hid (ay (bH (cU (hH bs)))):=by unfold Hid;rw [<- I.out];exact rX bl.t
    rw [an.out,I.out,decide_eq_true hm];have bk:Hid (dV k bs↔(6=k/\bH (cU (hH bs))=bs)):=R.out.trans ⟨fun h=>⟨h.2.2.1.symm,h.2.2.2⟩,fun h=>⟨Ha,hm,h.1.symm,h.2⟩⟩;clear hm an I R;generalize bH (cU (hH bs))=cs at *;have b7:=below_setRow (aM (w:=U) (Obj.cells (ab 0 az) 37)) (Nat.le_refl U.heap.size) (ab 6 cs);have z:=He (ad.out.below b7);have b6:=He (am (D:=ab 6 cs) a4);clear b7 ad;go_upto_region 7 with (first
     | (refine aq rfl rfl ?_)
     | (refine ap rfl (.tmp 8) (.tmp 49) rfl U.heap.size rfl 6 0 cs az rfl HL.out ak a4 ?_
        generalize (U.alloc (Obj.cells (ab 0 az) 37)).setRow U.heap.size (ab 6 cs)=w7 at *))
    clear a4;generalize U.heap.size=s at *;by_cases hc:6=k/\cs=bs
    ·have HQ:Hid ((!(decide (6=k/\cs=bs)))=false):=by unfold Hid;simp [hc]
     have HE:=He (HY.out (bk.out.2 hc));have HD:=He (decide_eq_true (bk.out.2 hc));clear hc;go_wp2_with (first
      | (refine aQ Hl (.tmp 8) rfl s rfl 6 cs HL.out b6.out ?_)
      | (refine aQ Hl (.tmp 1) rfl p rfl k bs V.out z.out.to0.blk ?_)
      | (refine cI Hl (.tmp 54) (.tmp 55) _ rfl 6 k cs bs rfl rfl HL.out V.out b5.out bn.out ?_;rw [HQ.out])
      | (refine fX rfl (.tmp 7) rfl r rfl (hH bs) z.out.nd ?_)
      | (refine bK rfl (.tmp 2) (.tmp 59) rfl (p+1) rfl (hH bs) en0 rfl z.out.to0.res ?_))
     refine bodyPost_ret (fG rfl _ _ (p+1) (hH bs) rfl (z.out.to0.res.set _)) rfl ?_;have x:=below_setRow z.out.to0.bel (show p<=p+1 by omega) (dL (hH bs));exact ⟨by rw [HE.out,HD.out];rfl,by first | exact x | (rw [hp];exact x)⟩
    ·have HQ:Hid ((!(decide (6=k/\cs=bs)))=true):=by unfold Hid;rw [decide_eq_false hc];rfl
     have v:¬ dV k bs:=fun h=>hc (bk.out.1 h);have HE:=He (a2.out v);have HD:=He (decide_eq_false v);clear v;clear hc;go_wp2_with (first
      | (refine aQ Hl (.tmp 8) rfl s rfl 6 cs HL.out b6.out ?_)
      | (refine aQ Hl (.tmp 1) rfl p rfl k bs V.out z.out.to0.blk ?_)
      | (refine cI Hl (.tmp 54) (.tmp 55) _ rfl 6 k cs bs rfl rfl HL.out V.out b5.out bn.out ?_;rw [HQ.out])
      | (refine fF rfl rfl ?_)
      | (refine bK rfl (.tmp 2) (.tmp 58) rfl (p+1) rfl en0 en0 rfl z.out.to0.res ?_))
     refine bodyPost_ret (fG rfl _ _ (p+1) en0 rfl (z.out.to0.res.set _)) rfl ?_;have x:=below_setRow z.out.to0.bel (show p<=p+1 by omega) (dL en0);exact ⟨by rw [HE.out,HD.out];rfl,by first | exact x | (rw [hp];exact x)⟩
   ·have an:Hid (gw (hH bs)=0):=by unfold Hid gw;rw [if_neg hm]
    have I:Hid (fI (hH bs)=az):=by unfold Hid fI;rw [if_neg hm]
    rw [an.out,I.out,decide_eq_false hm];have v:¬ dV k bs:=fun h=>hm (R.out.1 h).2.1;have HE:=He (a2.out v);have HD:=He (decide_eq_false v);clear v;clear hm an I R;have b7:=below_setRow (aM (w:=U) (Obj.cells (ab 0 az) 37)) (Nat.le_refl U.heap.size) (ab 0 az);have z:=He (ad.out.below b7);clear b7 ad;go_wp2_with (first
     | (refine aq rfl rfl ?_)
     | (refine ap rfl (.tmp 8) (.tmp 49) rfl U.heap.size rfl 0 0 az az rfl ak ak a4 ?_
        generalize (U.alloc (Obj.cells (ab 0 az) 37)).setRow U.heap.size (ab 0 az)=w7 at *)
     | (refine fF rfl rfl ?_)
     | (refine bK rfl (.tmp 2) (.tmp 58) rfl (p+1) rfl en0 en0 rfl z.out.to0.res ?_))
    refine bodyPost_ret (fG rfl _ _ (p+1) en0 rfl (z.out.to0.res.set _)) rfl ?_;have x:=below_setRow z.out.to0.bel (show p<=p+1 by omega) (dL en0);exact ⟨by rw [HE.out,HD.out];rfl,by first | exact x | (rw [hp];exact x)⟩
 ·have a8:=He (C8 H);have a9:=He (decide_eq_false H);have v:¬ dV k bs:=fun h=>H (bx.out.2 (R.out.1 h).2.1.1.1);have HE:=He (a2.out v);have HD:=He (decide_eq_false v);rw [a8.out,a9.out] at a0;clear H v;go_wp2_with fail
  refine (a0.out _ O.out.blk).mono ?_;rintro e M ⟨rfl,Y⟩;have a3:=He (O.out.below Y);clear Y O;have Z:=bh.new M 0 0 0;have b:Hid (DN w p k bs ((M.alloc (Obj.cells #[.int .i64 0,.int .i64 0,.int .u32 0] 82)).setRow M.heap.size (jA 0 0 0))):=a3.out.below (below_setRow (aM _) (Nat.le_refl _) _);go_wp2_with (first
   | (refine aK rfl (.tmp 5) (.tmp 16) rfl M.heap.size rfl 0 0 0 rfl 0 0 0 Z ?_
      generalize (M.alloc (Obj.cells #[.int .i64 0,.int .i64 0,.int .u32 0] 82)).setRow M.heap.size (jA 0 0 0)=w2 at *)
   | (refine fF rfl rfl ?_)
   | (refine bK rfl (.tmp 2) (.tmp 27) rfl (p+1) rfl en0 en0 rfl b.out.res ?_))
  refine bodyPost_ret (fG rfl _ _ (p+1) en0 rfl (b.out.res.set _)) rfl ?_;have x:=below_setRow b.out.bel (show p<=p+1 by omega) (dL en0);exact ⟨by rw [HE.out,HD.out];rfl,by first | exact x | (rw [hp];exact x)⟩
section
variable {H:Type} {enc:TypeId × Value->H} {w:World} {base:Nat} {spare:Nat->Bool} {held:Bool}
end
def zB:Bk:=⟨0,az⟩
theorem yo:zB.Ok:=⟨by show (0:Int)<=0/\(0:Int)<=7;omega,ak,fc⟩
def ik (b:List Bk) (i:Int):Bk:=b.getD i.toNat zB
theorem kN {b:List Bk} {i:Nat} {x:Bk} (h:b[i]?=some x):ik b (i:Int)=x:=by
 unfold ik;rw [Int.toNat_natCast,List.getD,h];rfl
theorem Kt {b:List Bk} (h:dO b) (i:Int):(ik b i).Ok:=by
 unfold ik;cases a:b[i.toNat]? with
 | none=>rw [List.getD,a];exact yo
 | some x=>rw [List.getD,a];exact h x (List.mem_of_getElem? a)
def ie (k:Int):Prop:=k=1\/k=2\/k=3
instance (k:Int):Decidable (ie k):=by unfold ie;infer_instance
def realL (l:List Int):List Int:=l.filter fun x=>decide (x ≠ -1)
theorem r5 (l:List Int) (x:Int):realL (l++[x])=if x = -1 then realL l else realL l++[x]:=by
 unfold realL;rw [List.filter_append];by_cases h:x = -1
 ·rw [if_pos h];simp [h]
 ·rw [if_neg h];simp [h]
theorem hU {l:List Int} {x:Int}:x∈realL l↔x∈l/\x ≠ -1:=by unfold realL;simp
def Nd.dir (n:Nd):List Int:=[n.a,n.b,n.c,n.d]
def mw (b:List Bk) (x:Int):List Int:=if x<b.length then realL (tkL (ik b x).k (ik b x).bs) else []
def ia (b:List Bk) (n:Nd):List Int:=(if n.x = -1 then [] else n.x :: mw b n.x)++realL n.dir
def namedL (b:List Bk) (x:Bk):List Int:=if x.k=1/\aX x.k x.bs then ia b (cW x.bs) else []
def cJ (b:List Bk) (m i:Nat):Bool:=decide (i<m)&&(decide (i=0)||decide (ie (ik b i).k)||decide ((ik b i).k=6))||(b.take m).any fun x=>(namedL b x).contains (i:Int)
def jP (b:List Bk) (m:Nat):List Bool:=(List.range b.length).map (cJ b m)
def fy (b:List Bk):List Bool:=jP b b.length
theorem bP (b:List Bk) (m:Nat):(jP b m).length=b.length:=by unfold jP;simp
theorem lE (b:List Bk) (m:Nat) {i:Nat} (h:i<b.length):(jP b m)[i]?=some (cJ b m i):=by
 unfold jP;rw [List.getElem?_map,List.getElem?_range h];rfl
theorem Ag (b:List Bk):jP b 0=List.replicate b.length false:=by
 apply List.ext_getElem?;intro i;by_cases h:i<b.length
 ·rw [lE _ _ h,List.getElem?_replicate,if_pos h];simp [cJ]
 ·rw [List.getElem?_eq_none (by rw [bP];omega),List.getElem?_eq_none (by simp;omega)]
def iV (u:List Bool) (l:List Int):List Bool:=l.foldl (fun u x=>u.set x.toNat true) u
theorem fJ:∀ (l:List Int) (u:List Bool),(iV u l).length=u.length
 | [],_=>rfl
 | x :: l,u=>by show (iV (u.set x.toNat true) l).length=_;rw [fJ l];simp
theorem uy (u:List Bool) (l:List Int) (x:Int):iV u (l++[x])=(iV u l).set x.toNat true:=by unfold iV;rw [List.foldl_append];rfl
def qk:List Bool->Nat->Int
 | [],_ => -1
 | false :: _,i=>(i:Int)
 | true :: l,i=>qk l (i+1)
def bD (b:List Bk) (a:List Int):Int:=qk (iV (fy b) a) 0
def leftL (b:List Bk):Nat:=(fy b).count false
theorem pg {u:List Bool}:∀ (k i:Nat),(∀ j,j<k->u[i+j]?=some true)->qk (u.drop i) i=qk (u.drop (i+k)) (i+k)
 | 0,i,_=>rfl
 | k+1,i,h=>by
   have a:=h 0 Ha;rw [Nat.add_zero] at a;have b:=(List.getElem?_eq_some_iff.1 a).1;have e:u.drop i=true :: u.drop (i+1):=by
    rw [List.drop_eq_getElem_cons b]
    congr 1
    exact (List.getElem?_eq_some_iff.1 a).2
   rw [e];show qk (u.drop (i+1)) (i+1)=_;rw [pg k (i+1) (fun j hj=>by rw [Nat.add_assoc,Nat.add_comm 1 j];exact h (j+1) Ha),Nat.add_assoc,Nat.add_comm 1 k]
theorem By {u:List Bool} {k:Nat} (h:∀ j,j<k->u[j]?=some true) (a:u[k]?=some false):qk u 0=k:=by
 have b:=pg (u:=u) k 0 (fun j hj=>by rw [Nat.zero_add];exact h j hj);rw [List.drop_zero,Nat.zero_add] at b;rw [b,List.drop_eq_getElem_cons (List.getElem?_eq_some_iff.1 a).1,(List.getElem?_eq_some_iff.1 a).2];rfl
theorem uz {u:List Bool} (h:∀ j,j<u.length->u[j]?=some true):qk u 0 = -1:=by
 have a:=pg (u:=u) u.length 0 (fun j hj=>by rw [Nat.zero_add];exact h j hj);rw [List.drop_zero,Nat.zero_add,List.drop_length] at a;exact a
theorem Bz {u:List Bool}:∀ (m k:Nat),k+m=u.length->(∀ j,j<k->u[j]?=some true)->(∃ j,k<=j/\j<u.length/\u[j]?=some false/\qk u 0=(j:Int)/\∀ i,i<j->u[i]?=some true)\/(qk u 0 = -1/\∀ j,j<u.length->u[j]?=some true)
 | 0,k,c,h=>by
   have e:k=u.length:=c;subst e;exact .inr ⟨uz h,h⟩
 | m+1,k,c,h=>by
   obtain ⟨x,b⟩:∃ x,u[k]?=some x:=⟨_,List.getElem?_eq_getElem Ha⟩
   cases x with
   | false=>exact .inl ⟨k,Nat.le_refl _,Ha,b,By h b,h⟩
   | true =>
     rcases Bz (u:=u) m (k+1) Ha (fun j hj=>by
      by_cases a:j=k
      ·subst a;exact b
      ·exact h j Ha) with ⟨j,a,d⟩ | a
     ·exact .inl ⟨j,Ha,d⟩
     ·exact .inr a
theorem nu (u:List Bool):(∃ j:Nat,j<u.length/\u[j]?=some false/\qk u 0=(j:Int)/\∀ i,i<j->u[i]?=some true)\/(qk u 0 = -1/\∀ j,j<u.length->u[j]?=some true):=by
 rcases Bz (u:=u) u.length 0 Ha (fun j hj=>absurd hj Ha) with ⟨j,_,h⟩ | h
 ·exact .inl ⟨j,h⟩
 ·exact .inr h
def Ah (b:List Bk) (i:Int):Prop:=0<=i/\i<b.length/\(ik b i).k=1
instance (b:List Bk) (i:Int):Decidable (Ah b i):=by unfold Ah;infer_instance
def Jz (b:List Bk) (i:Int):Prop:=Ah b i/\aX (ik b i).k (ik b i).bs
instance (b:List Bk) (i:Int):Decidable (Jz b i):=by unfold Jz;infer_instance
def dW (k:Int) (n:Nd):Bk:=⟨fg k n,cX k n⟩
def gx (l:List Int):Bk:=⟨j9 l,j0 l⟩
def Fp (n:En):Bk:=⟨gw n,fI n⟩
def Nd.setDir (n:Nd) (k:Nat) (w:Int):Nd :=
 match k with
 | 0=>{ n with a:=w }
 | 1=>{ n with b:=w }
 | 2=>{ n with c:=w }
 | _=>{ n with d:=w }
def r6 (b:List Bk) (i:Int) (x:Bk):List Bk:=b.set i.toNat x
def fY:List Int:=List.replicate 16 (-1)
def dH:Bk:=⟨4,az⟩
def ot (x:Bk) (j:Nat) (v:Int):Bk:=⟨x.k,x.bs.set j v⟩
structure ou where
 l:Int
 a:Int
 g:Int
deriving DecidableEq
def ou.v (d:ou):Value:=jO d.l d.a d.g
structure ou.Ok (d:ou):Prop where
 l:i64 d.l
 a:i64 d.a
 g:u32 d.g
def ou.May (d:ou):Prop:=gL d.l d.a d.g
instance (d:ou):Decidable d.May:=by unfold ou.May;infer_instance
def En.id (n:En):ou:=⟨n.l,n.a,n.g⟩
def i3 (d:ou) (t:List Int) (x:Bk):Bool:=decide (x.k=6)&&(decide (dV x.k x.bs)&&(decide ((hH x.bs).id=d)&&decide ((hH x.bs).t=t)))
def pW (d:ou) (t:List Int) (b:List Bk):Option Nat:=b.findIdx? (i3 d t)
def im (d:ou) (t:List Int) (b:List Bk):En:=match pW d t b with | some i=>hH (ik b i).bs | none=>en0
def dI (d:ou) (t:List Int) (b:List Bk):Int:=match pW d t b with | some i=>(i:Int) | none => -1
def ql (a:List Bk) (n:En):List Bk × Int :=
 if ¬ j3 n then (a,1) else if 0<=dI n.id n.t a then (a,4) else if bD a []<0 then (a,9) else (r6 a (bD a []) (Fp n),0)
def nextM (b:List Bk):Nat:=aB (aW (ik b 0).bs 0 4)
def gy (b:List Bk) (v:Nat):List Bk:=r6 b 0 ⟨(ik b 0).k,be v 4++(ik b 0).bs.drop 4⟩
def ov (b:List Bk) (d:ou):Bool:=decide (0<=d.a/\d.a<b.length)&&(decide ((ik b d.a).k=2)&&(decide (aX (ik b d.a).k (ik b d.a).bs)&&decide ((cW (ik b d.a).bs).g=d.g)))
def Ai (a:Int) (b:List Bk) (d:ou):Bool:=decide (d.l≠a)||ov b d
def JA (c:Int) (b:List Bk) (d:ou):Prop:=d.l=c/\1<=d.a/\d.a<b.length/\ie (ik b d.a).k/\aX (ik b d.a).k (ik b d.a).bs/\(cW (ik b d.a).bs).g=d.g
instance (a:Int) (b:List Bk) (d:ou):Decidable (JA a b d):=by unfold JA;infer_instance
def pX (g:Int) (t:List Int):Nd:=⟨g,1,t.length,-1,-1,-1,-1,-1,t⟩
def Fq (f:Int) (b:List Bk) (d:ou) (e:List Int) (c:Int) (t:List Int):List Bk × ou × Int :=
 if ¬ ie c\/¬ Bw e\/¬ d.May\/(c=3/\¬ uf t)\/(c≠3/\t≠[]) then (b,⟨0,0,0⟩,1)
 else if Ai f b d=false then (b,⟨0,0,0⟩,2)
 else if 0<=dI d e b then (b,⟨0,0,0⟩,4)
 else if leftL b<2\/nextM b=4294967295 then (b,⟨0,0,0⟩,9)
 else ((ql (gy (r6 b (bD b []) (dW c (pX (nextM b) t))) (nextM b+1)) ⟨d.l,d.a,d.g,e,bD b [],nextM b⟩).1,⟨f,bD b [],nextM b⟩,0)
def Fs (b:List Bk) (p:Int):Prop:=1<=p/\p<b.length/\(ik b p).k=4
def LQ (b:List Bk) (x:Int):Prop:=1<=x/\x<b.length/\(ik b x).k=5/\pU (ik b x).k (ik b x).bs=true/\∀ p∈tkL (ik b x).k (ik b x).bs,p ≠ -1->Fs b p
structure Mw (b:List Bk) (n:Nd):Prop where
 dir:∀ p∈n.dir,p ≠ -1->Fs b p
 idx:n.x ≠ -1->LQ b n.x
def vR (b:List Bk) (n:Nd):List Int:=n.dir++(if n.x = -1 then [] else n.x :: tkL (ik b n.x).k (ik b n.x).bs)
def Ku (i:Int) (x:Bk):Bool:=decide (dV x.k x.bs)&&decide ((hH x.bs).p=i)
def M2 (b:List Bk) (i:Int):Int:=((b.countP (Ku i):Nat):Int)
structure M3 (b:List Bk) (d:Int->Int) (i:Nat) (x:Bk):Prop where
 tk:aX x.k x.bs
 on:Mw b (cW x.bs)
 g:(cW x.bs).g<nextM b
 l:(cW x.bs).l=M2 b i+d i
 one:x.k≠1->(cW x.bs).l=1
structure M4 (b:List Bk) (x:Bk):Prop where
 tk:dV x.k x.bs
 tgt:∃ y,b[(hH x.bs).p.toNat]?=some y/\ie y.k/\(cW y.bs).g=(hH x.bs).n
structure Ft (b:List Bk) (d:Int->Int):Prop where
 ok:dO b
 len:2<=b.length/\b.length<=200
 sup:(ik b 0).k=7
 gen:1<=nextM b
 nd:∀ (i:Nat) (x:Bk),b[i]?=some x->ie x.k->M3 b d i x
 en:∀ (i:Nat) (x:Bk),b[i]?=some x->x.k=6->M4 b x
theorem aX.may {k:Int} {bs:List Int} (h:aX k bs):aS k (cW bs):=h.2.1
theorem BA {b:List Bk} (h:dO b) {Y:Bk} (a:Y.Ok) (p:Nat):dO (b.set p Y):=fun z c=>by
 rcases List.mem_or_eq_of_mem_set c with d | rfl
 ·exact h z d
 ·exact a
def BB (b:List Bk) (p:Nat):Prop:=∀ (i:Nat) (z:Bk),b[i]?=some z->ie z.k->(p:Int) ∉ vR b (cW z.bs)
theorem vS {k:Int} {n:Nd} (b:0<=k/\k<=7) (a:ay n.t):(dW k n).Ok :=
 ⟨by show 0<=fg k n/\fg k n<=7;unfold fg;split <;> omega,kv,ng a⟩
theorem ow (l:List Int):(gx l).Ok:=⟨by show 0<=j9 l/\j9 l<=7;unfold j9;split <;> omega,vM l,rQ l⟩
theorem IE {n:En} (a:ay n.t):(Fp n).Ok:=⟨by show 0<=gw n/\gw n<=7;unfold gw;split <;> omega,pf,rX a⟩
theorem yp:dH.Ok:=⟨by show (0:Int)<=4/\(4:Int)<=7;omega,ak,fc⟩
theorem pi {k:Int} {n:Nd} (h:aS k n) (a:jY n):(dW k n).k=k/\aX (dW k n).k (dW k n).bs/\cW (dW k n).bs=n:=by
 have b:fg k n=k:=if_pos h;have c:cX k n=bH (aH n):=if_pos h;unfold dW;rw [b,c];exact ⟨rfl,(CW h a).1,EQ h a⟩
theorem Fu (l:List Int):mayB l=true↔l.length=16/\∀ j x,l[j]?=some x->x = -1\/((1<=x/\x<200)/\x ∉ l.take j):=by
 have f:∀ m,m<=l.length->(yZ l m=true↔∀ j x,j<m->l[j]?=some x->x = -1\/((1<=x/\x<200)/\x ∉ l.take j)):=by
  intro m
  induction m with
  | zero=>intro _;exact ⟨fun _ j x hj=>absurd hj Ha,fun _=>rfl⟩
  | succ m ih =>
    intro k;obtain ⟨y,c⟩:∃ y,l[m]?=some y:=⟨_,List.getElem?_eq_getElem Ha⟩
    rw [no c,Bool.and_eq_true,ih Ha];have g:uo l m y=true↔y = -1\/((1<=y/\y<200)/\y ∉ l.take m):=by
     unfold uo;simp only [Bool.or_eq_true,Bool.and_eq_true,beq_iff_eq,decide_eq_true_eq,Bool.not_eq_true',List.contains_eq_mem,decide_eq_false_iff_not]
    rw [g];constructor
    ·rintro ⟨a,h⟩ j x hj b;by_cases e:j=m
     ·subst e;rw [c] at b;injection b with i;subst i;exact h
     ·exact a j x Ha b
    ·intro a;exact ⟨fun j x hj=>a j x Ha,a m y Ha c⟩
 unfold mayB;rw [Bool.and_eq_true,decide_eq_true_eq];constructor
 ·rintro ⟨d,a⟩;exact ⟨d,fun j x hj=>(f 16 Ha).1 a j x (by have:=(List.getElem?_eq_some_iff.1 hj).1;omega) hj⟩
 ·rintro ⟨d,a⟩;exact ⟨d,(f 16 Ha).2 fun j x _=>a j x⟩
theorem BC:∀ (l:List Int) (u:List Bool) (q:Nat),(iV u l)[q]?=some false->u[q]?=some false/\(∀ t∈l,0<=t->t≠q)
 | [],u,q,h=>⟨h,fun t d=>by cases d⟩
 | t :: l,u,q,h=>by
   have a:=BC l (u.set t.toNat true) q h;by_cases e:t.toNat=q
   ·subst e;have b:=a.1;rw [List.getElem?_set] at b;simp only [if_true] at b;split at b <;> cases b
   ·rw [List.getElem?_set_ne e] at a;refine ⟨a.1,fun s c f=>?_⟩;rcases List.mem_cons.1 c with rfl | c
    ·omega
    ·exact a.2 s c f
theorem Fv {b:List Bk} {q:Nat} (a:q<b.length) (h:(fy b)[q]?=some false):q≠0/\¬ ie (ik b q).k/\(ik b q).k≠6/\∀ z∈b,(q:Int) ∉ namedL b z:=by
 unfold fy at h;rw [lE _ _ a] at h;injection h with h
 unfold cJ at h;rw [decide_eq_true a,Bool.true_and,List.take_length] at h;simp only [Bool.or_eq_false_iff,decide_eq_false_iff_not,List.any_eq_false,List.contains_eq_mem,decide_eq_true_eq] at h;exact ⟨h.1.1.1,h.1.1.2,h.1.2,h.2⟩
theorem Aj {b:List Bk} {d:Int->Int} (n:Ft b d) {q:Nat} (h:∀ z∈b,(q:Int) ∉ namedL b z):BB b q:=by
 intro i z l o a;have g:=n.nd i z l o;have e:=h z (List.mem_of_getElem? l);by_cases m:z.k=1
 ·apply e;unfold namedL;rw [if_pos ⟨m,g.tk⟩];unfold ia;unfold vR at a;rcases List.mem_append.1 a with a | a
  ·exact List.mem_append_right _ (hU.2 ⟨a,Ha⟩)
  ·refine List.mem_append_left _ ?_;by_cases j:(cW z.bs).x = -1
   ·rw [if_pos j] at a;cases a
   ·rw [if_neg j] at a ⊢;have p:=g.on.idx j;rcases List.mem_cons.1 a with a | a
    ·rw [a];exact List.mem_cons_self
    ·refine List.mem_cons_of_mem _ ?_;unfold mw;rw [if_pos p.2.1];exact hU.2 ⟨a,Ha⟩
 ·have c:(cW z.bs).ps=jN:=by
   rcases g.tk.may.2 with f | f | f
   ·exact absurd f.1 m
   ·exact f.2.2.2.2
   ·exact f.2.2.2
  unfold Nd.ps jN at c;simp only [List.cons.injEq,and_true] at c;unfold vR Nd.dir at a;rw [c.1,c.2.1,c.2.2.1,c.2.2.2.1,c.2.2.2.2] at a;simp at a
structure LR (b:List Bk) (q:Nat):Prop where
 lt:q<b.length
 ne:q≠0
 nd:¬ ie (ik b q).k
 en:(ik b q).k≠6
 un:BB b q
theorem yq {b:List Bk} {d:Int->Int} (f:Ft b d) {tk:List Int} (h:¬ bD b tk<0):∃ q:Nat,bD b tk=q/\LR b q/\∀ t∈tk,0<=t->t≠q:=by
 unfold bD at h ⊢;rcases nu (iV (fy b) tk) with ⟨q,a,g,i,k⟩ | ⟨a,_⟩
 ·rw [fJ] at a;have e:q<b.length:=by unfold fy at a;rw [bP] at a;exact a
  obtain ⟨h5,j⟩:=BC _ _ _ g;have c:=Fv e h5;exact ⟨q,i,⟨e,c.1,c.2.1,c.2.2.1,Aj f c.2.2.2⟩,j⟩
 ·rw [a] at h;omega
theorem yr (b:List Bk) (i:Nat) (x:Bk):r6 b i x=b.set i x:=by unfold r6;rw [Int.toNat_natCast]
theorem BD (n:Nd) (p:Int):p∈n.dir↔p=n.a\/p=n.b\/p=n.c\/p=n.d:=by unfold Nd.dir;simp
theorem Fw {k:Int} {bs:List Int} (h:pU k bs=true):tkL k bs=dh bs/\mayB (dh bs)=true:=by
 refine ⟨if_pos h,?_⟩;unfold pU at h;rw [Bool.and_eq_true] at h;exact h.1
theorem pj {l:List Int} (h:mayB l=true):(gx l).k=5/\pU (gx l).k (gx l).bs=true/\tkL (gx l).k (gx l).bs=l/\dh (gx l).bs=l:=by
 have a:j9 l=5:=if_pos h;have b:j0 l=bH (cD l):=if_pos h;unfold gx;rw [a,b];exact ⟨rfl,(Ff h).1,(Ff h).2,Fe (oq h)⟩
def d0:Int->Int:=fun _=>0
theorem Da {b:List Bk} {d:ou} {t:List Int} (h:¬ dI d t b<0):∃ (j:Nat) (x:Bk),dI d t b=j/\b[j]?=some x/\dV x.k x.bs/\(hH x.bs).id=d/\(hH x.bs).t=t/\im d t b=hH x.bs:=by
 unfold dI at h;unfold dI im;cases c:pW d t b with
 | none=>rw [c] at h;simp only at h;omega
 | some j =>
   unfold pW at c;rw [List.findIdx?_eq_some_iff_getElem] at c;obtain ⟨f,a,_⟩:=c;have e:b[j]?=some b[j]:=List.getElem?_eq_getElem f;unfold i3 at a;simp only [Bool.and_eq_true,decide_eq_true_eq] at a;simp only;rw [kN e];exact ⟨j,_,rfl,e,a.2.1,a.2.2.1,a.2.2.2,rfl⟩
theorem uA:∀ {u:List Bool},2<=u.count false->∀ {q:Nat},∃ r,r≠q/\u[r]?=some false
 | [],h,_=>by simp at h
 | x :: l,h,q=>by
   cases q with
   | zero =>
     have a:1<=l.count false:=by rw [List.count_cons] at h;split at h <;> omega
     obtain ⟨r,b⟩:=List.getElem?_of_mem (List.count_pos_iff.1 (show 0<l.count false by omega));exact ⟨r+1,Ha,b⟩
   | succ q =>
     cases x with
     | false=>exact ⟨0,Ha,rfl⟩
     | true =>
       rw [List.count_cons] at h;simp at h;obtain ⟨r,a,c⟩:=uA h (q:=q);exact ⟨r+1,Ha,c⟩
theorem Ak {b:List Bk} {r:Nat} (h:(fy b)[r]?=some false):¬ bD b []<0:=by
 unfold bD;show ¬ qk (fy b) 0<0;rcases nu (fy b) with ⟨j,c,a,d,e⟩ | ⟨c,a⟩
 ·omega
 ·have:=a r (List.getElem?_eq_some_iff.1 h).1;rw [h] at this;cases this
theorem r7:i64 (-1):=⟨Hd,Hd⟩
theorem LS:i64 1:=⟨Hd,Hd⟩
theorem Kv {g:Nat} {t:List Int} (c:g<4294967296) (a:ay t) (b:t.length<=100):jY (pX g t) :=
 ⟨⟨by show (0:Int)<=(g:Int);omega,by show (g:Int)<=4294967295;omega⟩,LS,⟨by show -2 ^ 63<=((t.length:Nat):Int);omega,by show ((t.length:Nat):Int)<=2 ^ 63;omega⟩,r7,r7,r7,r7,r7,a,by show t.length<=9223372036854775807;omega⟩
end Go.Proofs.YtegjelaejbacnaaGreat
