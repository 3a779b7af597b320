/- For FileLong: contracts and facts, part 14. -/
import Derived.Test.YtegjelaejbacnaaGreatL13
set_option maxRecDepth 100000
set_option maxHeartbeats 25600000
set_option linter.unusedVariables false
open Go.ChangeShapes Go.WideShapes Go.ChangeAt Go.RowKit
namespace Go.Proofs.YtegjelaejbacnaaGreat
theorem oe (x:Int) (n:Nat) (w:World) (b:0<=x/\x<18446744073709551616) (a:n<=8) :
 Calls Tryz.prog 128 #[.int .u64 x,.int .i64 n] w fun e w'=>∃ u,e=.returned u/\aD w' w.heap.size u (be x.toNat n)/\Below w.heap.size w w':=by
 have h:=lU x.toNat n w Ha a
 rwa [show ((x.toNat:Nat):Int)=x by omega] at h
theorem uh {o:Oper} {a:Act} {w:World} {K:Act->World->Prop} {Q:Exit->Act->World->Prop} (x y:Operand) (d:o.op=.store 37 x y) (g:Nat) (e:a.eval x=.pointer (some ⟨g,0,none⟩)) (k j:Int) (bs cs:List Int) (f:a.eval y=.agg (ab k bs)) (b:bs.length=56) (c:cs.length=56) (i:w.heap[g]?=some (.cells (ab j cs) 37 (0,0)))
 (h:K (a.put o.dst undef) (w.setRow g (ab k bs))):o.wp Tryz.prog a w K Q :=
 wp_store_row 37 x y d g _ e f _ _ i (by rw [aP b];exact db) (by rw [aP b,aP c]) (ke _ _) h
theorem ct (w:World) (g:Nat) (C:Array Value):w.grownBy (w.setRow g C) (some g) :=
 ⟨rfl,rfl,rfl,Hb,fun k _ a=>setRow_other w g k C (fun e=>a (by rw [e]))⟩
structure EO (w:World) (p:Nat) (n:Nd) (W:World):Prop where
 bel:Below p w W
 sz:p+1+1<=W.heap.size
 at_:aV W p n
 res:W.heap[p+1]?=some (.cells (ab 0 az) 37 (0,0))
section
variable {w W W':World} {p:Nat} {n:Nd}
theorem EO.below (h:EO w p n W) (a:Below W.heap.size W W'):EO w p n W' :=
 ⟨h.bel.trans (a.mono (by have:=h.sz;omega)),Nat.le_trans h.sz a.size,h.at_.below a,kb a h.res⟩
theorem EO.grown {r:Option Nat} (h:EO w p n W) (a:W.grownBy W' r) (b:∀ j,r=some j->p<=j) (c:r≠some p) (d:r≠some (p+1)):EO w p n W' :=
 ⟨h.bel.grown a (by have:=h.sz;omega) b,Nat.le_trans h.sz a.size,h.at_.grown a c,by rw [a.block _ (by have:=h.sz;omega) (fun e=>d e.symm)];exact h.res⟩
end
def K3 (p:Nat) (n:Nd) (i:Nat) (v:Value) (W:World):Prop :=
 match i with
 | 0=>v=.pointer (some ⟨p,0,none⟩)
 | 1=>v=.int .u32 n.g
 | 2=>v=.int .u64 n.g
 | 4=>v=.pointer (some ⟨p,1,none⟩)
 | 5=>v=.int .i64 n.l
 | 6=>v=.int .u64 n.l
 | 9=>v=.pointer (some ⟨p,2,none⟩)
 | 10=>v=.int .i64 n.s
 | 11=>v=.int .u64 n.s
 | 3=>aD W (p+1+1) v (be n.g.toNat 4)
 | 7=>aD W (p+1+1) v (be n.l.toNat 2)
 | 8=>W.ownsRow (p+1+1) 5 1 v 6 (Bs (be n.g.toNat 4++be n.l.toNat 2))
 | 12=>aD W (p+1+1) v (be n.s.toNat 4)
 | 13=>W.ownsRow (p+1+1) 5 1 v 10 (Bs (dw n))
 | _=>True
def LE (i:Nat) (w w':World):Prop:=if i=13 then bV 6 10 w w' else w.grownBy w' none
theorem K3.on {p:Nat} {n:Nd} {i j:Nat} {v:Value} {w w':World} (b:i≠j) (h:K3 p n j v w) (a:LE i w w'):K3 p n j v w':=by
 unfold LE at a;by_cases c:i=13
 ·rw [if_pos c] at a;unfold K3 at *;split <;> try exact h
  ·exact aD.keep h a (by rw [au];decide)
  ·exact aD.keep h a (by rw [au];decide)
  ·exact iL h a Hd
  ·exact aD.keep h a (by rw [au];decide)
  ·exact absurd c b
  ·trivial
 ·rw [if_neg c] at a;unfold K3 at *;split <;> try exact h
  ·exact aD.grown h a
  ·exact aD.grown h a
  ·exact World.ownsRow.kept h a (by cases v.ownBlock <;> simp)
  ·exact aD.grown h a
  ·exact World.ownsRow.kept h a (by cases v.ownBlock <;> simp)
  ·trivial
structure xS (w:World) (p:Nat) (n:Nd) (k:Int) (v6:Value) (b7 b12:Bool) (W:World):Prop where
 bel:Below p w W
 sz:p+1+1<=W.heap.size
 at_:aV W p n
 row:b7=false->W.ownsRow (p+1+1) 5 1 v6 20 (Bs (dw n++mI n.ps))
 res0:b12=false->W.heap[p+1]?=some (.cells (ab 0 az) 37 (0,0))
 res1:b12=true->W.heap[p+1]?=some (.cells (ab k (bH (aH n))) 37 (0,0))
section
variable {w W W':World} {p:Nat} {n:Nd} {k:Int} {v6:Value} {b7 b12:Bool}
theorem xS.below (h:xS w p n k v6 b7 b12 W) (a:Below W.heap.size W W'):xS w p n k v6 b7 b12 W' :=
 ⟨h.bel.trans (a.mono (by have:=h.sz;omega)),Nat.le_trans h.sz a.size,h.at_.below a,fun e=>ic (h.row e) a,fun e=>kb a (h.res0 e),fun e=>kb a (h.res1 e)⟩
theorem xS.alloc (h:xS w p n k v6 b7 b12 W) (o:Obj):xS w p n k v6 b7 b12 (W.alloc o):=h.below (aM o)
theorem xS.push {r:Option Nat} (h:xS w p n k v6 b7 b12 W) (b:W.grownBy W' r) (a:∀ j,r=some j->p+1+1<=j):xS w p n k v6 true b12 W':=by
 have c:r≠some (p+1):=fun e=>by have:=a _ e;omega
 exact ⟨h.bel.grown b (by have:=h.sz;omega) (fun j e=>by have:=a j e;omega),Nat.le_trans h.sz b.size,h.at_.grown b (fun e=>by have:=a _ e;omega),(fun e=>by cases e),(fun e=>by rw [b.block _ (by have:=h.sz;omega) (fun e=>c e.symm)];exact h.res0 e),(fun e=>by rw [b.block _ (by have:=h.sz;omega) (fun e=>c e.symm)];exact h.res1 e)⟩
theorem xS.push2 {r:Option Nat} (h:xS w p n k v6 b7 b12 W) (b:W.grownBy W' r) (a:∀ j,r=some j->p+1+1<=j) (c:b7=true):xS w p n k v6 b7 b12 W':=by
 have:=h.push b a;subst c;exact this
theorem xS.stored (h:xS w p n k v6 b7 b12 W):xS w p n k v6 b7 true (W.setRow (p+1) (ab k (bH (aH n)))):=by
 have b:W.heap[p+1]?=some (.cells (ab k (bH (aH n))) 37 (0,0))\/W.heap[p+1]?=some (.cells (ab 0 az) 37 (0,0)):=by
  cases b12
  ·exact Or.inr (h.res0 rfl)
  ·exact Or.inl (h.res1 rfl)
 exact ⟨below_setRow h.bel Ha _,by rw [size_setRow];exact h.sz,h.at_.other _ Ha,(fun e=>World.ownsRow.kept (h.row e) (ct _ _ _) (Or.inr fun c=>by have:=((h.row e).lt _ c).1;omega)),(fun e=>by cases e),(fun _=>by rcases b with a | a <;> exact am a)⟩
end
def Jv (p:Nat) (n:Nd) (k:Int) (v6:Value) (i:Nat) (v:Value) (W:World):Prop :=
 match i with
 | 0=>v=.int .i64 k
 | 1=>v=v6
 | 2 | 8=>v=.pointer (some ⟨p,8,none⟩)
 | 3 | 9=>v=.string (strOfNums n.t)
 | 4=>v=.int .i64 n.t.length
 | 5=>v=.int .u8 n.t.length
 | 11=>v=.agg (ab k (bH (aH n)))
 | 6=>aD W (p+1+1) v [(n.t.length:Int)]
 | 7=>W.ownsRow (p+1+1) 5 1 v 21 (Bs (i2 n))
 | 10=>W.ownsRow (p+1+1) 5 1 v (21+n.t.length) (Bs (aH n))
 | _=>True
def LF (p:Nat) (n:Nd) (i:Nat) (w w':World):Prop:=if i=7 then bV 20 21 w w' else if i=10 then bV 21 (21+n.t.length) w w' else if i=12 then w.grownBy w' (some (p+1)) else w.grownBy w' none
theorem aD.kept {w w':World} {base:Nat} {v:Value} {xs:List Int} {r:Nat} (h:aD w base v xs) (b:w.grownBy w' (some r)) (f:r<base):aD w' base v xs:=by
 obtain ⟨q,C,rfl,c,a,d⟩:=h;exact ⟨q,C,rfl,c,by rw [b.block q (ah a) (fun e=>by injection e with e;omega)];exact a,d⟩
theorem oh {w w':World} {base m:Nat} {t:TypeId} {v:Value} {xs:List Value} {r:Nat} (h:w.ownsRow base t 1 v m xs) (a:w.grownBy w' (some r)) (b:r<base):w'.ownsRow base t 1 v m xs :=
 World.ownsRow.kept h a (Or.inr fun e=>by have:=(h.lt _ e).1;omega)
theorem Jv.on {p:Nat} {n:Nd} {k:Int} {v6:Value} {i j:Nat} {v:Value} {w w':World} (c:i≠j) (d:¬ (i=7/\j=10)) (h:Jv p n k v6 j v w) (a:LF p n i w w'):Jv p n k v6 j v w':=by
 unfold LF at a;by_cases f:i=7
 ·rw [if_pos f] at a;unfold Jv at *;split <;> try exact h
  ·exact aD.keep h a (show 1<21 by omega)
  ·exact absurd f c
  ·exact absurd ⟨f,rfl⟩ d
  ·trivial
 ·rw [if_neg f] at a;by_cases b:i=10
  ·rw [if_pos b] at a;unfold Jv at *;split <;> try exact h
   ·exact aD.keep h a (show 1<21+n.t.length by omega)
   ·exact iL h a Hd
   ·exact absurd b c
   ·trivial
  ·rw [if_neg b] at a;by_cases e:i=12
   ·rw [if_pos e] at a;unfold Jv at *;split <;> try exact h
    ·exact aD.kept h a Ha
    ·exact oh h a Ha
    ·exact oh h a Ha
    ·trivial
   ·rw [if_neg e] at a;unfold Jv at *;split <;> try exact h
    ·exact aD.grown h a
    ·exact World.ownsRow.kept h a (by cases v.ownBlock <;> simp)
    ·exact World.ownsRow.kept h a (by cases v.ownBlock <;> simp)
    ·trivial
theorem LH (n:Nd) {j:Nat} (h:j<4):(bF n)[3+j]?=some (.int .i64 (n.ps.getD j 0)):=by
 match j,h with
 | 0,_=>rfl
 | 1,_=>rfl
 | 2,_=>rfl
 | 3,_=>rfl
theorem ui (k:Int) (n:Nd) (w:World) (hn:jY n) (a5:n.t.length<=100):Calls Tryz.prog 70 #[.int .i64 k,.agg (bF n)] w fun e w'=>e=.returned (.tuple #[.agg (ab (fg k n) (cX k n)),.bool (decide (aS k n))])/\Below w.heap.size w w':=by
 have HM:=He (fun w=>CV k n w hn a5);have HT:=He hn.t;have an:Hid (EO w w.heap.size n ((w.alloc (Obj.cells (bF n) 137)).alloc (Obj.cells (ab 0 az) 37))):=by
  have s1:(w.alloc (Obj.cells (bF n) 137)).heap.size=w.heap.size+1:=al _ _;have B1:=aM (w:=w) (Obj.cells (bF n) 137);have H1:=heap_alloc_new (w.alloc (Obj.cells (bF n) 137)) (Obj.cells (ab 0 az) 37);rw [s1] at H1;exact ⟨B1.alloc B1.size _,by rw [al,s1];exact Nat.le_refl _,(aV.new w n).alloc _,H1⟩
 go_enter Tryz.func70,Tryz.ntmps70;go_upto_region 1 with (refine aq rfl rfl ?_;try simp only [al])
 generalize (w.alloc (Obj.cells (bF n) 137)).alloc (Obj.cells (ab 0 az) 37)=W at *;go_wp2_with (refine aZ rfl (.tmp 3) rfl w.heap.size rfl n an.out.at_ ?_)
 refine (HM.out _).mono ?_;rintro e w1 ⟨rfl,a6⟩;have z:=He (an.out.below a6);clear a6 an;by_cases O:aS k n
 ·have a0:Hid (fg k n=k):=by unfold Hid fg;rw [if_pos O]
  have a1:Hid (cX k n=bH (aH n)):=by unfold Hid cX;rw [if_pos O]
  have HD:=He (decide_eq_true O);rw [HD.out];have cu:=O.tl;have cv:=O.sz;have cw:=O.1;have cr:n.g<4294967296:=by have:=hn.g.2;omega
  have X:=He (fun i hi=>O.at_ (i:=i) hi);have a7:=He (fV (ys:=aH n) (by rw [iI];omega));have HA:=He oe;have a8:0<=n.g/\n.g<18446744073709551616:=Ha;have a9:0<=n.l/\n.l<18446744073709551616:=Ha;have bb:0<=n.s/\n.s<18446744073709551616:=Ha;have wg:IntKind.u64.wrap n.g=n.g:=IntWalk.u64_in _ Ha;have wl:IntKind.u64.wrap n.l=n.l:=IntWalk.u64_in _ Ha;have ws:IntKind.u64.wrap n.s=n.s:=IntWalk.u64_in _ Ha;clear O;go_upto_region 3 with fail
  generalize hp:w.heap.size=p at *
  go_cut [6] (fun s wx=>wx.ownsRow (p+1+1) 5 1 s 10 (Bs (dw n))/\EO w p n wx)
  case first =>
   have R:EO w p n w1.drew:=⟨z.out.bel.drew,z.out.sz,z.out.at_,z.out.res⟩
   refine ax (K3 p n) (fun _ W=>EO w p n W) LE Hc Hc (fun i j v' w' b0 a2 Y h hg=>h.on a2 hg) R ?_;have srefl:∀ (i:Nat) (W:World),LE i W W:=fun i W=>by unfold LE;split;exact bV.grown (World.grownBy.refl _ _);exact World.grownBy.refl _ _
   clear R z;simp only [cf];refine ⟨?_,?_,?_,?_,?_,?_,?_,?_,?_,?_,?_,?_,?_,?_,?_⟩
   ·refine aa.of rfl fun T W L hag o hJ m hd=>?_;have e3:=Hf hag 3;exact Hi
   ·refine aa.of rfl fun T W L hag o hJ m hd=>?_;have cx:T.getD 13 undef=_:=Hg hd 0 rfl;have r:=(show W.cell? ⟨p,0,none⟩=some (.int .u32 n.g) from hJ.at_.cell 0)
    exact Hi
   ·refine aa.of rfl fun T W L hag o hJ m hd=>?_;have cz:T.getD 14 undef=_:=Hg hd 1 rfl;have r:=wg;exact Hi
   ·refine aa.of rfl fun T W L hag o hJ m hd=>?_;have cA:T.getD 15 undef=_:=Hg hd 2 rfl;clear hag hd;go_simp;refine (HA.out n.g 4 W a8 Ha).mono ?_;rintro en w' ⟨u,rfl,A,B⟩;exact ⟨_,rfl,A.mono hJ.sz,hJ.below B,dZ B⟩
   ·refine aa.of rfl fun T W L hag o hJ m hd=>?_;have e3:=Hf hag 3;exact Hi
   ·refine aa.of rfl fun T W L hag o hJ m hd=>?_;have cP:T.getD 17 undef=_:=Hg hd 4 rfl;have r:=(show W.cell? ⟨p,1,none⟩=some (.int .i64 n.l) from hJ.at_.cell 1)
    exact Hi
   ·refine aa.of rfl fun T W L hag o hJ m hd=>?_;have c0:T.getD 18 undef=_:=Hg hd 5 rfl;have r:=wl;exact Hi
   ·refine aa.of rfl fun T W L hag o hJ m hd=>?_;have c1:T.getD 19 undef=_:=Hg hd 6 rfl;clear hag hd;go_simp;refine (HA.out n.l 2 W a9 Ha).mono ?_;rintro en w' ⟨u,rfl,A,B⟩;exact ⟨_,rfl,A.mono hJ.sz,hJ.below B,dZ B⟩
   ·refine aa.of rfl fun T W L hag o hJ m hd=>?_;have b1:aD W (p+1+1) (T.getD 16 undef) (be n.g.toNat 4):=Hg hd 3 rfl;have x20:aD W (p+1+1) (T.getD 20 undef) (be n.l.toNat 2):=Hg hd 7 rfl;obtain ⟨q,(b2:T.getD 20 undef=_),hy⟩:=x20.byt;refine nG W (.tmp 16) (.tmp 20) rfl (p+1+1) _ (be n.g.toNat 4) rfl b1 (some ⟨q,0,none⟩) 2 2 (be n.l.toNat 2) b2 hy rfl Ha (by simp [au]) hJ.sz ?_;intro v' w' Z M;rw [au] at Z;exact ⟨_,rfl,Z,hJ.grown M Hb Hb Hb,M⟩
   ·refine aa.of rfl fun T W L hag o hJ m hd=>?_;have e3:=Hf hag 3;exact Hi
   ·refine aa.of rfl fun T W L hag o hJ m hd=>?_;have c2:T.getD 22 undef=_:=Hg hd 9 rfl;have r:=(show W.cell? ⟨p,2,none⟩=some (.int .i64 n.s) from hJ.at_.cell 2)
    exact Hi
   ·refine aa.of rfl fun T W L hag o hJ m hd=>?_;have c4:T.getD 23 undef=_:=Hg hd 10 rfl;have r:=ws;exact Hi
   ·refine aa.of rfl fun T W L hag o hJ m hd=>?_;have c5:T.getD 24 undef=_:=Hg hd 11 rfl;clear hag hd;go_simp;refine (HA.out n.s 4 W bb Ha).mono ?_;rintro en w' ⟨u,rfl,A,B⟩;exact ⟨_,rfl,A.mono hJ.sz,hJ.below B,dZ B⟩
   ·refine aa.of rfl fun T W L hag o hJ m hd=>?_;have bi:W.ownsRow (p+1+1) 5 1 (T.getD 21 undef) 6 (Bs (be n.g.toNat 4++be n.l.toNat 2)):=Hg hd 8 rfl;have b3:aD W (p+1+1) (T.getD 25 undef) (be n.s.toNat 4):=Hg hd 12 rfl;obtain ⟨q,(b4:T.getD 25 undef=_),hy⟩:=b3.byt;refine gI W (.tmp 21) (.tmp 25) rfl (p+1+1) _ 6 _ rfl bi (some ⟨q,0,none⟩) 4 4 (be n.s.toNat 4) b4 hy rfl Ha hJ.sz ?_;intro v' w' Z M h3;have C:∀ j,(T.getD 21 undef).ownBlock=some j->p+1+1<=j:=fun j e=>(bi.lt j e).1;exact ⟨_,rfl,Z,hJ.grown M (fun j e=>by have:=C j e;omega) (fun e=>by have:=C p e;omega) (fun e=>by have:=C (p+1) e;omega),h3⟩
   ·refine bm.of rfl fun T W L hag m o hJ hd=>?_;have a3:W.ownsRow (p+1+1) 5 1 (T.getD 26 undef) 10 (Bs (dw n)):=hd 13 _ Hb rfl;obtain ⟨f,A,hT⟩:=aJ hag;have bk:=A 26;rw [<- bk] at a3;have bl:=He a3;clear bk a3;have HJ:=He hJ;clear hag hd hJ A;rw [hT];clear hT;simp only [List.pop_toArray,List.dropLast_cons_cons,List.dropLast_singleton,List.filterMap_cons,List.filterMap_nil,List.foldl_cons,List.foldl_nil,List.setIfInBounds_toArray,List.set_cons_succ,List.set_cons_zero];rename_i b5 c6;go_wp2_with fail
    refine b5 _ _ ?_
    repeat apply Exists.intro
    exact ⟨⟨bl.out,HJ.out⟩,rfl⟩
  case rest =>
   obtain ⟨own,hJ⟩:=hcut;go_wp2_with fail
   have HO:=He own;have HJ:=He hJ;clear own hJ z wg wl ws a8 a9 bb
   go_loopw [6,7] (fun v i wr=>∃ j:Nat,j<=4/\i=.int .i64 j/\Hid (wr.ownsRow (p+1+1) 5 1 v (10+2*j) (Bs (dw n++mI (n.ps.take j))))/\Hid (EO w p n wr)) (fun _ i _=>(4-intOf i).toNat)
   case atStart=>exact ⟨0,Ha,rfl,by rw [List.take_zero];show Hid (World.ownsRow _ _ _ _ _ _ (Bs (dw n++[])));rw [List.append_nil];exact HO,HJ⟩
   case round =>
    obtain ⟨j,hj,rfl,V,N⟩:=hrel;clear HO HJ;by_cases b6:j<4
    ·have hx:n.ps[j]?=some (n.ps.getD j 0):=by
      rw [List.getD,List.getElem?_eq_getElem (show j<n.ps.length by show j<5;omega)];rfl
     have b8:Hid (dw n++mI (n.ps.take (j+1))=(dw n++mI (n.ps.take j))++be (n.ps.getD j 0+1).toNat 2):=by
      unfold Hid;rw [aw hx,rB,List.append_assoc]
     have B:=X.out j Ha;have c3:=(N.out.at_.cell (3+j)).trans (LH n b6);clear hx;generalize n.ps.getD j 0=x at *;have bn:IntKind.i64.wrap (x+1)=x+1:=IntWalk.i64_in _ Ha;have bs:IntKind.u64.wrap (x+1)=x+1:=IntWalk.u64_in _ Ha;go_wp2_with fail
     refine (HA.out (x+1) 2 wr Ha Ha).mono ?_;rintro e w6 ⟨u,rfl,A,H⟩;have I:=He (N.out.below H);have y:=He (ic V.out H);obtain ⟨q,rfl,hy⟩:=A.byt;have HY:=He hy;rw [au];clear A H hy V N c3;go_wp2_with (first
      | (at_builtin
         refine cd _ rfl (.tmp 31) (.tmp 38) rfl (p+1+1) _ (10+2*j) _ rfl y.out (some ⟨q,0,none⟩) 2 2 (be (x+1).toNat 2) rfl HY.out (au _ _) Ha I.out.sz ?_;intro v7 w7 M S _;have b9:=He M;have K:=He (I.out.grown S (fun i e=>by have:=(y.out.lt i e).1;omega) (fun e=>by have:=(y.out.lt p e).1;omega) (fun e=>by have:=(y.out.lt (p+1) e).1;omega));clear M S y I HY))
     go_roundw
     case rel=>exact ⟨j+1,Ha,by go_num,by rw [b8.out,show 10+2*(j+1)=10+2*j+2 by omega];exact b9,K⟩
     case measure=>simp [intOf];omega
    ·obtain rfl:j=4:=Ha;have B:=X.out 4 Ha;have bt:n.ps.getD 4 0=n.x:=rfl;rw [bt] at B;have c7:wr.cell? ⟨p,7,none⟩=some (.int .i64 n.x):=N.out.at_.cell 7;have bn:IntKind.i64.wrap (n.x+1)=n.x+1:=IntWalk.i64_in _ Ha;have bs:IntKind.u64.wrap (n.x+1)=n.x+1:=IntWalk.u64_in _ Ha;clear bt;go_wp2_with fail
     refine (HA.out (n.x+1) 2 wr Ha Ha).mono ?_;rintro e w6 ⟨u,rfl,A,H⟩;have I:=He (N.out.below H);have y:Hid (w6.ownsRow (p+1+1) 5 1 _ 18 (Bs (dw n++mI [n.a,n.b,n.c,n.d]))):=ic V.out H;obtain ⟨q,rfl,hy⟩:=A.byt;have HY:=He hy;rw [au];clear A H hy V N c7;go_upto_region 9 with (first
      | (at_builtin
         refine cd _ rfl (.tmp 40) (.tmp 45) rfl (p+1+1) _ 18 _ rfl y.out (some ⟨q,0,none⟩) 2 2 (be (n.x+1).toNat 2) rfl HY.out (au _ _) Ha I.out.sz ?_;intro v7 w7 M S _;have U:Hid (w7.ownsRow (p+1+1) 5 1 v7 20 (Bs (dw n++mI [n.a,n.b,n.c,n.d]++be (n.x+1).toNat 2))):=M;have K:=He (I.out.grown S (fun i e=>by have:=(y.out.lt i e).1;omega) (fun e=>by have:=(y.out.lt p e).1;omega) (fun e=>by have:=(y.out.lt (p+1) e).1;omega));clear M S y I HY))
     have e5:dw n++mI [n.a,n.b,n.c,n.d]++be (n.x+1).toNat 2=dw n++mI n.ps:=by
      rw [List.append_assoc,<- rB];rfl
     rw [e5] at U;have ca:((strOfNums n.t).size:Int)=n.t.length:=by rw [strOfNums_size]
     have wt:IntKind.u8.wrap (n.t.length:Int)=n.t.length:=IntWalk.u8_in _ Ha;clear e5 B bn bs
     rename Value=>v6
     have R:xS w p n k v6 false false w7.drew:=⟨K.out.bel.drew,K.out.sz,K.out.at_,(fun _=>U.out),(fun _=>K.out.res),(fun e=>by cases e)⟩
     refine ax (Jv p n k v6) (fun L W=>xS w p n k v6 (L 7) (L 12) W) (LF p n) Hc Hc (fun i j v' w' b0 a2 Y h hg=>h.on a2 (fun hh=>by obtain ⟨rfl,rfl⟩:=hh;exact absurd (Y.symm.trans (show jU _ 10 7=false by kernel_rfl)) Hd) hg) R ?_;have srefl:∀ (i:Nat) (W:World),LF p n i W W:=fun i W=>by
      unfold LF;split
      ·exact bV.grown (World.grownBy.refl _ _)
      ·split
       ·exact bV.grown (World.grownBy.refl _ _)
       ·split <;> exact World.grownBy.refl _ _
     clear R K U;simp only [cf];refine ⟨?_,?_,?_,?_,?_,?_,?_,?_,?_,?_,?_,?_,?_,?_⟩
     ·refine aa.of rfl fun T W L hag o hJ m hd=>?_;have e0:=Hf hag 0;exact Hi
     ·refine aa.of rfl fun T W L hag o hJ m hd=>?_;have e6:=Hf hag 6;exact Hi
     ·refine aa.of rfl fun T W L hag o hJ m hd=>?_;have e3:=Hf hag 3;exact Hi
     ·refine aa.of rfl fun T W L hag o hJ m hd=>?_;have c8:T.getD 49 undef=_:=Hg hd 2 rfl;have r:=(show W.cell? ⟨p,8,none⟩=some (.string (strOfNums n.t)) from hJ.at_.cell 8)
      exact Hi
     ·refine aa.of rfl fun T W L hag o hJ m hd=>?_;have c9:T.getD 50 undef=_:=Hg hd 3 rfl;have r:=ca;exact Hi
     ·refine aa.of rfl fun T W L hag o hJ m hd=>?_;have da:T.getD 51 undef=_:=Hg hd 4 rfl;have r:=wt;exact Hi
     ·refine aa.of rfl fun T W L hag o hJ m hd=>?_;have cb:T.getD 52 undef=_:=Hg hd 5 rfl;simp only [Array.getD_eq_getD_getElem?] at cb;clear hag hd;go_simp;exact ⟨_,rfl,⟨_,_,rfl,hJ.sz,heap_alloc_new _ _,rfl⟩,hJ.alloc _,World.grownBy_alloc W _ _⟩
     ·refine aa.of rfl fun T W L hag o hJ m hd=>?_;have cc:T.getD 48 undef=_:=Hg hd 1 rfl;have cg:aD W (p+1+1) (T.getD 53 undef) [(n.t.length:Int)]:=Hg hd 6 rfl;obtain ⟨q,(ch:T.getD 53 undef=_),hy⟩:=cg.byt;have ad:=hJ.row o;refine gI W (.tmp 48) (.tmp 53) rfl (p+1+1) _ 20 _ cc ad (some ⟨q,0,none⟩) 1 1 [(n.t.length:Int)] ch hy rfl Ha hJ.sz ?_;intro v' w' Z M h3;have C:∀ j,v6.ownBlock=some j->p+1+1<=j:=fun j e=>(ad.lt j e).1;exact ⟨_,rfl,Z,hJ.push M C,h3⟩
     ·refine aa.of rfl fun T W L hag o hJ m hd=>?_;have e3:=Hf hag 3;exact Hi
     ·refine aa.of rfl fun T W L hag o hJ m hd=>?_;have dc:T.getD 55 undef=_:=Hg hd 8 rfl;have r:=(show W.cell? ⟨p,8,none⟩=some (.string (strOfNums n.t)) from hJ.at_.cell 8)
      exact Hi
     ·refine aa.of rfl fun T W L hag o hJ m hd=>?_;have bx:W.ownsRow (p+1+1) 5 1 (T.getD 54 undef) 21 (Bs (i2 n)):=Hg hd 7 rfl;have ci:T.getD 56 undef=_:=Hg hd 9 rfl;refine rG W (.tmp 54) (.tmp 56) rfl (p+1+1) _ 21 _ rfl bx n.t ci HT.out Ha hJ.sz ?_;intro v' w' Z M h3;have C:∀ j,(T.getD 54 undef).ownBlock=some j->p+1+1<=j:=fun j e=>(bx.lt j e).1;exact ⟨_,rfl,Z,hJ.push2 M C (m ⟨7,.data⟩ Hb rfl),h3⟩
     ·refine aa.of rfl fun T W L hag o hJ m hd=>?_;have dg:T.getD 47 undef=_:=Hg hd 0 rfl;have ck:W.ownsRow (p+1+1) 5 1 (T.getD 57 undef) (21+n.t.length) (Bs (aH n)):=Hg hd 10 rfl;have a4:(aH n).length=21+n.t.length:=iI n;obtain ⟨A2,d2,cl,cs,dl,cn⟩:=bM ck a4;rw [a4] at cl;have cp:=rF k A2 (aH n) (21+n.t.length) d2 W a4 Ha cn;clear hag hd;go_simp;refine cp.mono ?_;rintro en w' ⟨rfl,B⟩;exact ⟨_,rfl,rfl,hJ.below B,dZ B⟩
     ·refine aa.of rfl fun T W L hag o hJ m hd=>?_;have e4:=Hf hag 4;have cq:T.getD 58 undef=_:=Hg hd 11 rfl;clear hag hd;refine uh (.tmp 4) (.tmp 58) rfl (p+1) e4 k 0 (bH (aH n)) az cq a7.out ak (hJ.res0 o) ?_;exact ⟨undef,rfl,trivial,hJ.stored,ct _ _ _⟩
     ·refine bm.of rfl fun T W L hag m o hJ hd=>?_;obtain ⟨f,A,hT⟩:=aJ hag;have HJ:=He hJ;clear hag hd hJ A;rw [hT];clear hT;simp only [List.pop_toArray,List.dropLast_cons_cons,List.dropLast_singleton,List.filterMap_cons,List.filterMap_nil,List.foldl_cons,List.foldl_nil,List.setIfInBounds_toArray,List.set_cons_succ,List.set_cons_zero];go_wp2_with fail
      refine bodyPost_ret (aY rfl _ _ (p+1) k (bH (aH n)) rfl a7.out (HJ.out.res1 (m 12 Hd))) rfl ?_;exact ⟨by rw [a0.out,a1.out,HD.out];rfl,by first | exact HJ.out.bel | (rw [hp];exact HJ.out.bel)⟩
 ·have a0:Hid (fg k n=0):=by unfold Hid fg;rw [if_neg O]
  have a1:Hid (cX k n=az):=by unfold Hid cX;rw [if_neg O]
  have HD:=He (decide_eq_false O);rw [HD.out];clear O;go_wp2_with (first
   | (refine bN rfl rfl ?_)
   | (refine ap rfl (.tmp 4) (.tmp 12) rfl (w.heap.size+1) rfl 0 0 az az rfl ak ak z.out.res ?_))
  refine bodyPost_ret (aY rfl _ _ (w.heap.size+1) 0 az rfl ak (am z.out.res)) rfl ?_;exact ⟨by rw [a0.out,a1.out,HD.out];rfl,below_setRow z.out.bel Ha _⟩
theorem jZ (g:Nat) {m:Nat} (h:m<=55) (w:World):(Instr.sliceAt 35 (.pointer (some ⟨g,1,none⟩)) (some (.int .i64 m)) none none).run Tryz.prog w=.ok (.slice (some ⟨g,1+m,none⟩) (56-m) (56-m)) w:=by
 have b:=Tryz.sizeOf5;have a:Tryz.prog.arrayLen 35=56:=Hc;have c:Tryz.prog.elem 35=5:=Hc;have d:Tryz.prog.underlying 35=some (.array (Tryz.prog.arrayLen 35) (Tryz.prog.elem 35)):=Hc;rw [run_sliceAt_array_l w 35 _ d .i64 (m:Int) Ha (by rw [a];omega),a,c];have e:¬ 56=m:=Ha;simp [b,slicedAt,cZ,e]
theorem vH {ops:Array Oper} {rest:List Oper} {o:Oper} {ac:Act} {w:World} {Q:Exit->Act->World->Prop} (b:o.guard=none) (s x:Operand)
 (c:o.op=.call { callee:=.builtin .copy,args:=#[s,x],argTypes:=#[22,9] })
 (g:Nat) (k:Int) (n:Nat) (a t:List Int) (d:a.length=n) (e:ac.eval s=.slice (some ⟨g,1+n,none⟩) (56-n) (56-n)) (f:ac.eval x=.string (strOfNums t)) (i:w.heap[g]?=some (.cells (ab k (bH a)) 37 (0,0))) (j:n+t.length<=56) (l:ay t)
 (h:wpList Tryz.prog ops Q rest (ac.put o.dst (goInt t.length)) (w.setRow g (ab k (bH (a++t))))):wpList Tryz.prog ops Q (o :: rest) ac w :=
 wpList_plain b fun _ m=>by
  subst d;have p:=CT w o.type g k a t i j l;unfold Oper.wp execOp;simp only [c,resolve,invoke,builtin,Sem.run_bind,Sem.run_pure,Result.andThen_ok,List.map_toArray,List.map_cons,List.map_nil,e,f,p];exact m _ _ h
theorem xT (k:Int) (n:Nd) (w:World) (hn:jY n):Calls Tryz.prog 142 #[.int .i64 k,.agg (bF n)] w fun e w'=>e=.returned (.tuple #[.agg (ab (fg k n) (cX k n)),.bool (decide (aS k n))])/\Below w.heap.size w w':=by
 have HM:=He (fun w=>EN k n w hn);have a1:=He (n9 n);have hT:=hn.t;have a2:=He hT;have Z:Hid (PW w w.heap.size n k [] ((((w.alloc (Obj.cells (bF n) 137)).alloc (Obj.cells (ab 0 az) 37)).alloc (Obj.cells (ab 0 az) 37)).setRow (w.heap.size+1+1) (ab k az))):=by
  have s1:(w.alloc (Obj.cells (bF n) 137)).heap.size=w.heap.size+1:=al _ _;have s2:((w.alloc (Obj.cells (bF n) 137)).alloc (Obj.cells (ab 0 az) 37)).heap.size=w.heap.size+1+1:=by rw [al,s1]
  have B1:=aM (w:=w) (Obj.cells (bF n) 137);have B2:=B1.alloc B1.size (Obj.cells (ab 0 az) 37);have B3:=B2.alloc B2.size (Obj.cells (ab 0 az) 37);have H1:=heap_alloc_new (w.alloc (Obj.cells (bF n) 137)) (Obj.cells (ab 0 az) 37);rw [s1] at H1;have H2:=heap_alloc_new ((w.alloc (Obj.cells (bF n) 137)).alloc (Obj.cells (ab 0 az) 37)) (Obj.cells (ab 0 az) 37);rw [s2] at H2;refine ⟨below_setRow B3 Ha _,(((aV.new w n).alloc _).alloc _).other _ Ha,?_,am H2⟩;rw [setRow_other _ _ _ _ Ha];exact kb (aM _) H1
 have HQ:Hid ((((w.alloc (Obj.cells (bF n) 137)).alloc (Obj.cells (ab 0 az) 37)).alloc (Obj.cells (ab 0 az) 37)).heap[w.heap.size+1+1]?=some (.cells (ab 0 az) 37 (0,0))):=by
  unfold Hid;have h:=heap_alloc_new ((w.alloc (Obj.cells (bF n) 137)).alloc (Obj.cells (ab 0 az) 37)) (Obj.cells (ab 0 az) 37)
  rwa [show ((w.alloc (Obj.cells (bF n) 137)).alloc (Obj.cells (ab 0 az) 37)).heap.size=w.heap.size+1+1 by rw [al,al]] at h
 go_enter Tryz.func142,Tryz.ntmps142;go_wp2_with (first
  | (refine aq rfl rfl ?_))
 refine fj [0] fun F H on=>?_;have HH:=He H;clear H on;go_upto_region 2 with (first
  | (refine aq rfl rfl ?_;try simp only [al])
  | (refine jl rfl (.tmp 10) k rfl rfl ?_)
  | (refine ap rfl (.tmp 6) (.tmp 11) rfl (w.heap.size+1+1) rfl k 0 az az rfl ak ak HQ.out ?_))
 clear HQ;generalize (((w.alloc (Obj.cells (bF n) 137)).alloc (Obj.cells (ab 0 az) 37)).alloc (Obj.cells (ab 0 az) 37)).setRow (w.heap.size+1+1) (ab k az)=W at *;by_cases r:aS k n
 ·have HA:=He (fun x hx ys m s W a b c d=>zS (w.heap.size+1+1) k ys m x s W a b c d hx);have M:Hid (fg k n=k):=by unfold Hid fg;rw [if_pos r]
  have N:Hid (cX k n=bH (aH n)):=by unfold Hid cX;rw [if_pos r]
  have HD:=He (decide_eq_true r);rw [HD.out] at HM;have bn:=r.tl;have a3:=r.sz;have a4:=r.1;have a5:=He (fun i hi=>r.at_ (i:=i) hi);have I:n.g<4294967296:=by have:=hn.g.2;omega
  have wl:IntKind.u32.wrap n.l=n.l:=IntWalk.u32_in _ Ha;have ws:IntKind.u32.wrap n.s=n.s:=IntWalk.u32_in _ Ha;clear r;go_wp2_with (refine aZ rfl (.tmp 3) rfl w.heap.size rfl n Z.out.at_ ?_)
  refine (HM.out _).mono ?_;rintro e w1 ⟨rfl,u⟩;have o:=He (Z.out.below u);clear u Z;go_upto_region 4 with fail
  obtain ⟨O,R,S,T,z⟩:=o.out.at_.cells;go_wp2_with fail
  refine (HA.out n.g ⟨Ha,I⟩ [] 0 4 _ rfl o.out.bd Ha Ha).mono ?_;rintro e w2 ⟨rfl,f,v⟩;have A:=He (o.out.step f v);clear f v o O R S T z;obtain ⟨O,R,S,T,z⟩:=A.out.at_.cells;go_wp2_with fail
  refine (HA.out n.l Ha ([]++be n.g.toNat 4) (0+4) 2 _ (by simp [au]) A.out.bd Ha Ha).mono ?_;rintro e w3 ⟨rfl,f,v⟩;have B:=He (A.out.step f v);clear f v A O R S T z;obtain ⟨O,R,S,T,z⟩:=B.out.at_.cells;go_wp2_with fail
  refine (HA.out n.s Ha ([]++be n.g.toNat 4++be n.l.toNat 2) (0+4+2) 4 _ (by simp [au]) B.out.bd Ha Ha).mono ?_;rintro e w4 ⟨rfl,f,v⟩;have K:=He (B.out.step f v);have U:Hid (PW w w.heap.size n k (dw n) w4):=K;clear f v B K O R S T z;go_wp2_with (refine aZ rfl (.tmp 3) rfl w.heap.size rfl n U.out.at_ ?_)
  refine (a1.out _).mono ?_;rintro e w5 ⟨rfl,ad⟩;have a6:=He (U.out.below ad);clear ad U;go_wp2_with fail
  go_loopw [7,34] (fun c i wr=>∃ j:Nat,j<=5/\i=.int .i64 j/\c=.slice (some ⟨w.heap.size+1+1,1,none⟩) (10+2*j) 56/\Hid (PW w w.heap.size n k (dw n++mI (n.ps.take j)) wr)) (fun _ i _=>(5-intOf i).toNat)
  case atStart=>exact ⟨0,Ha,rfl,rfl,by unfold Hid;rw [List.take_zero];show PW _ _ _ _ (dw n++[]) _;rw [List.append_nil];exact a6.out⟩
  case round =>
   obtain ⟨j,hj,rfl,rfl,y⟩:=hrel;by_cases V:j<5
   ·have a7:=fun W=>rz n V W;have hx:n.ps[j]?=some (n.ps.getD j 0):=by
     rw [List.getD,List.getElem?_eq_getElem (show j<n.ps.length from V)];rfl
    have a8:Hid (dw n++mI (n.ps.take (j+1))=dw n++mI (n.ps.take j)++be (n.ps.getD j 0+1).toNat 2):=by
     unfold Hid;rw [aw hx,rB,List.append_assoc]
    have hb:=a5.out j V;have a9:=He (CQ (n.ps.getD j 0));have bb:Hid ((dw n++mI (n.ps.take j)).length=10+2*j):=by
     unfold Hid;rw [List.length_append,jd,jr,List.length_take];show 10+2*min j 5=_;omega
    clear hx;generalize n.ps.getD j 0=x at *;go_wp2_with fail
    refine (a9.out _ hb).mono ?_;rintro e w6 ⟨rfl,rfl⟩;go_wp2_with fail
    refine (HA.out (x+1) Ha (dw n++mI (n.ps.take j)) (10+2*j) 2 _ bb.out y.out.bd Ha Ha).mono ?_;rintro e w7 ⟨rfl,f,v⟩;have bi:=He (y.out.step f v);clear f v y a7;go_wp2_with fail
    go_roundw
    case rel=>exact ⟨j+1,Ha,by go_num,by rw [show 10+2*(j+1)=10+2*j+2 by omega],by rw [a8.out];exact bi⟩
    case measure=>simp [intOf];omega
   ·obtain rfl:j=5:=Ha;have p:Hid (PW w w.heap.size n k (dw n++mI n.ps) wr):=y;rw [show 10+2*5=20 from rfl];have wt:IntKind.u8.wrap ((strOfNums n.t).size:Int)=n.t.length:=by rw [strOfNums_size];exact IntWalk.u8_in _ Ha
    have an:Hid ((dw n++mI n.ps).length=20):=by unfold Hid;rw [List.length_append,jd,jr];rfl
    clear y;go_upto_region 12 with fail
    obtain ⟨O,R,S,T,z⟩:=p.out.at_.cells;have bk:=strOfNums_size n.t;go_upto_region 13 with (first
     | (at_builtin
        refine dF rfl (.tmp 42) (.tmp 47) rfl (w.heap.size+1+1) k 20 (dw n++mI n.ps) (n.t.length:Int) ⟨wr.heap.size,0,none⟩ an.out rfl rfl (p.out.alloc _).bd Ha ((af (heap_alloc_new _ _) 0).trans rfl) ?_;intro w9 h1 h2;have L:=He ((p.out.alloc _).step h1 h2);have q:Hid (PW w w.heap.size n k (i2 n) w9):=L;clear h1 h2 L p))
    clear O R S T z;have z:=q.out.at_.cells.2.2.2.2;have bl:=fun W=>jZ (w.heap.size+1+1) (m:=21) Ha W
    go_still_tail 6,Hc
    change wpList _ _ _ _ _ w9.drew;have X:Hid (PW w w.heap.size n k (i2 n) w9.drew):=⟨q.out.bel.drew,q.out.at_,q.out.res,q.out.bd⟩
    clear q z bl;generalize w9.drew=a0 at *;refine vH rfl (.tmp 52) (.tmp 54) rfl (w.heap.size+1+1) k 21 (i2 n) n.t (mJ n) rfl rfl X.out.bd Ha a2.out ?_;have C:Hid (PW w w.heap.size n k (aH n) (a0.setRow (w.heap.size+1+1) (ab k (bH (i2 n++n.t))))):=X.out.copied;generalize a0.setRow (w.heap.size+1+1) (ab k (bH (i2 n++n.t)))=bs at *;have Y:=He (fV (ys:=aH n) (by rw [iI];omega));clear X wt bk a3 a4 I wl ws an hT;go_wp2_with (first
     | (refine aT rfl (.tmp 6) rfl (w.heap.size+1+1) rfl k (bH (aH n)) Y.out C.out.bd ?_)
     | (refine ap rfl (.tmp 4) (.tmp 56) rfl (w.heap.size+1) rfl k 0 (bH (aH n)) az rfl Y.out ak C.out.res ?_))
    simp only [aU];refine bodyPost_ret (aY rfl _ _ (w.heap.size+1) k (bH (aH n)) rfl Y.out (am C.out.res)) rfl ?_;exact ⟨by rw [M.out,N.out,HD.out];rfl,below_setRow C.out.bel Ha _⟩
 ·have M:Hid (fg k n=0):=by unfold Hid fg;rw [if_neg r]
  have N:Hid (cX k n=az):=by unfold Hid cX;rw [if_neg r]
  have HD:=He (decide_eq_false r);rw [HD.out] at HM;clear r;go_wp2_with (refine aZ rfl (.tmp 3) rfl w.heap.size rfl n Z.out.at_ ?_)
  refine (HM.out _).mono ?_;rintro e w1 ⟨rfl,u⟩;have o:=He (Z.out.below u);clear u Z;go_wp2_with fail
  go_step3;refine HH.out _ _ _ _ _ rfl ?_;go_wp2_with (first
   | (refine bN rfl rfl ?_)
   | (refine ap rfl (.tmp 4) (.tmp 57) rfl (w.heap.size+1) rfl 0 0 az az rfl ak ak o.out.res ?_))
  simp only [aU];refine bodyPost_ret (aY rfl _ _ (w.heap.size+1) 0 az rfl ak (am o.out.res)) rfl ?_;exact ⟨by rw [M.out,N.out,HD.out];rfl,below_setRow o.out.bel Ha _⟩
theorem xU (A:Option Addr) (xs:List Int) (n d:Nat) (w:World) (m:xs.length=n) (v:n<=4) (o:ay xs) (p:dK w A xs) :
 Calls Tryz.prog 200 #[.slice A n d] w fun e w'=>e=.returned (.int .u32 (aB xs))/\w=w':=by
 have q:=He p;have c:=He m;have HB:=He o;clear m o p;go_enter Tryz.func200,Tryz.ntmps200;go_wp2
 go_loop [3,8] (fun z i=>∃ k:Nat,k<=n/\i=.int .i64 k/\z=.int .u32 (aB (xs.take k):Nat)) (fun _ i=>n-(intOf i).toNat)
 case atStart=>exact ⟨0,Nat.zero_le _,rfl,rfl⟩
 case round =>
  obtain ⟨k,B,rfl,rfl⟩:=hrel;by_cases f:k<n
  ·obtain ⟨x,b⟩:∃ x,xs[k]?=some x:=⟨_,List.getElem?_eq_getElem (by rw [c.out];exact f)⟩
   obtain ⟨C,rfl,r⟩:=q.out k x b;have g:=HB.out x (List.mem_of_getElem? b);obtain ⟨y,rfl⟩:∃ y:Nat,x=(y:Int):=⟨x.toNat,Ha⟩
   have h:y<256:=Ha;have s:Hid (aB (xs.take (k+1))=aB (xs.take k)*256+y):=by
    unfold Hid;rw [aw b,ka,Int.toNat_natCast]
   have t:=i5 k (xs.take k) (by rw [List.length_take,c.out];omega) (fun z u=>HB.out z (List.mem_of_mem_take u));have j:256 ^ k<=256 ^ 3:=Nat.pow_le_pow_right Ha Ha;have l:aB (xs.take k)<16777216:=Ha;clear b g t j;generalize aB (xs.take k)=a at *;have H:IntKind.u32.wrap (y:Int)=y:=IntWalk.u32_in _ Ha;have I:IntKind.u32.wrap ((a:Int)*256)=(a:Int)*256:=IntWalk.u32_in _ Ha;have K:=AK a y l h;go_wp2
   go_round
   case rel=>exact ⟨k+1,Ha,by go_num,by rw [s.out];go_num⟩
   case measure=>simp [intOf];omega
  ·have e:xs.take k=xs:=List.take_of_length_le (by rw [c.out];omega);rw [e];go_wp2;go_ret;exact ⟨rfl,rfl⟩
theorem me {W:World} {g:Nat} {k:Int} {bs:List Int} (h:W.heap[g]?=some (.cells (ab k bs) 37 (0,0))) (o m:Nat):dK W (some ⟨g,1+o,none⟩) ((bs.drop o).take m):=by
 intro i x a;refine ⟨_,rfl,?_⟩;rw [List.getElem?_take] at a;split at a
 ·rw [List.getElem?_drop] at a;rw [cZ,af h,<- Array.getElem?_toList,bu];unfold blkL;rw [show 1+o+i=(o+i)+1 by omega];exact kR a
 ·cases a
def aW (bs:List Int) (o m:Nat):List Int:=(bs.drop o).take m
theorem fW {bs:List Int} (h:bs.length=56) {o m:Nat} (a:o+m<=56):(aW bs o m).length=m:=by unfold aW;rw [List.length_take,List.length_drop];omega
theorem gZ {bs:List Int} (h:ay bs) (o m:Nat):ay (aW bs o m):=fun x a=>h x (List.mem_of_mem_drop (List.mem_of_mem_take a))
def Ke (bs:List Int) (i:Nat):Int:=(aB (aW bs (10+2*i) 2):Int)-1
def o6 (bs:List Int) (j:Nat):Nd:=⟨aB (aW bs 0 4),aB (aW bs 4 2),aB (aW bs 6 4),if 0<j then Ke bs 0 else 0,if 1<j then Ke bs 1 else 0,if 2<j then Ke bs 2 else 0,if 3<j then Ke bs 3 else 0,if 4<j then Ke bs 4 else 0,[]⟩
theorem lB {bs:List Int} (h:bs.length=56) (a:ay bs) {o:Nat} (b:o+2<=56):aB (aW bs o 2)<65536:=i5 2 _ (fW h b) (gZ a _ _)
theorem js {bs:List Int} (h:bs.length=56) (a:ay bs) {o:Nat} (b:o+4<=56):aB (aW bs o 4)<4294967296:=i5 4 _ (fW h b) (gZ a _ _)
theorem Bp (g l s:Int):Tryz.prog.built 137 [(0,.int .u32 g),(1,.int .i64 l),(2,.int .i64 s)]=some (bF ⟨g,l,s,0,0,0,0,0,[]⟩):=Hc
def K4 (g i:Nat):Value:=.slice (some ⟨g,11+2*i,none⟩) (10-2*i) (46-2*i)
theorem uj {o:Oper} {ac:Act} {w:World} {K:Act->World->Prop} {Q:Exit->Act->World->Prop} (c:o.op=.alloc 137)
 (h:K (ac.put o.dst (.pointer (some ⟨w.heap.size,0,none⟩))) (w.alloc (.cells (bF nd0) 137))):o.wp Tryz.prog ac w K Q:=by
 obtain ⟨d,e,a,f⟩:∃ i,Tryz.prog.info? 137=some i/\i.zero=some (.agg (bF nd0))/\i.size=9:=by
  have h:=Js;cases b:Tryz.prog.info? 137 with
  | none=>rw [b] at h;cases h
  | some i=>rw [b] at h;simp only [Option.map_some,Option.some.injEq,Prod.mk.injEq] at h;exact ⟨i,rfl,h.1,h.2⟩
 exact ce 137 c d _ e a h
def EP (W0:World) (b:Bool) (W:World):Prop:=W=(if b=true then W0.alloc (.cells (bF nd0) 137) else W0)
theorem EP.blk {W0 W:World} {b:Bool} {g:Nat} {k:Int} {bs:List Int} (h:EP W0 b W) (a:W0.heap[g]?=some (.cells (ab k bs) 37 (0,0))):W.heap[g]?=some (.cells (ab k bs) 37 (0,0)):=by
 unfold EP at h;subst h;cases b
 ·exact a
 ·exact kb (aM _) a
def M0 (g:Nat) (bs:List Int) (W0:World) (i:Nat) (v:Value) (W:World):Prop :=
 match i with
 | 0 | 3 | 7=>v=.slice (some ⟨g,1,none⟩) 20 56
 | 1=>v=.slice (some ⟨g,1,none⟩) 4 56
 | 2=>v=.int .u32 (aB (aW bs 0 4))
 | 4=>v=.slice (some ⟨g,5,none⟩) 2 52
 | 5=>v=.int .u32 (aB (aW bs 4 2))
 | 6=>v=.int .i64 (aB (aW bs 4 2))
 | 8=>v=.slice (some ⟨g,7,none⟩) 4 50
 | 9=>v=.int .u32 (aB (aW bs 6 4))
 | 10=>v=.int .i64 (aB (aW bs 6 4))
 | 11=>v=.agg (bF (o6 bs 0))
 | 12=>v=.pointer (some ⟨W0.heap.size,0,none⟩)
 | _=>True
theorem xV (g:Nat) (k:Int) (bs:List Int) (a:bs.length=56) (b:ay bs) (o m n d:Nat) (w:World) (c:w.heap[g]?=some (.cells (ab k bs) 37 (0,0))) (f:m=n) (h:o+m<=56) (i:m<=4) :
 Calls Tryz.prog 200 #[.slice (some ⟨g,1+o,none⟩) n d] w fun e w'=>e=.returned (.int .u32 (aB (aW bs o m)))/\w=w' :=
 xU _ (aW bs o m) n d w (by rw [fW a h];exact f) Ha (gZ b _ _) (me c o m)
theorem vI (g:Nat) (k:Int) (bs:List Int) (w:World) (I:bs.length=56) (hB:ay bs) (K:w.heap[g]?=some (.cells (ab k bs) 37 (0,0))) :
 Calls Tryz.prog 171 #[.slice (some ⟨g,1,none⟩) 20 56] w fun e w'=>e=.returned (.agg (bF (o6 bs 5)))/\Below w.heap.size w w':=by
 have C:=He (fun o m n d W K Z h2 h3=>xV g k bs I hB o m n d W K Z h2 h3);have y:=He (fun o ho=>lB (o:=o) I hB ho);have ad:=He (fun o ho=>js (o:=o) I hB ho);have an:IntKind.i64.wrap (aB (aW bs 4 2):Int)=aB (aW bs 4 2):=IntWalk.i64_in _ (by have:=y.out 4 Ha;omega);have a0:IntKind.i64.wrap (aB (aW bs 6 4):Int)=aB (aW bs 6 4):=IntWalk.i64_in _ (by have:=ad.out 6 Ha;omega);have B:=He (aV.new w nd0);have HB:=He (aM (w:=w) (Obj.cells (bF nd0) 137));have HG:=He (kb (aM (Obj.cells (bF nd0) 137)) K);have a1:g<w.heap.size:=ah K;have a2:=He K;clear K;go_enter Tryz.func171,Tryz.ntmps171;go_upto_region 1 with (refine bC rfl rfl ?_;go_simp)
 generalize w.alloc (Obj.cells (bF nd0) 137)=W at *
 go_cut [3] (fun s wx=>∃ q,s=.pointer (some ⟨q,0,none⟩)/\w.heap.size<q/\aV wx q (o6 bs 0)/\aV wx w.heap.size nd0/\Below w.heap.size w wx)
 case first =>
  have l:W.drew.heap[g]?=some (.cells (ab k bs) 37 (0,0)):=HG.out;have z:EP W.drew false W.drew:=rfl;have N:Hid (aV W.drew w.heap.size nd0):=B;have O:Hid (Below w.heap.size w W.drew):=HB.out.drew;have R:w.heap.size<W.drew.heap.size:=ah N.out;refine ax (M0 g bs W.drew) (fun L W2=>EP W.drew (L 12) W2) (fun _ _ _=>True) Hc Hc (fun i j v' w' a7 _ _ M _=>M) z ?_;clear z B HB HG;generalize W.drew=W0 at *;simp only [cf];refine ⟨?_,?_,?_,?_,?_,?_,?_,?_,?_,?_,?_,?_,?_,?_⟩
  ·refine aa.of rfl fun T W L hag x hJ a hd=>?_;have e0:=Hf hag 0;exact Hi
  ·refine aa.of rfl fun T W L hag x hJ a hd=>?_;have d5:T.getD 5 undef=_:=Hg hd 0 rfl;exact Hi
  ·refine aa.of rfl fun T W L hag x hJ a hd=>?_;have d6:T.getD 6 undef=_:=Hg hd 1 rfl;clear hag hd;go_simp;refine (C.out 0 4 4 56 W (hJ.blk l) rfl Ha Ha).mono ?_;rintro en w' ⟨rfl,rfl⟩;exact ⟨_,rfl,rfl,hJ⟩
  ·refine aa.of rfl fun T W L hag x hJ a hd=>?_;have e0:=Hf hag 0;exact Hi
  ·refine aa.of rfl fun T W L hag x hJ a hd=>?_;have d8:T.getD 8 undef=_:=Hg hd 3 rfl;exact Hi
  ·refine aa.of rfl fun T W L hag x hJ a hd=>?_;have d9:T.getD 9 undef=_:=Hg hd 4 rfl;clear hag hd;go_simp;refine (C.out 4 2 2 52 W (hJ.blk l) rfl Ha Ha).mono ?_;rintro en w' ⟨rfl,rfl⟩;exact ⟨_,rfl,rfl,hJ⟩
  ·refine aa.of rfl fun T W L hag x hJ a hd=>?_;have a8:T.getD 10 undef=_:=Hg hd 5 rfl;have S:=an;exact Hi
  ·refine aa.of rfl fun T W L hag x hJ a hd=>?_;have e0:=Hf hag 0;exact Hi
  ·refine aa.of rfl fun T W L hag x hJ a hd=>?_;have a9:T.getD 12 undef=_:=Hg hd 7 rfl;exact Hi
  ·refine aa.of rfl fun T W L hag x hJ a hd=>?_;have bb:T.getD 13 undef=_:=Hg hd 8 rfl;clear hag hd;go_simp;refine (C.out 6 4 4 50 W (hJ.blk l) rfl Ha Ha).mono ?_;rintro en w' ⟨rfl,rfl⟩;exact ⟨_,rfl,rfl,hJ⟩
  ·refine aa.of rfl fun T W L hag x hJ a hd=>?_;have bi:T.getD 14 undef=_:=Hg hd 9 rfl;have S:=a0;exact Hi
  ·refine aa.of rfl fun T W L hag x hJ a hd=>?_;have d7:T.getD 7 undef=_:=Hg hd 2 rfl;have a3:T.getD 11 undef=_:=Hg hd 6 rfl;have a4:T.getD 15 undef=_:=Hg hd 10 rfl;clear hag hd;have bk:=fun W=>run_build (P:=Tryz.prog) W 137 #[(0,.int .u32 (aB (aW bs 0 4))),(1,.int .i64 (aB (aW bs 4 2))),(2,.int .i64 (aB (aW bs 6 4)))] _ (Bp _ _ _);simp only [Array.getD_eq_getD_getElem?] at d7 a3 a4;go_simp;exact ⟨_,rfl,rfl⟩
  ·refine aa.of rfl fun T W L hag x hJ a hd=>?_;have z:W=W0:=by have h:=hJ;unfold EP at h;rw [show L 12=false from x] at h;exact h
   subst z;clear hag hd;refine uj rfl ?_;exact ⟨_,rfl,rfl,rfl,trivial⟩
  ·refine bm.of rfl fun T W L hag a x hJ hd=>?_;have d3:T.getD 3 undef=_:=hd 12 _ Hb rfl;have U:T.getD 16 undef=_:=hd 11 _ Hb rfl;obtain ⟨f,hf,hT⟩:=aJ hag;have h3:=(hf 3).trans d3;have a5:=(hf 16).trans U;have HJ:=He hJ;clear hag hd d3 U hJ hf;rw [hT];clear hT;simp only [List.pop_toArray,List.dropLast_cons_cons,List.dropLast_singleton,List.filterMap_cons,List.filterMap_nil,List.foldl_cons,List.foldl_nil,List.setIfInBounds_toArray,List.set_cons_succ,List.set_cons_zero,h3,a5];have z:W=W0.alloc (.cells (bF nd0) 137):=by have h:=HJ.out;unfold EP at h;rw [show L 12=true from a 12 Hd] at h;exact h
   subst z;have A:=aV.new W0 nd0;refine ue (.tmp 3) (.tmp 16) rfl W0.heap.size rfl (o6 bs 0) nd0 rfl A ?_;rename_i a6 bl;go_wp2_with fail
   refine a6 _ _ ?_
   repeat apply Exists.intro
   exact ⟨⟨_,rfl,R,A.set _,(N.out.alloc _).other _ Ha,below_setRow (O.out.alloc O.out.size _) (Nat.le_of_lt R) _⟩,rfl⟩
 case rest =>
  obtain ⟨q,rfl,V,Z,hr,H⟩:=hcut;have A:=He Z;have X:=He hr;have Y:=He H;clear Z hr H HB HG B;go_wp2_with fail
  go_loopw [0,19] (fun c i wr=>∃ j:Nat,j<=4/\i=.int .i64 j/\c=K4 g j/\Hid (aV wr q (o6 bs j))/\Hid (aV wr w.heap.size nd0)/\Hid (Below w.heap.size w wr)) (fun _ i _=>(4-intOf i).toNat)
  case atStart=>exact ⟨0,Ha,rfl,rfl,A,X,Y⟩
  case round =>
   obtain ⟨j,hj,rfl,rfl,v,B,HB⟩:=hrel;clear A X Y;have l:wr.heap[g]?=some (.cells (ab k bs) 37 (0,0)):=(HB.out.block g a1).trans a2.out;have u:=He l;clear l;have h4:j=0\/j=1\/j=2\/j=3\/j=4:=Ha;rcases h4 with rfl | rfl | rfl | rfl | rfl
   ·rw [show K4 g 0=.slice (some ⟨g,11,none⟩) 10 46 from rfl];have M:=y.out 10 Ha;have p:=He (fun W=>iU (aB (aW bs 10 2):Int) W Ha);have c0:wr.cell? ⟨q,3,none⟩=some (.int .i64 0):=(v.out.cell 3).trans rfl;have f0:wr.frozen? ⟨q,3,none⟩=false:=aA v.out 3;have r:Hid (aV (wr.setCell ⟨q,3,none⟩ (.int .i64 ((aB (aW bs 10 2):Int)-1))) q (o6 bs 1)):=ai v.out _;have b:Hid (aV (wr.setCell ⟨q,3,none⟩ (.int .i64 ((aB (aW bs 10 2):Int)-1))) w.heap.size nd0):=by
     unfold Hid aV;rw [heap_setCell_other wr _ _ _ (show w.heap.size≠q by omega)];exact B.out
    have t:Hid (Below w.heap.size w (wr.setCell ⟨q,3,none⟩ (.int .i64 ((aB (aW bs 10 2):Int)-1)))):=HB.out.setCell (Nat.le_of_lt V) _;go_wp2_with fail
    refine (C.out 10 2 2 46 wr u.out rfl Ha Ha).mono ?_;rintro e w2 ⟨rfl,rfl⟩;go_wp2_with fail
    refine (p.out _).mono ?_;rintro e w3 ⟨rfl,rfl⟩;go_wp2_with fail
    go_roundw
    case rel=>exact ⟨1,Ha,rfl,rfl,r,b,t⟩
    case measure=>simp [intOf]
   ·rw [show K4 g 1=.slice (some ⟨g,13,none⟩) 8 44 from rfl];have M:=y.out 12 Ha;have p:=He (fun W=>iU (aB (aW bs 12 2):Int) W Ha);have c0:wr.cell? ⟨q,4,none⟩=some (.int .i64 0):=(v.out.cell 4).trans rfl;have f0:wr.frozen? ⟨q,4,none⟩=false:=aA v.out 4;have r:Hid (aV (wr.setCell ⟨q,4,none⟩ (.int .i64 ((aB (aW bs 12 2):Int)-1))) q (o6 bs 2)):=ai v.out _;have b:Hid (aV (wr.setCell ⟨q,4,none⟩ (.int .i64 ((aB (aW bs 12 2):Int)-1))) w.heap.size nd0):=by
     unfold Hid aV;rw [heap_setCell_other wr _ _ _ (show w.heap.size≠q by omega)];exact B.out
    have t:Hid (Below w.heap.size w (wr.setCell ⟨q,4,none⟩ (.int .i64 ((aB (aW bs 12 2):Int)-1)))):=HB.out.setCell (Nat.le_of_lt V) _;go_wp2_with fail
    refine (C.out 12 2 2 44 wr u.out rfl Ha Ha).mono ?_;rintro e w2 ⟨rfl,rfl⟩;go_wp2_with fail
    refine (p.out _).mono ?_;rintro e w3 ⟨rfl,rfl⟩;go_wp2_with fail
    go_roundw
    case rel=>exact ⟨2,Ha,rfl,rfl,r,b,t⟩
    case measure=>simp [intOf]
   ·rw [show K4 g 2=.slice (some ⟨g,15,none⟩) 6 42 from rfl];have M:=y.out 14 Ha;have p:=He (fun W=>iU (aB (aW bs 14 2):Int) W Ha);have c0:wr.cell? ⟨q,5,none⟩=some (.int .i64 0):=(v.out.cell 5).trans rfl;have f0:wr.frozen? ⟨q,5,none⟩=false:=aA v.out 5;have r:Hid (aV (wr.setCell ⟨q,5,none⟩ (.int .i64 ((aB (aW bs 14 2):Int)-1))) q (o6 bs 3)):=ai v.out _;have b:Hid (aV (wr.setCell ⟨q,5,none⟩ (.int .i64 ((aB (aW bs 14 2):Int)-1))) w.heap.size nd0):=by
     unfold Hid aV;rw [heap_setCell_other wr _ _ _ (show w.heap.size≠q by omega)];exact B.out
    have t:Hid (Below w.heap.size w (wr.setCell ⟨q,5,none⟩ (.int .i64 ((aB (aW bs 14 2):Int)-1)))):=HB.out.setCell (Nat.le_of_lt V) _;go_wp2_with fail
    refine (C.out 14 2 2 42 wr u.out rfl Ha Ha).mono ?_;rintro e w2 ⟨rfl,rfl⟩;go_wp2_with fail
    refine (p.out _).mono ?_;rintro e w3 ⟨rfl,rfl⟩;go_wp2_with fail
    go_roundw
    case rel=>exact ⟨3,Ha,rfl,rfl,r,b,t⟩
    case measure=>simp [intOf]
   ·rw [show K4 g 3=.slice (some ⟨g,17,none⟩) 4 40 from rfl];have M:=y.out 16 Ha;have p:=He (fun W=>iU (aB (aW bs 16 2):Int) W Ha);have c0:wr.cell? ⟨q,6,none⟩=some (.int .i64 0):=(v.out.cell 6).trans rfl;have f0:wr.frozen? ⟨q,6,none⟩=false:=aA v.out 6;have r:Hid (aV (wr.setCell ⟨q,6,none⟩ (.int .i64 ((aB (aW bs 16 2):Int)-1))) q (o6 bs 4)):=ai v.out _;have b:Hid (aV (wr.setCell ⟨q,6,none⟩ (.int .i64 ((aB (aW bs 16 2):Int)-1))) w.heap.size nd0):=by
     unfold Hid aV;rw [heap_setCell_other wr _ _ _ (show w.heap.size≠q by omega)];exact B.out
    have t:Hid (Below w.heap.size w (wr.setCell ⟨q,6,none⟩ (.int .i64 ((aB (aW bs 16 2):Int)-1)))):=HB.out.setCell (Nat.le_of_lt V) _;go_wp2_with fail
    refine (C.out 16 2 2 40 wr u.out rfl Ha Ha).mono ?_;rintro e w2 ⟨rfl,rfl⟩;go_wp2_with fail
    refine (p.out _).mono ?_;rintro e w3 ⟨rfl,rfl⟩;go_wp2_with fail
    go_roundw
    case rel=>exact ⟨4,Ha,rfl,rfl,r,b,t⟩
    case measure=>simp [intOf]
   ·rw [show K4 g 4=.slice (some ⟨g,19,none⟩) 2 38 from rfl];have M:=y.out 18 Ha;have p:=He (fun W=>iU (aB (aW bs 18 2):Int) W Ha);have c0:wr.cell? ⟨q,7,none⟩=some (.int .i64 0):=(v.out.cell 7).trans rfl;have f0:wr.frozen? ⟨q,7,none⟩=false:=aA v.out 7;have r:Hid (aV (wr.setCell ⟨q,7,none⟩ (.int .i64 ((aB (aW bs 18 2):Int)-1))) q (o6 bs 5)):=ai v.out _;have b:Hid (aV (wr.setCell ⟨q,7,none⟩ (.int .i64 ((aB (aW bs 18 2):Int)-1))) w.heap.size nd0):=by
     unfold Hid aV;rw [heap_setCell_other wr _ _ _ (show w.heap.size≠q by omega)];exact B.out
    have t:Hid (Below w.heap.size w (wr.setCell ⟨q,7,none⟩ (.int .i64 ((aB (aW bs 18 2):Int)-1)))):=HB.out.setCell (Nat.le_of_lt V) _;go_wp2_with fail
    refine (C.out 18 2 2 38 wr u.out rfl Ha Ha).mono ?_;rintro e w2 ⟨rfl,rfl⟩;go_wp2_with fail
    refine (p.out _).mono ?_;rintro e w3 ⟨rfl,rfl⟩;go_upto_region 10 with fail
    generalize wr.setCell ⟨q,7,none⟩ (.int .i64 ((aB (aW bs 18 2):Int)-1))=w4 at *;go_wp2_with (first
     | (refine aZ rfl (.tmp 3) rfl q rfl _ r.out ?_)
     | (refine aN rfl (.tmp 2) (.tmp 36) rfl w.heap.size rfl (o6 bs 5) nd0 rfl b.out ?_))
    refine bodyPost_ret (zO rfl _ _ w.heap.size (o6 bs 5) rfl (b.out.set _)) rfl ?_;exact ⟨rfl,below_setRow t.out (Nat.le_refl _) _⟩
end Go.Proofs.YtegjelaejbacnaaGreat
