/- For FileForms: contracts and facts, part 14. -/
import Derived.Lib.AppendStr
import Derived.Test.YtegjelaejbacnaaGreatW02
import Derived.Test.YtegjelaejbacnaaGreatW13
set_option maxRecDepth 100000
set_option maxHeartbeats 25600000
set_option linter.unusedVariables false
open Go.ChangeShapes Go.WideShapes Go.ChangeAt Go.RowKit
namespace Go.Proofs.YtegjelaejbacnaaGreat
theorem aR.nts {w:World} {p:Nat} {n:Nd} (h:aR w p n):jf w (some ⟨p,3,none⟩) [n.a,n.b,n.c,n.d]:=fun i x hi=>by
 refine ⟨_,rfl,?_⟩;rw [dp,h.cell];have hlt:=(List.getElem?_eq_some_iff.1 hi).1;simp only [List.length_cons,List.length_nil] at hlt
 match i,hlt,hi with
 | 0,_,hi=>injection hi with hi;subst hi;rfl
 | 1,_,hi=>injection hi with hi;subst hi;rfl
 | 2,_,hi=>injection hi with hi;subst hi;rfl
 | 3,_,hi=>injection hi with hi;subst hi;rfl
structure KW (w:World) (p:Nat) (n:Nd) (W:World):Prop where
 bel:Below p w W
 sz:p+1<=W.heap.size
 at_:aR W p n
def I8 (p:Nat) (n:Nd) (i:Nat) (v:Value) (W:World):Prop :=
 match i with
 | 1=>v=.pointer (some ⟨p,3,none⟩)
 | 2=>v=.slice (some ⟨p,3,none⟩) 4 4
 | 4=>v=.pointer (some ⟨p,7,none⟩)
 | 5=>v=.int .i64 n.x
 | 0=>(∃ g,v=.slice (some ⟨g,0,none⟩) 0 0/\p+1<=g/\W.heap[g]?=some (.cells #[] 3 (0,0)))
 | 3=>W.ownsRow (p+1) 3 1 v 4 (Is [n.a,n.b,n.c,n.d])
 | 6=>(∃ g,v=.slice (some ⟨g,0,none⟩) 1 1/\W.heap[g]?=some (.cells #[.int .i64 n.x] 3 (0,0)))
 | 7=>W.ownsRow (p+1) 3 1 v 5 (Is n.ps)
 | _=>True
def JL (i:Nat) (w w':World):Prop:=if i=7 then bR 4 5 w w' else w.grownBy w' none
theorem I8.on {p:Nat} {n:Nd} {i j:Nat} {v:Value} {w w':World} (hij:i≠j) (h:I8 p n j v w) (hs:JL i w w'):I8 p n j v w':=by
 unfold JL at hs;by_cases hi:i=7
 ·rw [if_pos hi] at hs;unfold I8 at *;split <;> try exact h
  ·obtain ⟨g,e,hb,hg⟩:=h;exact ⟨g,e,hb,hs.small _ _ _ _ hg Hd⟩
  ·exact ic h hs Hd
  ·obtain ⟨g,e,hg⟩:=h;exact ⟨g,e,hs.small _ _ _ _ hg (show 1<5 by omega)⟩
  ·exact absurd hi hij
  ·trivial
 ·rw [if_neg hi] at hs;unfold I8 at *;split <;> try exact h
  ·obtain ⟨g,e,hb,hg⟩:=h;exact ⟨g,e,hb,by rw [hs.block g (ai hg) Hb];exact hg⟩
  ·exact World.ownsRow.kept h hs (by cases v.ownBlock <;> simp)
  ·obtain ⟨g,e,hg⟩:=h;exact ⟨g,e,by rw [hs.block g (ai hg) Hb];exact hg⟩
  ·exact World.ownsRow.kept h hs (by cases v.ownBlock <;> simp)
  ·trivial
theorem s5:Bp jn:=Hd
theorem aS.pl {k:Int} {n:Nd} (h:aS k n):Bp n.ps:=by
 rcases h.2 with h1 | h1 | h1
 ·exact h1.2.2.2
 ·rw [h1.2.2.2.2];exact s5
 ·rw [h1.2.2.2];exact s5
theorem mA (n:Nd):n.ps.length=5:=rfl
theorem Fp (n:Nd):n.ps=jn↔∀ j,j<5->n.ps.getD j 0 = -1:=by
 constructor
 ·intro h j hj;rw [h]
  match j,hj with
  | 0,_=>rfl
  | 1,_=>rfl
  | 2,_=>rfl
  | 3,_=>rfl
  | 4,_=>rfl
 ·intro h;have h0:=h 0 Ha;have h1:=h 1 Ha;have h2:=h 2 Ha;have h3:=h 3 Ha;have h4:=h 4 Ha;unfold Nd.ps jn at *;simp only [List.getD_cons_zero,List.getD_cons_succ] at h0 h1 h2 h3 h4;rw [h0,h1,h2,h3,h4]
theorem Br (k:Int) (n:Nd) (w:World) (hn:mw n) (htl:n.t.length<=100):Calls Tryz.prog 127 #[.int .i64 k,.agg (bD n)] w fun e w'=>e=.returned (.bool (decide (aS k n)))/\Below w.heap.size w w':=by
 have HN:=He (aR.new w n);have HB:=He (aK (w:=w) (Obj.cells (bD n) 137));have hs:=ul hn.t;have HT:=He (fun w=>lV n.t w hn.t htl);have HMA:=He lx;have hsz:=strOfNums_size n.t;have HS:Hid (w.heap.size+1<=(w.alloc (Obj.cells (bD n) 137)).heap.size):=by unfold Hid;rw [ak];exact Nat.le_refl _
 go_enter Tryz.func127,Tryz.ntmps127;go_upto_region 1 with fail
 obtain ⟨c0,c1,c2,c7,c8⟩:=HN.out.cells;generalize w.alloc (Obj.cells (bD n) 137)=W at *;have HTN:Hid (∀ b,decide (n.t=[])=b->(n.t=[]↔b=true)):=fun b h=>by subst h;simp
 generalize hbt:decide (n.t=[])=bt at hs;have HTB:=He (HTN.out bt hbt);clear hbt HTN c7;by_cases h1:n.g<1
 ·have HF:Hid (decide (aS k n)=false):=decide_eq_false fun h=>by unfold aS at h;omega
  go_wp2_with fail
  go_ret;exact ⟨aj HF.out.symm,HB.out⟩
 by_cases h2:n.l<0
 ·have HF:Hid (decide (aS k n)=false):=decide_eq_false fun h=>by unfold aS at h;omega
  go_wp2_with fail
  go_ret;exact ⟨aj HF.out.symm,HB.out⟩
 by_cases h3:1000<n.l
 ·have HF:Hid (decide (aS k n)=false):=decide_eq_false fun h=>by unfold aS at h;omega
  go_wp2_with fail
  go_ret;exact ⟨aj HF.out.symm,HB.out⟩
 go_upto_region 3 with fail
 generalize hp:w.heap.size=p at *
 go_cut [5] (fun s wx=>wx.ownsRow (p+1) 3 1 s 5 (Is n.ps)/\Below p w wx/\aR wx p n)
 case first =>
  have hJ0:KW w p n W.drew:=⟨HB.out.drew,HS.out,HN.out⟩
  refine aw (I8 p n) (fun _ W=>KW w p n W) JL Hc Hc (fun i j v' w' w'' hij hind h hg=>h.on hij hg) hJ0 ?_;have srefl:∀ (i:Nat) (W:World),JL i W W:=fun i W=>by unfold JL;split;exact bR.grown (World.grownBy.refl _ _);exact World.grownBy.refl _ _
  clear hJ0 HB HS HN c0 c1 c2 c8 hs;simp only [bW];refine ⟨?_,?_,?_,?_,?_,?_,?_,?_,?_⟩
  ·refine aa.of rfl fun T W L hag hL hJ hLs hd=>?_;clear hag hd;go_simp;exact ⟨_,rfl,⟨_,rfl,hJ.sz,heap_alloc_new _ _⟩,⟨hJ.bel.alloc (Nat.le_trans (Nat.le_succ _) hJ.sz) _,by rw [ak];exact Nat.le_succ_of_le hJ.sz,hJ.at_.alloc _⟩,World.grownBy_alloc W _ _⟩
  ·refine aa.of rfl fun T W L hag hL hJ hLs hd=>?_;have e3:=Hf hag 3;exact Hi
  ·refine aa.of rfl fun T W L hag hL hJ hLs hd=>?_;have d23:T.getD 23 undef=_:=Hg hd 1 rfl;exact Hi
  ·refine aa.of rfl fun T W L hag hL hJ hLs hd=>?_;have x22:(∃ g,(T.getD 22 undef)=.slice (some ⟨g,0,none⟩) 0 0/\p+1<=g/\W.heap[g]?=some (.cells #[] 3 (0,0))):=Hg hd 0 rfl;have d24:T.getD 24 undef=_:=Hg hd 2 rfl;obtain ⟨g,(e22:T.getD 22 undef=_),hb,hg⟩:=x22;refine uY W (.tmp 22) (.tmp 24) rfl (p+1) g e22 hb hg (some ⟨p,3,none⟩) 4 4 [n.a,n.b,n.c,n.d] d24 hJ.at_.nts rfl Ha Ha hJ.sz ?_;intro v' w' h1 h2;exact ⟨_,rfl,h1,⟨hJ.bel.grown h2 (Nat.le_trans (Nat.le_succ _) hJ.sz) Hb,Nat.le_trans hJ.sz h2.size,hJ.at_.grown h2 Hb⟩,h2⟩
  ·refine aa.of rfl fun T W L hag hL hJ hLs hd=>?_;have e3:=Hf hag 3;exact Hi
  ·refine aa.of rfl fun T W L hag hL hJ hLs hd=>?_;have d26:T.getD 26 undef=_:=Hg hd 4 rfl;have fct0:=(show W.cell? ⟨p,7,none⟩=some (.int .i64 n.x) from hJ.at_.cell 7)
   exact Hi
  ·refine aa.of rfl fun T W L hag hL hJ hLs hd=>?_;have d27:T.getD 27 undef=_:=Hg hd 5 rfl;simp only [Array.getD_eq_getD_getElem?] at d27;clear hag hd;go_simp;exact ⟨_,rfl,⟨_,rfl,heap_alloc_new _ _⟩,⟨hJ.bel.alloc (Nat.le_trans (Nat.le_succ _) hJ.sz) _,by rw [ak];exact Nat.le_succ_of_le hJ.sz,hJ.at_.alloc _⟩,World.grownBy_alloc W _ _⟩
  ·refine aa.of rfl fun T W L hag hL hJ hLs hd=>?_;have x25:W.ownsRow (p+1) 3 1 (T.getD 25 undef) 4 (Is [n.a,n.b,n.c,n.d]):=Hg hd 3 rfl;have x28:(∃ g,(T.getD 28 undef)=.slice (some ⟨g,0,none⟩) 1 1/\W.heap[g]?=some (.cells #[.int .i64 n.x] 3 (0,0))):=Hg hd 6 rfl;obtain ⟨g,(e28:T.getD 28 undef=_),hg⟩:=x28;refine tR W (.tmp 25) (.tmp 28) rfl (p+1) _ 4 _ rfl x25 (some ⟨g,0,none⟩) 1 1 [n.x] e28 (zj hg rfl) rfl Ha hJ.sz ?_;intro v' w' h1 h2 h3;have hne:(T.getD 25 undef).ownBlock≠some p:=fun e=>by have:=(x25.lt p e).1;omega
   exact ⟨_,rfl,h1,⟨hJ.bel.grown h2 (Nat.le_trans (Nat.le_succ _) hJ.sz) (fun k hk=>Nat.le_trans (Nat.le_succ _) (x25.lt k hk).1),Nat.le_trans hJ.sz h2.size,hJ.at_.grown h2 hne⟩,h3⟩
  ·refine bg.of rfl fun T W L hag hLs hL hJ hd=>?_;have x29:W.ownsRow (p+1) 3 1 (T.getD 29 undef) 5 (Is n.ps):=hd 7 _ Hb rfl;obtain ⟨f,hf,hT⟩:=aH hag;have h29:=hf 29;rw [<- h29] at x29;have HX29:=He x29;clear h29 x29;have HJ:=He hJ;clear hag hd hJ hf;rw [hT];clear hT;simp only [List.pop_toArray,List.dropLast_cons_cons,List.dropLast_singleton,List.filterMap_cons,List.filterMap_nil,List.foldl_cons,List.foldl_nil,List.setIfInBounds_toArray,List.set_cons_succ,List.set_cons_zero];rename_i hJc hKc;go_wp2_with fail
   refine hJc _ _ ?_
   repeat apply Exists.intro
   exact ⟨⟨HX29.out,HJ.out.bel,HJ.out.at_⟩,rfl⟩
 case rest =>
  obtain ⟨own,hbel,hat⟩:=hcut;obtain ⟨A,d,rfl,hle,hd,hy⟩:=j3 own (mA n);obtain ⟨ad,rfl,_⟩:=hy 0 n.a rfl;rw [mA n];clear own hle hd HB HS HN c0 c1 c2 c8;go_wp2_with fail
  go_loopw [6,7] (fun nn i wr=>∃ (b:Bool) (k2:Nat),nn=.bool b/\i=.int .i64 k2/\k2<=5/\Hid (b=true↔∀ j,j<k2->n.ps.getD j 0 = -1)/\Hid (∀ j,j<k2->nk n.ps j)/\Hid (jf wr (some ad) n.ps)/\Hid (Below p w wr)/\Hid (aR wr p n)) (fun _ i _=>(5-intOf i).toNat)
  case atStart=>exact ⟨true,0,rfl,rfl,Ha,⟨fun _ j hj=>absurd hj Ha,fun _=>rfl⟩,(fun j hj=>absurd hj Ha),hy,hbel,hat⟩
  case round =>
   obtain ⟨b,k2,rfl,rfl,hk2,HBN,HPL,HY,HB,HN⟩:=hrel;clear hy hbel hat;by_cases hlt:k2<5
   ·have hx:n.ps[k2]?=some (n.ps.getD k2 0):=by
     rw [List.getD,List.getElem?_eq_getElem (by rw [mA];exact hlt)];rfl
    obtain ⟨ad2,e2,hcx⟩:=HY.out k2 _ hx;injection e2 with e2;subst e2
    have HX:=He hx;have HE:Hid (nk n.ps k2↔(n.ps.getD k2 0 = -1\/((1<=n.ps.getD k2 0/\n.ps.getD k2 0<200)/\n.ps.getD k2 0 ∉ n.ps.take k2))):=Iff.rfl;have HNO:Hid (¬ nk n.ps k2->decide (aS k n)=false):=fun h=>decide_eq_false fun hm=>h (hm.pl k2 hlt);have HPN:Hid (nk n.ps k2->∀ j,j<k2+1->nk n.ps j):=fun h j hj=>by
     rcases Nat.lt_or_ge j k2 with h8 | h8
     ·exact HPL.out j h8
     ·obtain rfl:j=k2:=Ha;exact h
    have HBX:Hid ((b=true/\n.ps.getD k2 0 = -1)↔∀ j,j<k2+1->n.ps.getD j 0 = -1):=by
     constructor
     ·rintro ⟨h8,h9⟩ j hj;rcases Nat.lt_or_ge j k2 with h7 | h7
      ·exact HBN.out.1 h8 j h7
      ·obtain rfl:j=k2:=Ha;exact h9
     ·intro h;exact ⟨HBN.out.2 fun j hj=>h j Ha,h k2 Ha⟩
    clear hx;generalize hxx:n.ps.getD k2 0=x at *;clear hxx;have HM:=He (HMA.out x);by_cases hx1:x = -1
    ·cases b
     ·have hg1:decide (x = -1)=true:=decide_eq_true hx1;have hg2:(x != -1)=false:=by simp [hx1]
      have hg3:(x == -1)=true:=by simp [hx1]
      go_wp2_with fail
      clear hg1 hg2 hg3
      go_loopw [8] (fun i wq=>∃ j2:Nat,i=.int .i64 j2/\j2<=k2/\Hid (x ≠ -1->x ∉ n.ps.take j2)/\Hid (jf wq (some ad) n.ps)/\Hid (Below p w wq)/\Hid (aR wq p n)) (fun i _=>(k2-intOf i).toNat)
      case atStart=>exact ⟨0,rfl,Ha,(fun _ h=>by simp at h),HY,HB,HN⟩
      case round =>
       obtain ⟨j2,rfl,hj2,HNI,HYq,HBq,HNq⟩:=hrel;obtain ⟨w5,rfl⟩:∃ w5,w5=wr:=⟨wr,rfl⟩
       clear hcx HY HB HN;by_cases hjl:j2<k2
       ·obtain ⟨y,hyj⟩:∃ y,n.ps[j2]?=some y:=⟨_,List.getElem?_eq_getElem (by rw [mA];omega)⟩
        obtain ⟨ad3,e3,hcy⟩:=HYq.out j2 _ hyj;injection e3 with e3;subst e3
        obtain ⟨ad3,e3,hcx⟩:=HYq.out k2 _ HX.out;injection e3 with e3;subst e3
        have HYJ:=He hyj;clear hyj;have hcxq:=fun q=>(show ((w5.drewN q).cell? (ad.add k2)=some (.int .i64 x)) from hcx)
        have hcyq:=fun q=>(show ((w5.drewN q).cell? (ad.add j2)=some (.int .i64 y)) from hcy)
        have hg1:decide (x = -1)=true:=decide_eq_true hx1;have hg2:(x != -1)=false:=by simp [hx1]
        have HNI2:Hid (x ≠ -1->x ∉ n.ps.take (j2+1)):=fun h=>absurd hx1 h;clear hx1;go_upto_region 14 with fail
        go_quiet (fail)
        go_wp2_with fail
        go_roundw
        case rel=>exact ⟨j2+1,by go_num,Ha,HNI2,HYq,EC HBq.out _,HNq⟩
        case measure=>simp [intOf];omega
       ·obtain rfl:j2=k2:=Ha;have HPK:=He (HPN.out (HE.out.2 (Or.inl hx1)));have HBK:Hid (false=true↔∀ j,j<j2+1->n.ps.getD j 0 = -1):=⟨(fun h=>by cases h),(fun h=>by have:=HBX.out.2 h;simp_all)⟩
        clear hx1;go_wp2_with fail
        go_roundw
        case rel=>exact ⟨_,j2+1,rfl,by go_num,Ha,HBK,HPK,HYq,HBq,HNq⟩
        case measure=>simp [intOf];omega
     ·have hg1:decide (x = -1)=true:=decide_eq_true hx1;have hg2:(x != -1)=false:=by simp [hx1]
      have hg3:(x == -1)=true:=by simp [hx1]
      go_wp2_with fail
      clear hg1 hg2 hg3
      go_loopw [8] (fun i wq=>∃ j2:Nat,i=.int .i64 j2/\j2<=k2/\Hid (x ≠ -1->x ∉ n.ps.take j2)/\Hid (jf wq (some ad) n.ps)/\Hid (Below p w wq)/\Hid (aR wq p n)) (fun i _=>(k2-intOf i).toNat)
      case atStart=>exact ⟨0,rfl,Ha,(fun _ h=>by simp at h),HY,HB,HN⟩
      case round =>
       obtain ⟨j2,rfl,hj2,HNI,HYq,HBq,HNq⟩:=hrel;obtain ⟨w5,rfl⟩:∃ w5,w5=wr:=⟨wr,rfl⟩
       clear hcx HY HB HN;by_cases hjl:j2<k2
       ·obtain ⟨y,hyj⟩:∃ y,n.ps[j2]?=some y:=⟨_,List.getElem?_eq_getElem (by rw [mA];omega)⟩
        obtain ⟨ad3,e3,hcy⟩:=HYq.out j2 _ hyj;injection e3 with e3;subst e3
        obtain ⟨ad3,e3,hcx⟩:=HYq.out k2 _ HX.out;injection e3 with e3;subst e3
        have HYJ:=He hyj;clear hyj;have hcxq:=fun q=>(show ((w5.drewN q).cell? (ad.add k2)=some (.int .i64 x)) from hcx)
        have hcyq:=fun q=>(show ((w5.drewN q).cell? (ad.add j2)=some (.int .i64 y)) from hcy)
        have hg1:decide (x = -1)=true:=decide_eq_true hx1;have hg2:(x != -1)=false:=by simp [hx1]
        have HNI2:Hid (x ≠ -1->x ∉ n.ps.take (j2+1)):=fun h=>absurd hx1 h;clear hx1;go_upto_region 14 with fail
        go_quiet (fail)
        go_wp2_with fail
        go_roundw
        case rel=>exact ⟨j2+1,by go_num,Ha,HNI2,HYq,EC HBq.out _,HNq⟩
        case measure=>simp [intOf];omega
       ·obtain rfl:j2=k2:=Ha;have HPK:=He (HPN.out (HE.out.2 (Or.inl hx1)));have HBK:Hid (true=true↔∀ j,j<j2+1->n.ps.getD j 0 = -1):=⟨fun _=>HBX.out.1 ⟨by first | trivial | rfl,hx1⟩,fun _=>rfl⟩
        clear hx1;go_wp2_with fail
        go_roundw
        case rel=>exact ⟨_,j2+1,rfl,by go_num,Ha,HBK,HPK,HYq,HBq,HNq⟩
        case measure=>simp [intOf];omega
    ·have hg1:decide (x = -1)=false:=decide_eq_false hx1;have hg2:(x != -1)=true:=by simp [hx1]
     have hg3:(x == -1)=false:=by simp [hx1]
     by_cases hmx:1<=x/\x<200
     ·have HM1:=He (decide_eq_true hmx);rw [HM1.out] at HM;cases b
      ·go_wp2_with fail
       refine (HM.out _).mono ?_;rintro e w7 ⟨rfl,rfl⟩;go_wp2_with fail
       clear hg1 hg2 hg3
       go_loopw [8] (fun i wq=>∃ j2:Nat,i=.int .i64 j2/\j2<=k2/\Hid (x ≠ -1->x ∉ n.ps.take j2)/\Hid (jf wq (some ad) n.ps)/\Hid (Below p w wq)/\Hid (aR wq p n)) (fun i _=>(k2-intOf i).toNat)
       case atStart=>exact ⟨0,rfl,Ha,(fun _ h=>by simp at h),HY,HB,HN⟩
       case round =>
        obtain ⟨j2,rfl,hj2,HNI,HYq,HBq,HNq⟩:=hrel;obtain ⟨w5,rfl⟩:∃ w5,w5=wr:=⟨wr,rfl⟩
        clear hcx HY HB HN;by_cases hjl:j2<k2
        ·obtain ⟨y,hyj⟩:∃ y,n.ps[j2]?=some y:=⟨_,List.getElem?_eq_getElem (by rw [mA];omega)⟩
         obtain ⟨ad3,e3,hcy⟩:=HYq.out j2 _ hyj;injection e3 with e3;subst e3
         obtain ⟨ad3,e3,hcx⟩:=HYq.out k2 _ HX.out;injection e3 with e3;subst e3
         have HYJ:=He hyj;clear hyj;have hcxq:=fun q=>(show ((w5.drewN q).cell? (ad.add k2)=some (.int .i64 x)) from hcx)
         have hcyq:=fun q=>(show ((w5.drewN q).cell? (ad.add j2)=some (.int .i64 y)) from hcy)
         have hg1:decide (x = -1)=false:=decide_eq_false hx1;have hg2:(x != -1)=true:=by simp [hx1]
         by_cases hyx:y=x
         ·have HF:=He (HNO.out fun h=>by
           rcases HE.out.1 h with h8 | h8
           ·exact hx1 h8
           ·refine h8.2 (List.mem_of_getElem? (i:=j2) ?_);rw [List.getElem?_take,if_pos hjl,HYJ.out,hyx])
          have hg3:decide (y=x)=true:=decide_eq_true hyx;have hg4:(y==x)=true:=by simp [hyx]
          clear hyx hx1;go_upto_region 14 with fail
          go_quiet (fail)
          go_wp2_with fail
          go_ret;exact ⟨aj HF.out.symm,(by rw [hp];exact EC HBq.out _)⟩
         ·have HNI2:Hid (x ≠ -1->x ∉ n.ps.take (j2+1)):=fun h hm=>by
           rw [au HYJ.out,List.mem_append,List.mem_singleton] at hm;rcases hm with hm | hm
           ·exact HNI.out h hm
           ·exact hyx hm.symm
          have hg3:decide (y=x)=false:=decide_eq_false hyx;have hg4:(y==x)=false:=by simp [hyx]
          clear hyx hx1;go_upto_region 14 with fail
          go_quiet (fail)
          go_wp2_with fail
          go_roundw
          case rel=>exact ⟨j2+1,by go_num,Ha,HNI2,HYq,EC HBq.out _,HNq⟩
          case measure=>simp [intOf];omega
        ·obtain rfl:j2=k2:=Ha;have HPK:=He (HPN.out (HE.out.2 (Or.inr ⟨hmx,HNI.out hx1⟩)));have HBK:Hid (false=true↔∀ j,j<j2+1->n.ps.getD j 0 = -1):=⟨(fun h=>by cases h),(fun h=>by have:=HBX.out.2 h;simp_all)⟩
         clear hx1;clear hmx;go_wp2_with fail
         go_roundw
         case rel=>exact ⟨_,j2+1,rfl,by go_num,Ha,HBK,HPK,HYq,HBq,HNq⟩
         case measure=>simp [intOf];omega
      ·go_wp2_with fail
       refine (HM.out _).mono ?_;rintro e w7 ⟨rfl,rfl⟩;go_wp2_with fail
       clear hg1 hg2 hg3
       go_loopw [8] (fun i wq=>∃ j2:Nat,i=.int .i64 j2/\j2<=k2/\Hid (x ≠ -1->x ∉ n.ps.take j2)/\Hid (jf wq (some ad) n.ps)/\Hid (Below p w wq)/\Hid (aR wq p n)) (fun i _=>(k2-intOf i).toNat)
       case atStart=>exact ⟨0,rfl,Ha,(fun _ h=>by simp at h),HY,HB,HN⟩
       case round =>
        obtain ⟨j2,rfl,hj2,HNI,HYq,HBq,HNq⟩:=hrel;obtain ⟨w5,rfl⟩:∃ w5,w5=wr:=⟨wr,rfl⟩
        clear hcx HY HB HN;by_cases hjl:j2<k2
        ·obtain ⟨y,hyj⟩:∃ y,n.ps[j2]?=some y:=⟨_,List.getElem?_eq_getElem (by rw [mA];omega)⟩
         obtain ⟨ad3,e3,hcy⟩:=HYq.out j2 _ hyj;injection e3 with e3;subst e3
         obtain ⟨ad3,e3,hcx⟩:=HYq.out k2 _ HX.out;injection e3 with e3;subst e3
         have HYJ:=He hyj;clear hyj;have hcxq:=fun q=>(show ((w5.drewN q).cell? (ad.add k2)=some (.int .i64 x)) from hcx)
         have hcyq:=fun q=>(show ((w5.drewN q).cell? (ad.add j2)=some (.int .i64 y)) from hcy)
         have hg1:decide (x = -1)=false:=decide_eq_false hx1;have hg2:(x != -1)=true:=by simp [hx1]
         by_cases hyx:y=x
         ·have HF:=He (HNO.out fun h=>by
           rcases HE.out.1 h with h8 | h8
           ·exact hx1 h8
           ·refine h8.2 (List.mem_of_getElem? (i:=j2) ?_);rw [List.getElem?_take,if_pos hjl,HYJ.out,hyx])
          have hg3:decide (y=x)=true:=decide_eq_true hyx;have hg4:(y==x)=true:=by simp [hyx]
          clear hyx hx1;go_upto_region 14 with fail
          go_quiet (fail)
          go_wp2_with fail
          go_ret;exact ⟨aj HF.out.symm,(by rw [hp];exact EC HBq.out _)⟩
         ·have HNI2:Hid (x ≠ -1->x ∉ n.ps.take (j2+1)):=fun h hm=>by
           rw [au HYJ.out,List.mem_append,List.mem_singleton] at hm;rcases hm with hm | hm
           ·exact HNI.out h hm
           ·exact hyx hm.symm
          have hg3:decide (y=x)=false:=decide_eq_false hyx;have hg4:(y==x)=false:=by simp [hyx]
          clear hyx hx1;go_upto_region 14 with fail
          go_quiet (fail)
          go_wp2_with fail
          go_roundw
          case rel=>exact ⟨j2+1,by go_num,Ha,HNI2,HYq,EC HBq.out _,HNq⟩
          case measure=>simp [intOf];omega
        ·obtain rfl:j2=k2:=Ha;have HPK:=He (HPN.out (HE.out.2 (Or.inr ⟨hmx,HNI.out hx1⟩)));have HBK:Hid (false=true↔∀ j,j<j2+1->n.ps.getD j 0 = -1):=⟨(fun h=>by cases h),(fun h=>by have:=HBX.out.2 h;simp_all)⟩
         clear hx1;clear hmx;go_wp2_with fail
         go_roundw
         case rel=>exact ⟨_,j2+1,rfl,by go_num,Ha,HBK,HPK,HYq,HBq,HNq⟩
         case measure=>simp [intOf];omega
     ·have HM1:=He (decide_eq_false hmx);rw [HM1.out] at HM;have HF:=He (HNO.out fun h=>by rcases HE.out.1 h with h8 | h8;exact hx1 h8;exact hmx h8.1);clear hmx;go_wp2_with fail
      refine (HM.out _).mono ?_;rintro e w7 ⟨rfl,rfl⟩;go_wp2_with fail
      go_ret;exact ⟨aj HF.out.symm,(by rw [hp];exact HB.out)⟩
   ·obtain rfl:k2=5:=Ha;have HPLM:Hid (Bp n.ps):=HPL;have HBN5:Hid (b=true↔n.ps=jn):=HBN.out.trans (Fp n).symm;obtain ⟨c0,c1,c2,c7,c8⟩:=HN.out.cells;have hs2:=hs;clear HPL HBN hs2 HMA;by_cases k1:k=1
    ·subst k1;by_cases hs0:0<=n.s
     ·by_cases hs1:n.s<=1120
      ·cases bt
       ·have hq:=hs1;have HF:Hid (decide (aS 1 n)=false):=decide_eq_false fun h=>by have h9:=HTB.out;have h10:=HBN5.out;unfold aS at h;rcases h.2 with h6 | h6 | h6 <;> simp_all
        go_wp2_with fail
        go_ret;exact ⟨aj HF.out.symm,by first | exact HB.out | (rw [hp];exact HB.out)⟩
       ·have hq:=hs1;have HF:Hid (decide (aS 1 n)=true):=decide_eq_true ⟨⟨Ha,Ha,Ha⟩,Or.inl ⟨rfl,⟨hs0,hs1⟩,HTB.out.2 rfl,HPLM.out⟩⟩;go_wp2_with fail
        go_ret;exact ⟨aj HF.out.symm,by first | exact HB.out | (rw [hp];exact HB.out)⟩
      ·have hq:=hs1;have HF:Hid (decide (aS 1 n)=false):=decide_eq_false fun h=>by unfold aS at h;omega
       go_wp2_with fail
       go_ret;exact ⟨aj HF.out.symm,by first | exact HB.out | (rw [hp];exact HB.out)⟩
     ·have hq:=hs0;have HF:Hid (decide (aS 1 n)=false):=decide_eq_false fun h=>by unfold aS at h;omega
      go_wp2_with fail
      go_ret;exact ⟨aj HF.out.symm,by first | exact HB.out | (rw [hp];exact HB.out)⟩
    by_cases k2:k=2
    ·subst k2;by_cases hs0:n.s=0
     ·cases b
      ·have hq:=hs0;have HF:Hid (decide (aS 2 n)=false):=decide_eq_false fun h=>by have h9:=HTB.out;have h10:=HBN5.out;unfold aS at h;rcases h.2 with h6 | h6 | h6 <;> simp_all
       go_wp2_with fail
       go_ret;exact ⟨aj HF.out.symm,by first | exact HB.out | (rw [hp];exact HB.out)⟩
      ·cases bt
       ·have hq:=hs0;have HF:Hid (decide (aS 2 n)=false):=decide_eq_false fun h=>by have h9:=HTB.out;have h10:=HBN5.out;unfold aS at h;rcases h.2 with h6 | h6 | h6 <;> simp_all
        go_wp2_with fail
        go_ret;exact ⟨aj HF.out.symm,by first | exact HB.out | (rw [hp];exact HB.out)⟩
       ·by_cases hl1:n.l<=1
        ·have hq:=hl1;have HF:Hid (decide (aS 2 n)=true):=decide_eq_true ⟨⟨Ha,Ha,Ha⟩,Or.inr (Or.inl ⟨rfl,hl1,hs0,HTB.out.2 rfl,HBN5.out.1 rfl⟩)⟩;go_wp2_with fail
         go_ret;exact ⟨aj HF.out.symm,by first | exact HB.out | (rw [hp];exact HB.out)⟩
        ·have hq:=hl1;have HF:Hid (decide (aS 2 n)=false):=decide_eq_false fun h=>by unfold aS at h;omega
         go_wp2_with fail
         go_ret;exact ⟨aj HF.out.symm,by first | exact HB.out | (rw [hp];exact HB.out)⟩
     ·have hq:=hs0;have HF:Hid (decide (aS 2 n)=false):=decide_eq_false fun h=>by unfold aS at h;omega
      go_wp2_with fail
      go_ret;exact ⟨aj HF.out.symm,by first | exact HB.out | (rw [hp];exact HB.out)⟩
    by_cases k3:k=3
    ·subst k3;cases b
     ·have hq:=hsz;have HF:Hid (decide (aS 3 n)=false):=decide_eq_false fun h=>by have h9:=HTB.out;have h10:=HBN5.out;unfold aS at h;rcases h.2 with h6 | h6 | h6 <;> simp_all
      go_wp2_with fail
      go_ret;exact ⟨aj HF.out.symm,by first | exact HB.out | (rw [hp];exact HB.out)⟩
     ·have HLN:=He hsz;by_cases h4:sZ n.t
      ·have HT0:=He (decide_eq_true h4);rw [HT0.out] at HT;by_cases h5:n.s=n.t.length
       ·have HF:Hid (decide (aS 3 n)=true):=decide_eq_true ⟨⟨Ha,Ha,Ha⟩,Or.inr (Or.inr ⟨rfl,h4,h5,HBN5.out.1 rfl⟩)⟩;rw [<- HLN.out] at h5;have h5a:(n.s==((strOfNums n.t).size:Int))=true:=by simpa using h5
        have h5b:decide (n.s=((strOfNums n.t).size:Int))=true:=decide_eq_true h5;clear h4 hsz h5 HLN HTB HT0;go_wp2_with fail
        refine (HT.out _).mono ?_;rintro e w8 ⟨rfl,rfl⟩;go_wp2_with fail
        go_ret;exact ⟨aj HF.out.symm,by first | exact HB.out | (rw [hp];exact HB.out)⟩
       ·have HF:Hid (decide (aS 3 n)=false):=decide_eq_false fun h=>by unfold aS at h;rcases h.2 with h6 | h6 | h6;exact absurd h6.1 Ha;exact absurd h6.1 Ha;exact h5 h6.2.2.1
        rw [<- HLN.out] at h5;have h5a:(n.s==((strOfNums n.t).size:Int))=false:=by simpa using h5
        have h5b:decide (n.s=((strOfNums n.t).size:Int))=false:=decide_eq_false h5;clear h4 hsz h5 HLN HTB HT0;go_wp2_with fail
        refine (HT.out _).mono ?_;rintro e w8 ⟨rfl,rfl⟩;go_wp2_with fail
        go_ret;exact ⟨aj HF.out.symm,by first | exact HB.out | (rw [hp];exact HB.out)⟩
      ·have HT0:=He (decide_eq_false h4);rw [HT0.out] at HT;have HF:Hid (decide (aS 3 n)=false):=decide_eq_false fun h=>by unfold aS at h;rcases h.2 with h6 | h6 | h6;exact absurd h6.1 Ha;exact absurd h6.1 Ha;exact h4 h6.2.1
       clear h4 hsz HLN HTB HT0;go_wp2_with fail
       refine (HT.out _).mono ?_;rintro e w8 ⟨rfl,rfl⟩;go_wp2_with fail
       go_ret;exact ⟨aj HF.out.symm,by first | exact HB.out | (rw [hp];exact HB.out)⟩
    have HF:Hid (decide (aS k n)=false):=decide_eq_false fun h=>by unfold aS at h;omega
    go_wp2_with fail
    go_ret;exact ⟨aj HF.out.symm,by first | exact HB.out | (rw [hp];exact HB.out)⟩
theorem qz (k:Int) (A:Option Addr) (xs:List Int) (n d:Nat) (w:World) (hn:xs.length=n) (hl:n<=56) (hy:dD w A xs) :
 Calls Tryz.prog 129 #[.int .i64 k,.slice A n d] w fun e w'=>e=.returned (.agg (ab k (dh xs)))/\Below w.heap.size w w':=by
 have HN:=He hn;have HY:=He hy;have HP0:Hid ((((w.alloc (Obj.cells (ab 0 ay) 37)).alloc (Obj.cells (ab 0 ay) 37)).heap[w.heap.size+1]?=some (.cells (ab 0 ay) 37 (0,0)))/\(((w.alloc (Obj.cells (ab 0 ay) 37)).alloc (Obj.cells (ab 0 ay) 37)).heap[w.heap.size]?=some (.cells (ab 0 ay) 37 (0,0)))):=by
  have s1:(w.alloc (Obj.cells (ab 0 ay) 37)).heap.size=w.heap.size+1:=ak _ _;have H1:=heap_alloc_new (w.alloc (Obj.cells (ab 0 ay) 37)) (Obj.cells (ab 0 ay) 37);rw [s1] at H1;exact ⟨H1,kb (aK _) (heap_alloc_new w _)⟩
 have HB0:Hid (Below w.heap.size w ((w.alloc (Obj.cells (ab 0 ay) 37)).alloc (Obj.cells (ab 0 ay) 37))):=by
  have B1:=aK (w:=w) (Obj.cells (ab 0 ay) 37);exact B1.alloc B1.size _
 have HX0:Hid ((((w.alloc (Obj.cells (ab 0 ay) 37)).alloc (Obj.cells (ab 0 ay) 37)).setRow (w.heap.size+1) (ab k ay)).heap[w.heap.size+1]?=some (.cells (ab k (dh [])) 37 (0,0))):=am HP0.out.1;have HR0:Hid ((((w.alloc (Obj.cells (ab 0 ay) 37)).alloc (Obj.cells (ab 0 ay) 37)).setRow (w.heap.size+1) (ab k ay)).heap[w.heap.size]?=some (.cells (ab 0 ay) 37 (0,0))):=by
  unfold Hid;rw [setRow_other _ _ _ _ Ha];exact HP0.out.2
 have HB1:=He (below_setRow HB0.out (show w.heap.size<=w.heap.size+1 by omega) (ab k ay));clear hn hy HB0;go_enter Tryz.func129,Tryz.ntmps129;go_upto_region 2 with (first
  | (refine aq rfl rfl ?_;try simp only [ak])
  | (refine iX rfl (.tmp 7) k rfl rfl ?_)
  | (refine ap rfl (.tmp 5) (.tmp 8) rfl (w.heap.size+1) rfl k 0 ay ay rfl al al HP0.out.1 ?_))
 clear HP0;generalize ((w.alloc (Obj.cells (ab 0 ay) 37)).alloc (Obj.cells (ab 0 ay) 37)).setRow (w.heap.size+1) (ab k ay)=W at *;go_wp2_with fail
 go_loopw [6] (fun i wr=>∃ j:Nat,j<=n/\i=.int .i64 j/\Hid (wr.heap[w.heap.size+1]?=some (.cells (ab k (dh (xs.take j))) 37 (0,0)))/\Hid (wr.heap[w.heap.size]?=some (.cells (ab 0 ay) 37 (0,0)))/\Hid (Below w.heap.size w wr)) (fun i _=>(n-intOf i).toNat)
 case atStart=>exact ⟨0,Ha,rfl,by rw [List.take_zero];exact HX0,HR0,HB1⟩
 case round =>
  obtain ⟨j,hj,rfl,HX,HR,HB⟩:=hrel;clear HX0 HR0 HB1;have hLt:(xs.take j).length=j:=by rw [List.length_take,HN.out];omega
  have HLT:=He hLt;clear hLt;by_cases hlt:j<n
  ·obtain ⟨x,hx⟩:∃ x,xs[j]?=some x:=⟨_,List.getElem?_eq_getElem (by rw [HN.out];exact hlt)⟩
   obtain ⟨ad,rfl,hc⟩:=HY.out j x hx;have hc0:=cF HB.out hc;have HT:Hid ((dh (xs.take j)).set j x=dh (xs.take (j+1))):=by
    have h:=pp (ys:=xs.take j) (y:=x) (by rw [HLT.out];omega);rw [HLT.out] at h;unfold Hid;rw [h,au hx]
   have cx:∃ u,wr.cell? ⟨w.heap.size+1,1+j,none⟩=some u:=by
    have hp:=fH (ys:=xs.take j) (by rw [HLT.out];omega);exact ⟨_,(af HX.out _).trans (Array.getElem?_eq_getElem (by rw [aN hp];omega))⟩
   obtain ⟨u,cu⟩:=cx;have fu:wr.frozen? ⟨w.heap.size+1,1+j,none⟩=false:=az HX.out _;have hj56:j<56:=Ha;clear hx hc;go_wp2_with fail
   go_roundw
   case rel =>
    refine ⟨j+1,Ha,by go_num,?_,?_,HB.out.setCell (show w.heap.size<=w.heap.size+1 by omega) _⟩
    ·unfold Hid;rw [ah HX.out,ld,HT.out]
    ·unfold Hid;rw [heap_setCell_other wr _ _ _ (show w.heap.size≠w.heap.size+1 by omega)];exact HR.out
   case measure=>simp [intOf];omega
  ·obtain rfl:j=n:=Ha;have e:xs.take j=xs:=List.take_of_length_le (by rw [HN.out];omega);rw [e] at HX;have HL:=He (fH (ys:=xs) (by rw [HN.out];omega));go_wp2_with (first
    | (refine aQ rfl (.tmp 5) rfl (w.heap.size+1) rfl k (dh xs) HL.out HX.out ?_)
    | (refine ap rfl (.tmp 4) (.tmp 26) rfl w.heap.size rfl k 0 (dh xs) ay rfl HL.out al HR.out ?_))
   refine bodyPost_ret (ug rfl _ _ w.heap.size k (dh xs) rfl HL.out (am HR.out)) rfl ?_;exact ⟨rfl,below_setRow HB.out (Nat.le_refl _) _⟩
theorem rZ {t:List Int} (h:ax t):Lib.strCells (strOfNums t)=Bs t:=by
 unfold Lib.strCells;rw [strOfNums_data];unfold Bs;rw [List.map_map];refine List.map_congr_left fun x hx=>?_;have:=h x hx;simp only [Function.comp_apply,UInt8.toNat_ofNat']
 congr 1
 omega
theorem wj (w:World) (ty:TypeId) (base:Nat) (v:Value) (n:Nat) (xs:List Int) (hown:w.ownsRow base 5 1 v n (Bs xs)) (t:List Int) (ht:ax t) (h63:n+t.length<=1000000) (hbase:base<=w.heap.size) :
 ∃ v' w',(Builtin.append_ #[22,9] ty #[v,.string (strOfNums t)]).run Tryz.prog w=.ok v' w'/\w'.ownsRow base 5 1 v' (n+t.length) (Bs (xs++t))/\w.grownBy w' v.ownBlock/\bR n (n+t.length) w w':=by
 obtain ⟨i0,hi,hz0,hz1,hz2⟩:=info_parts iT;have hsz:=strOfNums_size t;obtain ⟨v',w',hr,h2,h3,_⟩:=Lib.run_append_own_string (P:=Tryz.prog) w base 22 9 ty 5 i0 Tryz.underlying22 Tryz.underlying9 hi hz0 hz1 hz2 v n (Bs xs) hown (strOfNums t) (by simp only [maxLen];omega) Ha hbase;rw [hsz,rZ ht,<- iP] at h2;refine ⟨v',w',hr,h2,h3,?_⟩;rcases hown.2 with ⟨rfl,h0⟩ | ⟨g,cap,cur,rfl,hb,hg,hnc,hcm,hcs,htake⟩
 ·exact bR.grown h3
 ·by_cases hroom:n+t.length<=cap
  ·have hr2:=Lib.run_append_room_string (P:=Tryz.prog) w 22 9 ty 5 i0 Tryz.underlying22 Tryz.underlying9 hi hz1 g n cap cur hg (strOfNums t) Ha Ha;rw [hr] at hr2;injection hr2 with e1 e2
   subst e2;refine ⟨rfl,rfl,rfl,Hb,fun q C tq fr hq=>?_,fun q C tq fr hq hsm=>?_⟩
   ·by_cases e:q=g
    ·subst e;rw [hg] at hq;injection hq with hq;injection hq with e1 e2 e3
     subst e1;subst e2;subst e3;refine ⟨_,setRow_heap w q cur _ _ _ hg,?_,fun i hi=>?_⟩
     ·simp only [List.size_toArray,List.length_append,List.length_take,List.length_drop,Array.length_toList,Lib.strCells_length,hsz];omega
     ·rw [<- Array.getElem?_toList,List.toList_toArray,List.append_assoc,List.getElem?_append_left (by rw [List.length_take,Array.length_toList];omega),List.getElem?_take,if_pos hi,Array.getElem?_toList]
    ·exact ⟨C,by rw [setRow_other w g q _ e];exact hq,rfl,fun _ _=>rfl⟩
   ·have e:q≠g:=fun e=>by
     subst e;rw [hg] at hq;injection hq with hq;injection hq with e1 _ _
     subst e1;omega
    rw [setRow_other w g q _ e];exact hq
  ·have hold:∀ j u,(Bs xs)[j]?=some u->w.cell? ((⟨g,0,none⟩:Addr).add j)=some u:=hown.cells (g:=g) rfl;have hxl:=hown.1;have hr2:=Lib.run_append_grow_string (P:=Tryz.prog) w 22 9 ty 5 i0 (.int .u8 0) Tryz.underlying22 Tryz.underlying9 hi hz0 ⟨g,0,none⟩ n cap (Bs xs) (by rw [hz1];simpa using hxl) hold (strOfNums t) Ha Ha (by rw [hz2,hsz];have:=nextslicecap_le (show cap<n+t.length by omega);omega);rw [hr] at hr2;injection hr2 with e1 e2
   subst e2;exact bR.grown ⟨rfl,rfl,rfl,Hb,fun k hk _=>heap_alloc_old w.drew _ hk⟩
theorem qA (w:World) {o:Oper} {a:Act} {K:Act->World->Prop} {Q:Exit->Act->World->Prop} (s x:Operand)
 (ho:o.op=.call { callee:=.builtin .append,args:=#[s,x],argTypes:=#[22,9] })
 (base:Nat) (v:Value) (n:Nat) (xs:List Int) (hs:a.eval s=v) (hown:w.ownsRow base 5 1 v n (Bs xs)) (t:List Int) (hx:a.eval x=.string (strOfNums t)) (ht:ax t)
 (h63:n+t.length<=1000000) (hbase:base<=w.heap.size)
 (h:∀ v' w',w'.ownsRow base 5 1 v' (n+t.length) (Bs (xs++t))->w.grownBy w' v.ownBlock->bR n (n+t.length) w w'->K (a.put o.dst v') w'):o.wp Tryz.prog a w K Q:=by
 obtain ⟨v',w',hr,h2,h3,h4⟩:=wj w o.type base v n xs hown t ht h63 hbase;unfold Oper.wp execOp;simp only [ho,resolve,invoke,builtin,Sem.run_bind,Sem.run_pure,Result.andThen_ok,List.map_toArray,List.map_cons,List.map_nil,hs,hx,hr];exact h v' w' h2 h3 h4
theorem no (x:Int) (n:Nat) (w:World) (hv:0<=x/\x<18446744073709551616) (hn:n<=8) :
 Calls Tryz.prog 128 #[.int .u64 x,.int .i64 n] w fun e w'=>∃ u,e=.returned u/\aC w' w.heap.size u (be x.toNat n)/\Below w.heap.size w w':=by
 have h:=lc x.toNat n w Ha hn
 rwa [show ((x.toNat:Nat):Int)=x by omega] at h
theorem s7 {o:Oper} {a:Act} {w:World} {K:Act->World->Prop} {Q:Exit->Act->World->Prop} (x y:Operand) (ho:o.op=.store 37 x y) (g:Nat) (hx:a.eval x=.pointer (some ⟨g,0,none⟩)) (k j:Int) (bs cs:List Int) (hy:a.eval y=.agg (ab k bs)) (h56:bs.length=56) (h56':cs.length=56) (hg:w.heap[g]?=some (.cells (ab j cs) 37 (0,0)))
 (h:K (a.put o.dst undef) (w.setRow g (ab k bs))):o.wp Tryz.prog a w K Q :=
 wp_store_row 37 x y ho g _ hx hy _ _ hg (by rw [aN h56];exact cO) (by rw [aN h56,aN h56']) (jL _ _) h
theorem cd (w:World) (g:Nat) (C:Array Value):w.grownBy (w.setRow g C) (some g) :=
 ⟨rfl,rfl,rfl,Hb,fun k _ hk=>setRow_other w g k C (fun e=>hk (by rw [e]))⟩
structure Dp (w:World) (p:Nat) (n:Nd) (W:World):Prop where
 bel:Below p w W
 sz:p+1+1<=W.heap.size
 at_:aR W p n
 res:W.heap[p+1]?=some (.cells (ab 0 ay) 37 (0,0))
section
variable {w W W':World} {p:Nat} {n:Nd}
theorem Dp.below (h:Dp w p n W) (hb:Below W.heap.size W W'):Dp w p n W' :=
 ⟨h.bel.trans (hb.mono (by have:=h.sz;omega)),Nat.le_trans h.sz hb.size,h.at_.below hb,kb hb h.res⟩
theorem Dp.grown {r:Option Nat} (h:Dp w p n W) (hg:W.grownBy W' r) (h1:∀ j,r=some j->p<=j) (h2:r≠some p) (h3:r≠some (p+1)):Dp w p n W' :=
 ⟨h.bel.grown hg (by have:=h.sz;omega) h1,Nat.le_trans h.sz hg.size,h.at_.grown hg h2,by rw [hg.block _ (by have:=h.sz;omega) (fun e=>h3 e.symm)];exact h.res⟩
end
def I9 (p:Nat) (n:Nd) (i:Nat) (v:Value) (W:World):Prop :=
 match i with
 | 0=>v=.pointer (some ⟨p,0,none⟩)
 | 1=>v=.int .u32 n.g
 | 2=>v=.int .u64 n.g
 | 4=>v=.pointer (some ⟨p,1,none⟩)
 | 5=>v=.int .i64 n.l
 | 6=>v=.int .u64 n.l
 | 9=>v=.pointer (some ⟨p,2,none⟩)
 | 10=>v=.int .i64 n.s
 | 11=>v=.int .u64 n.s
 | 3=>aC W (p+1+1) v (be n.g.toNat 4)
 | 7=>aC W (p+1+1) v (be n.l.toNat 2)
 | 8=>W.ownsRow (p+1+1) 5 1 v 6 (Bs (be n.g.toNat 4++be n.l.toNat 2))
 | 12=>aC W (p+1+1) v (be n.s.toNat 4)
 | 13=>W.ownsRow (p+1+1) 5 1 v 10 (Bs (dH n))
 | _=>True
def JM (i:Nat) (w w':World):Prop:=if i=13 then bR 6 10 w w' else w.grownBy w' none
theorem I9.on {p:Nat} {n:Nd} {i j:Nat} {v:Value} {w w':World} (hij:i≠j) (h:I9 p n j v w) (hs:JM i w w'):I9 p n j v w':=by
 unfold JM at hs;by_cases hi:i=13
 ·rw [if_pos hi] at hs;unfold I9 at *;split <;> try exact h
  ·exact aC.keep h hs (by rw [av];decide)
  ·exact aC.keep h hs (by rw [av];decide)
  ·exact ic h hs Hd
  ·exact aC.keep h hs (by rw [av];decide)
  ·exact absurd hi hij
  ·trivial
 ·rw [if_neg hi] at hs;unfold I9 at *;split <;> try exact h
  ·exact aC.grown h hs
  ·exact aC.grown h hs
  ·exact World.ownsRow.kept h hs (by cases v.ownBlock <;> simp)
  ·exact aC.grown h hs
  ·exact World.ownsRow.kept h hs (by cases v.ownBlock <;> simp)
  ·trivial
structure wn (w:World) (p:Nat) (n:Nd) (k:Int) (v6:Value) (b7 b12:Bool) (W:World):Prop where
 bel:Below p w W
 sz:p+1+1<=W.heap.size
 at_:aR W p n
 row:b7=false->W.ownsRow (p+1+1) 5 1 v6 20 (Bs (dH n++mK n.ps))
 res0:b12=false->W.heap[p+1]?=some (.cells (ab 0 ay) 37 (0,0))
 res1:b12=true->W.heap[p+1]?=some (.cells (ab k (dh (bG n))) 37 (0,0))
section
variable {w W W':World} {p:Nat} {n:Nd} {k:Int} {v6:Value} {b7 b12:Bool}
theorem wn.below (h:wn w p n k v6 b7 b12 W) (hb:Below W.heap.size W W'):wn w p n k v6 b7 b12 W' :=
 ⟨h.bel.trans (hb.mono (by have:=h.sz;omega)),Nat.le_trans h.sz hb.size,h.at_.below hb,fun e=>hU (h.row e) hb,fun e=>kb hb (h.res0 e),fun e=>kb hb (h.res1 e)⟩
theorem wn.alloc (h:wn w p n k v6 b7 b12 W) (o:Obj):wn w p n k v6 b7 b12 (W.alloc o):=h.below (aK o)
theorem wn.push {r:Option Nat} (h:wn w p n k v6 b7 b12 W) (hg:W.grownBy W' r) (hne:∀ j,r=some j->p+1+1<=j):wn w p n k v6 true b12 W':=by
 have h3:r≠some (p+1):=fun e=>by have:=hne _ e;omega
 exact ⟨h.bel.grown hg (by have:=h.sz;omega) (fun j e=>by have:=hne j e;omega),Nat.le_trans h.sz hg.size,h.at_.grown hg (fun e=>by have:=hne _ e;omega),(fun e=>by cases e),(fun e=>by rw [hg.block _ (by have:=h.sz;omega) (fun e=>h3 e.symm)];exact h.res0 e),(fun e=>by rw [hg.block _ (by have:=h.sz;omega) (fun e=>h3 e.symm)];exact h.res1 e)⟩
theorem wn.push2 {r:Option Nat} (h:wn w p n k v6 b7 b12 W) (hg:W.grownBy W' r) (hne:∀ j,r=some j->p+1+1<=j) (hb:b7=true):wn w p n k v6 b7 b12 W':=by
 have:=h.push hg hne;subst hb;exact this
theorem wn.stored (h:wn w p n k v6 b7 b12 W):wn w p n k v6 b7 true (W.setRow (p+1) (ab k (dh (bG n)))):=by
 have hr:W.heap[p+1]?=some (.cells (ab k (dh (bG n))) 37 (0,0))\/W.heap[p+1]?=some (.cells (ab 0 ay) 37 (0,0)):=by
  cases b12
  ·exact Or.inr (h.res0 rfl)
  ·exact Or.inl (h.res1 rfl)
 exact ⟨below_setRow h.bel Ha _,by rw [size_setRow];exact h.sz,h.at_.other _ Ha,(fun e=>World.ownsRow.kept (h.row e) (cd _ _ _) (Or.inr fun e2=>by have:=((h.row e).lt _ e2).1;omega)),(fun e=>by cases e),(fun _=>by rcases hr with h1 | h1 <;> exact am h1)⟩
end
def GA (p:Nat) (n:Nd) (k:Int) (v6:Value) (i:Nat) (v:Value) (W:World):Prop :=
 match i with
 | 0=>v=.int .i64 k
 | 1=>v=v6
 | 2 | 8=>v=.pointer (some ⟨p,8,none⟩)
 | 3 | 9=>v=.string (strOfNums n.t)
 | 4=>v=.int .i64 n.t.length
 | 5=>v=.int .u8 n.t.length
 | 11=>v=.agg (ab k (dh (bG n)))
 | 6=>aC W (p+1+1) v [(n.t.length:Int)]
 | 7=>W.ownsRow (p+1+1) 5 1 v 21 (Bs (jz n))
 | 10=>W.ownsRow (p+1+1) 5 1 v (21+n.t.length) (Bs (bG n))
 | _=>True
def JN (p:Nat) (n:Nd) (i:Nat) (w w':World):Prop:=if i=7 then bR 20 21 w w' else if i=10 then bR 21 (21+n.t.length) w w' else if i=12 then w.grownBy w' (some (p+1)) else w.grownBy w' none
theorem aC.kept {w w':World} {base:Nat} {v:Value} {xs:List Int} {r:Nat} (h:aC w base v xs) (hg:w.grownBy w' (some r)) (hr:r<base):aC w' base v xs:=by
 obtain ⟨q,C,rfl,hb,hq,hc⟩:=h;exact ⟨q,C,rfl,hb,by rw [hg.block q (ai hq) (fun e=>by injection e with e;omega)];exact hq,hc⟩
theorem np {w w':World} {base m:Nat} {t:TypeId} {v:Value} {xs:List Value} {r:Nat} (h:w.ownsRow base t 1 v m xs) (hg:w.grownBy w' (some r)) (hr:r<base):w'.ownsRow base t 1 v m xs :=
 World.ownsRow.kept h hg (Or.inr fun e=>by have:=(h.lt _ e).1;omega)
theorem GA.on {p:Nat} {n:Nd} {k:Int} {v6:Value} {i j:Nat} {v:Value} {w w':World} (hij:i≠j) (hnot:¬ (i=7/\j=10)) (h:GA p n k v6 j v w) (hs:JN p n i w w'):GA p n k v6 j v w':=by
 unfold JN at hs;by_cases hi:i=7
 ·rw [if_pos hi] at hs;unfold GA at *;split <;> try exact h
  ·exact aC.keep h hs (show 1<21 by omega)
  ·exact absurd hi hij
  ·exact absurd ⟨hi,rfl⟩ hnot
  ·trivial
 ·rw [if_neg hi] at hs;by_cases hi2:i=10
  ·rw [if_pos hi2] at hs;unfold GA at *;split <;> try exact h
   ·exact aC.keep h hs (show 1<21+n.t.length by omega)
   ·exact ic h hs Hd
   ·exact absurd hi2 hij
   ·trivial
  ·rw [if_neg hi2] at hs;by_cases hi3:i=12
   ·rw [if_pos hi3] at hs;unfold GA at *;split <;> try exact h
    ·exact aC.kept h hs Ha
    ·exact np h hs Ha
    ·exact np h hs Ha
    ·trivial
   ·rw [if_neg hi3] at hs;unfold GA at *;split <;> try exact h
    ·exact aC.grown h hs
    ·exact World.ownsRow.kept h hs (by cases v.ownBlock <;> simp)
    ·exact World.ownsRow.kept h hs (by cases v.ownBlock <;> simp)
    ·trivial
theorem JO (n:Nd) {j:Nat} (h:j<4):(bD n)[3+j]?=some (.int .i64 (n.ps.getD j 0)):=by
 match j,h with
 | 0,_=>rfl
 | 1,_=>rfl
 | 2,_=>rfl
 | 3,_=>rfl
theorem s8 (k:Int) (n:Nd) (w:World) (hn:mw n) (htl0:n.t.length<=100):Calls Tryz.prog 70 #[.int .i64 k,.agg (bD n)] w fun e w'=>e=.returned (.tuple #[.agg (ab (dV k n) (cT k n)),.bool (decide (aS k n))])/\Below w.heap.size w w':=by
 have HM:=He (fun w=>Br k n w hn htl0);have HT:=He hn.t;have HJ0:Hid (Dp w w.heap.size n ((w.alloc (Obj.cells (bD n) 137)).alloc (Obj.cells (ab 0 ay) 37))):=by
  have s1:(w.alloc (Obj.cells (bD n) 137)).heap.size=w.heap.size+1:=ak _ _;have B1:=aK (w:=w) (Obj.cells (bD n) 137);have H1:=heap_alloc_new (w.alloc (Obj.cells (bD n) 137)) (Obj.cells (ab 0 ay) 37);rw [s1] at H1;exact ⟨B1.alloc B1.size _,by rw [ak,s1];exact Nat.le_refl _,(aR.new w n).alloc _,H1⟩
 go_enter Tryz.func70,Tryz.ntmps70;go_upto_region 1 with (refine aq rfl rfl ?_;try simp only [ak])
 generalize (w.alloc (Obj.cells (bD n) 137)).alloc (Obj.cells (ab 0 ay) 37)=W at *;go_wp2_with (refine aU rfl (.tmp 3) rfl w.heap.size rfl n HJ0.out.at_ ?_)
 refine (HM.out _).mono ?_;rintro e w1 ⟨rfl,hb1⟩;have HJ1:=He (HJ0.out.below hb1);clear hb1 HJ0;by_cases hm:aS k n
 ·have HPK:Hid (dV k n=k):=by unfold Hid dV;rw [if_pos hm]
  have HPB:Hid (cT k n=dh (bG n)):=by unfold Hid cT;rw [if_pos hm]
  have HD:=He (decide_eq_true hm);rw [HD.out];have htl:=hm.tl;have hs0:=hm.sz;have hg0:=hm.1;have hg32:n.g<4294967296:=by have:=hn.g.2;omega
  have HPLC:=He (fun i hi=>hm.at_ (i:=i) hi);have HPL:=He (fH (ys:=bG n) (by rw [g8];omega));have HA:=He no;have hgr:0<=n.g/\n.g<18446744073709551616:=Ha;have hlr:0<=n.l/\n.l<18446744073709551616:=Ha;have hsr:0<=n.s/\n.s<18446744073709551616:=Ha;have wg:IntKind.u64.wrap n.g=n.g:=IntWalk.u64_in _ Ha;have wl:IntKind.u64.wrap n.l=n.l:=IntWalk.u64_in _ Ha;have ws:IntKind.u64.wrap n.s=n.s:=IntWalk.u64_in _ Ha;clear hm;go_upto_region 3 with fail
  generalize hp:w.heap.size=p at *
  go_cut [6] (fun s wx=>wx.ownsRow (p+1+1) 5 1 s 10 (Bs (dH n))/\Dp w p n wx)
  case first =>
   have hJ0:Dp w p n w1.drew:=⟨HJ1.out.bel.drew,HJ1.out.sz,HJ1.out.at_,HJ1.out.res⟩
   refine aw (I9 p n) (fun _ W=>Dp w p n W) JM Hc Hc (fun i j v' w' w'' hij hind h hg=>h.on hij hg) hJ0 ?_;have srefl:∀ (i:Nat) (W:World),JM i W W:=fun i W=>by unfold JM;split;exact bR.grown (World.grownBy.refl _ _);exact World.grownBy.refl _ _
   clear hJ0 HJ1;simp only [bW];refine ⟨?_,?_,?_,?_,?_,?_,?_,?_,?_,?_,?_,?_,?_,?_,?_⟩
   ·refine aa.of rfl fun T W L hag hL hJ hLs hd=>?_;have e3:=Hf hag 3;exact Hi
   ·refine aa.of rfl fun T W L hag hL hJ hLs hd=>?_;have d13:T.getD 13 undef=_:=Hg hd 0 rfl;have fct0:=(show W.cell? ⟨p,0,none⟩=some (.int .u32 n.g) from hJ.at_.cell 0)
    exact Hi
   ·refine aa.of rfl fun T W L hag hL hJ hLs hd=>?_;have d14:T.getD 14 undef=_:=Hg hd 1 rfl;have fct0:=wg;exact Hi
   ·refine aa.of rfl fun T W L hag hL hJ hLs hd=>?_;have d15:T.getD 15 undef=_:=Hg hd 2 rfl;clear hag hd;go_simp;refine (HA.out n.g 4 W hgr Ha).mono ?_;rintro en w' ⟨u,rfl,hf,hb⟩;exact ⟨_,rfl,hf.mono hJ.sz,hJ.below hb,dM hb⟩
   ·refine aa.of rfl fun T W L hag hL hJ hLs hd=>?_;have e3:=Hf hag 3;exact Hi
   ·refine aa.of rfl fun T W L hag hL hJ hLs hd=>?_;have d17:T.getD 17 undef=_:=Hg hd 4 rfl;have fct0:=(show W.cell? ⟨p,1,none⟩=some (.int .i64 n.l) from hJ.at_.cell 1)
    exact Hi
   ·refine aa.of rfl fun T W L hag hL hJ hLs hd=>?_;have d18:T.getD 18 undef=_:=Hg hd 5 rfl;have fct0:=wl;exact Hi
   ·refine aa.of rfl fun T W L hag hL hJ hLs hd=>?_;have d19:T.getD 19 undef=_:=Hg hd 6 rfl;clear hag hd;go_simp;refine (HA.out n.l 2 W hlr Ha).mono ?_;rintro en w' ⟨u,rfl,hf,hb⟩;exact ⟨_,rfl,hf.mono hJ.sz,hJ.below hb,dM hb⟩
   ·refine aa.of rfl fun T W L hag hL hJ hLs hd=>?_;have x16:aC W (p+1+1) (T.getD 16 undef) (be n.g.toNat 4):=Hg hd 3 rfl;have x20:aC W (p+1+1) (T.getD 20 undef) (be n.l.toNat 2):=Hg hd 7 rfl;obtain ⟨q,(e20:T.getD 20 undef=_),hy⟩:=x20.byt;refine mM W (.tmp 16) (.tmp 20) rfl (p+1+1) _ (be n.g.toNat 4) rfl x16 (some ⟨q,0,none⟩) 2 2 (be n.l.toNat 2) e20 hy rfl Ha (by simp [av]) hJ.sz ?_;intro v' w' h1 h2;rw [av] at h1;exact ⟨_,rfl,h1,hJ.grown h2 Hb Hb Hb,h2⟩
   ·refine aa.of rfl fun T W L hag hL hJ hLs hd=>?_;have e3:=Hf hag 3;exact Hi
   ·refine aa.of rfl fun T W L hag hL hJ hLs hd=>?_;have d22:T.getD 22 undef=_:=Hg hd 9 rfl;have fct0:=(show W.cell? ⟨p,2,none⟩=some (.int .i64 n.s) from hJ.at_.cell 2)
    exact Hi
   ·refine aa.of rfl fun T W L hag hL hJ hLs hd=>?_;have d23:T.getD 23 undef=_:=Hg hd 10 rfl;have fct0:=ws;exact Hi
   ·refine aa.of rfl fun T W L hag hL hJ hLs hd=>?_;have d24:T.getD 24 undef=_:=Hg hd 11 rfl;clear hag hd;go_simp;refine (HA.out n.s 4 W hsr Ha).mono ?_;rintro en w' ⟨u,rfl,hf,hb⟩;exact ⟨_,rfl,hf.mono hJ.sz,hJ.below hb,dM hb⟩
   ·refine aa.of rfl fun T W L hag hL hJ hLs hd=>?_;have x21:W.ownsRow (p+1+1) 5 1 (T.getD 21 undef) 6 (Bs (be n.g.toNat 4++be n.l.toNat 2)):=Hg hd 8 rfl;have x25:aC W (p+1+1) (T.getD 25 undef) (be n.s.toNat 4):=Hg hd 12 rfl;obtain ⟨q,(e25:T.getD 25 undef=_),hy⟩:=x25.byt;refine gg W (.tmp 21) (.tmp 25) rfl (p+1+1) _ 6 _ rfl x21 (some ⟨q,0,none⟩) 4 4 (be n.s.toNat 4) e25 hy rfl Ha hJ.sz ?_;intro v' w' h1 h2 h3;have hne:∀ j,(T.getD 21 undef).ownBlock=some j->p+1+1<=j:=fun j e=>(x21.lt j e).1;exact ⟨_,rfl,h1,hJ.grown h2 (fun j e=>by have:=hne j e;omega) (fun e=>by have:=hne p e;omega) (fun e=>by have:=hne (p+1) e;omega),h3⟩
   ·refine bg.of rfl fun T W L hag hLs hL hJ hd=>?_;have x26:W.ownsRow (p+1+1) 5 1 (T.getD 26 undef) 10 (Bs (dH n)):=hd 13 _ Hb rfl;obtain ⟨f,hf,hT⟩:=aH hag;have h26:=hf 26;rw [<- h26] at x26;have HX26:=He x26;clear h26 x26;have HJ:=He hJ;clear hag hd hJ hf;rw [hT];clear hT;simp only [List.pop_toArray,List.dropLast_cons_cons,List.dropLast_singleton,List.filterMap_cons,List.filterMap_nil,List.foldl_cons,List.foldl_nil,List.setIfInBounds_toArray,List.set_cons_succ,List.set_cons_zero];rename_i hJc hKc;go_wp2_with fail
    refine hJc _ _ ?_
    repeat apply Exists.intro
    exact ⟨⟨HX26.out,HJ.out⟩,rfl⟩
  case rest =>
   obtain ⟨own,hJ⟩:=hcut;go_wp2_with fail
   have HO:=He own;have HJ:=He hJ;clear own hJ HJ1 wg wl ws hgr hlr hsr
   go_loopw [6,7] (fun v i wr=>∃ j:Nat,j<=4/\i=.int .i64 j/\Hid (wr.ownsRow (p+1+1) 5 1 v (10+2*j) (Bs (dH n++mK (n.ps.take j))))/\Hid (Dp w p n wr)) (fun _ i _=>(4-intOf i).toNat)
   case atStart=>exact ⟨0,Ha,rfl,by rw [List.take_zero];show Hid (World.ownsRow _ _ _ _ _ _ (Bs (dH n++[])));rw [List.append_nil];exact HO,HJ⟩
   case round =>
    obtain ⟨j,hj,rfl,HOj,HJj⟩:=hrel;clear HO HJ;by_cases hlt:j<4
    ·have hx:n.ps[j]?=some (n.ps.getD j 0):=by
      rw [List.getD,List.getElem?_eq_getElem (show j<n.ps.length by show j<5;omega)];rfl
     have HT2:Hid (dH n++mK (n.ps.take (j+1))=(dH n++mK (n.ps.take j))++be (n.ps.getD j 0+1).toNat 2):=by
      unfold Hid;rw [au hx,qw,List.append_assoc]
     have hb:=HPLC.out j Ha;have c3:=(HJj.out.at_.cell (3+j)).trans (JO n hlt);clear hx;generalize n.ps.getD j 0=x at *;have wx1:IntKind.i64.wrap (x+1)=x+1:=IntWalk.i64_in _ Ha;have wx2:IntKind.u64.wrap (x+1)=x+1:=IntWalk.u64_in _ Ha;go_wp2_with fail
     refine (HA.out (x+1) 2 wr Ha Ha).mono ?_;rintro e w6 ⟨u,rfl,hf,hb6⟩;have HJ6:=He (HJj.out.below hb6);have HO6:=He (hU HOj.out hb6);obtain ⟨q,rfl,hy⟩:=hf.byt;have HY:=He hy;rw [av];clear hf hb6 hy HOj HJj c3;go_wp2_with (first
      | (at_builtin
         refine bU _ rfl (.tmp 31) (.tmp 38) rfl (p+1+1) _ (10+2*j) _ rfl HO6.out (some ⟨q,0,none⟩) 2 2 (be (x+1).toNat 2) rfl HY.out (av _ _) Ha HJ6.out.sz ?_;intro v7 w7 h2 hg2 _;have HO7:=He h2;have HJ7:=He (HJ6.out.grown hg2 (fun i e=>by have:=(HO6.out.lt i e).1;omega) (fun e=>by have:=(HO6.out.lt p e).1;omega) (fun e=>by have:=(HO6.out.lt (p+1) e).1;omega));clear h2 hg2 HO6 HJ6 HY))
     go_roundw
     case rel=>exact ⟨j+1,Ha,by go_num,by rw [HT2.out,show 10+2*(j+1)=10+2*j+2 by omega];exact HO7,HJ7⟩
     case measure=>simp [intOf];omega
    ·obtain rfl:j=4:=Ha;have hb:=HPLC.out 4 Ha;have hx4:n.ps.getD 4 0=n.x:=rfl;rw [hx4] at hb;have c7:wr.cell? ⟨p,7,none⟩=some (.int .i64 n.x):=HJj.out.at_.cell 7;have wx1:IntKind.i64.wrap (n.x+1)=n.x+1:=IntWalk.i64_in _ Ha;have wx2:IntKind.u64.wrap (n.x+1)=n.x+1:=IntWalk.u64_in _ Ha;clear hx4;go_wp2_with fail
     refine (HA.out (n.x+1) 2 wr Ha Ha).mono ?_;rintro e w6 ⟨u,rfl,hf,hb6⟩;have HJ6:=He (HJj.out.below hb6);have HO6:Hid (w6.ownsRow (p+1+1) 5 1 _ 18 (Bs (dH n++mK [n.a,n.b,n.c,n.d]))):=hU HOj.out hb6;obtain ⟨q,rfl,hy⟩:=hf.byt;have HY:=He hy;rw [av];clear hf hb6 hy HOj HJj c7;go_upto_region 9 with (first
      | (at_builtin
         refine bU _ rfl (.tmp 40) (.tmp 45) rfl (p+1+1) _ 18 _ rfl HO6.out (some ⟨q,0,none⟩) 2 2 (be (n.x+1).toNat 2) rfl HY.out (av _ _) Ha HJ6.out.sz ?_;intro v7 w7 h2 hg2 _;have HO7':Hid (w7.ownsRow (p+1+1) 5 1 v7 20 (Bs (dH n++mK [n.a,n.b,n.c,n.d]++be (n.x+1).toNat 2))):=h2;have HJ7:=He (HJ6.out.grown hg2 (fun i e=>by have:=(HO6.out.lt i e).1;omega) (fun e=>by have:=(HO6.out.lt p e).1;omega) (fun e=>by have:=(HO6.out.lt (p+1) e).1;omega));clear h2 hg2 HO6 HJ6 HY))
     have e5:dH n++mK [n.a,n.b,n.c,n.d]++be (n.x+1).toNat 2=dH n++mK n.ps:=by
      rw [List.append_assoc,<- qw];rfl
     rw [e5] at HO7';have hsz:((strOfNums n.t).size:Int)=n.t.length:=by rw [strOfNums_size]
     have wt:IntKind.u8.wrap (n.t.length:Int)=n.t.length:=IntWalk.u8_in _ Ha;clear e5 hb wx1 wx2
     rename Value=>v6
     have hJ0:wn w p n k v6 false false w7.drew:=⟨HJ7.out.bel.drew,HJ7.out.sz,HJ7.out.at_,(fun _=>HO7'.out),(fun _=>HJ7.out.res),(fun e=>by cases e)⟩
     refine aw (GA p n k v6) (fun L W=>wn w p n k v6 (L 7) (L 12) W) (JN p n) Hc Hc (fun i j v' w' w'' hij hind h hg=>h.on hij (fun hh=>by obtain ⟨rfl,rfl⟩:=hh;exact absurd (hind.symm.trans (show jv _ 10 7=false by kernel_rfl)) Hd) hg) hJ0 ?_;have srefl:∀ (i:Nat) (W:World),JN p n i W W:=fun i W=>by
      unfold JN;split
      ·exact bR.grown (World.grownBy.refl _ _)
      ·split
       ·exact bR.grown (World.grownBy.refl _ _)
       ·split <;> exact World.grownBy.refl _ _
     clear hJ0 HJ7 HO7';simp only [bW];refine ⟨?_,?_,?_,?_,?_,?_,?_,?_,?_,?_,?_,?_,?_,?_⟩
     ·refine aa.of rfl fun T W L hag hL hJ hLs hd=>?_;have e0:=Hf hag 0;exact Hi
     ·refine aa.of rfl fun T W L hag hL hJ hLs hd=>?_;have e6:=Hf hag 6;exact Hi
     ·refine aa.of rfl fun T W L hag hL hJ hLs hd=>?_;have e3:=Hf hag 3;exact Hi
     ·refine aa.of rfl fun T W L hag hL hJ hLs hd=>?_;have d49:T.getD 49 undef=_:=Hg hd 2 rfl;have fct0:=(show W.cell? ⟨p,8,none⟩=some (.string (strOfNums n.t)) from hJ.at_.cell 8)
      exact Hi
     ·refine aa.of rfl fun T W L hag hL hJ hLs hd=>?_;have d50:T.getD 50 undef=_:=Hg hd 3 rfl;have fct0:=hsz;exact Hi
     ·refine aa.of rfl fun T W L hag hL hJ hLs hd=>?_;have d51:T.getD 51 undef=_:=Hg hd 4 rfl;have fct0:=wt;exact Hi
     ·refine aa.of rfl fun T W L hag hL hJ hLs hd=>?_;have d52:T.getD 52 undef=_:=Hg hd 5 rfl;simp only [Array.getD_eq_getD_getElem?] at d52;clear hag hd;go_simp;exact ⟨_,rfl,⟨_,_,rfl,hJ.sz,heap_alloc_new _ _,rfl⟩,hJ.alloc _,World.grownBy_alloc W _ _⟩
     ·refine aa.of rfl fun T W L hag hL hJ hLs hd=>?_;have d48:T.getD 48 undef=_:=Hg hd 1 rfl;have x53:aC W (p+1+1) (T.getD 53 undef) [(n.t.length:Int)]:=Hg hd 6 rfl;obtain ⟨q,(e53:T.getD 53 undef=_),hy⟩:=x53.byt;have hrow:=hJ.row hL;refine gg W (.tmp 48) (.tmp 53) rfl (p+1+1) _ 20 _ d48 hrow (some ⟨q,0,none⟩) 1 1 [(n.t.length:Int)] e53 hy rfl Ha hJ.sz ?_;intro v' w' h1 h2 h3;have hne:∀ j,v6.ownBlock=some j->p+1+1<=j:=fun j e=>(hrow.lt j e).1;exact ⟨_,rfl,h1,hJ.push h2 hne,h3⟩
     ·refine aa.of rfl fun T W L hag hL hJ hLs hd=>?_;have e3:=Hf hag 3;exact Hi
     ·refine aa.of rfl fun T W L hag hL hJ hLs hd=>?_;have d55:T.getD 55 undef=_:=Hg hd 8 rfl;have fct0:=(show W.cell? ⟨p,8,none⟩=some (.string (strOfNums n.t)) from hJ.at_.cell 8)
      exact Hi
     ·refine aa.of rfl fun T W L hag hL hJ hLs hd=>?_;have x54:W.ownsRow (p+1+1) 5 1 (T.getD 54 undef) 21 (Bs (jz n)):=Hg hd 7 rfl;have d56:T.getD 56 undef=_:=Hg hd 9 rfl;refine qA W (.tmp 54) (.tmp 56) rfl (p+1+1) _ 21 _ rfl x54 n.t d56 HT.out Ha hJ.sz ?_;intro v' w' h1 h2 h3;have hne:∀ j,(T.getD 54 undef).ownBlock=some j->p+1+1<=j:=fun j e=>(x54.lt j e).1;exact ⟨_,rfl,h1,hJ.push2 h2 hne (hLs ⟨7,.data⟩ Hb rfl),h3⟩
     ·refine aa.of rfl fun T W L hag hL hJ hLs hd=>?_;have d47:T.getD 47 undef=_:=Hg hd 0 rfl;have x57:W.ownsRow (p+1+1) 5 1 (T.getD 57 undef) (21+n.t.length) (Bs (bG n)):=Hg hd 10 rfl;have hbl:(bG n).length=21+n.t.length:=g8 n;obtain ⟨A2,d2,e57,hle2,hd2,hy2⟩:=bN x57 hbl;rw [hbl] at e57;have hBO:=qz k A2 (bG n) (21+n.t.length) d2 W hbl Ha hy2;clear hag hd;go_simp;refine hBO.mono ?_;rintro en w' ⟨rfl,hb⟩;exact ⟨_,rfl,rfl,hJ.below hb,dM hb⟩
     ·refine aa.of rfl fun T W L hag hL hJ hLs hd=>?_;have e4:=Hf hag 4;have d58:T.getD 58 undef=_:=Hg hd 11 rfl;clear hag hd;refine s7 (.tmp 4) (.tmp 58) rfl (p+1) e4 k 0 (dh (bG n)) ay d58 HPL.out al (hJ.res0 hL) ?_;exact ⟨undef,rfl,trivial,hJ.stored,cd _ _ _⟩
     ·refine bg.of rfl fun T W L hag hLs hL hJ hd=>?_;obtain ⟨f,hf,hT⟩:=aH hag;have HJ:=He hJ;clear hag hd hJ hf;rw [hT];clear hT;simp only [List.pop_toArray,List.dropLast_cons_cons,List.dropLast_singleton,List.filterMap_cons,List.filterMap_nil,List.foldl_cons,List.foldl_nil,List.setIfInBounds_toArray,List.set_cons_succ,List.set_cons_zero];go_wp2_with fail
      refine bodyPost_ret (aT rfl _ _ (p+1) k (dh (bG n)) rfl HPL.out (HJ.out.res1 (hLs 12 Hd))) rfl ?_;exact ⟨by rw [HPK.out,HPB.out,HD.out];rfl,by first | exact HJ.out.bel | (rw [hp];exact HJ.out.bel)⟩
 ·have HPK:Hid (dV k n=0):=by unfold Hid dV;rw [if_neg hm]
  have HPB:Hid (cT k n=ay):=by unfold Hid cT;rw [if_neg hm]
  have HD:=He (decide_eq_false hm);rw [HD.out];clear hm;go_wp2_with (first
   | (refine bJ rfl rfl ?_)
   | (refine ap rfl (.tmp 4) (.tmp 12) rfl (w.heap.size+1) rfl 0 0 ay ay rfl al al HJ1.out.res ?_))
  refine bodyPost_ret (aT rfl _ _ (w.heap.size+1) 0 ay rfl al (am HJ1.out.res)) rfl ?_;exact ⟨by rw [HPK.out,HPB.out,HD.out];rfl,below_setRow HJ1.out.bel Ha _⟩
end Go.Proofs.YtegjelaejbacnaaGreat
