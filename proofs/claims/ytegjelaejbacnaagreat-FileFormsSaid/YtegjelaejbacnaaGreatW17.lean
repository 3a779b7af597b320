/- For FileForms: contracts and facts, part 17. -/
import Derived.Deep.DeepCutAuto
import Derived.StillTailTactics
import Derived.Laws.ResultCell
import Derived.Laws.Tables
import Derived.Laws.Rows
import Derived.Laws.StructEq
import Derived.Deep.Onto
import Derived.Test.YtegjelaejbacnaaGreatW01
import Derived.Test.YtegjelaejbacnaaGreatW02
import Derived.Test.YtegjelaejbacnaaGreatW03
import Derived.Test.YtegjelaejbacnaaGreatW05
import Derived.Test.YtegjelaejbacnaaGreatW14
import Derived.Test.YtegjelaejbacnaaGreatW16
set_option maxRecDepth 100000
set_option maxHeartbeats 25600000
set_option linter.unusedVariables false
open Go.ChangeShapes Go.WideShapes Go.ChangeAt Go.RowKit Go.Deep
namespace Go.Proofs.YtegjelaejbacnaaGreat
theorem yz {l:List Int} (h:gJ l=false):Cp l=.tuple #[.agg (ab 0 ay),.bool false]:=by
 have e1:jZ l=0:=by unfold jZ;rw [if_neg (by rw [h];simp)]
 have e2:jI l=ay:=by unfold jI;rw [if_neg (by rw [h];simp)]
 unfold Cp;rw [e1,e2,h]
theorem FC {l:List Int} (h:gJ l=true):Cp l=.tuple #[.agg (ab 5 (dh (dm l))),.bool true]:=by
 have e1:jZ l=5:=by unfold jZ;rw [if_pos h]
 have e2:jI l=dh (dm l):=by unfold jI;rw [if_pos h]
 unfold Cp;rw [e1,e2,h]
theorem wK {x:Int} (h : -1<=x/\x<200):be (x+1).toNat 2=[0,x+1]:=by
 rw [Cz]
 congr 1
 ·omega
 ·congr 1;omega
structure DE (w:World) (p:Nat) (v:Value) (n:Nat) (ys:List Int) (W:World):Prop where
 bel:Below p w W
 sz:p+1<=W.heap.size
 res:W.heap[p]?=some (.cells (ab 0 ay) 37 (0,0))
 own:W.ownsRow (p+1) 5 1 v n (Bs ys)
theorem DE.below {w W W':World} {p n:Nat} {v:Value} {ys:List Int} (h:DE w p v n ys W) (hb:Below W.heap.size W W'):DE w p v n ys W' :=
 ⟨h.bel.trans (hb.mono (by have:=h.sz;omega)),Nat.le_trans h.sz hb.size,kb hb h.res,hU h.own hb⟩
theorem DE.push {w W W':World} {p n m:Nat} {v v':Value} {ys zs:List Int} (h:DE w p v n ys W) (ho:W'.ownsRow (p+1) 5 1 v' m (Bs zs)) (hg:W.grownBy W' v.ownBlock):DE w p v' m zs W' :=
 ⟨h.bel.grown hg (by have:=h.sz;omega) (fun j e=>by have:=(h.own.lt j e).1;omega),Nat.le_trans h.sz hg.size,by rw [hg.block p (ai h.res) (fun e=>by have:=(h.own.lt p e.symm).1;omega)];exact h.res,ho⟩
theorem oU (W:World) (q:Nat):Below W.heap.size W (W.drewN q):=EC (Below.refl _ _) q
theorem yA (A:Option Addr) (l:List Int) (n d:Nat) (w:World) (hn:l.length=n) (hy:jf w A l) :
 Calls Tryz.prog 79 #[.slice A n d] w fun e w'=>e=.returned (Cp l)/\Below w.heap.size w w':=by
 have HR0:=He (heap_alloc_new w (.cells (ab 0 ay) 37));have HB0:=He (aK (w:=w) (.cells (ab 0 ay) 37));by_cases h16:n=16
 ·subst h16;have HN:=He hn;have HY:=He hy;have hs0:w.heap.size+1<=(w.alloc (.cells (ab 0 ay) 37)).heap.size:=by rw [ak];exact Nat.le_refl _
  have HJ0:Hid (DE w w.heap.size (.slice none 0 0) 0 (dm (l.take 0)) (w.alloc (.cells (ab 0 ay) 37))):=⟨HB0.out,hs0,HR0.out,⟨rfl,.inl ⟨rfl,rfl⟩⟩⟩
  clear hn hy HR0 HB0 hs0;go_enter Tryz.func79,Tryz.ntmps79;go_upto_region 1 with (refine aq rfl rfl ?_)
  generalize w.alloc (.cells (ab 0 ay) 37)=W at *;go_wp2_with fail
  go_loopw [4,5] (fun v i wr=>∃ j:Nat,j<=16/\i=.int .i64 j/\Hid (yx l j=true)/\Hid (DE w w.heap.size v (j*2) (dm (l.take j)) wr)) (fun _ i _=>(16-intOf i).toNat)
  case atStart=>exact ⟨0,Ha,rfl,rfl,HJ0⟩
  case round =>
   obtain ⟨j,hj,rfl,HO,HJ⟩:=hrel;clear HJ0;by_cases hlt:j<16
   ·obtain ⟨x,hx⟩:∃ x,l[j]?=some x:=⟨_,List.getElem?_eq_getElem (by rw [HN.out];exact hlt)⟩
    obtain ⟨ad,rfl,hc⟩:=HY.out j x hx;have HW:Hid (∀ W',Below w.heap.size w W'->∀ i y,l[i]?=some y->W'.cell? (ad.add i)=some (.int .i64 y)):=fun W' hb i y hi=>by
     obtain ⟨a,e,h⟩:=HY.out i y hi;injection e with e;subst e
     exact cF hb h
    have hc0:=HW.out wr HJ.out.bel j x hx;clear hc;by_cases h1:x = -1
    ·have hrg : -1<=x/\x<200:=Ha;have hok:uV l j x=true:=by unfold uV;simp [h1]
     have hne:(x != -1)=false:=by simp [h1]
     go_wp2_with fail
     clear h1
     go_loopw [6] (fun i wk=>∃ k:Nat,k<=j/\i=.int .i64 k/\Hid (DE w w.heap.size u4 (j*2) (dm (l.take j)) wk)) (fun i _=>(j-intOf i).toNat)
     case atStart=>exact ⟨0,Ha,rfl,HJ⟩
     case round =>
      obtain ⟨k,hk,rfl,HJk⟩:=hrel;clear HJ;obtain ⟨wk,rfl⟩:∃ wk,wk=wr:=⟨wr,rfl⟩
      by_cases hkj:k<j
      ·have hcq:∀ q,(wk.drewN q).cell? (ad.add j)=some (.int .i64 x):=fun q=>HW.out wk HJk.out.bel j x hx;have HJd:=He (fun q=>HJk.out.below (oU wk q));go_upto_region 12 with fail
       go_quiet (fail)
       rename_i nq;have HJd2:=He (HJd.out nq);clear HJk HJd hcq;generalize wk.drewN nq=wk2 at *;go_wp2_with fail
       go_roundw
       case rel=>exact ⟨k+1,Ha,by go_num,HJd2.out⟩
       case measure=>simp [intOf];omega
      ·obtain rfl:j=k:=Ha;have HT2:Hid (dm (l.take (j+1))=dm (l.take j)++be (x+1).toNat 2):=by
        unfold Hid;rw [au hx,lB,wK hrg]
       have HO2:Hid (yx l (j+1)=true):=by unfold Hid;rw [oq hx,HO.out];exact hok
       have wx1:IntKind.i64.wrap (x+1)=x+1:=IntWalk.i64_in _ Ha;have wx2:IntKind.u64.wrap (x+1)=x+1:=IntWalk.u64_in _ Ha;have hc1:=HW.out wk HJk.out.bel j x hx;have HHI:Hid (∀ W:World,Calls Tryz.prog 128 #[.int .u64 (x+1),.int .i64 2] W fun e w'=>∃ u,e=.returned u/\aC w' W.heap.size u (be (x+1).toNat 2)/\Below W.heap.size W w'):=fun W=>no (x+1) 2 W Ha Ha;clear hx hc0 HW;go_wp2_with fail
       refine (HHI.out _).mono ?_;rintro e w4 ⟨uu,rfl,hfull,hb4⟩;obtain ⟨q,rfl,hby⟩:=hfull.byt;have HJ4:=He (HJk.out.below hb4);have HBY:=He hby
       clear hb4 hfull hby
       rw [av];go_wp2_with (first
        | (at_builtin
           go_loud (refine bU w4 rfl (.tmp 53) (.tmp 60) rfl (w.heap.size+1) u4 (j*2) _ rfl HJ4.out.own (some ⟨q,0,none⟩) 2 2 (be (x+1).toNat 2) rfl HBY.out (av _ _) Ha HJ4.out.sz ?_)
           intro v5 w5 h1 h2 _;have HJ5:=He (HJ4.out.push h1 h2);clear h1 h2 HJ4))
       go_roundw
       case rel=>exact ⟨j+1,Ha,by go_num,HO2.out,by unfold Hid;rw [HT2.out,Nat.add_mul,Nat.one_mul];exact HJ5.out⟩
       case measure=>simp [intOf];omega
    by_cases h2:1<=x/\x<200
    ·have hrg : -1<=x/\x<200:=Ha;have hne:(x != -1)=true:=by simp;exact h1
     have HMA:=He (fun W=>lx x W);rw [decide_eq_true h2] at HMA;go_wp2_with fail
     refine (HMA.out _).mono ?_;rintro e w1 ⟨rfl,rfl⟩;go_wp2_with fail
     clear h1 HMA
     go_loopw [6] (fun i wk=>∃ k:Nat,k<=j/\i=.int .i64 k/\Hid (∀ m y,m<k->l[m]?=some y->y≠x)/\Hid (DE w w.heap.size u4 (j*2) (dm (l.take j)) wk)) (fun i _=>(j-intOf i).toNat)
     case atStart=>exact ⟨0,Ha,rfl,(fun m y h _=>absurd h Ha),HJ⟩
     case round =>
      obtain ⟨k,hk,rfl,HNE,HJk⟩:=hrel;clear HJ;obtain ⟨wk,rfl⟩:∃ wk,wk=wr:=⟨wr,rfl⟩
      by_cases hkj:k<j
      ·obtain ⟨y,hyk⟩:∃ y,l[k]?=some y:=⟨_,List.getElem?_eq_getElem (by rw [HN.out];omega)⟩
       have hcq:∀ q,(wk.drewN q).cell? (ad.add j)=some (.int .i64 x):=fun q=>HW.out wk HJk.out.bel j x hx;have hck:∀ q,(wk.drewN q).cell? (ad.add k)=some (.int .i64 y):=fun q=>HW.out wk HJk.out.bel k y hyk;have HJd:=He (fun q=>HJk.out.below (oU wk q));by_cases hxy:y=x
       ·have hm:gJ l=false:=nv hlt hx (by
         have hmem:x∈l.take j:=List.mem_of_getElem? (i:=k) (by rw [List.getElem?_take,if_pos hkj,hyk,hxy]);unfold uV;simp [hmem];simpa using hne)
        have HV:=He (yz hm);have heq:(y==x)=true:=by simp [hxy]
        clear hm hxy hx hyk;go_upto_region 12 with fail
        go_quiet (fail)
        rename_i nq;have HJd2:=He (HJd.out nq);clear HJk HJd hcq hck;generalize wk.drewN nq=wk2 at *;go_wp2_with (first
         | (refine bJ rfl rfl ?_)
         | (refine ap rfl (.tmp 2) (.tmp 52) rfl w.heap.size rfl 0 0 ay ay rfl al al HJd2.out.res ?_))
        refine bodyPost_ret (aT rfl _ _ w.heap.size 0 ay rfl al (am HJd2.out.res)) rfl ?_;exact ⟨by rw [HV.out];rfl,below_setRow HJd2.out.bel (Nat.le_refl _) _⟩
       ·have heq:(y==x)=false:=by simp [hxy]
        have HNE2:Hid (∀ m y,m<k+1->l[m]?=some y->y≠x):=fun m z hm hz=>by
         by_cases e:m=k
         ·subst e;rw [hyk] at hz;injection hz with hz;rw [<- hz];exact hxy
         ·exact HNE.out m z Ha hz
        clear hxy hyk HNE;go_upto_region 12 with fail
        go_quiet (fail)
        rename_i nq;have HJd2:=He (HJd.out nq);clear HJk HJd hcq hck;generalize wk.drewN nq=wk2 at *;go_wp2_with fail
        go_roundw
        case rel=>exact ⟨k+1,Ha,by go_num,HNE2.out,HJd2.out⟩
        case measure=>simp [intOf];omega
      ·obtain rfl:j=k:=Ha;have hok:uV l j x=true:=by
        have hmem:x ∉ l.take j:=fun hm=>by
         obtain ⟨m,hm2⟩:=List.getElem?_of_mem hm;rw [List.getElem?_take] at hm2;split at hm2
         ·exact HNE.out m x Ha hm2 rfl
         ·cases hm2
        unfold uV;simp [h2.1,h2.2,hmem]
       clear HNE;have HT2:Hid (dm (l.take (j+1))=dm (l.take j)++be (x+1).toNat 2):=by
        unfold Hid;rw [au hx,lB,wK hrg]
       have HO2:Hid (yx l (j+1)=true):=by unfold Hid;rw [oq hx,HO.out];exact hok
       have wx1:IntKind.i64.wrap (x+1)=x+1:=IntWalk.i64_in _ Ha;have wx2:IntKind.u64.wrap (x+1)=x+1:=IntWalk.u64_in _ Ha;have hc1:=HW.out wk HJk.out.bel j x hx;have HHI:Hid (∀ W:World,Calls Tryz.prog 128 #[.int .u64 (x+1),.int .i64 2] W fun e w'=>∃ u,e=.returned u/\aC w' W.heap.size u (be (x+1).toNat 2)/\Below W.heap.size W w'):=fun W=>no (x+1) 2 W Ha Ha;clear hx hc0 HW;go_wp2_with fail
       refine (HHI.out _).mono ?_;rintro e w4 ⟨uu,rfl,hfull,hb4⟩;obtain ⟨q,rfl,hby⟩:=hfull.byt;have HJ4:=He (HJk.out.below hb4);have HBY:=He hby
       clear hb4 hfull hby
       rw [av];go_wp2_with (first
        | (at_builtin
           go_loud (refine bU w4 rfl (.tmp 53) (.tmp 60) rfl (w.heap.size+1) u4 (j*2) _ rfl HJ4.out.own (some ⟨q,0,none⟩) 2 2 (be (x+1).toNat 2) rfl HBY.out (av _ _) Ha HJ4.out.sz ?_)
           intro v5 w5 h1 h2 _;have HJ5:=He (HJ4.out.push h1 h2);clear h1 h2 HJ4))
       go_roundw
       case rel=>exact ⟨j+1,Ha,by go_num,HO2.out,by unfold Hid;rw [HT2.out,Nat.add_mul,Nat.one_mul];exact HJ5.out⟩
       case measure=>simp [intOf];omega
    ·have hm:gJ l=false:=nv hlt hx (by
      unfold uV;simp [h1];intro h3 h4;omega)
     have HV:=He (yz hm);have hne:(x != -1)=true:=by simp;exact h1
     have HMA:=He (fun W=>lx x W);rw [decide_eq_false h2] at HMA;clear hm hx;go_wp2_with fail
     refine (HMA.out _).mono ?_;rintro e w1 ⟨rfl,rfl⟩;go_wp2_with (first
      | (refine bJ rfl rfl ?_)
      | (refine ap rfl (.tmp 2) (.tmp 30) rfl w.heap.size rfl 0 0 ay ay rfl al al HJ.out.res ?_))
     refine bodyPost_ret (aT rfl _ _ w.heap.size 0 ay rfl al (am HJ.out.res)) rfl ?_;exact ⟨by rw [HV.out];rfl,below_setRow HJ.out.bel (Nat.le_refl _) _⟩
   ·obtain rfl:j=16:=Ha;have e:l.take 16=l:=List.take_of_length_le (by rw [HN.out];omega);rw [e] at HJ;have hm:gJ l=true:=by unfold gJ;rw [HO.out,decide_eq_true HN.out];rfl
    have HV:=He (FC hm);clear hm e;obtain ⟨B,cap,hv,_,_,hby⟩:=bN (bs:=dm l) HJ.out.own (by rw [dI,HN.out]);rw [dI,HN.out] at hv;have HL:=He (fH (ys:=dm l) (by rw [dI,HN.out];omega));have HBD:=He (fun W h=>qz 5 B (dm l) 32 cap W (by rw [dI,HN.out]) Ha h);have HBY:=He hby
    subst hv;clear hby
    go_wp2_with fail
    refine (HBD.out _ HBY.out).mono ?_;rintro e w4 ⟨rfl,hb4⟩;have HJ4:=He (HJ.out.below hb4);clear hb4 HJ HBY;go_wp2_with (refine ap rfl (.tmp 2) (.tmp 63) rfl w.heap.size rfl 5 0 (dh (dm l)) ay rfl HL.out al HJ4.out.res ?_)
    refine bodyPost_ret (aT rfl _ _ w.heap.size 5 (dh (dm l)) rfl HL.out (am HJ4.out.res)) rfl ?_;exact ⟨by rw [HV.out];rfl,below_setRow HJ4.out.bel (Nat.le_refl _) _⟩
 ·have hm:gJ l=false:=by unfold gJ;rw [decide_eq_false Ha];rfl
  have hn2:¬ ((n:Int)=16):=Ha;have HV:=He (yz hm);have HJ:Hid (DE w w.heap.size (.slice none 0 0) 0 [] (w.alloc (.cells (ab 0 ay) 37))):=⟨HB0.out,by rw [ak];exact Nat.le_refl _,HR0.out,⟨rfl,.inl ⟨rfl,rfl⟩⟩⟩
  clear hn hy HR0 HB0 hm;go_enter Tryz.func79,Tryz.ntmps79;go_upto_region 1 with (refine aq rfl rfl ?_)
  generalize w.alloc (.cells (ab 0 ay) 37)=W at *;go_wp2_with (first
   | (refine bJ rfl rfl ?_)
   | (refine ap rfl (.tmp 2) (.tmp 10) rfl w.heap.size rfl 0 0 ay ay rfl al al HJ.out.res ?_))
  refine bodyPost_ret (aT rfl _ _ w.heap.size 0 ay rfl al (am HJ.out.res)) rfl ?_;exact ⟨by rw [HV.out];rfl,below_setRow HJ.out.bel (Nat.le_refl _) _⟩
theorem uy (g m:Nat) (h:m<=54) (w:World):(Instr.sliceAt 35 (.pointer (some ⟨g,1,none⟩)) (some (.int .i64 m)) (some (.int .i64 ((m:Int)+2))) none).run Tryz.prog w=.ok (.slice (some ⟨g,1+m,none⟩) 2 (56-m)) w:=by
 have z3:=Tryz.sizeOf5;have e1:Tryz.prog.arrayLen 35=56:=Hc;have e2:Tryz.prog.elem 35=5:=Hc;have e3:Tryz.prog.underlying 35=some (.array (Tryz.prog.arrayLen 35) (Tryz.prog.elem 35)):=Hc;rw [run_sliceAt_array_lh w 35 _ e3 .i64 .i64 (m:Int) ((m:Int)+2) Ha Ha (by rw [e1];omega),e1,e2];have hm:¬ 56=m:=Ha;have h2:((m:Int)+2).toNat=m+2:=Ha;simp [z3,slicedAt,dp,hm,h2]
theorem DF (a b:Nat):aB [(a:Int),(b:Int)]=a*256+b:=by
 simp [aB]
structure FD (w:World) (p:Nat) (k:Int) (bs:List Int) (v:Value) (n:Nat) (ys:List Int) (W:World):Prop where
 bel:Below p w W
 sz:p+1<=W.heap.size
 blk:W.heap[p]?=some (.cells (ab k bs) 37 (0,0))
 own:W.ownsRow (p+1) 3 1 v n (Is ys)
theorem FD.below {w W W':World} {p n:Nat} {k:Int} {bs:List Int} {v:Value} {ys:List Int} (h:FD w p k bs v n ys W) (hb:Below W.heap.size W W'):FD w p k bs v n ys W' :=
 ⟨h.bel.trans (hb.mono (by have:=h.sz;omega)),Nat.le_trans h.sz hb.size,kb hb h.blk,hU h.own hb⟩
theorem FD.push {w W W':World} {p n m:Nat} {k:Int} {bs:List Int} {v v':Value} {ys zs:List Int} (h:FD w p k bs v n ys W) (ho:W'.ownsRow (p+1) 3 1 v' m (Is zs)) (hg:W.grownBy W' v.ownBlock):FD w p k bs v' m zs W' :=
 ⟨h.bel.grown hg (by have:=h.sz;omega) (fun j e=>by have:=(h.own.lt j e).1;omega),Nat.le_trans h.sz hg.size,by rw [hg.block p (ai h.blk) (fun e=>by have:=(h.own.lt p e.symm).1;omega)];exact h.blk,ho⟩
theorem wL (k:Int) (bs:List Int) (w:World) (h56:bs.length=56) (hB:ax bs) :
 Calls Tryz.prog 68 #[.agg (ab k bs)] w fun e w'=>∃ v,e=.returned (.tuple #[v,.bool (rD k bs)])/\w'.ownsRow w.heap.size 3 1 v (tkL k bs).length (Is (tkL k bs))/\Below w.heap.size w w':=by
 have H56:=He h56;have HBB:=He hB;have HJ0:Hid (FD w w.heap.size k bs (.slice none 0 0) 0 ((di bs).take 0) (w.alloc (.cells (ab k bs) 37))):=⟨aK _,by rw [ak];exact Nat.le_refl _,heap_alloc_new w _,⟨rfl,.inl ⟨rfl,rfl⟩⟩⟩
 clear h56 hB;go_enter Tryz.func68,Tryz.ntmps68;go_upto_region 1 with fail
 generalize w.alloc (.cells (ab k bs) 37)=W at *;go_wp2_with fail
 go_loopw [4,5] (fun v i wr=>∃ j:Nat,j<=16/\i=.int .i64 j/\Hid (FD w w.heap.size k bs v j ((di bs).take j) wr)) (fun _ i _=>(16-intOf i).toNat)
 case atStart=>exact ⟨0,Ha,rfl,HJ0⟩
 case round =>
  obtain ⟨j,hj,rfl,HJ⟩:=hrel;clear HJ0;by_cases hlt:j<16
  ·have hsl:∀ W,(Instr.sliceAt 35 (.pointer (some ⟨w.heap.size,1,none⟩)) (some (.int .i64 (2*(j:Int)))) (some (.int .i64 (2*(j:Int)+2))) none).run Tryz.prog W=.ok (.slice (some ⟨w.heap.size,1+j*2,none⟩) 2 (56-j*2)) W:=fun W=>by
    have h:=uy w.heap.size (j*2) Ha W
    rwa [Int.natCast_mul,Int.mul_comm] at h
   have bt:∀ i,i<56->∃ a:Nat,a<256/\bs.getD i 0=a/\wr.cell? ⟨w.heap.size,1+i,none⟩=some (.int .u8 a):=fun i hi=>by
    obtain ⟨x,hx⟩:∃ x,bs[i]?=some x:=⟨_,List.getElem?_eq_getElem (by rw [H56.out];exact hi)⟩
    have h1:=HBB.out x (List.mem_of_getElem? hx);refine ⟨x.toNat,Ha,by rw [List.getD,hx];show x=_;omega,?_⟩;rw [af HJ.out.blk,show ((x.toNat:Nat):Int)=x by omega];show (ab k bs)[1+i]?=_;unfold ab blkL;rw [List.getElem?_toArray,Nat.add_comm,List.getElem?_cons_succ];exact ku hx
   obtain ⟨a,ha,ea,ca⟩:=bt (j*2) Ha;obtain ⟨b,hb,eb,cb⟩:=bt (j*2+1) Ha;have HY:Hid (dD wr (some ⟨w.heap.size,1+j*2,none⟩) [(a:Int),(b:Int)]):=fun i x hi=>by
    refine ⟨_,rfl,?_⟩
    match i,hi with
    | 0,hi=>injection hi with hi;subst hi;rw [dp];exact ca
    | 1,hi=>injection hi with hi;subst hi;rw [dp];exact cb
   have HAB:Hid (ax [(a:Int),(b:Int)]):=fun x hx=>by
    simp only [List.mem_cons,List.not_mem_nil,or_false] at hx;rcases hx with rfl | rfl <;> omega
   have HNUM:Hid (Calls Tryz.prog 126 #[.slice (some ⟨w.heap.size,1+j*2,none⟩) 2 (56-j*2)] wr fun e w'=>e=.returned (.int .u64 ((a*256+b:Nat):Int))/\wr=w'):=by
    have h:=kv (some ⟨w.heap.size,1+j*2,none⟩) [(a:Int),(b:Int)] 2 (56-j*2) wr rfl Ha HAB.out HY.out
    rwa [DF] at h
   have hX:((a*256+b:Nat):Int)-1=By bs j:=by unfold By;rw [ea,eb];omega
   have HTK:Hid ((di bs).take (j+1)=(di bs).take j++[By bs j]):=au (Iv bs hlt);have w1:IntKind.i64.wrap ((a*256+b:Nat):Int)=((a*256+b:Nat):Int):=IntWalk.i64_in _ Ha;have w2:IntKind.i64.wrap (((a*256+b:Nat):Int)-1)=By bs j:=by rw [<- hX];exact IntWalk.i64_in _ Ha
   generalize a*256+b=m at *;generalize By bs j=x at *;clear hX bt ea eb ca cb ha hb HY HAB;go_wp2_with fail
   refine HNUM.out.mono ?_;rintro e w3 ⟨rfl,rfl⟩;clear HNUM;have HJ4:=He (HJ.out.below (aK (.cells (Is [x]).toArray 3)));have HY4:Hid (jf (wr.alloc (.cells (Is [x]).toArray 3)) (some ⟨wr.heap.size,0,none⟩) [x]):=ux (heap_alloc_new wr _);obtain ⟨wk,hwk⟩:∃ wk,wk=wr.alloc (.cells (Is [x]).toArray 3):=⟨_,rfl⟩
   rw [<- hwk] at HJ4 HY4;have HWK:Hid (wr.alloc (.cells #[.int .i64 x] 3)=wk):=hwk.symm;clear hwk;go_wp2_with (first
    | (at_builtin
       rw [HWK.out]
       go_loud (refine du wk rfl (.tmp 12) (.tmp 23) rfl (w.heap.size+1) u4 j _ rfl HJ4.out.own (some ⟨wr.heap.size,0,none⟩) 1 1 [x] rfl HY4.out rfl Ha HJ4.out.sz ?_)
       intro v5 w5 h1 h2 _;have HJ5:=He (HJ4.out.push h1 h2);clear h1 h2 HJ4))
   go_roundw
   case rel=>exact ⟨j+1,Ha,by go_num,by unfold Hid;rw [HTK.out];exact HJ5.out⟩
   case measure=>simp [intOf];omega
  ·obtain rfl:j=16:=Ha;have e:(di bs).take 16=di bs:=List.take_of_length_le (by rw [dK];omega);rw [e] at HJ;have H5:=He (dK bs);obtain ⟨A,cap,hv,_,_,hnt⟩:=j3 (bs:=di bs) HJ.out.own H5.out;rw [H5.out] at hv;have HPUT:=He (fun W h=>yA A (di bs) 16 cap W (dK bs) h);have HY:=He hnt;subst hv;clear hnt e;go_wp2_with fail
   refine (HPUT.out _ HY.out).mono ?_;rintro e w4 ⟨rfl,hb4⟩;have HJ4:=He (HJ.out.below hb4);have hp4:w.heap.size<w4.heap.size:=ai HJ4.out.blk;clear hb4 HJ HY HPUT;have HLB:=He (uw (di bs));have HAB:=He (qJ (di bs));have h6:=heap_alloc_new w4 (.cells (ab 0 ay) 37);have HC5:Hid (((w4.alloc (.cells (ab 0 ay) 37)).setRow w4.heap.size (ab (jZ (di bs)) (jI (di bs)))).heap[w4.heap.size]?=some (.cells (ab (jZ (di bs)) (jI (di bs))) 37 (0,0))):=am h6;have HJ5:Hid (FD w w.heap.size k bs (.slice A 16 cap) 16 (di bs) ((w4.alloc (.cells (ab 0 ay) 37)).setRow w4.heap.size (ab (jZ (di bs)) (jI (di bs))))):=HJ4.out.below (below_setRow (aK _) (Nat.le_refl _) _);unfold Cp;go_upto_region 7 with (first
    | (refine aq rfl rfl ?_)
    | (refine ap rfl (.tmp 6) (.tmp 28) rfl w4.heap.size rfl (jZ (di bs)) 0 (jI (di bs)) ay rfl HLB.out al h6 ?_))
   clear h6 HJ4;generalize (w4.alloc (.cells (ab 0 ay) 37)).setRow w4.heap.size (ab (jZ (di bs)) (jI (di bs)))=w5 at *;generalize w4.heap.size=c at *;have HB5:=He HJ5.out.bel;have HP5:=He HJ5.out.blk;cases hm:gJ (di bs)
   ·have HT:Hid (rD k bs=false):=by unfold Hid rD;rw [hm];rfl
    have HL:Hid (tkL k bs=[]):=by unfold Hid tkL;rw [if_neg (by rw [HT.out];simp)]
    clear hm;go_wp2_with fail
    go_ret2
    refine ⟨_,by rw [HT.out];rfl,?_,HB5.out⟩;rw [HL.out];exact ⟨rfl,.inl ⟨rfl,rfl⟩⟩
   ·have e1:jZ (di bs)=5:=by unfold jZ;rw [if_pos hm]
    have e2:jI (di bs)=dh (dm (di bs)):=by unfold jI;rw [if_pos hm]
    by_cases hc:5=k/\dh (dm (di bs))=bs
    ·have HT:Hid (rD k bs=true):=by unfold Hid rD;rw [hm,decide_eq_true ⟨hc.1.symm,hc.2⟩];rfl
     have HL:Hid (tkL k bs=di bs):=by unfold Hid tkL;rw [if_pos HT.out]
     have HD:Hid ((!(decide (jZ (di bs)=k/\jI (di bs)=bs)))=false):=by unfold Hid;rw [e1,e2,decide_eq_true hc];rfl
     have HO:=He (HJ5.out.own.mono (Nat.le_succ _));clear hm hc e1 e2;go_wp2_with (first
      | (refine aO Hl (.tmp 6) rfl c rfl (jZ (di bs)) (jI (di bs)) HLB.out HC5.out ?_)
      | (refine aO Hl (.tmp 1) rfl w.heap.size rfl k bs H56.out HP5.out ?_)
      | (refine cy Hl (.tmp 33) (.tmp 34) _ rfl (jZ (di bs)) k (jI (di bs)) bs rfl rfl HLB.out H56.out HAB.out HBB.out ?_;rw [HD.out]))
     go_ret2
     refine ⟨_,by rw [HT.out];rfl,?_,HB5.out⟩;rw [HL.out,H5.out];exact HO.out
    ·have HT:Hid (rD k bs=false):=by unfold Hid rD;rw [hm,decide_eq_false (fun h=>hc ⟨h.1.symm,h.2⟩)];rfl
     have HL:Hid (tkL k bs=[]):=by unfold Hid tkL;rw [if_neg (by rw [HT.out];simp)]
     have HD:Hid ((!(decide (jZ (di bs)=k/\jI (di bs)=bs)))=true):=by unfold Hid;rw [e1,e2,decide_eq_false hc];rfl
     clear hm hc e1 e2;go_wp2_with (first
      | (refine aO Hl (.tmp 6) rfl c rfl (jZ (di bs)) (jI (di bs)) HLB.out HC5.out ?_)
      | (refine aO Hl (.tmp 1) rfl w.heap.size rfl k bs H56.out HP5.out ?_)
      | (refine cy Hl (.tmp 33) (.tmp 34) _ rfl (jZ (di bs)) k (jI (di bs)) bs rfl rfl HLB.out H56.out HAB.out HBB.out ?_;rw [HD.out]))
     go_ret2
     refine ⟨_,by rw [HT.out];rfl,?_,HB5.out⟩;rw [HL.out];exact ⟨rfl,.inl ⟨rfl,rfl⟩⟩
theorem FE (k:Int) (bs:List Int):(tkL k bs).length<=16:=by
 unfold tkL;split
 ·rw [dK];omega
 ·simp
section
variable {H:Type} {enc:TypeId × Value->H} {w:World} {base:Nat} {spare:Nat->Bool} {held:Bool}
end
open Fx
def jo (l a g:Int):Value:=.agg #[.int .i64 l,.int .i64 a,.int .u32 g]
def i7 (l a:Int):Prop:=0<=l/\l<8/\1<=a/\a<200
def gj (l a g:Int):Prop:=(l = -1/\a=0/\g=0)\/(i7 l a/\1<=g)
instance (l a:Int):Decidable (i7 l a):=by unfold i7;infer_instance
instance (l a g:Int):Decidable (gj l a g):=by unfold gj;infer_instance
theorem jB:(Tryz.prog.info? 82).map (·.size)=some 3:=Hc
def jc (l a g:Int):Array Value:=#[.int .i64 l,.int .i64 a,.int .u32 g]
theorem Iy (l a g:Int):jo l a g=.agg (jc l a g):=rfl
theorem zT (l a g:Int):(jc l a g).all (·.oneCell')=true:=by unfold jc;simp [Value.oneCell']
def bc (w:World) (p:Nat) (l a g:Int):Prop:=w.heap[p]?=some (.cells (jc l a g) 82 (0,0))
theorem bc.below {w w':World} {p:Nat} {l a g:Int} (h:bc w p l a g) (hb:Below w.heap.size w w'):bc w' p l a g:=kb hb h
theorem bc.new (w:World) (l a g:Int):bc (w.alloc (Obj.cells #[.int .i64 l,.int .i64 a,.int .u32 g] 82)) w.heap.size l a g:=heap_alloc_new _ _
theorem bc.alloc {w:World} {p:Nat} {l a g:Int} (h:bc w p l a g) (o:Obj):bc (w.alloc o) p l a g:=kb (aK o) h
theorem bc.grown {w w':World} {p:Nat} {l a g:Int} (h:bc w p l a g) (hg:w.grownBy w' none):bc w' p l a g:=by
 unfold bc;rw [hg.block p (ai h) Hb];exact h
theorem bc.set {w:World} {p:Nat} {l a g:Int} (h:bc w p l a g) (l' a' g':Int):bc (w.setRow p (jc l' a' g')) p l' a' g':=am h
theorem bc.cell {w:World} {p:Nat} {l a g:Int} (h:bc w p l a g) (i:Nat):w.cell? ⟨p,i,none⟩=(jc l a g)[i]?:=af h i
section
variable {ops:Array Oper} {rest:List Oper} {o:Oper} {ac:Act} {w:World} {Q:Exit->Act->World->Prop}
theorem aI (hgd:o.guard=none) (x y:Operand) (ho:o.op=.store 82 x y) (p:Nat) (hx:ac.eval x=.pointer (some ⟨p,0,none⟩)) (l a g:Int) (hy:ac.eval y=.agg (jc l a g)) (l' a' g':Int) (hg:bc w p l' a' g')
 (h:wpList Tryz.prog ops Q rest (ac.put o.dst undef) (w.setRow p (jc l a g))):wpList Tryz.prog ops Q (o :: rest) ac w :=
 wpList_store_row hgd 82 x y ho p _ hx hy _ _ hg jB rfl (zT _ _ _) h
theorem gK (hgd:o.guard=none) (x:Operand) (ho:o.op=.load 82 x) (p:Nat) (hx:ac.eval x=.pointer (some ⟨p,0,none⟩)) (l a g:Int) (hg:bc w p l a g)
 (h:wpList Tryz.prog ops Q rest (ac.put o.dst (.agg (jc l a g))) w):wpList Tryz.prog ops Q (o :: rest) ac w :=
 wpList_load_row hgd 82 x ho p hx _ _ _ _ hg Tryz.underlying82 rfl jB h
theorem Bz {K:Act->World->Prop} (x y:Operand) (ho:o.op=.store 82 x y) (p:Nat) (hx:ac.eval x=.pointer (some ⟨p,0,none⟩)) (l a g:Int) (hy:ac.eval y=.agg (jc l a g)) (l' a' g':Int) (hg:bc w p l' a' g')
 (h:K (ac.put o.dst undef) (w.setRow p (jc l a g))):o.wp Tryz.prog ac w K Q :=
 wp_store_row 82 x y ho p _ hx hy _ _ hg jB rfl (zT _ _ _) h
theorem kM {K:Act->World->Prop} (x:Operand) (ho:o.op=.load 82 x) (p:Nat) (hx:ac.eval x=.pointer (some ⟨p,0,none⟩)) (l a g:Int) (hg:bc w p l a g)
 (h:K (ac.put o.dst (.agg (jc l a g))) w):o.wp Tryz.prog ac w K Q :=
 wp_load_row 82 x ho p hx _ _ _ _ hg Tryz.underlying82 rfl jB h
theorem hH (hw:Region.wanted o (yielded ops ac.tmps)=true) (x:Operand) (ho:o.op=.load 82 x) (p:Nat) (hx:ac.eval x=.pointer (some ⟨p,0,none⟩)) (l a g:Int) (hg:bc w p l a g)
 (h:wpList Tryz.prog ops Q rest (ac.put o.dst (.agg (jc l a g))) w):wpList Tryz.prog ops Q (o :: rest) ac w :=
 BigFrame.wpList_want hw fun _ hK=>wp_load_row 82 x ho p hx _ _ _ _ hg Tryz.underlying82 rfl jB (hK _ _ h)
end
theorem mE {fn:Func} {p:Tmp} (h:fn.results=#[.cell p 82]) (tmps:Array Value) (w:World) (q:Nat) (l a g:Int) (hp:tmps.getD p undef=.pointer (some ⟨q,0,none⟩)) (hg:bc w q l a g) :
 (results fn tmps).run Tryz.prog w=.ok (jo l a g) w :=
 results_cell_row h tmps w q _ _ _ _ hp hg Tryz.underlying82 rfl jB
theorem bF {fn:Func} {p u:Tmp} (h:fn.results=#[.cell p 82,.tmp u]) (tmps:Array Value) (w:World) (q:Nat) (l a g:Int) (hp:tmps.getD p undef=.pointer (some ⟨q,0,none⟩)) (hg:bc w q l a g) :
 (results fn tmps).run Tryz.prog w=.ok (.tuple #[jo l a g,tmps.getD u undef]) w:=by
 rw [results_cell_tmp h,hp];simp only [asAddr,Sem.run_pure,Result.andThen_ok];rw [run_loadVar_row w q _ _ _ _ _ hg Tryz.underlying82 rfl jB];rfl
theorem BA (w:World):Calls Tryz.prog 39 #[] w fun e w'=>e=.returned (jo (-1) 0 0)/\Below w.heap.size w w':=by
 have H0:=He (bc.new w 0 0 0);have HB:=He (aK (w:=w) (Obj.cells #[.int .i64 0,.int .i64 0,.int .u32 0] 82));go_enter Tryz.func39,Tryz.ntmps39;go_wp2_with (refine aI rfl (.tmp 0) (.tmp 1) rfl w.heap.size rfl (-1) 0 0 rfl 0 0 0 H0.out ?_)
 refine bodyPost_ret (mE rfl _ _ w.heap.size (-1) 0 0 rfl (H0.out.set _ _ _)) rfl ?_;exact ⟨rfl,below_setRow HB.out (Nat.le_refl _) _⟩
theorem lC (a:Addr) (i:Nat) (h:i≠0):a.add i=⟨a.block,a.off+i,none⟩:=by unfold Addr.add;rw [if_neg h]
theorem BB (a:Addr):a.add 0=a:=by unfold Addr.add;simp
theorem JQ (l a g l' a' g':Int) (w:World):(binOp .eql 82 (.agg #[.int .i64 l,.int .i64 a,.int .u32 g]) (.agg #[.int .i64 l',.int .i64 a',.int .u32 g'])).run Tryz.prog w=.ok (.bool (decide (l=l'/\a=a'/\g=g'))) w:=by
 have u3:=Tryz.underlying3;have a3:=Tryz.isAgg3;have z3:=Tryz.sizeOf3;have u22:=Tryz.underlying80;have a22:=Tryz.isAgg80;have z22:=Tryz.sizeOf80;have hS:Tryz.prog.underlying 82=some (.struct (Tryz.prog.fieldsOf 82)):=Hc;have hp:Tryz.prog.stoodInHeld 82=false:=Hc;rw [run_eql_struct,show (10000:Nat)=9998+1+1 from rfl,run_equalIn_agg w (9998+1) 82 _ _ hS hp];clear hS hp;simp only [Program.fieldsOf,Tryz.underlying82];go_simp;by_cases h1:l=l' <;> by_cases h2:a=a' <;> by_cases h3:g=g' <;> simp [h1,h2,h3]
def or (b:Int):Int:=if b<128 then b else b-256
def BC (l a:Int):List Int:=[l%256,a/256,a]
def uW (l a g:Int):List Int:=BC l a++be g.toNat 4
def gN (l a g:Int):List Int:=if gj l a g then uW l a g else []
theorem BD (q0 q1 q2 q3 q4 q5:Bool) (l a g:Int) (w:World) (h0:decide (l = -1/\a=0/\g=0)=q0) (h1:decide (0<=l)=q1) (h2:decide (l<8)=q2) (h3:decide (1<=a)=q3) (h4:decide (a<200)=q4) (h5:decide (1<=g)=q5) :
 Calls Tryz.prog 83 #[jo l a g] w fun e w'=>e=.returned (.bool (q0||((((q1&&q2)&&q3)&&q4)&&q5)))/\Below w.heap.size w w':=by
 have HR:=He BA;have hq:=JQ l a g (-1) 0 0;rw [h0] at hq;unfold jo at HR ⊢;go_enter Tryz.func83,Tryz.ntmps83;go_upto_region 1 with fail
 obtain ⟨W,hW⟩:∃ W,W=w.alloc (Obj.cells #[.int .i64 l,.int .i64 a,.int .u32 g] 82):=⟨_,rfl⟩
 rw [<- hW];have z0:W.cell? ⟨w.heap.size,0,none⟩=some (.int .i64 l):=by rw [hW];simp [go_sem]
 have z1:W.cell? ⟨w.heap.size,1,none⟩=some (.int .i64 a):=by rw [hW];simp [go_sem]
 have z2:W.cell? ⟨w.heap.size,2,none⟩=some (.int .u32 g):=by rw [hW];simp [go_sem]
 have hBW:Below w.heap.size w W:=by rw [hW];exact (Below.refl _ _).alloc (Nat.le_refl _) _
 clear hW;have hsz:w.heap.size<=W.heap.size:=hBW.size;have HB:=He hBW;clear hBW;generalize w.heap.size=r at z0 z1 z2 ⊢;have k0:∀ g:dU W,g.w.cell? _=_:=fun g=>g.keep z0;have k1:∀ g:dU W,g.w.cell? _=_:=fun g=>g.keep z1;have k2:∀ g:dU W,g.w.cell? _=_:=fun g=>g.keep z2;clear z0 z1 z2 h0;have hc:q0=true\/(q0=false/\q1=false)\/(q0=false/\q1=true/\q2=false)\/(q0=false/\q1=true/\q2=true/\q3=false)\/(q0=false/\q1=true/\q2=true/\q3=true/\q4=false)\/(q0=false/\q1=true/\q2=true/\q3=true/\q4=true):=by
  cases q0 <;> cases q1 <;> cases q2 <;> cases q3 <;> cases q4 <;> simp
 rcases hc with rfl | ⟨rfl,rfl⟩ | ⟨rfl,rfl,rfl⟩ | ⟨rfl,rfl,rfl,rfl⟩ | ⟨rfl,rfl,rfl,rfl,rfl⟩ | ⟨rfl,rfl,rfl,rfl,rfl⟩
 all_goals
  refine kq Hc Hc ?_
  repeat (go_big_quiet_step ((first | (go_at_call 39;exact oG (HR.out _)))))
  refine wpQuiet_nil ?_;intro _ hw';obtain ⟨nq,hw''⟩:=hw';subst hw'';have hBW2:=He (HB.out.trans (nq.below.mono hsz));clear k0 k1 k2;generalize dU.w nq=V at *;clear nq;go_wp2;go_ret;exact ⟨rfl,hBW2.out⟩
theorem ot (l a g:Int) (w:World):Calls Tryz.prog 83 #[jo l a g] w fun e w'=>e=.returned (.bool (decide (gj l a g)))/\Below w.heap.size w w':=by
 have h:=BD _ _ _ _ _ _ l a g w rfl rfl rfl rfl rfl rfl;have hd:decide (gj l a g)=(decide (l = -1/\a=0/\g=0)||((((decide (0<=l)&&decide (l<8))&&decide (1<=a))&&decide (a<200))&&decide (1<=g))):=by
  rw [Bool.eq_iff_iff];simp only [Bool.or_eq_true,Bool.and_eq_true,decide_eq_true_eq];unfold gj i7;constructor <;> (intro h;omega)
 rw [hd];exact h
structure KX (w:World) (p:Nat) (l a g:Int) (W:World):Prop where
 bel:Below p w W
 sz:p<=W.heap.size
 at_:bc W p l a g
def Jd (p:Nat) (l:Int) (an gn:Nat) (i:Nat) (v:Value) (W:World):Prop :=
 match i with
 | 0=>v=.pointer (some ⟨p,0,none⟩)
 | 1=>v=.int .i64 l
 | 2=>v=.int .u8 (l%256)
 | 4=>v=.pointer (some ⟨p,1,none⟩)
 | 5=>v=.int .i64 an
 | 6=>v=.int .u64 an
 | 9=>v=.pointer (some ⟨p,2,none⟩)
 | 10=>v=.int .u32 gn
 | 11=>v=.int .u64 gn
 | 3=>aC W p v [l%256]
 | 7=>aC W p v (be an 2)
 | 8=>W.ownsRow p 5 1 v 3 (Bs ([l%256]++be an 2))
 | 12=>aC W p v (be gn 4)
 | 13=>W.ownsRow p 5 1 v 7 (Bs (([l%256]++be an 2)++be gn 4))
 | _=>True
def JR (i:Nat) (w w':World):Prop:=if i=13 then bR 3 7 w w' else w.grownBy w' none
theorem Jd.on {p:Nat} {l:Int} {an gn i j:Nat} {v:Value} {w w':World} (hij:i≠j) (h:Jd p l an gn j v w) (hs:JR i w w'):Jd p l an gn j v w':=by
 unfold JR at hs;by_cases hi:i=13
 ·rw [if_pos hi] at hs;unfold Jd at *;split <;> try exact h
  ·exact aC.keep h hs (by show 1<7;omega)
  ·exact aC.keep h hs (by rw [av];decide)
  ·exact ic h hs Hd
  ·exact aC.keep h hs (by rw [av];decide)
  ·exact absurd hi hij
  ·trivial
 ·rw [if_neg hi] at hs;unfold Jd at *;split <;> try exact h
  ·exact aC.grown h hs
  ·exact aC.grown h hs
  ·exact World.ownsRow.kept h hs (by cases v.ownBlock <;> simp)
  ·exact aC.grown h hs
  ·exact World.ownsRow.kept h hs (by cases v.ownBlock <;> simp)
  ·trivial
theorem th (l a g:Int) (w:World) (hl:i64 l) (ha:i64 a) (hg:u32 g) :
 Calls Tryz.prog 170 #[jo l a g] w fun e w'=>∃ v,e=.returned v/\w'.ownsRow w.heap.size 5 1 v (gN l a g).length (Bs (gN l a g))/\Below w.heap.size w w':=by
 have HM:=He (ot l a g);have HB:=He (aK (w:=w) (Obj.cells #[.int .i64 l,.int .i64 a,.int .u32 g] 82));have H0:=He (bc.new w l a g);rw [Iy] at HM ⊢;by_cases hmay:gj l a g
 ·have hp:gN l a g=uW l a g:=by unfold gN;rw [if_pos hmay]
  have hp2:(uW l a g).length=7:=by unfold uW BC;simp [av]
  rw [hp,hp2];rw [decide_eq_true hmay] at HM;have hl2 : -1<=l/\l<8:=by unfold gj i7 at hmay;omega
  have ha2:0<=a/\a<200:=by unfold gj i7 at hmay;omega
  obtain ⟨gn,rfl⟩:∃ gn:Nat,g=(gn:Int):=⟨g.toNat,by have:=hg.1;omega⟩
  obtain ⟨an,rfl⟩:∃ an:Nat,a=(an:Int):=⟨a.toNat,Ha⟩
  have hgn:gn<4294967296:=by have:=hg.2;omega
  have HI:Hid (uW l an gn=([l%256]++be an 2)++be gn 4):=by
   unfold Hid uW BC;rw [Cz,show (an:Int)/256=((an/256%256:Nat):Int) by omega,show ((an:Int))=((an/1%256:Nat):Int) by omega];rfl
  rw [HI.out];have HA2:=He (fun W=>lc an 2 W Ha Ha);have HA4:=He (fun W=>lc gn 4 W Ha Ha);have e1:IntKind.u64.wrap (an:Int)=an:=IntWalk.u64_in _ Ha;have e2:IntKind.u64.wrap (gn:Int)=gn:=IntWalk.u64_in _ Ha;clear hmay hp hp2 hg ha hl HI;unfold jc at HM ⊢;go_enter Tryz.func170,Tryz.ntmps170;go_wp2_with fail
  refine (HM.out _).mono ?_;rintro e w1 ⟨rfl,hb1⟩;have H1:=He (H0.out.below hb1);have HB1:=He (aP HB.out hb1);have HS1:=He HB1.out.size;clear hb1 HB H0;go_upto_region 3 with fail
  generalize hp:w.heap.size=p at *;have hJ0:KX w p l an gn w1.drew:=⟨HB1.out.drew,HS1.out,H1.out⟩
  refine aw (Jd p l an gn) (fun _ W=>KX w p l an gn W) JR Hc Hc (fun i j v' w' w'' hij hind h hg=>h.on hij hg) hJ0 ?_;have srefl:∀ (i:Nat) (W:World),JR i W W:=fun i W=>by unfold JR;split;exact bR.grown (World.grownBy.refl _ _);exact World.grownBy.refl _ _
  have HP:=He hp;clear hJ0 hp HB1 HS1 H1;simp only [bW];refine ⟨?_,?_,?_,?_,?_,?_,?_,?_,?_,?_,?_,?_,?_,?_,?_⟩
  ·refine aa.of rfl fun T W L hag hL hJ hLs hd=>?_;have e1:=Hf hag 1;exact Hi
  ·refine aa.of rfl fun T W L hag hL hJ hLs hd=>?_;have d6:T.getD 6 undef=_:=Hg hd 0 rfl;have fct0:=(show W.cell? ⟨p,0,none⟩=some (.int .i64 l) from hJ.at_.cell 0)
   exact Hi
  ·refine aa.of rfl fun T W L hag hL hJ hLs hd=>?_;have d7:T.getD 7 undef=_:=Hg hd 1 rfl;exact Hi
  ·refine aa.of rfl fun T W L hag hL hJ hLs hd=>?_;have d8:T.getD 8 undef=_:=Hg hd 2 rfl;simp only [Array.getD_eq_getD_getElem?] at d8;clear hag hd;go_simp;exact ⟨_,rfl,⟨_,_,rfl,hJ.sz,heap_alloc_new _ _,rfl⟩,⟨hJ.bel.alloc hJ.sz _,by rw [ak];exact Nat.le_succ_of_le hJ.sz,hJ.at_.alloc _⟩,World.grownBy_alloc W _ _⟩
  ·refine aa.of rfl fun T W L hag hL hJ hLs hd=>?_;have e1:=Hf hag 1;exact Hi
  ·refine aa.of rfl fun T W L hag hL hJ hLs hd=>?_;have d10:T.getD 10 undef=_:=Hg hd 4 rfl;have fct0:=(show W.cell? ⟨p,1,none⟩=some (.int .i64 an) from hJ.at_.cell 1)
   exact Hi
  ·refine aa.of rfl fun T W L hag hL hJ hLs hd=>?_;have d11:T.getD 11 undef=_:=Hg hd 5 rfl;exact Hi
  ·refine aa.of rfl fun T W L hag hL hJ hLs hd=>?_;have d12:T.getD 12 undef=_:=Hg hd 6 rfl;clear hag hd;go_simp;refine (HA2.out W).mono ?_;rintro en w' ⟨u,rfl,hf,hb⟩;exact ⟨_,rfl,hf.mono hJ.sz,⟨hJ.bel.trans (hb.mono hJ.sz),Nat.le_trans hJ.sz hb.size,hJ.at_.below hb⟩,dM hb⟩
  ·refine aa.of rfl fun T W L hag hL hJ hLs hd=>?_;have x9:aC W p (T.getD 9 undef) [l%256]:=Hg hd 3 rfl;have x13:aC W p (T.getD 13 undef) (be an 2):=Hg hd 7 rfl;obtain ⟨q,(e13:T.getD 13 undef=_),hy⟩:=x13.byt;refine mM W (.tmp 9) (.tmp 13) rfl p _ [l%256] rfl x9 (some ⟨q,0,none⟩) 2 2 (be an 2) e13 hy rfl Ha Hb hJ.sz ?_;intro v' w' h1 h2;exact ⟨_,rfl,h1,⟨hJ.bel.grown h2 hJ.sz Hb,Nat.le_trans hJ.sz h2.size,hJ.at_.grown h2⟩,h2⟩
  ·refine aa.of rfl fun T W L hag hL hJ hLs hd=>?_;have e1:=Hf hag 1;exact Hi
  ·refine aa.of rfl fun T W L hag hL hJ hLs hd=>?_;have d15:T.getD 15 undef=_:=Hg hd 9 rfl;have fct0:=(show W.cell? ⟨p,2,none⟩=some (.int .u32 gn) from hJ.at_.cell 2)
   exact Hi
  ·refine aa.of rfl fun T W L hag hL hJ hLs hd=>?_;have d16:T.getD 16 undef=_:=Hg hd 10 rfl;exact Hi
  ·refine aa.of rfl fun T W L hag hL hJ hLs hd=>?_;have d17:T.getD 17 undef=_:=Hg hd 11 rfl;clear hag hd;go_simp;refine (HA4.out W).mono ?_;rintro en w' ⟨u,rfl,hf,hb⟩;exact ⟨_,rfl,hf.mono hJ.sz,⟨hJ.bel.trans (hb.mono hJ.sz),Nat.le_trans hJ.sz hb.size,hJ.at_.below hb⟩,dM hb⟩
  ·refine aa.of rfl fun T W L hag hL hJ hLs hd=>?_;have x14:W.ownsRow p 5 1 (T.getD 14 undef) 3 (Bs ([l%256]++be an 2)):=Hg hd 8 rfl;have x18:aC W p (T.getD 18 undef) (be gn 4):=Hg hd 12 rfl;obtain ⟨q,(e18:T.getD 18 undef=_),hy⟩:=x18.byt;refine gg W (.tmp 14) (.tmp 18) rfl p _ 3 _ rfl x14 (some ⟨q,0,none⟩) 4 4 (be gn 4) e18 hy rfl Ha hJ.sz ?_;intro v' w' h1 h2 h3;exact ⟨_,rfl,h1,⟨hJ.bel.grown h2 hJ.sz (fun k hk=>(x14.lt k hk).1),Nat.le_trans hJ.sz h2.size,h3.small _ _ _ _ hJ.at_ (by show 3<3+4;omega)⟩,h3⟩
  ·refine bg.of rfl fun T W L hag hLs hL hJ hd=>?_;have x19:W.ownsRow p 5 1 (T.getD 19 undef) 7 (Bs (([l%256]++be an 2)++be gn 4)):=hd 13 _ Hb rfl;obtain ⟨f,hf,hT⟩:=aH hag;have h19:=hf 19;rw [<- h19] at x19;have HX19:=He x19;clear h19 x19;have HJ:=He hJ;clear hag hd hJ hf;rw [hT];clear hT;simp only [List.pop_toArray,List.dropLast_cons_cons,List.dropLast_singleton,List.filterMap_cons,List.filterMap_nil,List.foldl_cons,List.foldl_nil,List.setIfInBounds_toArray,List.set_cons_succ,List.set_cons_zero];go_wp2_with fail
   go_ret;exact ⟨_,rfl,by rw [HP.out];exact HX19.out,by rw [HP.out];exact HJ.out.bel⟩
 ·have hp:gN l a g=[]:=by unfold gN;rw [if_neg hmay]
  rw [hp];rw [decide_eq_false hmay] at HM;clear hp hmay;unfold jc at HM ⊢;go_enter Tryz.func170,Tryz.ntmps170;go_wp2_with fail
  refine (HM.out _).mono ?_;rintro e w1 ⟨rfl,hb1⟩;have HB1:=He (aP HB.out hb1);clear hb1 HB H0;go_wp2_with fail
  go_ret;exact ⟨_,rfl,⟨rfl,Or.inl ⟨rfl,rfl⟩⟩,HB1.out⟩
open Fx
def nB (xs:List Int) (i:Nat):Nat:=(xs.getD i 0).toNat
def DG (xs:List Int):Int:=or (nB xs 0)
def DH (xs:List Int):Nat:=nB xs 1*256+nB xs 2
def DI (xs:List Int):Nat:=nB xs 3*16777216+nB xs 4*65536+nB xs 5*256+nB xs 6
def gL (xs:List Int):Prop:=xs.length=7/\gj (DG xs) (DH xs) (DI xs)
instance (xs:List Int):Decidable (gL xs):=by unfold gL;infer_instance
def i8 (xs:List Int):Value:=if gL xs then jo (DG xs) (DH xs) (DI xs) else jo 0 0 0
theorem Iz:Tryz.prog.built 82 []=some #[.int .i64 0,.int .i64 0,.int .u32 0]:=Hc
theorem JS {xs:List Int} (h:xs.length=7) (hB:ax xs):∃ b0 b1 b2 b3 b4 b5 b6:Nat,xs=[(b0:Int),(b1:Int),(b2:Int),(b3:Int),(b4:Int),(b5:Int),(b6:Int)]/\b0<256/\b1<256/\b2<256/\b3<256/\b4<256/\b5<256/\b6<256:=by
 match xs,h with
 | [x0,x1,x2,x3,x4,x5,x6],_ =>
   have h0:=hB x0 Hb;have h1:=hB x1 Hb;have h2:=hB x2 Hb;have h3:=hB x3 Hb;have h4:=hB x4 Hb;have h5:=hB x5 Hb;have h6:=hB x6 Hb;refine ⟨x0.toNat,x1.toNat,x2.toNat,x3.toNat,x4.toNat,x5.toNat,x6.toNat,?_,Ha,Ha,Ha,Ha,Ha,Ha,Ha⟩;rw [Int.toNat_of_nonneg h0.1,Int.toNat_of_nonneg h1.1,Int.toNat_of_nonneg h2.1,Int.toNat_of_nonneg h3.1,Int.toNat_of_nonneg h4.1,Int.toNat_of_nonneg h5.1,Int.toNat_of_nonneg h6.1]
end Go.Proofs.YtegjelaejbacnaaGreat
