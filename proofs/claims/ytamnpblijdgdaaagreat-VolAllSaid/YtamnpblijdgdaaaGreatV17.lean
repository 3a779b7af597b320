/- For VolAll: contracts and facts, part 17. -/
import Derived.Test.YtamnpblijdgdaaaGreatV16
namespace Go.Proofs.YtamnpblijdgdaaaGreat
open Go.ChangeShapes Go.WideShapes Go.ChangeAt Go.RowKit
set_option linter.unusedVariables false
set_option maxRecDepth 100000
def RdA (row:Int→Option (List Int)) (i:Int) (W0:World) (v:Value) (W:World):Prop :=
 (row i=none∧v=.tuple #[.slice none 0 0,.bool false]) ∨
 ∃ (p:Nat) (b:List Int),row i=some b∧BlkOk b∧v=.tuple #[.slice (some ⟨p,0,none⟩) 64 64,.bool true]∧W0.heap.size≤p∧W.heap[p]?=some (.cells (Bs b).toArray 125 (0,0))
def Rd (w:World) (d:Option Addr) (r:Int) (row:Int→Option (List Int)):Prop:=∀ W,Below w.heap.size w W→∀ i,i64 i →
 Calls Tryz.prog 74 #[.pointer d,.int .i64 r,.int .i64 i] W fun e w'=>(∃ v,e=.returned v∧RdA row i W v w')∧Below W.heap.size W w'
theorem Rd.keep {w w':World} {d:Option Addr} {r:Int} {row:Int→Option (List Int)} (h:Rd w d r row) (hb:Below w.heap.size w w'):Rd w' d r row:=fun W hW i hi=>h W (keepB hb hW) i hi
theorem Rd.none (w:World) (r:Int):Rd w none r (fun _=>none):=fun W _ i _=>(read_nil W r i).mono fun e w' ⟨he,hw⟩=>by
 subst hw
 exact ⟨⟨_,he,Or.inl ⟨rfl,rfl⟩⟩,Below.refl _ _⟩
def rowV (m:DM) (r i:Int):Option (List Int):=if hasB m r i=true then (m.now.getD r.toNat [])[i.toNat]? else none
theorem DS.rd {w0 W:World} {P:Nat→Prop} {q:Nat} {m:DM} (h:DS w0 W P q m) (r:Int) (hr:i64 r):Rd W (some ⟨q,0,.none⟩) r (rowV m r):=fun W' hb i hi =>
 ((h.below hb (fun k hk=>Or.inl hk)).read r i hr hi).mono fun e w' ⟨⟨v,he,ha⟩,hb'⟩=>⟨⟨v,he,by
   rcases ha with ⟨h1,h2⟩ | ⟨h1,p,b,h2,h3,h4,h5,h6⟩
   ·exact Or.inl ⟨by unfold rowV;rw [h1];simp,h2⟩
   ·exact Or.inr ⟨p,b,by unfold rowV;rw [if_pos h1];exact h2,h3,h4,h5,h6⟩⟩,hb'⟩
def VNfi (d:Option Addr) (gb n g y z:Nat) (r fr:Int) (b:Bool) (i:Nat) (v:Value) (w:World):Prop :=
 match i with
 | 0=>v=.pointer (some ⟨gb,0,none⟩)
 | 1=>v=.pointer d
 | 2=>v=.pointer (some ⟨gb,1,none⟩)
 | 3=>v=.int .i64 r
 | 4=>v=.pointer (some ⟨gb,3,none⟩)
 | 5=>v=shQ 0 0 n g fr
 | 6=>v=.int .i64 (z:Int)
 | 7=>v=.int .i64 (y:Int)
 | 11=>v=.bool b
 | 8=>∃ s,v=.tuple #[s,.bool b]
 | 9=>∃ s,v=.tuple #[s,.bool b]
 | _=>True
set_option maxHeartbeats 3200000 in
theorem gfits_any {W:World} {d:Option Addr} {r:Int} {row:Int→Option (List Int)} (h:Rd W d r row) (n g:Nat) (fr:Int) (hn:n≤200) (hg:g≤1000) :
 Calls Tryz.prog 34 #[gndA d r n g fr] W fun e w'=>e=.returned (.bool (row ((1+g+n:Nat):Int)).isSome)∧Below W.heap.size W w':=by
 have HS:=Lib.hid (fun W=>size_any 0 0 n g fr (by omega) hg W)
 have wz:IntKind.i64.wrap (((2+g+n:Nat):Int)-1)=((1+g+n:Nat):Int):=by rw [IntWalk.i64_in _ (by omega)];omega
 have HY:Hid (i64 ((1+g+n:Nat):Int)):=by constructor <;> omega
 have H0:=Lib.hid h
 unfold gndA
 clear h
 generalize 2+g+n=z at *
 generalize 1+g+n=y at *
 obtain ⟨b,hq⟩:∃ b,(row (y:Int)).isSome=b:=⟨_,rfl⟩
 rw [hq]
 have HQ:=Lib.hid hq
 clear hq
 go_enter Tryz.func34,Tryz.ntmps34
 go_upto_region 1 with fail
 have e0:=heap_alloc_new W (Obj.cells (gndC d r n g fr) 87)
 have hb:Below W.heap.size W (W.alloc (Obj.cells (gndC d r n g fr) 87)):=(Below.refl _ _).alloc (Nat.le_refl _) _
 generalize hgb:W.heap.size=gb at *
 generalize W.alloc (Obj.cells (gndC d r n g fr) 87)=W1 at *
 have HB:Hid (Below W.heap.size W W1):=by rw [hgb];exact hb
 have HR:Hid (∀ W',Below W1.heap.size W1 W'→∀ i,i64 i→_):=fun W' hW' i hi=>(H0.out.keep (by rw [hgb];exact hb)) W' hW' i hi
 have HG:Hid (∀ W',Below W1.heap.size W1 W'→W'.heap[gb]?=some (.cells (gndC d r n g fr) 87 (0,0))):=fun W' h=>kb h e0
 clear e0 hb H0
 refine wp_region_rgk (VNfi d gb n g y z r fr b) (fun _ W=>Below W1.heap.size W1 W) (fun _ w w'=>Below w.heap.size w w') (by kernel_rfl) (by kernel_rfl) (fun i j v w w' _ _ h hs=>by unfold VNfi at *;exact h) ((Below.refl _ _).drew) ?_
 simp only [RAll]
 refine ⟨?_,?_,?_,?_,?_,?_,?_,?_,?_,?_,?_,?_,?_,?_⟩
 ·refine RStepK.of rfl fun T W L hag hL hJ hLs hd=>?_
  have e1:T.getD 1 undef=_:=(agree_at hag 1 (by kernel_rfl)).trans rfl
  clear hag hd
  go_simp
  first | exact ⟨_,rfl,rfl⟩ | exact ⟨_,rfl,rfl,brefl _⟩ | exact ⟨_,rfl,rfl,hJ,brefl _⟩
 ·refine RStepK.of rfl fun T W L hag hL hJ hLs hd=>?_
  have d6:T.getD 6 undef=_:=hd ⟨0,.data⟩ (by simp) rfl _ rfl
  obtain ⟨z0,z1,z2,z3,z4,z5,z6,z7⟩:=gnd_cells (HG.out W hJ)
  clear hag hd
  go_simp
  first | exact ⟨_,rfl,rfl⟩ | exact ⟨_,rfl,rfl,brefl _⟩ | exact ⟨_,rfl,rfl,hJ,brefl _⟩
 ·refine RStepK.of rfl fun T W L hag hL hJ hLs hd=>?_
  have e1:T.getD 1 undef=_:=(agree_at hag 1 (by kernel_rfl)).trans rfl
  clear hag hd
  go_simp
  first | exact ⟨_,rfl,rfl⟩ | exact ⟨_,rfl,rfl,brefl _⟩ | exact ⟨_,rfl,rfl,hJ,brefl _⟩
 ·refine RStepK.of rfl fun T W L hag hL hJ hLs hd=>?_
  have d8:T.getD 8 undef=_:=hd ⟨2,.data⟩ (by simp) rfl _ rfl
  obtain ⟨z0,z1,z2,z3,z4,z5,z6,z7⟩:=gnd_cells (HG.out W hJ)
  clear hag hd
  go_simp
  first | exact ⟨_,rfl,rfl⟩ | exact ⟨_,rfl,rfl,brefl _⟩ | exact ⟨_,rfl,rfl,hJ,brefl _⟩
 ·refine RStepK.of rfl fun T W L hag hL hJ hLs hd=>?_
  have e1:T.getD 1 undef=_:=(agree_at hag 1 (by kernel_rfl)).trans rfl
  clear hag hd
  go_simp
  first | exact ⟨_,rfl,rfl⟩ | exact ⟨_,rfl,rfl,brefl _⟩ | exact ⟨_,rfl,rfl,hJ,brefl _⟩
 ·refine RStepK.of rfl fun T W L hag hL hJ hLs hd=>?_
  have d10:T.getD 10 undef=_:=hd ⟨4,.data⟩ (by simp) rfl _ rfl
  obtain ⟨z0,z1,z2,z3,z4,z5,z6,z7⟩:=gnd_cells (HG.out W hJ)
  clear hag hd
  go_simp
  first | exact ⟨_,rfl,rfl⟩ | exact ⟨_,rfl,rfl,brefl _⟩ | exact ⟨_,rfl,rfl,hJ,brefl _⟩
 ·refine RStepK.of rfl fun T W L hag hL hJ hLs hd=>?_
  have d11:T.getD 11 undef=_:=hd ⟨5,.data⟩ (by simp) rfl _ rfl
  clear hag hd
  go_simp
  refine (HS.out W).mono ?_
  rintro e w' ⟨rfl,hb⟩
  exact ⟨_,rfl,rfl,keepB hJ hb,hb⟩
 ·refine RStepK.of rfl fun T W L hag hL hJ hLs hd=>?_
  have d12:T.getD 12 undef=_:=hd ⟨6,.data⟩ (by simp) rfl _ rfl
  clear hag hd
  go_simp
  first | exact ⟨_,rfl,rfl⟩ | exact ⟨_,rfl,rfl,brefl _⟩ | exact ⟨_,rfl,rfl,hJ,brefl _⟩
 ·refine RStepK.of rfl fun T W L hag hL hJ hLs hd=>?_
  have d7:T.getD 7 undef=_:=hd ⟨1,.data⟩ (by simp) rfl _ rfl
  have d9:T.getD 9 undef=_:=hd ⟨3,.data⟩ (by simp) rfl _ rfl
  have d13:T.getD 13 undef=_:=hd ⟨7,.data⟩ (by simp) rfl _ rfl
  clear hag hd
  go_simp
  refine (HR.out W hJ y HY.out).mono ?_
  rintro e w' ⟨⟨v,rfl,ha⟩,hb⟩
  refine ⟨_,rfl,?_,keepB hJ hb,hb⟩
  rcases ha with ⟨h1,rfl⟩ | ⟨g',b',h1,_,rfl,_⟩
  ·exact ⟨_,by rw [← HQ.out,h1];rfl⟩
  ·exact ⟨_,by rw [← HQ.out,h1];rfl⟩
 ·refine RStepK.of rfl fun T W L hag hL hJ hLs hd=>?_
  have x14:=hd ⟨8,.data⟩ (by simp) rfl _ rfl
  clear hag hd
  obtain ⟨s,(hs:T.getD 14 undef=_)⟩:=x14
  go_simp
  first | exact ⟨_,rfl,⟨_,rfl⟩⟩ | exact ⟨_,rfl,⟨_,rfl⟩,brefl _⟩ | exact ⟨_,rfl,⟨_,rfl⟩,hJ,brefl _⟩
 ·refine RStepK.of rfl fun T W L hag hL hJ hLs hd=>?_
  have x5:=hd ⟨9,.data⟩ (by simp) rfl _ rfl
  clear hag hd
  obtain ⟨s,(hs:T.getD 5 undef=_)⟩:=x5
  go_simp
  first | exact ⟨_,rfl,trivial⟩ | exact ⟨_,rfl,trivial,brefl _⟩ | exact ⟨_,rfl,trivial,hJ,brefl _⟩
 ·refine RStepK.of rfl fun T W L hag hL hJ hLs hd=>?_
  have x5:=hd ⟨9,.data⟩ (by simp) rfl _ rfl
  clear hag hd
  obtain ⟨s,(hs:T.getD 5 undef=_)⟩:=x5
  go_simp
  first | exact ⟨_,rfl,rfl⟩ | exact ⟨_,rfl,rfl,brefl _⟩ | exact ⟨_,rfl,rfl,hJ,brefl _⟩
 ·refine RStepK.of rfl fun T W L hag hL hJ hLs hd=>?_
  have x15:=hd ⟨10,.data⟩ (by simp) rfl _ rfl
  clear hag hd
  go_simp
  first | exact ⟨_,rfl,trivial⟩ | exact ⟨_,rfl,trivial,brefl _⟩ | exact ⟨_,rfl,trivial,hJ,brefl _⟩
 ·refine RLastK.of rfl fun T W L hag hLs hL hJ hd=>?_
  have d16:T.getD 16 undef=_:=hd 11 _ (by simp) rfl
  obtain ⟨f,hf,hT⟩:=agree_fn hag
  have d6:T.getD 6 undef=_:=hd 0 _ (by simp) rfl
  have h6:=(hf 6).trans d6
  have d7:T.getD 7 undef=_:=hd 1 _ (by simp) rfl
  have h7:=(hf 7).trans d7
  have d8:T.getD 8 undef=_:=hd 2 _ (by simp) rfl
  have h8:=(hf 8).trans d8
  have d9:T.getD 9 undef=_:=hd 3 _ (by simp) rfl
  have h9:=(hf 9).trans d9
  have d10:T.getD 10 undef=_:=hd 4 _ (by simp) rfl
  have h10:=(hf 10).trans d10
  have d11:T.getD 11 undef=_:=hd 5 _ (by simp) rfl
  have h11:=(hf 11).trans d11
  have d12:T.getD 12 undef=_:=hd 6 _ (by simp) rfl
  have h12:=(hf 12).trans d12
  have d13:T.getD 13 undef=_:=hd 7 _ (by simp) rfl
  have h13:=(hf 13).trans d13
  have h16:=(hf 16).trans d16
  have HJ:=Lib.hid hJ
  clear hag hd d6 d7 d8 d9 d10 d11 d12 d13 d16 hJ hf
  rw [hT]
  clear hT
  simp only [List.pop_toArray,List.dropLast_cons_cons,List.dropLast_singleton,List.filterMap_cons,List.filterMap_nil,List.foldl_cons,List.foldl_nil,List.setIfInBounds_toArray,List.set_cons_succ,List.set_cons_zero,h6,h7,h8,h9,h10,h11,h12,h13,h16]
  go_wp2
  go_ret
  exact ⟨rfl,keepB HB.out HJ.out⟩
def anOk (xs:List Int) (i:Nat):Bool:=decide (TakenA 0 xs)&&decide (takeA 0 xs%2=i)
def epN (row:Int→Option (List Int)):Nat→Nat × Bool
 | 0=>(0,false)
 | k+1=>if anOk ((row (k:Int)).getD []) k then (max (epN row k).1 (takeA 0 ((row (k:Int)).getD [])),true) else epN row k
theorem takeA_lt (lb:Int) (xs:List Int) (h:AllB xs):takeA lb xs<4294967296:=by
 unfold takeA
 split
 ·unfold anE
  have h1:numV ((xs.drop 3).take 4)<256 ^ ((xs.drop 3).take 4).length:=numV_lt _ _ rfl (fun x hx=>h x (List.mem_of_mem_drop (List.mem_of_mem_take hx)))
  have h2:256 ^ ((xs.drop 3).take 4).length≤256 ^ 4:=Nat.pow_le_pow_right (by omega) (List.length_take_le _ _)
  omega
 ·omega
set_option maxHeartbeats 3200000 in
theorem gepoch_any {W:World} {d:Option Addr} {r:Int} {row:Int→Option (List Int)} (h:Rd W d r row) (hrow:∀ i b,row i=some b→BlkOk b) (n g:Nat) (fr:Int) :
 Calls Tryz.prog 44 #[gndA d r n g fr] W fun e w'=>e=.returned (.tuple #[.int .u32 (epN row 2).1,.bool (epN row 2).2])∧Below W.heap.size W w':=by
 have H0:=Lib.hid h
 have HRW:=Lib.hid hrow
 unfold gndA
 clear h hrow
 go_enter Tryz.func44,Tryz.ntmps44
 go_upto_region 1 with fail
 have e0:=heap_alloc_new W (Obj.cells (gndC d r n g fr) 87)
 have hb:Below W.heap.size W (W.alloc (Obj.cells (gndC d r n g fr) 87)):=(Below.refl _ _).alloc (Nat.le_refl _) _
 generalize hgb:W.heap.size=gb at *
 generalize W.alloc (Obj.cells (gndC d r n g fr) 87)=W1 at *
 have HB:Hid (Below W.heap.size W W1):=by rw [hgb];exact hb
 have HG:Hid (∀ W',Below W1.heap.size W1 W'→W'.heap[gb]?=some (.cells (gndC d r n g fr) 87 (0,0))):=fun W' h=>kb h e0
 clear e0 hb
 go_wp2
 go_loopw [4,5,12] (fun ep fd i wr=>∃ k:Nat,i=.int .u32 k∧k≤2∧ep=.int .u32 (epN row k).1∧fd=.bool (epN row k).2∧Hid ((epN row k).1<4294967296)∧Below W1.heap.size W1 wr) (fun _ _ i _=>2-(intOf i).toNat)
 case atStart=>exact ⟨0,rfl,by omega,rfl,rfl,(by show (0:Nat)<_;omega),Below.refl _ _⟩
 case round =>
  obtain ⟨k,rfl,hk,rfl,rfl,HEP,hbel⟩:=hrel
  obtain ⟨w5,rfl⟩:∃ w5,w5=wr:=⟨wr,rfl⟩
  have HB5:=Lib.hid (keepB HB.out hbel)
  obtain ⟨z0,z1,z2,z3,z4,z5,z6,z7⟩:=gnd_cells (HG.out w5 hbel)
  have HG5:=Lib.hid (HG.out w5 hbel)
  have HBE:=Lib.hid hbel
  have hap:=aranchor_any (k:Int) (by omega) w5
  by_cases hlt:k<2
  ·rw [show (k:Int)%2=k by omega] at hap
   have HAP:=Lib.hid hap
   have hrd:=(H0.out.keep HB5.out) w5 (Below.refl _ _) k (by constructor <;> omega)
   have HRD:=Lib.hid hrd
   have hki:(k:Int)<2:=by omega
   have wk:IntKind.u32.wrap ((k:Int)+1)=((k+1:Nat):Int):=by rw [IntWalk.u32_in _ (by omega)];omega
   clear hap hrd hbel
   generalize hE:(epN row k).1=ep at *
   generalize hF:(epN row k).2=fd at *
   have HEF:=Lib.hid (And.intro hE hF)
   clear hE hF
   go_wp2_with fail
   refine HAP.out.mono ?_
   rintro e w' ⟨rfl,rfl⟩
   go_wp2_with fail
   refine HRD.out.mono ?_
   rintro e w6 ⟨⟨v,rfl,ha⟩,hb6⟩
   have key:∃ A xs n c b,v=.tuple #[.slice A (n:Nat) (c:Nat),.bool b]∧(row (k:Int)).getD []=xs∧xs.length=n∧n≤c∧c≤64∧AllB xs∧Byt w6 A xs:=by
    rcases ha with ⟨h1,rfl⟩ | ⟨p,b,h1,h2,rfl,_,h3⟩
    ·exact ⟨none,[],0,0,false,rfl,by rw [h1];rfl,rfl,by omega,by omega,(fun x hx=>by cases hx),(fun i x hx=>by cases hx)⟩
    ·exact ⟨_,b,64,64,true,rfl,by rw [h1];rfl,h2.1,by omega,by omega,h2.2,byt_blk h3 (by simp)⟩
   obtain ⟨A,xs,n1,c1,b1,rfl,hxs,hn1,hc1,hc2,hB1,hy1⟩:=key
   have hta:=takea_any 0 A xs n1 c1 w6 (by omega) hn1 hc1 (by omega) hB1 hy1
   have HTA:=Lib.hid hta
   have HXS:=Lib.hid hxs
   have HE4:=Lib.hid (takeA_lt 0 xs hB1)
   have HG6:=kb hb6 HG5.out
   have HB6:=Lib.hid (keepB HBE.out hb6)
   have HG6':=Lib.hid HG6
   clear ha hxs hn1 hc1 hc2 hB1 hy1 hb6 hta z0 z1 z2 z3 z4 z5 z6 z7
   obtain ⟨z0,z1,z2,z3,z4,z5,z6,z7⟩:=gnd_cells HG6
   clear HG6
   generalize ht:takeA 0 xs=ta at *
   have HT:=Lib.hid ht
   clear ht
   go_wp2_with fail
   refine HTA.out.mono ?_
   rintro e w7 ⟨rfl,hb7⟩
   have HB7:=Lib.hid (keepB HB6.out hb7)
   clear hb7 z0 z1 z2 z3 z4 z5 z6 z7 HTA HAP HRD
   by_cases htk:TakenA 0 xs
   ·rw [decide_eq_true htk]
    have hap:=aranchor_any (ta:Int) (by omega) w7
    have HAP:=Lib.hid hap
    clear hap
    obtain ⟨t2,ht2⟩:∃ t2:Nat,(ta:Int)%2=t2∧Hid (t2=ta%2):=⟨ta%2,by omega,rfl⟩
    rw [ht2.1] at HAP
    have HT2:=ht2.2
    clear ht2
    go_wp2_with fail
    refine HAP.out.mono ?_
    rintro e w' ⟨rfl,rfl⟩
    by_cases hpl:t2=k
    ·have hd:((t2:Int)==k)=true:=by simp;omega
     have HNX:Hid (epN row (k+1)=(max ep ta,true)):=by
      show (if anOk ((row (k:Int)).getD []) k then (max (epN row k).1 (takeA 0 ((row (k:Int)).getD [])),true) else epN row k)=_
      rw [HXS.out,HT.out,HEF.out.1]
      unfold anOk
      rw [decide_eq_true htk,HT.out,← HT2.out,decide_eq_true hpl];rfl
     have HMX:Hid (max ep ta<4294967296):=by have:=HE4.out;have:=HEP.out;unfold Hid;omega
     clear hpl htk
     by_cases hmx:ep<ta
     ·have hd2:decide ((ep:Int)<ta)=true:=decide_eq_true (by omega)
      go_wp2
      go_roundw
      case rel=>exact ⟨k+1,by go_num,by omega,by rw [HNX.out];rw [Nat.max_eq_right (by omega)],by rw [HNX.out],(by rw [HNX.out];exact HMX.out),HB7.out⟩
      case measure=>simp [intOf];omega
     ·have hd2:decide ((ep:Int)<ta)=false:=decide_eq_false (by omega)
      go_wp2
      go_roundw
      case rel=>exact ⟨k+1,by go_num,by omega,by rw [HNX.out];rw [Nat.max_eq_left (by omega)],by rw [HNX.out],(by rw [HNX.out];exact HMX.out),HB7.out⟩
      case measure=>simp [intOf];omega
    ·have hd:((t2:Int)==k)=false:=by simp;omega
     have HNX:Hid (epN row (k+1)=epN row k):=by
      show (if anOk ((row (k:Int)).getD []) k then (max (epN row k).1 (takeA 0 ((row (k:Int)).getD [])),true) else epN row k)=_
      rw [HXS.out]
      unfold anOk
      rw [decide_eq_true htk,HT.out,← HT2.out,decide_eq_false hpl];rfl
     clear hpl htk
     go_wp2
     go_roundw
     case rel=>exact ⟨k+1,by go_num,by omega,by rw [HNX.out,HEF.out.1],by rw [HNX.out,HEF.out.2],(by rw [HNX.out,HEF.out.1];exact HEP.out),HB7.out⟩
     case measure=>simp [intOf];omega
   ·rw [decide_eq_false htk]
    have HNX:Hid (epN row (k+1)=epN row k):=by
     show (if anOk ((row (k:Int)).getD []) k then (max (epN row k).1 (takeA 0 ((row (k:Int)).getD [])),true) else epN row k)=_
     rw [HXS.out]
     unfold anOk
     rw [decide_eq_false htk];rfl
    clear htk
    go_wp2
    go_roundw
    case rel=>exact ⟨k+1,by go_num,by omega,by rw [HNX.out,HEF.out.1],by rw [HNX.out,HEF.out.2],(by rw [HNX.out,HEF.out.1];exact HEP.out),HB7.out⟩
    case measure=>simp [intOf];omega
  ·obtain rfl:k=2:=by omega
   go_wp2
   go_ret2
   exact ⟨rfl,HB5.out⟩
end Go.Proofs.YtamnpblijdgdaaaGreat
