/- For FileForms: contracts and facts, part 18. -/
import Derived.Deep.DeepCutAuto
import Derived.Test.YtegjelaejbacnaaGreatW09
import Derived.Test.YtegjelaejbacnaaGreatW15
import Derived.Test.YtegjelaejbacnaaGreatW17
set_option maxRecDepth 100000
set_option maxHeartbeats 25600000
set_option linter.unusedVariables false
open Go.ChangeShapes Go.WideShapes Go.ChangeAt Go.RowKit
namespace Go.Proofs.YtegjelaejbacnaaGreat
theorem tj {l a g:Int} (hm:gj l a g->True):ax (gN l a g):=by
 unfold gN;split
 ·rename_i h;unfold uW BC;refine ax.append ?_ (cm _ _);unfold gj i7 at h;intro x hx;simp only [List.mem_cons,List.not_mem_nil,or_false] at hx;rcases hx with rfl | rfl | rfl <;> omega
 ·intro x hx;cases hx
def qL (b0:Nat):Int:=if b0=255 then -1 else b0
theorem IA (b3 b4 b5 b6:Nat) (h3:b3<256) (h4:b4<256) (h5:b5<256) (h6:b6<256):be (b3*16777216+b4*65536+b5*256+b6) 4=[(b3:Int),(b4:Int),(b5:Int),(b6:Int)]:=by
 rw [xF,show (b3*16777216+b4*65536+b5*256+b6)/16777216%256=b3 by omega,show (b3*16777216+b4*65536+b5*256+b6)/65536%256=b4 by omega,show (b3*16777216+b4*65536+b5*256+b6)/256%256=b5 by omega,show (b3*16777216+b4*65536+b5*256+b6)/1%256=b6 by omega]
theorem DJ (b0 b1 b2 b3 b4 b5 b6:Nat) (h0:b0<256) (h1:b1<256) (h2:b2<256) (h3:b3<256) (h4:b4<256) (h5:b5<256) (h6:b6<256) (gn:Nat) (hg:gn=b3*16777216+b4*65536+b5*256+b6) (pn:Nat) (hp:pn=b1*256+b2) :
 (gN (qL b0) pn gn=[(b0:Int),(b1:Int),(b2:Int),(b3:Int),(b4:Int),(b5:Int),(b6:Int)]↔gj (or b0) pn gn)/\(gj (or b0) pn gn->qL b0=or b0):=by
 have key:gj (or b0) pn gn->qL b0=or b0:=by
  intro h;unfold gj i7 at h;unfold or qL at *;split at h <;> split <;> omega
 have key2:gj (qL b0) pn gn->qL b0=or b0:=by
  intro h;unfold gj i7 at h;unfold or qL at *;split at h <;> split <;> omega
 refine ⟨⟨fun h=>?_,fun h=>?_⟩,key⟩
 ·unfold gN at h;by_cases hm:gj (qL b0) pn gn
  ·rw [<- key2 hm];exact hm
  ·rw [if_neg hm] at h;cases h
 ·have hl:=key h;have hlb:or b0%256=b0:=by unfold gj i7 at h;unfold or at *;split at h <;> split <;> omega
  rw [hl];unfold gN uW BC;rw [if_pos h,Int.toNat_natCast,hg,IA b3 b4 b5 b6 h3 h4 h5 h6,hlb];unfold gj i7 at h;have e1:((pn:Int))/256=(b1:Int):=Ha;have e2:(pn:Int)=(b2:Int):=Ha;rw [e1,e2];rfl
structure KY (w:World) (p:Nat) (W:World):Prop where
 bel:Below p w W
 sz:p<W.heap.size
 at_:bc W p 0 0 0
def JT (p:Nat) (ad:Addr) (c b0 pn gn:Nat) (i:Nat) (v:Value) (W:World):Prop :=
 match i with
 | 0 | 4 | 8=>v=.slice (some ad) 7 c
 | 1=>v=.pointer (some ad)
 | 2=>v=.int .u8 b0
 | 3=>v=.int .i64 b0
 | 5=>v=.slice (some ⟨ad.block,ad.off+1,none⟩) 2 (c-1)
 | 6=>v=.int .u64 pn
 | 7=>v=.int .i64 pn
 | 9=>v=.slice (some ⟨ad.block,ad.off+3,none⟩) 4 (c-3)
 | 10=>v=.int .u64 gn
 | 11=>v=.int .u32 gn
 | 12=>v=.agg (jc b0 pn gn)
 | 13=>∃ q,v=.pointer (some ⟨q,0,none⟩)/\p<q/\bc W q 0 0 0
 | _=>True
theorem JT.on {p:Nat} {ad:Addr} {c b0 pn gn j:Nat} {v:Value} {w w':World} (h:JT p ad c b0 pn gn j v w) (hs:w.grownBy w' none):JT p ad c b0 pn gn j v w':=by
 unfold JT at *;split <;> try exact h
 ·obtain ⟨q,h1,h2,h3⟩:=h;exact ⟨q,h1,h2,h3.grown hs⟩
 ·trivial
structure Kl (w:World) (p q:Nat) (l:Int) (pn gn:Nat) (W:World):Prop where
 bel:Below p w W
 sz:p<W.heap.size
 at_:bc W p 0 0 0
 q:bc W q l pn gn
def Je (p:Nat) (ad:Addr) (c:Nat) (lr:Int) (pn gn:Nat) (M X:List Int) (i:Nat) (v:Value) (W:World):Prop :=
 match i with
 | 0=>v=.agg (jc lr pn gn)
 | 2=>v=.string (strOfNums M)
 | 3=>v=.slice (some ad) 7 c
 | 4=>v=.string (strOfNums X)
 | 1=>W.ownsRow p 5 1 v M.length (Bs M)
 | _=>True
theorem Je.on {p:Nat} {ad:Addr} {c:Nat} {lr:Int} {pn gn:Nat} {M X:List Int} {j:Nat} {v:Value} {w w':World} (h:Je p ad c lr pn gn M X j v w) (hs:w.grownBy w' none):Je p ad c lr pn gn M X j v w':=by
 unfold Je at *;split <;> try exact h
 ·exact World.ownsRow.kept h hs (by cases v.ownBlock <;> simp)
 ·trivial
theorem yB (A:Option Addr) (xs:List Int) (c:Nat) (w:World) (hc:xs.length<=c) (hc2:c<=9223372036854775807) (hB:ax xs) (hy:dD w A xs) :
 Calls Tryz.prog 199 #[.slice A xs.length c] w fun e w'=>e=.returned (.tuple #[i8 xs,.bool (decide (gL xs))])/\Below w.heap.size w w':=by
 have H0:=He (bc.new w 0 0 0);have HB:=He (aK (w:=w) (Obj.cells #[.int .i64 0,.int .i64 0,.int .u32 0] 82));have b0':=Iz;by_cases h7:xs.length=7
 ·obtain ⟨b0,b1,b2,b3,b4,b5,b6,rfl,l0,l1,l2,l3,l4,l5,l6⟩:=JS h7 hB;obtain ⟨ad,rfl,c0⟩:=hy 0 _ rfl;have HY:=He hy;have HBX:=He hB;have cc:∀ i x,([(b0:Int),(b1:Int),(b2:Int),(b3:Int),(b4:Int),(b5:Int),(b6:Int)])[i]?=some x->w.cell? (ad.add i)=some (.int .u8 x):=fun i x hi=>by
   obtain ⟨a',e,h⟩:=hy i x hi;injection e with e;subst e;exact h
  rw [BB] at c0;have HC0:Hid (∀ W,Below w.heap.size w W->W.cell? ad=some (.int .u8 b0)):=fun W hW=>cF hW c0;have HTN:Hid (∀ W,Below w.heap.size w W->Calls Tryz.prog 126 #[.slice (some ⟨ad.block,ad.off+1,none⟩) 2 (c-1)] W fun e w'=>e=.returned (.int .u64 ((b1*256+b2:Nat):Int))/\W=w'):=fun W hW=>by
   have h:=kv (some ⟨ad.block,ad.off+1,none⟩) [(b1:Int),(b2:Int)] 2 (c-1) W rfl Ha (fun x hx=>by simp only [List.mem_cons,List.not_mem_nil,or_false] at hx;omega) (fun i x hi=>⟨_,rfl,by
    have h2:=cF hW (cc (i+1) x (by
     match i,hi with
     | 0,hi=>exact hi
     | 1,hi=>exact hi))
    rw [lC _ _ Ha] at h2;rw [<- lC ad 1 Ha,iS,Nat.add_comm 1 i,lC _ _ Ha];exact h2⟩)
   rwa [show aB [(b1:Int),(b2:Int)]=b1*256+b2 by simp [aB]] at h
  have HTG:Hid (∀ W,Below w.heap.size w W->Calls Tryz.prog 126 #[.slice (some ⟨ad.block,ad.off+3,none⟩) 4 (c-3)] W fun e w'=>e=.returned (.int .u64 ((b3*16777216+b4*65536+b5*256+b6:Nat):Int))/\W=w'):=fun W hW=>by
   have h:=kv (some ⟨ad.block,ad.off+3,none⟩) [(b3:Int),(b4:Int),(b5:Int),(b6:Int)] 4 (c-3) W rfl Ha (fun x hx=>by simp only [List.mem_cons,List.not_mem_nil,or_false] at hx;omega) (fun i x hi=>⟨_,rfl,by
    have h2:=cF hW (cc (i+3) x (by
     match i,hi with
     | 0,hi=>exact hi
     | 1,hi=>exact hi
     | 2,hi=>exact hi
     | 3,hi=>exact hi))
    rw [lC _ _ Ha] at h2;rw [<- lC ad 3 Ha,iS,Nat.add_comm 3 i,lC _ _ Ha];exact h2⟩)
   rwa [show aB [(b3:Int),(b4:Int),(b5:Int),(b6:Int)]=b3*16777216+b4*65536+b5*256+b6 by simp [aB];omega] at h
  have hT:gL [(b0:Int),(b1:Int),(b2:Int),(b3:Int),(b4:Int),(b5:Int),(b6:Int)]↔gj (or b0) ((b1*256+b2:Nat):Int) ((b3*16777216+b4*65536+b5*256+b6:Nat):Int) :=
   ⟨fun h=>h.2,fun h=>⟨rfl,h⟩⟩
  have hbk:=DJ b0 b1 b2 b3 b4 b5 b6 l0 l1 l2 l3 l4 l5 l6 _ rfl _ rfl;have HX7:=He h7;obtain ⟨X,hX⟩:∃ X,X=[(b0:Int),(b1:Int),(b2:Int),(b3:Int),(b4:Int),(b5:Int),(b6:Int)]:=⟨_,rfl⟩
  obtain ⟨pn,hpn⟩:∃ pn,pn=b1*256+b2:=⟨_,rfl⟩
  obtain ⟨gn,hgn⟩:∃ gn,gn=b3*16777216+b4*65536+b5*256+b6:=⟨_,rfl⟩
  obtain ⟨lr,hlr⟩:∃ lr,lr=qL b0:=⟨_,rfl⟩
  have hV:i8 [(b0:Int),(b1:Int),(b2:Int),(b3:Int),(b4:Int),(b5:Int),(b6:Int)]=if gN lr pn gn=X then jo lr pn gn else jo 0 0 0:=by
   unfold i8;by_cases h:gL [(b0:Int),(b1:Int),(b2:Int),(b3:Int),(b4:Int),(b5:Int),(b6:Int)]
   ·have h2:=hT.1 h;rw [if_pos h,hX,hlr,hpn,hgn,if_pos (hbk.1.2 h2),hbk.2 h2];rfl
   ·rw [if_neg h,hX,hlr,hpn,hgn,if_neg (fun q=>h (hT.2 (hbk.1.1 q)))]
  have hD:decide (gL [(b0:Int),(b1:Int),(b2:Int),(b3:Int),(b4:Int),(b5:Int),(b6:Int)])=decide (gN lr pn gn=X):=by
   rw [hX,hlr,hpn,hgn];exact decide_eq_decide.2 (hT.trans hbk.1.symm)
  rw [hV,hD,h7];rw [<- hX] at HY HBX HX7;rw [<- hpn] at HTN;rw [<- hgn] at HTG;have hpn2:pn<65536:=Ha;have hgn2:gn<4294967296:=Ha;have hlr2:i64 lr/\lr<256 /\ -1<=lr:=by rw [hlr];unfold qL i64;split <;> omega
  have HPUT:=He (fun W=>th lr pn gn W hlr2.1 (by constructor <;> omega) (by constructor <;> omega));have HSB:=He (kZ (tj (l:=lr) (a:=pn) (g:=gn) (fun _=>trivial)) HBX.out);have HLR:=He hlr;have hc3:¬ c=3:=by rw [h7] at hc;omega
  have hc1:¬ c=1:=by rw [h7] at hc;omega
  have hc7:7<=c:=by rw [h7] at hc;omega
  have hc3i:(3:Int)<=(c:Int):=Ha;have wp1:IntKind.i64.wrap (pn:Int)=pn:=IntWalk.i64_in _ Ha;have wg1:IntKind.u32.wrap (gn:Int)=gn:=IntWalk.u32_in _ Ha;have wb1:IntKind.i64.wrap (b0:Int)=b0:=IntWalk.i64_in _ Ha;clear hpn hgn hV hT hD cc c0 hy hB hc l1 l2 l3 l4 l5 l6 h7 hlr2 hbk hX HBX hlr;obtain ⟨r,hr⟩:∃ r,r=if gN lr pn gn=X then jo lr pn gn else jo 0 0 0:=⟨_,rfl⟩
  rw [<- hr];have HIF:=He hr;clear hr;generalize gN lr pn gn=M at *;go_enter Tryz.func199,Tryz.ntmps199;go_upto_region 3 with fail
  generalize hp:w.heap.size=p at *;have HP:=He hp;have hJ0:KY w p (w.alloc (Obj.cells #[.int .i64 0,.int .i64 0,.int .u32 0] 82)).drew:=⟨HB.out.drew,by show p<(w.alloc _).heap.size;rw [ak,hp];omega,H0.out⟩
  refine aw (JT p ad c b0 pn gn) (fun _ W=>KY w p W) (fun _ w w'=>w.grownBy w' none) Hc Hc (fun i j v' w' w'' hij hind h hg=>h.on hg) hJ0 ?_;have srefl:∀ (W:World),W.grownBy W none:=fun W=>World.grownBy.refl _ _;clear hJ0 hp HB H0;simp only [bW];refine ⟨?_,?_,?_,?_,?_,?_,?_,?_,?_,?_,?_,?_,?_,?_,?_⟩
  ·refine aa.of rfl fun T W L hag hL hJ hLs hd=>?_;have e0:=Hf hag 0;exact Hi
  ·refine aa.of rfl fun T W L hag hL hJ hLs hd=>?_;have d9:T.getD 9 undef=_:=Hg hd 0 rfl;exact Hi
  ·refine aa.of rfl fun T W L hag hL hJ hLs hd=>?_;have d10:T.getD 10 undef=_:=Hg hd 1 rfl;have fct0:=HC0.out W hJ.bel;exact Hi
  ·refine aa.of rfl fun T W L hag hL hJ hLs hd=>?_;have d11:T.getD 11 undef=_:=Hg hd 2 rfl;exact Hi
  ·refine aa.of rfl fun T W L hag hL hJ hLs hd=>?_;have e0:=Hf hag 0;exact Hi
  ·refine aa.of rfl fun T W L hag hL hJ hLs hd=>?_;have d13:T.getD 13 undef=_:=Hg hd 4 rfl;exact Hi
  ·refine aa.of rfl fun T W L hag hL hJ hLs hd=>?_;have d14:T.getD 14 undef=_:=Hg hd 5 rfl;clear hag hd;go_simp;refine (HTN.out W hJ.bel).mono ?_;rintro en w' ⟨rfl,rfl⟩;exact ⟨_,rfl,rfl,hJ,World.grownBy.refl _ _⟩
  ·refine aa.of rfl fun T W L hag hL hJ hLs hd=>?_;have d15:T.getD 15 undef=_:=Hg hd 6 rfl;exact Hi
  ·refine aa.of rfl fun T W L hag hL hJ hLs hd=>?_;have e0:=Hf hag 0;exact Hi
  ·refine aa.of rfl fun T W L hag hL hJ hLs hd=>?_;have d17:T.getD 17 undef=_:=Hg hd 8 rfl;exact Hi
  ·refine aa.of rfl fun T W L hag hL hJ hLs hd=>?_;have d18:T.getD 18 undef=_:=Hg hd 9 rfl;clear hag hd;go_simp;refine (HTG.out W hJ.bel).mono ?_;rintro en w' ⟨rfl,rfl⟩;exact ⟨_,rfl,rfl,hJ,World.grownBy.refl _ _⟩
  ·refine aa.of rfl fun T W L hag hL hJ hLs hd=>?_;have d19:T.getD 19 undef=_:=Hg hd 10 rfl;exact Hi
  ·refine aa.of rfl fun T W L hag hL hJ hLs hd=>?_;have d12:T.getD 12 undef=_:=Hg hd 3 rfl;have d16:T.getD 16 undef=_:=Hg hd 7 rfl;have d20:T.getD 20 undef=_:=Hg hd 11 rfl;simp only [Array.getD_eq_getD_getElem?] at d12 d16 d20;exact Hi
  ·refine aa.of rfl fun T W L hag hL hJ hLs hd=>?_;clear hag hd;go_simp;exact ⟨_,rfl,⟨_,rfl,hJ.sz,bc.new W 0 0 0⟩,⟨hJ.bel.alloc (Nat.le_of_lt hJ.sz) _,by rw [ak];exact Nat.lt_succ_of_lt hJ.sz,hJ.at_.alloc _⟩,World.grownBy_alloc W _ _⟩
  ·refine bg.of rfl fun T W L hag hLs hL hJ hd=>?_;have x4:∃ q,(T.getD 4 undef)=.pointer (some ⟨q,0,none⟩)/\p<q/\bc W q 0 0 0:=hd 13 _ Hb rfl;have d21:T.getD 21 undef=_:=hd 12 _ Hb rfl;obtain ⟨f,hf,hT⟩:=aH hag;have h21:=(hf 21).trans d21;have h4:=hf 4;rw [<- h4] at x4;have HX4:=He x4;clear h4 x4;have HJ:=He hJ;clear hag hd d21 hJ hf;rw [hT];clear hT;simp only [List.pop_toArray,List.dropLast_cons_cons,List.dropLast_singleton,List.filterMap_cons,List.filterMap_nil,List.foldl_cons,List.foldl_nil,List.setIfInBounds_toArray,List.set_cons_succ,List.set_cons_zero,h21];obtain ⟨q,hq,hpq,hqi⟩:=HX4.out;have HQI:=He hqi;have HPQ:=He hpq;rw [hq];clear hq hqi hpq HX4;have HQS:=He (HQI.out.set b0 pn gn);have HPI:Hid (bc (W.setRow q (jc b0 pn gn)) p 0 0 0):=by unfold Hid bc;rw [setRow_other W q _ _ (fun e=>by have:=HPQ.out;omega)];exact HJ.out.at_
   have HBL:=He (below_setRow HJ.out.bel (Nat.le_of_lt HPQ.out) (jc b0 pn gn));refine Bz (.tmp 4) (.tmp 21) rfl q rfl b0 pn gn rfl 0 0 0 HQI.out ?_;have hz:=HC0.out _ HBL.out;generalize W.setRow q (jc b0 pn gn)=W2 at *;by_cases h255:b0=255
   ·subst h255;have hc:=HQS.out.cell 0;have hf:=az HQS.out 0;go_upto_region 6 with fail
    have HQ3:Hid (bc (W2.setCell ⟨q,0,none⟩ (.int .i64 (-1))) q lr pn gn):=by
     unfold Hid;rw [HLR.out];exact ah HQS.out _
    have HP3:Hid (bc (W2.setCell ⟨q,0,none⟩ (.int .i64 (-1))) p 0 0 0):=by
     unfold Hid bc;rw [World.setCell];simp only [Array.getElem?_modify];rw [if_neg (fun e=>by have:=HPQ.out;omega)];exact HPI.out
    have HB3:=He (HBL.out.setCell (p:=⟨q,0,none⟩) (Nat.le_of_lt HPQ.out) (.int .i64 (-1)));have HS3:Hid (p<(W2.setCell ⟨q,0,none⟩ (.int .i64 (-1))).heap.size):=ai HP3.out;generalize W2.setCell ⟨q,0,none⟩ (.int .i64 (-1))=W3 at *;clear HQS HPI HBL HJ HQI hc hf hz;have hJ1:Kl w p q lr pn gn W3.drew:=⟨HB3.out.drew,HS3.out,HP3.out,HQ3.out⟩
    refine aw (Je p ad c lr pn gn M X) (fun _ W=>Kl w p q lr pn gn W) (fun _ w w'=>w.grownBy w' none) Hc Hc (fun i j v' w' w'' hij hind h hg=>h.on hg) hJ1 ?_;clear hJ1 HB3 HS3 HP3 HQ3;simp only [bW];refine ⟨?_,?_,?_,?_,?_,?_⟩
    ·refine aa.of rfl fun T W L hag hL hJ hLs hd=>?_;have e4:=Hf hag 4;refine kM (.tmp 4) rfl q e4 lr pn gn hJ.q ?_;exact ⟨_,rfl,rfl,hJ,World.grownBy.refl _ _⟩
    ·refine aa.of rfl fun T W L hag hL hJ hLs hd=>?_;have d27:T.getD 27 undef=_:=Hg hd 0 rfl;clear hag hd;go_simp;refine (HPUT.out W).mono ?_;rintro en w' ⟨u,rfl,ho,hb⟩;exact ⟨_,rfl,World.ownsRow.mono ho (Nat.le_of_lt hJ.sz),⟨hJ.bel.trans (hb.mono (Nat.le_of_lt hJ.sz)),Nat.lt_of_lt_of_le hJ.sz hb.size,hJ.at_.below hb,hJ.q.below hb⟩,dM hb⟩
    ·refine aa.of rfl fun T W L hag hL hJ hLs hd=>?_;have x28:W.ownsRow p 5 1 (T.getD 28 undef) M.length (Bs M):=Hg hd 1 rfl;obtain ⟨A1,d1,(e28:T.getD 28 undef=_),_,_,hy1⟩:=bN x28 rfl;have cv:=dY (c:=d1) hy1 rfl;clear hag hd x28;go_simp;exact ⟨_,rfl,rfl⟩
    ·refine aa.of rfl fun T W L hag hL hJ hLs hd=>?_;have e0:=Hf hag 0;exact Hi
    ·refine aa.of rfl fun T W L hag hL hJ hLs hd=>?_;have d30:T.getD 30 undef=_:=Hg hd 3 rfl;have cv:=dY (c:=c) (HY.out.keep (HP.out.symm ▸ hJ.bel)) HX7.out;exact Hi
    ·refine bg.of rfl fun T W L hag hLs hL hJ hd=>?_;have d29:T.getD 29 undef=_:=hd 2 _ Hb rfl;have d31:T.getD 31 undef=_:=hd 4 _ Hb rfl;obtain ⟨f,hf,hT⟩:=aH hag;have h29:=(hf 29).trans d29;have h31:=(hf 31).trans d31;have HJ:=He hJ;clear hag hd d29 d31 hJ hf;rw [hT];clear hT;simp only [List.pop_toArray,List.dropLast_cons_cons,List.dropLast_singleton,List.filterMap_cons,List.filterMap_nil,List.foldl_cons,List.foldl_nil,List.setIfInBounds_toArray,List.set_cons_succ,List.set_cons_zero,h29,h31];have HB5:=He HJ.out.bel;have HP5:=He HJ.out.at_;have HQ5:=He HJ.out.q;clear HJ;have hsb:=HSB.out;by_cases hq:M=X
     ·rw [decide_eq_true hq] at hsb;have HRR:Hid (r=jo lr pn gn):=by unfold Hid;rw [HIF.out,if_pos hq]
      have HDD:Hid (decide (M=X)=true):=decide_eq_true hq;clear hq HIF HSB;generalize strOfNums M=s1 at *;generalize strOfNums X=s2 at *;go_wp2_with (first
       | (refine gK rfl (.tmp 4) rfl q rfl lr pn gn HQ5.out ?_)
       | (refine aI rfl (.tmp 2) (.tmp 34) rfl p rfl lr pn gn rfl 0 0 0 HP5.out ?_))
      refine bodyPost_ret (bF rfl _ _ p lr pn gn rfl (HP5.out.set _ _ _)) rfl ?_;refine ⟨by rw [HRR.out,HDD.out];rfl,?_⟩;rw [HP.out];exact below_setRow HB5.out (Nat.le_refl _) _
     ·rw [decide_eq_false hq] at hsb;have HRR:Hid (r=jo 0 0 0):=by unfold Hid;rw [HIF.out,if_neg hq]
      have HDD:Hid (decide (M=X)=false):=decide_eq_false hq;clear hq HIF HSB;generalize strOfNums M=s1 at *;generalize strOfNums X=s2 at *;go_wp2_with (first
       | (refine aI rfl (.tmp 2) (.tmp 33) rfl p rfl 0 0 0 rfl 0 0 0 HP5.out ?_))
      refine bodyPost_ret (bF rfl _ _ p 0 0 0 rfl (HP5.out.set _ _ _)) rfl ?_;refine ⟨by rw [HRR.out,HDD.out];rfl,?_⟩;rw [HP.out];exact below_setRow HB5.out (Nat.le_refl _) _
   ·have h255i:((b0:Int)==255)=false:=by simp;omega
    go_upto_region 6 with fail
    have HQ3:Hid (bc W2 q lr pn gn):=by unfold Hid;rw [HLR.out];unfold qL;rw [if_neg h255];exact HQS.out
    have HP3:=HPI;have HB3:=HBL;have HS3:Hid (p<W2.heap.size):=ai HP3.out;clear HQS HPI HBL HJ HQI hz;generalize W2=W3 at *;have hJ1:Kl w p q lr pn gn W3.drew:=⟨HB3.out.drew,HS3.out,HP3.out,HQ3.out⟩
    refine aw (Je p ad c lr pn gn M X) (fun _ W=>Kl w p q lr pn gn W) (fun _ w w'=>w.grownBy w' none) Hc Hc (fun i j v' w' w'' hij hind h hg=>h.on hg) hJ1 ?_;clear hJ1 HB3 HS3 HP3 HQ3;simp only [bW];refine ⟨?_,?_,?_,?_,?_,?_⟩
    ·refine aa.of rfl fun T W L hag hL hJ hLs hd=>?_;have e4:=Hf hag 4;refine kM (.tmp 4) rfl q e4 lr pn gn hJ.q ?_;exact ⟨_,rfl,rfl,hJ,World.grownBy.refl _ _⟩
    ·refine aa.of rfl fun T W L hag hL hJ hLs hd=>?_;have d27:T.getD 27 undef=_:=Hg hd 0 rfl;clear hag hd;go_simp;refine (HPUT.out W).mono ?_;rintro en w' ⟨u,rfl,ho,hb⟩;exact ⟨_,rfl,World.ownsRow.mono ho (Nat.le_of_lt hJ.sz),⟨hJ.bel.trans (hb.mono (Nat.le_of_lt hJ.sz)),Nat.lt_of_lt_of_le hJ.sz hb.size,hJ.at_.below hb,hJ.q.below hb⟩,dM hb⟩
    ·refine aa.of rfl fun T W L hag hL hJ hLs hd=>?_;have x28:W.ownsRow p 5 1 (T.getD 28 undef) M.length (Bs M):=Hg hd 1 rfl;obtain ⟨A1,d1,(e28:T.getD 28 undef=_),_,_,hy1⟩:=bN x28 rfl;have cv:=dY (c:=d1) hy1 rfl;clear hag hd x28;go_simp;exact ⟨_,rfl,rfl⟩
    ·refine aa.of rfl fun T W L hag hL hJ hLs hd=>?_;have e0:=Hf hag 0;exact Hi
    ·refine aa.of rfl fun T W L hag hL hJ hLs hd=>?_;have d30:T.getD 30 undef=_:=Hg hd 3 rfl;have cv:=dY (c:=c) (HY.out.keep (HP.out.symm ▸ hJ.bel)) HX7.out;exact Hi
    ·refine bg.of rfl fun T W L hag hLs hL hJ hd=>?_;have d29:T.getD 29 undef=_:=hd 2 _ Hb rfl;have d31:T.getD 31 undef=_:=hd 4 _ Hb rfl;obtain ⟨f,hf,hT⟩:=aH hag;have h29:=(hf 29).trans d29;have h31:=(hf 31).trans d31;have HJ:=He hJ;clear hag hd d29 d31 hJ hf;rw [hT];clear hT;simp only [List.pop_toArray,List.dropLast_cons_cons,List.dropLast_singleton,List.filterMap_cons,List.filterMap_nil,List.foldl_cons,List.foldl_nil,List.setIfInBounds_toArray,List.set_cons_succ,List.set_cons_zero,h29,h31];have HB5:=He HJ.out.bel;have HP5:=He HJ.out.at_;have HQ5:=He HJ.out.q;clear HJ;have hsb:=HSB.out;by_cases hq:M=X
     ·rw [decide_eq_true hq] at hsb;have HRR:Hid (r=jo lr pn gn):=by unfold Hid;rw [HIF.out,if_pos hq]
      have HDD:Hid (decide (M=X)=true):=decide_eq_true hq;clear hq HIF HSB;generalize strOfNums M=s1 at *;generalize strOfNums X=s2 at *;go_wp2_with (first
       | (refine gK rfl (.tmp 4) rfl q rfl lr pn gn HQ5.out ?_)
       | (refine aI rfl (.tmp 2) (.tmp 34) rfl p rfl lr pn gn rfl 0 0 0 HP5.out ?_))
      refine bodyPost_ret (bF rfl _ _ p lr pn gn rfl (HP5.out.set _ _ _)) rfl ?_;refine ⟨by rw [HRR.out,HDD.out];rfl,?_⟩;rw [HP.out];exact below_setRow HB5.out (Nat.le_refl _) _
     ·rw [decide_eq_false hq] at hsb;have HRR:Hid (r=jo 0 0 0):=by unfold Hid;rw [HIF.out,if_neg hq]
      have HDD:Hid (decide (M=X)=false):=decide_eq_false hq;clear hq HIF HSB;generalize strOfNums M=s1 at *;generalize strOfNums X=s2 at *;go_wp2_with (first
       | (refine aI rfl (.tmp 2) (.tmp 33) rfl p rfl 0 0 0 rfl 0 0 0 HP5.out ?_))
      refine bodyPost_ret (bF rfl _ _ p 0 0 0 rfl (HP5.out.set _ _ _)) rfl ?_;refine ⟨by rw [HRR.out,HDD.out];rfl,?_⟩;rw [HP.out];exact below_setRow HB5.out (Nat.le_refl _) _
 ·have hT:¬ gL xs:=fun h=>h7 h.1;have hV:i8 xs=jo 0 0 0:=by unfold i8;rw [if_neg hT]
  rw [hV,decide_eq_false hT];clear hT hV hB hy;generalize xs.length=n at *;have hq:((n:Int) != 7)=true:=by simp;omega
  go_enter Tryz.func199,Tryz.ntmps199;go_wp2_with (refine aI rfl (.tmp 2) (.tmp 8) rfl w.heap.size rfl 0 0 0 rfl 0 0 0 H0.out ?_)
  refine bodyPost_ret (bF rfl _ _ w.heap.size 0 0 0 rfl (H0.out.set _ _ _)) rfl ?_;exact ⟨rfl,below_setRow HB.out (Nat.le_refl _) _⟩
theorem wM {l a g:Int} (h:gj l a g):gN l a g=uW l a g:=by unfold gN;rw [if_pos h]
theorem FF (l a g:Int):ax (gN l a g):=tj (fun _=>trivial)
theorem BE {xs:List Int} (h:¬ gL xs):i8 xs=jo 0 0 0:=by unfold i8;rw [if_neg h]
section
variable {H:Type} {enc:TypeId × Value->H} {w:World} {base:Nat} {spare:Nat->Bool} {held:Bool}
end
structure En where
 l:Int
 a:Int
 g:Int
 t:List Int
 p:Int
 n:Int
theorem En.ext_iff' (n m:En):n=m↔((n.l=m.l/\n.a=m.a/\n.g=m.g)/\n.t=m.t/\n.p=m.p/\n.n=m.n):=by
 cases n;cases m;simp only [En.mk.injEq];constructor <;> (intro h;simp only [h,and_self])
instance (n m:En):Decidable (n=m):=decidable_of_iff _ (En.ext_iff' n m).symm
def dB (n:En):Array Value:=#[.int .i64 n.l,.int .i64 n.a,.int .u32 n.g,.string (strOfNums n.t),.int .i64 n.p,.int .u32 n.n]
structure DK (n:En):Prop where
 l:i64 n.l
 a:i64 n.a
 g:u32 n.g
 t:ax n.t
 tl:n.t.length<=9223372036854775807
 p:i64 n.p
 n:u32 n.n
def en0:En:=⟨0,0,0,[],0,0⟩
theorem zU (n:En):(dB n).all (·.oneCell')=true:=by unfold dB;simp [Value.oneCell']
theorem GD:(Tryz.prog.info? 168).map (fun i=>(i.zero,i.size))=some (some (.agg (dB en0)),6):=Hc
theorem zV:(Tryz.prog.info? 168).map (·.size)=some 6:=Hc
theorem IB:Tryz.prog.built 168 []=some (dB en0):=Hc
def bP (w:World) (p:Nat) (n:En):Prop:=w.heap[p]?=some (.cells (dB n) 168 (0,0))
theorem bP.below {w w':World} {p:Nat} {n:En} (h:bP w p n) (hb:Below w.heap.size w w'):bP w' p n:=kb hb h
theorem bP.new (w:World) (n:En):bP (w.alloc (Obj.cells (dB n) 168)) w.heap.size n:=heap_alloc_new _ _
theorem bP.alloc {w:World} {p:Nat} {n:En} (h:bP w p n) (o:Obj):bP (w.alloc o) p n:=kb (aK o) h
theorem bP.grown {w w':World} {p:Nat} {n:En} {r:Option Nat} (h:bP w p n) (hg:w.grownBy w' r) (hr:r≠some p):bP w' p n:=by
 unfold bP;rw [hg.block p (ai h) (fun e=>hr e.symm)];exact h
theorem bP.set {w:World} {p:Nat} {n:En} (h:bP w p n) (m:En):bP (w.setRow p (dB m)) p m:=am h
theorem bP.other {w:World} {p q:Nat} {n:En} (h:bP w p n) (C:Array Value) (hq:p≠q):bP (w.setRow q C) p n:=by
 unfold bP;rw [setRow_other w q p C hq];exact h
theorem bP.cell {w:World} {p:Nat} {n:En} (h:bP w p n) (i:Nat):w.cell? ⟨p,i,none⟩=(dB n)[i]?:=af h i
theorem bP.cells {w:World} {p:Nat} {n:En} (h:bP w p n):w.cell? ⟨p,3,none⟩=some (.string (strOfNums n.t))/\w.cell? ⟨p,4,none⟩=some (.int .i64 n.p)/\w.cell? ⟨p,5,none⟩=some (.int .u32 n.n):=⟨h.cell 3,h.cell 4,h.cell 5⟩
section
variable {ops:Array Oper} {rest:List Oper} {o:Oper} {ac:Act} {w:World} {Q:Exit->Act->World->Prop}
theorem fV (hgd:o.guard=none) (ho:o.op=.alloc 168)
 (h:wpList Tryz.prog ops Q rest (ac.put o.dst (.pointer (some ⟨w.heap.size,0,none⟩))) (w.alloc (.cells (dB en0) 168))):wpList Tryz.prog ops Q (o :: rest) ac w:=by
 obtain ⟨i0,hi,hz0,hz1⟩:∃ i,Tryz.prog.info? 168=some i/\i.zero=some (.agg (dB en0))/\i.size=6:=by
  have h:=GD;cases hq:Tryz.prog.info? 168 with
  | none=>rw [hq] at h;cases h
  | some i=>rw [hq] at h;simp only [Option.map_some,Option.some.injEq,Prod.mk.injEq] at h;exact ⟨i,rfl,h.1,h.2⟩
 exact wpList_plain hgd fun _ hK=>bV 168 ho i0 _ hi hz0 (hK _ _ h)
theorem fh (hgd:o.guard=none) (ho:o.op=.build 168 #[])
 (h:wpList Tryz.prog ops Q rest (ac.put o.dst (.agg (dB en0))) w):wpList Tryz.prog ops Q (o :: rest) ac w :=
 wpList_plain hgd fun _ hK=>by
  unfold Oper.wp execOp;have hb:=run_build (P:=Tryz.prog) w 168 #[] _ IB;simp only [ho,List.map_toArray,List.map_nil,Sem.run_bind,hb,Result.andThen_ok];exact hK _ _ h
theorem bI (hgd:o.guard=none) (x y:Operand) (ho:o.op=.store 168 x y) (p:Nat) (hx:ac.eval x=.pointer (some ⟨p,0,none⟩)) (n m:En) (hy:ac.eval y=.agg (dB n)) (hg:bP w p m)
 (h:wpList Tryz.prog ops Q rest (ac.put o.dst undef) (w.setRow p (dB n))):wpList Tryz.prog ops Q (o :: rest) ac w :=
 wpList_store_row hgd 168 x y ho p _ hx hy _ _ hg zV rfl (zU _) h
theorem fK (hgd:o.guard=none) (x:Operand) (ho:o.op=.load 168 x) (p:Nat) (hx:ac.eval x=.pointer (some ⟨p,0,none⟩)) (n:En) (hg:bP w p n)
 (h:wpList Tryz.prog ops Q rest (ac.put o.dst (.agg (dB n))) w):wpList Tryz.prog ops Q (o :: rest) ac w :=
 wpList_load_row hgd 168 x ho p hx _ _ _ _ hg Tryz.underlying168 rfl zV h
theorem tm {K:Act->World->Prop} (x y:Operand) (ho:o.op=.store 168 x y) (p:Nat) (hx:ac.eval x=.pointer (some ⟨p,0,none⟩)) (n m:En) (hy:ac.eval y=.agg (dB n)) (hg:bP w p m)
 (h:K (ac.put o.dst undef) (w.setRow p (dB n))):o.wp Tryz.prog ac w K Q :=
 wp_store_row 168 x y ho p _ hx hy _ _ hg zV rfl (zU _) h
end
theorem fj {fn:Func} {p u:Tmp} (h:fn.results=#[.cell p 168,.tmp u]) (tmps:Array Value) (w:World) (q:Nat) (n:En) (hp:tmps.getD p undef=.pointer (some ⟨q,0,none⟩)) (hg:bP w q n) :
 (results fn tmps).run Tryz.prog w=.ok (.tuple #[.agg (dB n),tmps.getD u undef]) w:=by
 rw [results_cell_tmp h,hp];simp only [asAddr,Sem.run_pure,Result.andThen_ok];rw [run_loadVar_row w q _ _ _ _ _ hg Tryz.underlying168 rfl zV];rfl
def uz (t:List Int) (i:Nat):Prop:=(33<=t.getD i 0/\t.getD i 0<=126)/\t.getD i 0≠47
instance (t:List Int) (i:Nat):Decidable (uz t i):=by unfold uz;infer_instance
def zX (t:List Int):Prop:=((1<=t.length/\t.length<=14)/\t≠[46]/\t≠[46,46])/\∀ i,i<t.length->uz t i
instance (t:List Int):Decidable (zX t):=by unfold zX;infer_instance
theorem FG {t:List Int} (h:ax t):((strOfNums t).toList==([46]:List UInt8))=decide (t=[46]):=by
 have e:(strOfNums [46]).toList=([46]:List UInt8):=by rw [dt];rfl
 rw [<- e];exact kZ h (fun x hx=>by rw [List.mem_singleton] at hx;subst hx;decide)
theorem DL {t:List Int} (h:ax t):((strOfNums t).toList==([46,46]:List UInt8))=decide (t=[46,46]):=by
 have e:(strOfNums [46,46]).toList=([46,46]:List UInt8):=by rw [dt];rfl
 rw [<- e];exact kZ h (fun x hx=>by simp at hx;subst hx;decide)
theorem ny (t:List Int) (w:World) (ht:ax t) (hl:t.length<=100):Calls Tryz.prog 82 #[.string (strOfNums t)] w fun e w'=>e=.returned (.bool (decide (zX t)))/\w=w':=by
 have hS:=strOfNums_size t;have HI:=He (fun k y h w=>mx t ht (k:=k) (y:=y) h w);have HN1:Hid (¬ (1<=t.length/\t.length<=14)->decide (zX t)=false):=fun h=>decide_eq_false fun hp=>h hp.1.1;have HN2:Hid (∀ i,i<t.length->¬ uz t i->decide (zX t)=false):=fun i hi h=>decide_eq_false fun hp=>h (hp.2 i hi);have HN3:Hid (decide (t=[46])=true->decide (zX t)=false):=fun h=>decide_eq_false fun hp=>hp.1.2.1 (of_decide_eq_true h);have HN4:Hid (decide (t=[46,46])=true->decide (zX t)=false):=fun h=>decide_eq_false fun hp=>hp.1.2.2 (of_decide_eq_true h);have HY:Hid ((1<=t.length/\t.length<=14)->decide (t=[46])=false->decide (t=[46,46])=false->(∀ i,i<t.length->uz t i)->decide (zX t)=true):=fun h1 h2 h3 h4=>decide_eq_true ⟨⟨h1,of_decide_eq_false h2,of_decide_eq_false h3⟩,h4⟩;have HX:Hid (∀ k,k<t.length->∃ y,t[k]?=some y/\t.getD k 0=y):=fun k hk=>⟨t[k],List.getElem?_eq_getElem hk,by rw [List.getD,List.getElem?_eq_getElem hk];rfl⟩
 have e1:=FG ht;have e2:=DL ht;generalize strOfNums t=S at *;generalize hm:t.length=m at *;clear hm;generalize decide (zX t)=D at *;generalize decide (t=[46])=D1 at *;generalize decide (t=[46,46])=D2 at *;go_enter Tryz.func82,Tryz.ntmps82;go_wp2
 go_loop [3] (fun i=>∃ k:Nat,k<=m/\i=.int .i64 k/\∀ j,j<k->uz t j) (fun i=>m-(intOf i).toNat)
 case atStart=>exact ⟨0,Nat.zero_le _,rfl,fun j hj=>absurd hj Ha⟩
 case round =>
  obtain ⟨k,hk,rfl,hno⟩:=hrel;have HO:=He hno;clear hno;by_cases hlt:k<m
  ·obtain ⟨y,hy,hyd⟩:=HX.out k hlt;have hix:=fun w=>HI.out k y hy w;have HE:Hid (uz t k↔((33<=y/\y<=126)/\y≠47)):=by unfold Hid uz;rw [hyd]
   have HNO:=He (HN2.out k hlt);clear hy hyd;by_cases h3:y<33
   ·have HF:=He (HNO.out fun h=>by have:=HE.out.1 h;omega);go_wp2;go_ret;exact ⟨aj HF.out.symm,rfl⟩
   ·by_cases h4:126<y
    ·have HF:=He (HNO.out fun h=>by have:=HE.out.1 h;omega);go_wp2;go_ret;exact ⟨aj HF.out.symm,rfl⟩
    ·by_cases h5:y=47
     ·have HF:=He (HNO.out fun h=>by have:=HE.out.1 h;omega);go_wp2;go_ret;exact ⟨aj HF.out.symm,rfl⟩
     ·have HF:Hid (∀ j,j<k+1->uz t j):=fun j hj=>by
       rcases Nat.lt_or_ge j k with h6 | h6
       ·exact HO.out j h6
       ·obtain rfl:j=k:=Ha;exact HE.out.2 Ha
      go_wp2
      go_round
      case rel=>exact ⟨k+1,Ha,by go_num,HF.out⟩
      case measure=>simp [intOf];omega
  ·have HF:Hid ((1<=m/\m<=14)->D1=false->D2=false->D=true):=fun h1 h2 h3=>HY.out h1 h2 h3 fun i hi=>HO.out i Ha;by_cases h1:1<=m
   ·by_cases h2:m<=14
    ·cases D1
     ·cases D2
      ·have HD:=He (HF.out ⟨h1,h2⟩ rfl rfl);go_wp2;go_ret;exact ⟨aj (by first | exact HD.out.symm | (rw [HD.out];simp;omega)),rfl⟩
      ·have HD:=He (HN4.out rfl);go_wp2;go_ret;exact ⟨aj (by first | exact HD.out.symm | (rw [HD.out];simp;omega)),rfl⟩
     ·have HD:=He (HN3.out rfl);go_wp2;go_ret;exact ⟨aj (by first | exact HD.out.symm | (rw [HD.out];simp;omega)),rfl⟩
    ·have HD:=He (HN1.out Ha);go_wp2;go_ret;exact ⟨aj (by first | exact HD.out.symm | (rw [HD.out];simp;omega)),rfl⟩
   ·have HD:=He (HN1.out Ha);go_wp2;go_ret;exact ⟨aj (by first | exact HD.out.symm | (rw [HD.out];simp;omega)),rfl⟩
def jC (n:En):Prop:=(gj n.l n.a n.g/\zX n.t)/\(1<=n.p/\n.p<200)/\1<=n.n
instance (n:En):Decidable (jC n):=by unfold jC;infer_instance
theorem bP.dir {w:World} {p:Nat} {n:En} (h:bP w p n):w.rangeAt p 0 [.int .i64 n.l,.int .i64 n.a,.int .u32 n.g]:=fun j v hj=>by
 rw [h.cell]
 match j,hj with
 | 0,hj=>injection hj with hj;subst hj;rfl
 | 1,hj=>injection hj with hj;subst hj;rfl
 | 2,hj=>injection hj with hj;subst hj;rfl
section
variable {ops:Array Oper} {rest:List Oper} {o:Oper} {ac:Act} {w:World} {Q:Exit->Act->World->Prop}
theorem fm (hgd:o.guard=none) (x:Operand) (ho:o.op=.load 82 x) (p:Nat) (hx:ac.eval x=.pointer (some ⟨p,0,none⟩)) (n:En) (hg:bP w p n)
 (h:wpList Tryz.prog ops Q rest (ac.put o.dst (jo n.l n.a n.g)) w):wpList Tryz.prog ops Q (o :: rest) ac w :=
 wpList_load_mid hgd 82 x ho p 0 hx _ _ hg.dir Tryz.underlying82 rfl jB h
theorem yC {K:Act->World->Prop} (x:Operand) (ho:o.op=.load 82 x) (p:Nat) (hx:ac.eval x=.pointer (some ⟨p,0,none⟩)) (n:En) (hg:bP w p n)
 (h:K (ac.put o.dst (jo n.l n.a n.g)) w):o.wp Tryz.prog ac w K Q :=
 wp_load_mid 82 x ho p 0 hx _ _ hg.dir Tryz.underlying82 rfl jB h
end
theorem yD (n:En) (w:World) (hn:DK n) (hl:n.t.length<=100):Calls Tryz.prog 169 #[.agg (dB n)] w fun e w'=>e=.returned (.bool (decide (jC n)))/\Below w.heap.size w w':=by
 have HN:=He (bP.new w n);have HB:=He (aK (w:=w) (Obj.cells (dB n) 168));have HI:=He (fun w=>ot n.l n.a n.g w);have HM:=He (fun w=>ny n.t w hn.t hl);have HA:=He (fun w=>lx n.p w);go_enter Tryz.func169,Tryz.ntmps169;go_upto_region 1 with fail
 generalize w.alloc (Obj.cells (dB n) 168)=W at *;by_cases hI:gj n.l n.a n.g
 ·have HDI:=He (decide_eq_true hI);rw [HDI.out] at HI;by_cases hM:zX n.t
  ·have HDM:=He (decide_eq_true hM);rw [HDM.out] at HM;by_cases hA:1<=n.p/\n.p<200
   ·have HDA:=He (decide_eq_true hA);rw [HDA.out] at HA;have HF:Hid (decide (jC n)=decide (1<=n.n)):=by
     unfold Hid;rw [decide_eq_decide];unfold jC;exact ⟨fun h=>h.2.2,fun h=>⟨⟨hI,hM⟩,hA,h⟩⟩
    clear hI hM hA;go_wp2_with (refine fm rfl (.tmp 3) rfl w.heap.size rfl n HN.out ?_)
    refine (HI.out _).mono ?_;rintro e w1 ⟨rfl,hb1⟩;have HN1:=He (HN.out.below hb1);have HB1:=He (aP HB.out hb1);clear hb1 HN HB;obtain ⟨c3,c4,c5⟩:=HN1.out.cells;go_wp2_with fail
    refine (HM.out _).mono ?_;rintro e w2 ⟨rfl,rfl⟩;go_wp2_with fail
    refine (HA.out _).mono ?_;rintro e w2 ⟨rfl,rfl⟩;go_wp2_with fail
    go_ret;exact ⟨aj HF.out.symm,HB1.out⟩
   ·have HDA:=He (decide_eq_false hA);rw [HDA.out] at HA;have HF:Hid (decide (jC n)=false):=decide_eq_false fun h=>hA h.2.1;clear hI hM hA;go_wp2_with (refine fm rfl (.tmp 3) rfl w.heap.size rfl n HN.out ?_)
    refine (HI.out _).mono ?_;rintro e w1 ⟨rfl,hb1⟩;have HN1:=He (HN.out.below hb1);have HB1:=He (aP HB.out hb1);clear hb1 HN HB;obtain ⟨c3,c4,c5⟩:=HN1.out.cells;go_wp2_with fail
    refine (HM.out _).mono ?_;rintro e w2 ⟨rfl,rfl⟩;go_wp2_with fail
    refine (HA.out _).mono ?_;rintro e w2 ⟨rfl,rfl⟩;go_wp2_with fail
    go_ret;exact ⟨aj HF.out.symm,HB1.out⟩
  ·have HDM:=He (decide_eq_false hM);rw [HDM.out] at HM;have HF:Hid (decide (jC n)=false):=decide_eq_false fun h=>hM h.1.2;clear hI hM;go_wp2_with (refine fm rfl (.tmp 3) rfl w.heap.size rfl n HN.out ?_)
   refine (HI.out _).mono ?_;rintro e w1 ⟨rfl,hb1⟩;have HN1:=He (HN.out.below hb1);have HB1:=He (aP HB.out hb1);clear hb1 HN HB;obtain ⟨c3,c4,c5⟩:=HN1.out.cells;go_wp2_with fail
   refine (HM.out _).mono ?_;rintro e w2 ⟨rfl,rfl⟩;go_wp2_with fail
   go_ret;exact ⟨aj HF.out.symm,HB1.out⟩
 ·have HDI:=He (decide_eq_false hI);rw [HDI.out] at HI;have HF:Hid (decide (jC n)=false):=decide_eq_false fun h=>hI h.1.1;clear hI;go_wp2_with (refine fm rfl (.tmp 3) rfl w.heap.size rfl n HN.out ?_)
  refine (HI.out _).mono ?_;rintro e w1 ⟨rfl,hb1⟩;have HB1:=He (aP HB.out hb1);clear hb1 HN HB;go_wp2_with fail
  go_ret;exact ⟨aj HF.out.symm,HB1.out⟩
def qM (n:En):List Int:=(uW n.l n.a n.g++be n.p.toNat 2)++be n.n.toNat 4
def qN (n:En):List Int:=qM n++[(n.t.length:Int)]
def cK (n:En):List Int:=qN n++n.t
theorem qO (l a g:Int):(uW l a g).length=7:=by unfold uW BC;rw [List.length_append,av];rfl
theorem uA (n:En):(qM n).length=13:=by unfold qM;rw [List.length_append,List.length_append,qO,av,av]
theorem r5 (n:En):(qN n).length=14:=by unfold qN;rw [List.length_append,uA];rfl
theorem jD (n:En):(cK n).length=14+n.t.length:=by unfold cK;rw [List.length_append,r5]
theorem jC.tl {n:En} (h:jC n):n.t.length<=14:=h.1.2.1.1.2
theorem DN {l a g:Int} (h:gj l a g):ax (uW l a g):=by rw [<- wM h];exact FF _ _ _
theorem wN {n:En} (h:jC n) (ht:ax n.t):ax (cK n):=by
 have htl:=h.tl;refine ax.append (ax.append (ax.append (ax.append (DN h.1.1) (cm _ _)) (cm _ _)) fun x hx=>?_) ht;rw [List.mem_singleton] at hx;subst hx;omega
def fW (n:En):Int:=if jC n then 6 else 0
def fp (n:En):List Int:=if jC n then dh (cK n) else ay
theorem ou {n:En}:(fp n).length=56:=by
 unfold fp;split
 ·rename_i h;have:=h.tl;exact fH (by rw [jD];omega)
 ·exact al
theorem qP {n:En} (ht:ax n.t):ax (fp n):=by
 unfold fp;split
 ·rename_i h;exact qv (wN h ht)
 ·exact dN
def wO (bs ys:List Int) (o:Nat):List Int:=bs.take o++ys++bs.drop (o+ys.length)
theorem FH {bs ys:List Int} {o:Nat} (h:bs.length=56) (ho:o+ys.length<=56):(wO bs ys o).length=56:=by
 unfold wO;simp only [List.length_append,List.length_take,List.length_drop];omega
theorem wP (g l h:Nat) (hlh:l<=h) (hh:h<=56) (hl:l<56) (w:World):(Instr.sliceAt 35 (.pointer (some ⟨g,1,none⟩)) (some (.int .i64 l)) (some (.int .i64 h)) none).run Tryz.prog w=.ok (.slice (some ⟨g,1+l,none⟩) (h-l) (56-l)) w:=by
 have z3:=Tryz.sizeOf5;have e1:Tryz.prog.arrayLen 35=56:=Hc;have e2:Tryz.prog.elem 35=5:=Hc;have e3:Tryz.prog.underlying 35=some (.array (Tryz.prog.arrayLen 35) (Tryz.prog.elem 35)):=Hc;rw [run_sliceAt_array_lh w 35 _ e3 .i64 .i64 (l:Int) (h:Int) Ha Ha (by rw [e1];omega),e1,e2];have hm:¬ 56=l:=Ha;simp [z3,slicedAt,dp,hm]
section
variable {w W W':World} {p:Nat} {n:En} {k:Int} {ys zs:List Int}
end
def gM (bs:List Int):En:=⟨DG (bh bs 0 7),DH (bh bs 0 7),DI (bh bs 0 7),bh bs 14 (bs.getD 13 0).toNat,aB (bh bs 7 2),aB (bh bs 9 4)⟩
def dL (k:Int) (bs:List Int):Prop:=bs.getD 13 0<=14/\jC (gM bs)/\k=6/\dh (cK (gM bs))=bs
instance (k:Int) (bs:List Int):Decidable (dL k bs):=by unfold dL;infer_instance
def qQ (k:Int) (bs:List Int):En:=if dL k bs then gM bs else en0
theorem JU {xs:List Int} (hB:ax xs) (i:Nat):nB xs i<256:=by have:=lA hB i;unfold nB;omega
theorem DO {bs:List Int} (h56:bs.length=56) (hB:ax bs):DK (gM bs):=by
 have h4:=i5 (o:=9) h56 hB Ha;have h2:=kK (o:=7) h56 hB Ha;have b:=JU (gI hB 0 7);have b0:=b 0;have b1:=b 1;have b2:=b 2;have b3:=b 3;have b4:=b 4;have b5:=b 5;have b6:=b 6;refine ⟨?_,?_,?_,gI hB _ _,?_,?_,?_⟩
 ·show i64 (DG (bh bs 0 7));unfold DG or i64;split <;> omega
 ·show i64 (DH (bh bs 0 7):Int);unfold DH i64;omega
 ·show u32 (DI (bh bs 0 7):Int);unfold DI u32;omega
 ·show (bh bs 14 _).length<=_;unfold bh;rw [List.length_take,List.length_drop];omega
 ·show i64 (aB (bh bs 7 2):Int);unfold i64;omega
 ·show u32 (aB (bh bs 9 4):Int);unfold u32;omega
theorem yE {bs:List Int} (h56:bs.length=56):gL (bh bs 0 7)↔gj (gM bs).l (gM bs).a (gM bs).g :=
 ⟨fun h=>h.2,fun h=>⟨fI h56 Ha,h⟩⟩
theorem BF {bs:List Int} (h:gL (bh bs 0 7)):i8 (bh bs 0 7)=jo (gM bs).l (gM bs).a (gM bs).g:=by unfold i8;rw [if_pos h];rfl
section
variable {w W W':World} {p:Nat} {k j:Int} {bs cs:List Int} {m:En}
end
structure Ex (w:World) (p:Nat) (n:En) (W:World):Prop where
 bel:Below p w W
 sz:p+1+1<=W.heap.size
 at_:bP W p n
 res:W.heap[p+1]?=some (.cells (ab 0 ay) 37 (0,0))
section
variable {w W W':World} {p:Nat} {n:En}
theorem Ex.below (h:Ex w p n W) (hb:Below W.heap.size W W'):Ex w p n W' :=
 ⟨h.bel.trans (hb.mono (by have:=h.sz;omega)),Nat.le_trans h.sz hb.size,h.at_.below hb,kb hb h.res⟩
theorem Ex.grown {r:Option Nat} (h:Ex w p n W) (hg:W.grownBy W' r) (h1:∀ j,r=some j->p<=j) (h2:r≠some p) (h3:r≠some (p+1)):Ex w p n W' :=
 ⟨h.bel.grown hg (by have:=h.sz;omega) h1,Nat.le_trans h.sz hg.size,h.at_.grown hg h2,by rw [hg.block _ (by have:=h.sz;omega) (fun e=>h3 e.symm)];exact h.res⟩
end
def IC (p:Nat) (n:En) (i:Nat) (v:Value) (W:World):Prop :=
 match i with
 | 0=>v=.pointer (some ⟨p,0,none⟩)
 | 1=>v=jo n.l n.a n.g
 | 3=>v=.pointer (some ⟨p,4,none⟩)
 | 4=>v=.int .i64 n.p
 | 5=>v=.int .u64 n.p
 | 8=>v=.pointer (some ⟨p,5,none⟩)
 | 9=>v=.int .u32 n.n
 | 10=>v=.int .u64 n.n
 | 2=>W.ownsRow (p+1+1) 5 1 v 7 (Bs (uW n.l n.a n.g))
 | 6=>aC W (p+1+1) v (be n.p.toNat 2)
 | 7=>W.ownsRow (p+1+1) 5 1 v 9 (Bs (uW n.l n.a n.g++be n.p.toNat 2))
 | 11=>aC W (p+1+1) v (be n.n.toNat 4)
 | 12=>W.ownsRow (p+1+1) 5 1 v 13 (Bs (qM n))
 | _=>True
def JV (i:Nat) (w w':World):Prop:=if i=7 then bR 7 9 w w' else if i=12 then bR 9 13 w w' else w.grownBy w' none
theorem IC.on {p:Nat} {n:En} {i j:Nat} {v:Value} {w w':World} (hij:i≠j) (hnot:¬ (i=7/\j=12)) (h:IC p n j v w) (hs:JV i w w'):IC p n j v w':=by
 unfold JV at hs;by_cases hi:i=7
 ·rw [if_pos hi] at hs;unfold IC at *;split <;> try exact h
  ·exact ic h hs Hd
  ·exact aC.keep h hs (by rw [av];decide)
  ·exact absurd hi hij
  ·exact aC.keep h hs (by rw [av];decide)
  ·exact absurd ⟨hi,rfl⟩ hnot
  ·trivial
 ·rw [if_neg hi] at hs;by_cases hi2:i=12
  ·rw [if_pos hi2] at hs;unfold IC at *;split <;> try exact h
   ·exact ic h hs Hd
   ·exact aC.keep h hs (by rw [av];decide)
   ·exact ic h hs Hd
   ·exact aC.keep h hs (by rw [av];decide)
   ·exact absurd hi2 hij
   ·trivial
  ·rw [if_neg hi2] at hs;unfold IC at *;split <;> try exact h
   ·exact World.ownsRow.kept h hs (by cases v.ownBlock <;> simp)
   ·exact aC.grown h hs
   ·exact World.ownsRow.kept h hs (by cases v.ownBlock <;> simp)
   ·exact aC.grown h hs
   ·exact World.ownsRow.kept h hs (by cases v.ownBlock <;> simp)
   ·trivial
structure wQ (w:World) (p:Nat) (n:En) (v6:Value) (b7 b12:Bool) (W:World):Prop where
 bel:Below p w W
 sz:p+1+1<=W.heap.size
 at_:bP W p n
 row:b7=false->W.ownsRow (p+1+1) 5 1 v6 13 (Bs (qM n))
 res0:b12=false->W.heap[p+1]?=some (.cells (ab 0 ay) 37 (0,0))
 res1:b12=true->W.heap[p+1]?=some (.cells (ab 6 (dh (cK n))) 37 (0,0))
section
variable {w W W':World} {p:Nat} {n:En} {v6:Value} {b7 b12:Bool}
theorem wQ.below (h:wQ w p n v6 b7 b12 W) (hb:Below W.heap.size W W'):wQ w p n v6 b7 b12 W' :=
 ⟨h.bel.trans (hb.mono (by have:=h.sz;omega)),Nat.le_trans h.sz hb.size,h.at_.below hb,fun e=>hU (h.row e) hb,fun e=>kb hb (h.res0 e),fun e=>kb hb (h.res1 e)⟩
theorem wQ.alloc (h:wQ w p n v6 b7 b12 W) (o:Obj):wQ w p n v6 b7 b12 (W.alloc o):=h.below (aK o)
theorem wQ.push {r:Option Nat} (h:wQ w p n v6 b7 b12 W) (hg:W.grownBy W' r) (hne:∀ j,r=some j->p+1+1<=j):wQ w p n v6 true b12 W':=by
 have h3:r≠some (p+1):=fun e=>by have:=hne _ e;omega
 exact ⟨h.bel.grown hg (by have:=h.sz;omega) (fun j e=>by have:=hne j e;omega),Nat.le_trans h.sz hg.size,h.at_.grown hg (fun e=>by have:=hne _ e;omega),(fun e=>by cases e),(fun e=>by rw [hg.block _ (by have:=h.sz;omega) (fun e=>h3 e.symm)];exact h.res0 e),(fun e=>by rw [hg.block _ (by have:=h.sz;omega) (fun e=>h3 e.symm)];exact h.res1 e)⟩
theorem wQ.push2 {r:Option Nat} (h:wQ w p n v6 b7 b12 W) (hg:W.grownBy W' r) (hne:∀ j,r=some j->p+1+1<=j) (hb:b7=true):wQ w p n v6 b7 b12 W':=by
 have:=h.push hg hne;subst hb;exact this
theorem wQ.stored (h:wQ w p n v6 b7 b12 W):wQ w p n v6 b7 true (W.setRow (p+1) (ab 6 (dh (cK n)))):=by
 have hr:W.heap[p+1]?=some (.cells (ab 6 (dh (cK n))) 37 (0,0))\/W.heap[p+1]?=some (.cells (ab 0 ay) 37 (0,0)):=by
  cases b12
  ·exact Or.inr (h.res0 rfl)
  ·exact Or.inl (h.res1 rfl)
 exact ⟨below_setRow h.bel Ha _,by rw [size_setRow];exact h.sz,h.at_.other _ Ha,(fun e=>World.ownsRow.kept (h.row e) (cd _ _ _) (Or.inr fun e2=>by have:=((h.row e).lt _ e2).1;omega)),(fun e=>by cases e),(fun _=>by rcases hr with h1 | h1 <;> exact am h1)⟩
end
def GE (p:Nat) (n:En) (v6:Value) (i:Nat) (v:Value) (W:World):Prop :=
 match i with
 | 0=>v=v6
 | 1 | 7=>v=.pointer (some ⟨p,3,none⟩)
 | 2 | 8=>v=.string (strOfNums n.t)
 | 3=>v=.int .i64 n.t.length
 | 4=>v=.int .u8 n.t.length
 | 10=>v=.agg (ab 6 (dh (cK n)))
 | 5=>aC W (p+1+1) v [(n.t.length:Int)]
 | 6=>W.ownsRow (p+1+1) 5 1 v 14 (Bs (qN n))
 | 9=>W.ownsRow (p+1+1) 5 1 v (14+n.t.length) (Bs (cK n))
 | _=>True
def JW (p:Nat) (n:En) (i:Nat) (w w':World):Prop:=if i=6 then bR 13 14 w w' else if i=9 then bR 14 (14+n.t.length) w w' else if i=11 then w.grownBy w' (some (p+1)) else w.grownBy w' none
theorem GE.on {p:Nat} {n:En} {v6:Value} {i j:Nat} {v:Value} {w w':World} (hij:i≠j) (hnot:¬ (i=6/\j=9)) (h:GE p n v6 j v w) (hs:JW p n i w w'):GE p n v6 j v w':=by
 unfold JW at hs;by_cases hi:i=6
 ·rw [if_pos hi] at hs;unfold GE at *;split <;> try exact h
  ·exact aC.keep h hs (show 1<14 by omega)
  ·exact absurd hi hij
  ·exact absurd ⟨hi,rfl⟩ hnot
  ·trivial
 ·rw [if_neg hi] at hs;by_cases hi2:i=9
  ·rw [if_pos hi2] at hs;unfold GE at *;split <;> try exact h
   ·exact aC.keep h hs (show 1<14+n.t.length by omega)
   ·exact ic h hs Hd
   ·exact absurd hi2 hij
   ·trivial
  ·rw [if_neg hi2] at hs;by_cases hi3:i=11
   ·rw [if_pos hi3] at hs;unfold GE at *;split <;> try exact h
    ·exact aC.kept h hs Ha
    ·exact np h hs Ha
    ·exact np h hs Ha
    ·trivial
   ·rw [if_neg hi3] at hs;unfold GE at *;split <;> try exact h
    ·exact aC.grown h hs
    ·exact World.ownsRow.kept h hs (by cases v.ownBlock <;> simp)
    ·exact World.ownsRow.kept h hs (by cases v.ownBlock <;> simp)
    ·trivial
theorem qR (n:En) (w:World) (hn:DK n) (htl0:n.t.length<=100):Calls Tryz.prog 122 #[.agg (dB n)] w fun e w'=>e=.returned (.tuple #[.agg (ab (fW n) (fp n)),.bool (decide (jC n))])/\Below w.heap.size w w':=by
 have HM:=He (fun w=>yD n w hn htl0);have HT:=He hn.t;have HJ0:Hid (Ex w w.heap.size n ((w.alloc (Obj.cells (dB n) 168)).alloc (Obj.cells (ab 0 ay) 37))):=by
  have s1:(w.alloc (Obj.cells (dB n) 168)).heap.size=w.heap.size+1:=ak _ _;have B1:=aK (w:=w) (Obj.cells (dB n) 168);have H1:=heap_alloc_new (w.alloc (Obj.cells (dB n) 168)) (Obj.cells (ab 0 ay) 37);rw [s1] at H1;exact ⟨B1.alloc B1.size _,by rw [ak,s1];exact Nat.le_refl _,(bP.new w n).alloc _,H1⟩
 go_enter Tryz.func122,Tryz.ntmps122;go_upto_region 1 with (refine aq rfl rfl ?_;try simp only [ak])
 generalize (w.alloc (Obj.cells (dB n) 168)).alloc (Obj.cells (ab 0 ay) 37)=W at *;go_wp2_with (refine fK rfl (.tmp 1) rfl w.heap.size rfl n HJ0.out.at_ ?_)
 refine (HM.out _).mono ?_;rintro e w1 ⟨rfl,hb1⟩;have HJ1:=He (HJ0.out.below hb1);clear hb1 HJ0;by_cases hm:jC n
 ·have HPK:Hid (fW n=6):=by unfold Hid fW;rw [if_pos hm]
  have HPB:Hid (fp n=dh (cK n)):=by unfold Hid fp;rw [if_pos hm]
  have HD:=He (decide_eq_true hm);rw [HD.out];have htl:=hm.tl;have hp0:=hm.2.1;have hn0:=hm.2.2;have hn32:n.n<4294967296:=by have:=hn.n.2;omega
  have HPL:=He (fH (ys:=cK n) (by rw [jD];omega));have HA:=He no;have HIP:Hid (∀ W:World,Calls Tryz.prog 170 #[jo n.l n.a n.g] W fun e w'=>∃ v,e=.returned v/\w'.ownsRow W.heap.size 5 1 v 7 (Bs (uW n.l n.a n.g))/\Below W.heap.size W w'):=fun W=>by
   have h:=th n.l n.a n.g W hn.l hn.a hn.g
   rwa [wM hm.1.1,qO] at h
  have hpr:0<=n.p/\n.p<18446744073709551616:=Ha;have hnr:0<=n.n/\n.n<18446744073709551616:=Ha;have wp1:IntKind.u64.wrap n.p=n.p:=IntWalk.u64_in _ Ha;have wn1:IntKind.u64.wrap n.n=n.n:=IntWalk.u64_in _ Ha;clear hm;go_upto_region 3 with fail
  generalize hp:w.heap.size=p at *
  go_cut [4] (fun s wx=>wx.ownsRow (p+1+1) 5 1 s 13 (Bs (qM n))/\Ex w p n wx)
  case first =>
   have hJ0:Ex w p n w1.drew:=⟨HJ1.out.bel.drew,HJ1.out.sz,HJ1.out.at_,HJ1.out.res⟩
   refine aw (IC p n) (fun _ W=>Ex w p n W) JV Hc Hc (fun i j v' w' w'' hij hind h hg=>h.on hij (fun hh=>by obtain ⟨rfl,rfl⟩:=hh;exact absurd (hind.symm.trans (show jv _ 12 7=false by kernel_rfl)) Hd) hg) hJ0 ?_;have srefl:∀ (i:Nat) (W:World),JV i W W:=fun i W=>by
    unfold JV;split
    ·exact bR.grown (World.grownBy.refl _ _)
    ·split
     ·exact bR.grown (World.grownBy.refl _ _)
     ·exact World.grownBy.refl _ _
   clear hJ0 HJ1;simp only [bW];refine ⟨?_,?_,?_,?_,?_,?_,?_,?_,?_,?_,?_,?_,?_,?_⟩
   ·refine aa.of rfl fun T W L hag hL hJ hLs hd=>?_;have e1:=Hf hag 1;exact Hi
   ·refine aa.of rfl fun T W L hag hL hJ hLs hd=>?_;have d9:T.getD 9 undef=_:=Hg hd 0 rfl;exact yC (.tmp 9) rfl p d9 n hJ.at_ ⟨_,rfl,rfl,hJ,srefl _ _⟩
   ·refine aa.of rfl fun T W L hag hL hJ hLs hd=>?_;have d10:T.getD 10 undef=_:=Hg hd 1 rfl;clear hag hd;go_simp;refine (HIP.out W).mono ?_;rintro en w' ⟨u,rfl,hf,hb⟩;exact ⟨_,rfl,hf.mono hJ.sz,hJ.below hb,dM hb⟩
   ·refine aa.of rfl fun T W L hag hL hJ hLs hd=>?_;have e1:=Hf hag 1;exact Hi
   ·refine aa.of rfl fun T W L hag hL hJ hLs hd=>?_;have d12:T.getD 12 undef=_:=Hg hd 3 rfl;have fct0:=(show W.cell? ⟨p,4,none⟩=some (.int .i64 n.p) from hJ.at_.cell 4)
    exact Hi
   ·refine aa.of rfl fun T W L hag hL hJ hLs hd=>?_;have d13:T.getD 13 undef=_:=Hg hd 4 rfl;have fct0:=wp1;exact Hi
   ·refine aa.of rfl fun T W L hag hL hJ hLs hd=>?_;have d14:T.getD 14 undef=_:=Hg hd 5 rfl;clear hag hd;go_simp;refine (HA.out n.p 2 W hpr Ha).mono ?_;rintro en w' ⟨u,rfl,hf,hb⟩;exact ⟨_,rfl,hf.mono hJ.sz,hJ.below hb,dM hb⟩
   ·refine aa.of rfl fun T W L hag hL hJ hLs hd=>?_;have x11:W.ownsRow (p+1+1) 5 1 (T.getD 11 undef) 7 (Bs (uW n.l n.a n.g)):=Hg hd 2 rfl;have x15:aC W (p+1+1) (T.getD 15 undef) (be n.p.toNat 2):=Hg hd 6 rfl;obtain ⟨q,(e15:T.getD 15 undef=_),hy⟩:=x15.byt;refine gg W (.tmp 11) (.tmp 15) rfl (p+1+1) _ 7 _ rfl x11 (some ⟨q,0,none⟩) 2 2 (be n.p.toNat 2) e15 hy rfl Ha hJ.sz ?_;intro v' w' h1 h2 h3;have hne:∀ j,(T.getD 11 undef).ownBlock=some j->p+1+1<=j:=fun j e=>(x11.lt j e).1;exact ⟨_,rfl,h1,hJ.grown h2 (fun j e=>by have:=hne j e;omega) (fun e=>by have:=hne p e;omega) (fun e=>by have:=hne (p+1) e;omega),h3⟩
   ·refine aa.of rfl fun T W L hag hL hJ hLs hd=>?_;have e1:=Hf hag 1;exact Hi
   ·refine aa.of rfl fun T W L hag hL hJ hLs hd=>?_;have d17:T.getD 17 undef=_:=Hg hd 8 rfl;have fct0:=(show W.cell? ⟨p,5,none⟩=some (.int .u32 n.n) from hJ.at_.cell 5)
    exact Hi
   ·refine aa.of rfl fun T W L hag hL hJ hLs hd=>?_;have d18:T.getD 18 undef=_:=Hg hd 9 rfl;have fct0:=wn1;exact Hi
   ·refine aa.of rfl fun T W L hag hL hJ hLs hd=>?_;have d19:T.getD 19 undef=_:=Hg hd 10 rfl;clear hag hd;go_simp;refine (HA.out n.n 4 W hnr Ha).mono ?_;rintro en w' ⟨u,rfl,hf,hb⟩;exact ⟨_,rfl,hf.mono hJ.sz,hJ.below hb,dM hb⟩
   ·refine aa.of rfl fun T W L hag hL hJ hLs hd=>?_;have x16:W.ownsRow (p+1+1) 5 1 (T.getD 16 undef) 9 (Bs (uW n.l n.a n.g++be n.p.toNat 2)):=Hg hd 7 rfl;have x20:aC W (p+1+1) (T.getD 20 undef) (be n.n.toNat 4):=Hg hd 11 rfl;obtain ⟨q,(e20:T.getD 20 undef=_),hy⟩:=x20.byt;refine gg W (.tmp 16) (.tmp 20) rfl (p+1+1) _ 9 _ rfl x16 (some ⟨q,0,none⟩) 4 4 (be n.n.toNat 4) e20 hy rfl Ha hJ.sz ?_;intro v' w' h1 h2 h3;have hne:∀ j,(T.getD 16 undef).ownBlock=some j->p+1+1<=j:=fun j e=>(x16.lt j e).1;exact ⟨_,rfl,h1,hJ.grown h2 (fun j e=>by have:=hne j e;omega) (fun e=>by have:=hne p e;omega) (fun e=>by have:=hne (p+1) e;omega),h3⟩
   ·refine bg.of rfl fun T W L hag hLs hL hJ hd=>?_;have x21:W.ownsRow (p+1+1) 5 1 (T.getD 21 undef) 13 (Bs (qM n)):=hd 12 _ Hb rfl;obtain ⟨f,hf,hT⟩:=aH hag;have h21:=hf 21;rw [<- h21] at x21;have HX21:=He x21;clear h21 x21;have HJ:=He hJ;clear hag hd hJ hf;rw [hT];clear hT;simp only [List.pop_toArray,List.dropLast_cons_cons,List.dropLast_singleton,List.filterMap_cons,List.filterMap_nil,List.foldl_cons,List.foldl_nil,List.setIfInBounds_toArray,List.set_cons_succ,List.set_cons_zero];rename_i hJc hKc;go_wp2_with fail
    refine hJc _ _ ?_
    repeat apply Exists.intro
    exact ⟨⟨HX21.out,HJ.out⟩,rfl⟩
  case rest =>
   obtain ⟨own,hJ⟩:=hcut;generalize u4=v6 at *;have HO:=He own;have HJ:=He hJ;clear own hJ HJ1 wp1 wn1 hpr hnr;have hsz:((strOfNums n.t).size:Int)=n.t.length:=by rw [strOfNums_size]
   have wt:IntKind.u8.wrap (n.t.length:Int)=n.t.length:=IntWalk.u8_in _ Ha;go_upto_region 4 with fail
   have hJ0:wQ w p n v6 false false wc.drew:=⟨HJ.out.bel.drew,HJ.out.sz,HJ.out.at_,(fun _=>HO.out),(fun _=>HJ.out.res),(fun e=>by cases e)⟩
   refine aw (GE p n v6) (fun L W=>wQ w p n v6 (L 6) (L 11) W) (JW p n) Hc Hc (fun i j v' w' w'' hij hind h hg=>h.on hij (fun hh=>by obtain ⟨rfl,rfl⟩:=hh;exact absurd (hind.symm.trans (show jv _ 9 6=false by kernel_rfl)) Hd) hg) hJ0 ?_;have srefl:∀ (i:Nat) (W:World),JW p n i W W:=fun i W=>by
    unfold JW;split
    ·exact bR.grown (World.grownBy.refl _ _)
    ·split
     ·exact bR.grown (World.grownBy.refl _ _)
     ·split <;> exact World.grownBy.refl _ _
   clear hJ0 HJ HO;simp only [bW];refine ⟨?_,?_,?_,?_,?_,?_,?_,?_,?_,?_,?_,?_,?_⟩
   ·refine aa.of rfl fun T W L hag hL hJ hLs hd=>?_;have e4:=Hf hag 4;exact Hi
   ·refine aa.of rfl fun T W L hag hL hJ hLs hd=>?_;have e1:=Hf hag 1;exact Hi
   ·refine aa.of rfl fun T W L hag hL hJ hLs hd=>?_;have d23:T.getD 23 undef=_:=Hg hd 1 rfl;have fct0:=(show W.cell? ⟨p,3,none⟩=some (.string (strOfNums n.t)) from hJ.at_.cell 3)
    exact Hi
   ·refine aa.of rfl fun T W L hag hL hJ hLs hd=>?_;have d24:T.getD 24 undef=_:=Hg hd 2 rfl;have fct0:=hsz;exact Hi
   ·refine aa.of rfl fun T W L hag hL hJ hLs hd=>?_;have d25:T.getD 25 undef=_:=Hg hd 3 rfl;have fct0:=wt;exact Hi
   ·refine aa.of rfl fun T W L hag hL hJ hLs hd=>?_;have d26:T.getD 26 undef=_:=Hg hd 4 rfl;simp only [Array.getD_eq_getD_getElem?] at d26;clear hag hd;go_simp;exact ⟨_,rfl,⟨_,_,rfl,hJ.sz,heap_alloc_new _ _,rfl⟩,hJ.alloc _,World.grownBy_alloc W _ _⟩
   ·refine aa.of rfl fun T W L hag hL hJ hLs hd=>?_;have d22:T.getD 22 undef=_:=Hg hd 0 rfl;have x27:aC W (p+1+1) (T.getD 27 undef) [(n.t.length:Int)]:=Hg hd 5 rfl;obtain ⟨q,(e27:T.getD 27 undef=_),hy⟩:=x27.byt;have hrow:=hJ.row hL;refine gg W (.tmp 22) (.tmp 27) rfl (p+1+1) _ 13 _ d22 hrow (some ⟨q,0,none⟩) 1 1 [(n.t.length:Int)] e27 hy rfl Ha hJ.sz ?_;intro v' w' h1 h2 h3;have hne:∀ j,v6.ownBlock=some j->p+1+1<=j:=fun j e=>(hrow.lt j e).1;exact ⟨_,rfl,h1,hJ.push h2 hne,h3⟩
   ·refine aa.of rfl fun T W L hag hL hJ hLs hd=>?_;have e1:=Hf hag 1;exact Hi
   ·refine aa.of rfl fun T W L hag hL hJ hLs hd=>?_;have d29:T.getD 29 undef=_:=Hg hd 7 rfl;have fct0:=(show W.cell? ⟨p,3,none⟩=some (.string (strOfNums n.t)) from hJ.at_.cell 3)
    exact Hi
   ·refine aa.of rfl fun T W L hag hL hJ hLs hd=>?_;have x28:W.ownsRow (p+1+1) 5 1 (T.getD 28 undef) 14 (Bs (qN n)):=Hg hd 6 rfl;have d30:T.getD 30 undef=_:=Hg hd 8 rfl;refine qA W (.tmp 28) (.tmp 30) rfl (p+1+1) _ 14 _ rfl x28 n.t d30 HT.out Ha hJ.sz ?_;intro v' w' h1 h2 h3;have hne:∀ j,(T.getD 28 undef).ownBlock=some j->p+1+1<=j:=fun j e=>(x28.lt j e).1;exact ⟨_,rfl,h1,hJ.push2 h2 hne (hLs ⟨6,.data⟩ Hb rfl),h3⟩
   ·refine aa.of rfl fun T W L hag hL hJ hLs hd=>?_;have x31:W.ownsRow (p+1+1) 5 1 (T.getD 31 undef) (14+n.t.length) (Bs (cK n)):=Hg hd 9 rfl;have hbl:(cK n).length=14+n.t.length:=jD n;obtain ⟨A2,d2,e31,hle2,hd2,hy2⟩:=bN x31 hbl;rw [hbl] at e31;have hBO:=qz 6 A2 (cK n) (14+n.t.length) d2 W hbl Ha hy2;clear hag hd;go_simp;refine hBO.mono ?_;rintro en w' ⟨rfl,hb⟩;exact ⟨_,rfl,rfl,hJ.below hb,dM hb⟩
   ·refine aa.of rfl fun T W L hag hL hJ hLs hd=>?_;have e2:=Hf hag 2;have d32:T.getD 32 undef=_:=Hg hd 10 rfl;clear hag hd;refine s7 (.tmp 2) (.tmp 32) rfl (p+1) e2 6 0 (dh (cK n)) ay d32 HPL.out al (hJ.res0 hL) ?_;exact ⟨undef,rfl,trivial,hJ.stored,cd _ _ _⟩
   ·refine bg.of rfl fun T W L hag hLs hL hJ hd=>?_;obtain ⟨f,hf,hT⟩:=aH hag;have HJ:=He hJ;clear hag hd hJ hf;rw [hT];clear hT;simp only [List.pop_toArray,List.dropLast_cons_cons,List.dropLast_singleton,List.filterMap_cons,List.filterMap_nil,List.foldl_cons,List.foldl_nil,List.setIfInBounds_toArray,List.set_cons_succ,List.set_cons_zero];go_wp2_with fail
    refine bodyPost_ret (aT rfl _ _ (p+1) 6 (dh (cK n)) rfl HPL.out (HJ.out.res1 (hLs 11 Hd))) rfl ?_;exact ⟨by rw [HPK.out,HPB.out,HD.out];rfl,by first | exact HJ.out.bel | (rw [hp];exact HJ.out.bel)⟩
 ·have HPK:Hid (fW n=0):=by unfold Hid fW;rw [if_neg hm]
  have HPB:Hid (fp n=ay):=by unfold Hid fp;rw [if_neg hm]
  have HD:=He (decide_eq_false hm);rw [HD.out];clear hm;go_wp2_with (first
   | (refine bJ rfl rfl ?_)
   | (refine ap rfl (.tmp 2) (.tmp 8) rfl (w.heap.size+1) rfl 0 0 ay ay rfl al al HJ1.out.res ?_))
  refine bodyPost_ret (aT rfl _ _ (w.heap.size+1) 0 ay rfl al (am HJ1.out.res)) rfl ?_;exact ⟨by rw [HPK.out,HPB.out,HD.out];rfl,below_setRow HJ1.out.bel Ha _⟩
end Go.Proofs.YtegjelaejbacnaaGreat
