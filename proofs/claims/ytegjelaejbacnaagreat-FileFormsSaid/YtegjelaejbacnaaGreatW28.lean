/- For FileForms: contracts and facts, part 28. -/
import Derived.Lib.SlBytesConst
import Derived.Test.YtegjelaejbacnaaGreatW26
import Derived.Test.YtegjelaejbacnaaGreatW27
set_option maxRecDepth 100000
set_option maxHeartbeats 25600000
set_option linter.unusedSimpArgs false
set_option linter.unusedVariables false
open Go.ChangeShapes Go.WideShapes Go.ChangeAt Go.RowKit
namespace Go.Proofs.YtegjelaejbacnaaGreat
theorem Gg (n:Nat):(madeCells (Value.agg (ab 0 ay)).cells (n*57)).toList=bksL (List.replicate n zB):=by
 have hc:(Value.agg (ab 0 ay)).cells=ab 0 ay:=rfl;have hok:dF (List.replicate n zB):=fun x hx=>by rw [List.eq_of_mem_replicate hx];exact wS
 rw [hc];unfold madeCells;apply List.ext_getElem?;intro j;by_cases hj:j<n*57
 ·have hm:j%57<57:=Nat.mod_lt _ Ha;have hd:j/57<n:=Ha;obtain ⟨v,hv⟩:∃ v,(blkL 0 ay)[j%57]?=some v:=⟨_,List.getElem?_eq_getElem (by rw [aZ al];exact hm)⟩
  have h1:=po hok (i:=j/57) (x:=zB) (by rw [List.getElem?_replicate,if_pos hd]) hv;rw [show j/57*57+j%57=j by omega] at h1;rw [h1];have h2:(ab 0 ay)[j%57]?=some v:=by unfold ab;simpa using hv
  have h3:(ab 0 ay).size=57:=aN al;simp only [Array.getElem?_toList,Array.getElem?_map,Array.getElem?_range,hj,if_true,Option.map_some,h3];rw [getElem!_def,h2]
 ·have e:(bksL (List.replicate n zB)).length=n*57:=by rw [fY,dE (iQ hok),List.length_replicate]
  rw [List.getElem?_eq_none (by simp;omega),List.getElem?_eq_none (by rw [e];omega)]
theorem xw (w:World):Calls Tryz.prog 39 #[] w fun e w'=>e=.returned (jo (-1) 0 0)/\Below w.heap.size w w':=by
 go_enter Tryz.func39,Tryz.ntmps39;have h0:=bc.new w 0 0 0;have HB:=He (below_setRow (aK (w:=w) (.cells #[.int .i64 0,.int .i64 0,.int .u32 0] 82)) (Nat.le_refl _) (jc (-1) 0 0));go_wp2_with (first | (refine aI rfl (.tmp 0) (.tmp 1) rfl w.heap.size rfl (-1) 0 0 rfl 0 0 0 h0 ?_))
 refine bodyPost_ret (mE rfl _ _ w.heap.size (-1) 0 0 rfl (h0.set (-1) 0 0)) rfl ?_;exact ⟨rfl,HB.out⟩
def ry (n:Nat):List Bk:=(List.replicate n zB).set 0 ⟨7,ay.set 3 1⟩
theorem Gh (n:Nat):dF (ry n):=fun x hx=>by
 rcases List.mem_or_eq_of_mem_set hx with h | h
 ·rw [List.eq_of_mem_replicate h];exact wS
 ·subst h;exact ⟨by show (0:Int)<=7/\(7:Int)<=7;omega,by show (ay.set 3 1).length=56;rw [List.length_set];exact al,fun y hy=>by
   rcases List.mem_or_eq_of_mem_set hy with h | h
   ·exact dN y h
   ·subst h;exact ⟨Ha,Ha⟩⟩
theorem Ev (n:Nat):(ry n).length=n:=by unfold ry;rw [List.length_set,List.length_replicate]
theorem tK {n i:Nat} {x:Bk} (h:(ry n)[i]?=some x):x.k=0\/x.k=7:=by
 rcases List.mem_or_eq_of_mem_set (List.mem_of_getElem? h) with h | h
 ·rw [List.eq_of_mem_replicate h];exact .inl rfl
 ·subst h;exact .inr rfl
theorem xx {n:Nat} (h:2<=n) (h2:n<=200):DT (ry n) d0:=by
 have h0:(ry n)[0]?=some ⟨7,ay.set 3 1⟩:=by unfold ry;rw [List.getElem?_set_self (by rw [List.length_replicate];omega)]
 have hb:iD (ry n) 0=⟨7,ay.set 3 1⟩:=kl (i:=0) h0;refine ⟨Gh n,by rw [Ev];exact ⟨h,h2⟩,by rw [hb],?_,fun i x hx hk=>?_,fun i x hx hk=>?_⟩
 ·unfold nextM;rw [hb];decide
 ·rcases tK hx with e | e <;> rw [e] at hk <;> unfold it at hk <;> omega
 ·rcases tK hx with e | e <;> rw [e] at hk <;> omega
theorem cj.kindS {w:World} {B g n cap:Nat} {l:List Bk} (h:cj w B g n cap l) {i:Nat} {x:Bk} (hi:l[i]?=some x) {v:Int} (hv:0<=v/\v<=7):cj (w.setCell ⟨g,i*57,none⟩ (.int .i64 v)) B g n cap (l.set i ⟨v,x.bs⟩):=by
 have hx:=h.ok x (List.mem_of_getElem? hi);have hin:i<n:=by rw [<- h.len];exact (List.getElem?_eq_some_iff.1 hi).1
 have hmul:(i+1)*57<=n*57:=Nat.mul_le_mul_right _ hin;refine ⟨?_,by rw [List.length_set];exact h.len,fun y hy=>?_⟩
 ·have:=ml h.own (k:=i*57) Ha (.int .i64 v)
  rwa [fY,show i*57=i*57+0 by omega,m8 (iQ h.ok) (y:=⟨v,x.bs⟩) hi Ha (by show blkL v x.bs=(blkL x.k x.bs).set 0 (.int .i64 v);rfl),<- fY] at this
 ·rcases List.mem_or_eq_of_mem_set hy with hy | rfl
  ·exact h.ok y hy
  ·exact ⟨hv,hx.len,hx.b⟩
structure NS (w:World) (s g n:Nat) (pl:Int) (a:Bool) (W:World):Prop where
 box:W.heap[s]?=some (.cells #[.int .i64 pl,.slice (some ⟨g,0,none⟩) n n] 58 (0,0))
 row:cj W w.heap.size g n n ((List.replicate n zB).set 0 ⟨if a=true then 7 else 0,ay⟩)
 bel:Below w.heap.size w W
theorem Ka {n:Nat} (h:0<n):(List.replicate n zB).set 0 ⟨if false=true then 7 else 0,ay⟩=List.replicate n zB:=by
 cases n with
 | zero=>omega
 | succ n=>rfl
theorem Gi {n:Nat} (h:0<n) (y:Bk):((List.replicate n zB).set 0 y)[0]?=some y:=by rw [List.getElem?_set_self (by rw [List.length_replicate];exact h)]
def KZ (s g n:Nat) (i:Nat) (v:Value) (W:World):Prop :=
 match i with
 | 0 | 1 | 4 | 5=>v=.pointer (some ⟨s,0,none⟩)
 | 2 | 6=>v=.pointer (some ⟨s,1,none⟩)
 | 3 | 7=>v=.slice (some ⟨g,0,none⟩) n n
 | 8 | 9 | 11=>v=.pointer (some ⟨g,0,none⟩)
 | 12=>v=.pointer (some ⟨g,1,none⟩)
 | 13=>v=.pointer (some ⟨g,4,none⟩)
 | _=>True
theorem rz (pl:Int) (n:Nat) (w:World) (h2:2<=n) (h200:n<=200) :
 Calls Tryz.prog 37 #[.int .i64 pl,.int .i64 n] w fun e w'=>∃ s g,e=.returned (.pointer (some ⟨s,0,none⟩))/\kW w' w.heap.size s g n n pl (ry n)/\Below w.heap.size w w':=by
 go_enter Tryz.func37,Tryz.ntmps37;obtain ⟨i0,hi,hz0,hz1,hz2⟩:=info_parts xJ;have hmk:=run_make (P:=Tryz.prog) w 23 37 i0 _ Tryz.underlying23 hi hz0 .i64 .i64 (n:Int) (n:Int) Ha Ha (by rw [hz2];omega) Ha;generalize hC:madeCells (Value.agg (ab 0 ay)).cells ((n:Int).toNat*i0.size)=C0 at hmk;have HC:Hid (C0.toList=bksL (List.replicate n zB)):=by
  rw [<- hC,hz1,Int.toNat_natCast];exact Gg n
 clear hC hi hz0 hz1 hz2;go_upto_region 2 with fail
 obtain ⟨g,hg⟩:∃ g,g=w.heap.size:=⟨_,rfl⟩
 obtain ⟨s,hs⟩:∃ s,s=w.heap.size+1:=⟨_,rfl⟩
 have hcs:C0.size=n*57:=by
  have:=congrArg List.length HC.out;rw [Array.length_toList,fY,dE (iQ (fun x hx=>by rw [List.eq_of_mem_replicate hx];exact wS)),List.length_replicate] at this;exact this
 have HR1:Hid (cj (w.alloc (Obj.cells C0 37)) w.heap.size g n n (List.replicate n zB)):=by
  refine ⟨?_,List.length_replicate,fun x hx=>by rw [List.eq_of_mem_replicate hx];exact wS⟩;rw [hg];have:=World.ownsRow_lit (base:=w.heap.size) (e:=37) (size:=57) w C0 n (Nat.le_refl _) (by simp only [maxLen];omega) hcs
  rwa [HC.out] at this
 have HB1:=He (aK (w:=w) (Obj.cells C0 37));have hsz:(w.alloc (Obj.cells C0 37)).heap.size=s:=by rw [hs];simp
 have HSG:Hid (s≠g/\w.heap.size<=s):=⟨Ha,Ha⟩
 rw [<- hg];generalize w.alloc (Obj.cells C0 37)=w1 at *;have hsg':g+1=s:=Ha;rw [hsg'];have hbx:=heap_alloc_new w1 (.cells #[.int .i64 pl,.slice (some ⟨g,0,none⟩) n n] 58);rw [hsz] at hbx;have HBX:=He hbx;have HR2:=He (HR1.out.below (aK (.cells #[.int .i64 pl,.slice (some ⟨g,0,none⟩) n n] 58)));have HB2:=He (HB1.out.alloc HB1.out.size (.cells #[.int .i64 pl,.slice (some ⟨g,0,none⟩) n n] 58));have hJ0:NS w s g n pl false (w1.alloc (.cells #[.int .i64 pl,.slice (some ⟨g,0,none⟩) n n] 58)).drew:=⟨HBX.out,by rw [Ka Ha];exact HR2.out.below (Below.refl _ _).drew,HB2.out.drew⟩
 clear hbx HBX HR1 HR2 HB1 HB2 hsz hg hs hcs HC;have srefl:∀ (W:World),W.grownBy W (some g):=fun W=>World.grownBy.refl _ _;have hn0:(0:Int)<n:=Ha;have hn1:0<n:=Ha;clear hsg';have hnd:decide (n<=0)=false:=decide_eq_false Ha;refine aw (KZ s g n) (fun L W=>NS w s g n pl (L 10) W) (fun _ w w'=>w.grownBy w' (some g)) Hc Hc (fun i j v w w' _ _ h hs=>by unfold KZ at *;exact h) hJ0 ?_;clear hJ0;simp only [bW];refine ⟨?_,?_,?_,?_,?_,?_,?_,?_,?_,?_,?_,?_,?_,?_,?_⟩
 ·refine aa.of rfl fun T W L hag hL hJ hLs hd=>?_;have e5:=Hf hag 5;exact Hi
 ·refine aa.of rfl fun T W L hag hL hJ hLs hd=>?_;have d11:T.getD 11 undef=_:=Hg hd 0 rfl;exact Hi
 ·refine aa.of rfl fun T W L hag hL hJ hLs hd=>?_;have d12:T.getD 12 undef=_:=Hg hd 1 rfl;exact Hi
 ·refine aa.of rfl fun T W L hag hL hJ hLs hd=>?_;have d13:T.getD 13 undef=_:=Hg hd 2 rfl;have fct0:=(af hJ.box 1).trans rfl;exact Hi
 ·refine aa.of rfl fun T W L hag hL hJ hLs hd=>?_;have e5:=Hf hag 5;exact Hi
 ·refine aa.of rfl fun T W L hag hL hJ hLs hd=>?_;have d15:T.getD 15 undef=_:=Hg hd 4 rfl;exact Hi
 ·refine aa.of rfl fun T W L hag hL hJ hLs hd=>?_;have d16:T.getD 16 undef=_:=Hg hd 5 rfl;exact Hi
 ·refine aa.of rfl fun T W L hag hL hJ hLs hd=>?_;have d17:T.getD 17 undef=_:=Hg hd 6 rfl;have fct0:=(af hJ.box 1).trans rfl;exact Hi
 ·refine aa.of rfl fun T W L hag hL hJ hLs hd=>?_;have d14:T.getD 14 undef=_:=Hg hd 3 rfl;exact Hi
 ·refine aa.of rfl fun T W L hag hL hJ hLs hd=>?_;have d19:T.getD 19 undef=_:=Hg hd 8 rfl;exact Hi
 ·refine aa.of rfl fun T W L hag hL hJ hLs hd=>?_;have d20:T.getD 20 undef=_:=Hg hd 9 rfl;have hL10:L 10=false:=hL;have hJ':NS w s g n pl false W:=by have h:=hJ;simp only [hL10] at h;exact h
  have hc:=hJ'.row.bks.kind (Gi Ha _);have hfz:=hJ'.row.free 0;have hr:=hJ'.row.kindS (Gi Ha _) (v:=7) Ha;have hg:=br W g 0 (.int .i64 7);rw [Nat.zero_mul] at hc hr;clear hag hd hJ;go_simp;rw [List.set_set] at hr;refine ⟨trivial,?_⟩;exact ⟨by rw [heap_setCell_other _ _ _ _ (fun e=>HSG.out.1 (by rw [e]))];exact hJ'.box,hr,hJ'.bel.grown hg hJ'.bel.size (fun k e=>by injection e with e;subst e;exact hJ'.row.lt.1)⟩
 ·refine aa.of rfl fun T W L hag hL hJ hLs hd=>?_;have d18:T.getD 18 undef=_:=Hg hd 7 rfl;exact Hi
 ·refine aa.of rfl fun T W L hag hL hJ hLs hd=>?_;have d21:T.getD 21 undef=_:=Hg hd 11 rfl;exact Hi
 ·refine aa.of rfl fun T W L hag hL hJ hLs hd=>?_;have d22:T.getD 22 undef=_:=Hg hd 12 rfl;exact Hi
 ·refine bg.of rfl fun T W L hag hLs hL hJ hd=>?_;have d23:T.getD 23 undef=_:=hd 13 _ Hb rfl;obtain ⟨f,hf,hT⟩:=aH hag;have h23:=(hf 23).trans d23;have HJ:=He hJ;clear hag hd d23 hJ hf;rw [hT];clear hT;simp only [List.pop_toArray,List.dropLast_cons_cons,List.dropLast_singleton,List.filterMap_cons,List.filterMap_nil,List.foldl_cons,List.foldl_nil,List.setIfInBounds_toArray,List.set_cons_succ,List.set_cons_zero,h23];have hJ2:=HJ.out;clear HJ;have hL10':L 10=true:=hLs 10 Hd;have hc:W.cell? ⟨g,4,none⟩=some (.int .u8 0):=by have:=hJ2.row.bks.at_ (Gi Ha _) 4 (.int .u8 0) rfl;simpa using this
  have hfz:=hJ2.row.free 4;have hr0:=hJ2.row.byte (Gi Ha _) (j:=3) Ha (v:=1) Ha;rw [List.set_set] at hr0;have HR3:Hid (cj (W.setCell ⟨g,4,none⟩ (.int .u8 1)) w.heap.size g n n (ry n)):=by have h:=hr0;rw [hL10'] at h;exact h
  clear hr0;have hg:=He (br W g 4 (.int .u8 1));have HJ3:=He hJ2;clear hJ2;go_wp2_with fail
  go_ret;exact ⟨s,g,rfl,⟨by rw [heap_setCell_other _ _ _ _ (fun e=>HSG.out.1 (by rw [e]))];exact HJ3.out.box,HR3.out,HSG.out.1,HSG.out.2⟩,HJ3.out.bel.grown hg.out HJ3.out.bel.size (fun k e=>by injection e with e;subst e;exact HJ3.out.row.lt.1)⟩
def zf (n:Nat):List Bk × nA × Int:=DQ 0 (ry n) ⟨-1,0,0⟩ [97] 1 []
def fB (n:Nat):List Bk:=(zf n).1
def nF:Nd:=oW 1 []
theorem IV:(zf 20).2=(⟨0,1,1⟩,0):=Hc
def Cn:BN:=⟨fB 20,20⟩
def Lg:km:=⟨[],List.replicate 20 false,nF,List.replicate 16 (-1)⟩
def Kp:Bool × Nat × km:=GM Cn [97,98] (iO 2 2) 0 Lg
def Jf:List Wr:=(Cv Cn 1 2 Kp).2.2
theorem Gj:Jf.length=2:=Hc
def x20:Bk:=gB (Cn.N Jf) 1
def Jg:Nd:=bj x20.k x20.bs
def Kq:List Int:=ixOf (gB (Cn.N Jf) Jg.x)
theorem GS:dk x20:=by unfold dk;exact of_decide_eq_true Hc
theorem Lh:Ch Cn Jf Jg Kq (iO 0 (min 9 (Jg.s-0)))=[0,0,97,98]:=Hc
def K0:km:=KG Cn 3 ⟨Jf,Kp.2.2.T,Jg,Kq⟩
def Kr:List Wr:=KF Cn 1 3 K0
def Ks:Bk:=gB (Cn.N Kr) 1
def Kt:Nd:=bj Ks.k Ks.bs
def K1:List Int:=ixOf (gB (Cn.N Kr) Kt.x)
theorem Kb:dk Ks:=by unfold dk;exact of_decide_eq_true Hc
theorem Li:Ch Cn Kr Kt K1 (iO 0 (min 9 (Kt.s-0)))=[0,0,97]:=Hc
theorem Kc:¬ dk (gB (Cn.N Kr) 0):=by unfold dk;exact of_decide_eq_false Hc
section
variable {C:TC} {W:World} {pv:Value} {P:List Wr} {T:List Bool}
theorem KT.h0 (h:C.K W pv P T):C.w0.heap.size<=W.heap.size:=h.tv.bel.size
theorem nM {B:BN} (h:C.bn=B) (P:List Wr):C.N P=B.N P:=by unfold TC.N;rw [h]
theorem Kd {B:BN} (h:C.bn=B):C.n=B.n:=by rw [<- h]
theorem IW {B:BN} (hk:C.K W pv P T) (hbn:C.bn=B) (t:Int) (ht:i64 t) (o:Nat) (ho:o<1120) (x:Bk) (hx:x=gB (B.N P) t) (nd:Nd) (hnd:nd=bj x.k x.bs) (ix:List Int) (hix:ix=ixOf (gB (B.N P) nd.x)) (hf:dk x) (g1:0<B.n) (g200:B.n<=200) (hfew:P.length<=100) (g b:Nat) (d:List Int) (m c:Nat) (hm:d.length=m) (hm0:0<m) (hmc:m<=c) (hc:c<=9223372036854775807) (hB:ax d) (hy:dD W (some ⟨g,b,none⟩) d) {Z:Array Value} {fr:Nat × Nat} (hg:W.heap[g]?=some (.cells Z 5 fr)) (R:Bool × Nat × km) (hR:R=GM B (d.take (mostN o)) (iO o (min m (mostN o):Nat)) 0 ⟨P,T,nd,ix⟩) :
 Calls Tryz.prog 34 #[.pointer (some ⟨C.tb,0,none⟩),.int .i64 t,.int .i64 (o:Int),.slice (some ⟨g,b,none⟩) m c] W fun e w'=>e=.returned (.tuple #[.int .i64 (Cv B t o R).1,.int .i64 (Cv B t o R).2.1])/\∃ pv',C.K w' pv' (Cv B t o R).2.2 R.2.2.T/\dj C W pv.ownBlock w' pv'.ownBlock:=by
 obtain ⟨n1,n2,n3⟩:=hk.typ hg Hd Hd Hd;have h:=zd hk hk.h0 t o ht ho x (by rw [nM hbn];exact hx) nd hnd ix (by rw [nM hbn];exact hix) hf (by rw [Kd hbn];exact g1) (by rw [Kd hbn];exact g200) hfew ⟨g,b,none⟩ d m c hm hm0 hmc hc hB hy (ai hg) n1 n2 n3 R (by rw [hbn];exact hR);rw [hbn] at h;exact h
theorem Gk {B:BN} (hk:C.K W pv P T) (hbn:C.bn=B) (t off n:Int) (ht:i64 t) (ho:i64 off) (hn:i64 n) (x:Bk) (hx:x=gB (B.N P) t) (nd:Nd) (hnd:nd=bj x.k x.bs) (ix:List Int) (hix:ix=ixOf (gB (B.N P) nd.x)) (hf:dk x) (h1:0<=off) (h2:0<=n) (ho':off<=9223372036854775807) (l:List Int) (hl:l=Ch B P nd ix (iO off (min n (nd.s-off)))) :
 Calls Tryz.prog 31 #[.pointer (some ⟨C.tb,0,none⟩),.int .i64 t,.int .i64 off,.int .i64 n] W fun e w'=>∃ v,e=.returned (.tuple #[v,.int .i64 0])/\w'.ownsRow W.heap.size 5 1 v l.length (Bs l)/\C.K w' pv P T/\dj C W pv.ownBlock w' pv.ownBlock:=by
 have h:=Ci hk hk.h0 t off n ht ho hn x (by rw [nM hbn];exact hx) nd hnd ix (by rw [nM hbn];exact hix) hf h1 h2 ho';rw [hbn,<- hl] at h;exact h
theorem KH {B:BN} (hk:C.K W pv P T) (hbn:C.bn=B) (t:Int) (z:Nat) (ht:i64 t) (hz:z<=1120) (x:Bk) (hx:x=gB (B.N P) t) (nd:Nd) (hnd:nd=bj x.k x.bs) (ix:List Int) (hix:ix=ixOf (gB (B.N P) nd.x)) (hf:dk x) (hfew:P.length<=100) (R:km) (hR:R=KG B z ⟨P,T,nd,ix⟩) :
 Calls Tryz.prog 30 #[.pointer (some ⟨C.tb,0,none⟩),.int .i64 t,.int .i64 (z:Int)] W fun e w'=>e=.returned (.int .i64 0)/\∃ pv',C.K w' pv' (KF B t z R) R.T/\dj C W pv.ownBlock w' pv'.ownBlock:=by
 have h:=Ga hk hk.h0 t z ht hz x (by rw [nM hbn];exact hx) nd hnd ix (by rw [nM hbn];exact hix) hf hfew R (by rw [hbn];exact hR);rw [hbn] at h;exact h
end
theorem tL {C:TC} {W W':World} {pv:Value} {P:List Wr} {T:List Bool} (hk:C.K W pv P T) {o:Option Nat} (hs:dj C W pv.ownBlock W' o) {B n:Nat} {v:Value} {xs:List Value} (h:W.ownsRow B 5 1 v n xs):W'.ownsRow B 5 1 v n xs:=fy h fun k hk2=>by
 obtain ⟨Z,hZ⟩:=db h hk2;obtain ⟨n1,n2,n3⟩:=hk.typ hZ Hd Hd Hd;exact hs.fr k (ai hZ) n1 n2 n3
theorem Ke:dk (jE 1 nF):=by unfold dk;exact of_decide_eq_true Hc
theorem KI:Cv Cn 1 2 Kp=(2,0,Jf):=by
 refine Prod.ext Hc (Prod.ext Hc rfl)
theorem xy (w:World):Calls Tryz.prog 28 #[] w fun e w'=>e=.returned (.bool true)/\Below w.heap.size w w':=by
 have HN:=He (rz 0 20 w Ha Ha);have HRT:=He xw;go_enter Tryz.func28,Tryz.ntmps28;go_wp2_with fail
 refine HN.out.mono ?_;rintro e w1 ⟨s,g,rfl,hs,hb1⟩;have HS:=He hs;have HB1:=He hb1;clear hs hb1 HN;go_wp2_with fail
 refine (HRT.out w1).mono ?_;rintro e w2 ⟨rfl,hb2⟩;have HS2:=He (HS.out.below hb2);have HB2:=He (HB1.out.trans (hb2.mono HB1.out.size));have hnw:=rx HS2.out Ha (by constructor <;> omega) (xx Ha Ha) ⟨-1,0,0⟩ ⟨by constructor <;> decide,by constructor <;> decide,by constructor <;> decide⟩ [97] (fun x hx=>by simp at hx;omega) Hd 1 (by constructor <;> omega) [] (fun x hx=>by cases hx) Hd;change Calls Tryz.prog _ #[_,_,.string ⟨#[97]⟩,_,.string ⟨#[]⟩] _ (fun e w'=>∃ g' cap',e=.returned (.tuple #[(zf 20).2.1.v,.int .i64 (zf 20).2.2])/\kW w' _ s g' 20 cap' 0 (fB 20)/\_) at hnw;rw [IV] at hnw;change Calls Tryz.prog _ _ _ (fun e w'=>∃ g' cap',e=.returned (.tuple #[.agg (jc 0 1 1),.int .i64 0])/\_) at hnw;have HNW:=He hnw;clear hnw hb2;go_wp2_with fail
 refine HNW.out.mono ?_;rintro e w3 ⟨g',cap',rfl,hs,hg⟩;have HS3:=He hs;have HB3:=He (HB2.out.grown hg HB2.out.size (fun k e=>by injection e with e;subst e;exact HS.out.sB));clear hs hg HNW HS HS2 HB1;have h2:=heap_alloc_new w3 (Obj.cells #[.int .i64 0,.int .i64 0,.int .u32 0] 82);have hb4:Below w3.heap.size w3 ((w3.alloc (Obj.cells #[.int .i64 0,.int .i64 0,.int .u32 0] 82)).setRow w3.heap.size (jc 0 1 1)):=below_setRow (aK (w:=w3) (Obj.cells #[.int .i64 0,.int .i64 0,.int .u32 0] 82)) (Nat.le_refl _) _;have HI:=He (am (D:=jc 0 1 1) h2);have HS4:=He (HS3.out.below hb4);have HB4:=He (HB3.out.trans (hb4.mono HB3.out.size));clear hb4 HS3 HB3;go_upto_region 3 with (first | (refine aI rfl (.tmp 2) (.tmp 22) rfl w3.heap.size rfl 0 1 1 rfl 0 0 0 h2 ?_))
 clear h2;generalize (w3.alloc (Obj.cells #[.int .i64 0,.int .i64 0,.int .u32 0] 82)).setRow w3.heap.size (jc 0 1 1)=w4 at *;generalize w3.heap.size=p2 at *;have hc2:∀ W,Below w4.heap.size w4 W->W.cell? ⟨p2,1,none⟩=some (.int .i64 1):=fun W hb=>(af (Go.Proofs.YtegjelaejbacnaaGreat.kb hb HI.out) 1).trans rfl;have c1:=HS4.out.c1;have HF:=He (rj HS4.out.row Ha Ha);have HC2:=He hc2;clear hc2 HS4;go_wp2_with fail
 refine HF.out.mono ?_;rintro e w5 ⟨q,hp,rfl,F,rb,m,v,htv,hst⟩;have HTX:=He (htv.new_tx Ha);have HST:=He hst;clear htv hst HF c1;go_wp2_with fail
 refine HTX.out.mono ?_;rintro e w6 ⟨tb,rfl,⟨kb,hkt⟩,_⟩;obtain ⟨C,hC⟩:∃ C:TC,C=⟨w4,F,q,hp,rb,20,20,m,v,tb,kb⟩:=⟨_,rfl⟩
 have hk:C.K w6 (.slice none 0 0) [] (List.replicate 20 false):=by rw [hC];exact hkt
 have hbn:C.bn=Cn:=by rw [hC];show (⟨kf v,20⟩:BN)=_;rw [HST.out];rfl
 have hw0:C.w0=w4:=by rw [hC]
 have htb:tb=C.tb:=by rw [hC]
 have HBN:=He hbn;have HW0:=He hw0;have HK:=He hk;clear hkt HTX hC hk hbn hw0;subst htb;have hc21:=HC2.out w6 (by rw [<- HW0.out];exact HK.out.tv.bel);have cv7:=Lib.run_convert_bytes_const (P:=Tryz.prog) w6 22 5 #[.int .u8 97,.int .u8 98] 2 2 Tryz.underlying22 Tryz.underlying5;have hbn7:=aK (w:=w6) (.cells #[.int .u8 97,.int .u8 98] 5 (2,3));have hX7:=heap_alloc_new w6 (.cells #[.int .u8 97,.int .u8 98] 5 (2,3));have hW:=IW (HK.out.below hbn7) HBN.out 1 (by constructor <;> omega) 2 Ha (jE 1 nF) Hc nF Hc (List.replicate 16 (-1)) Hc Ke Hd Hd Hd w6.heap.size 0 [97,98] 2 2 rfl Ha Ha Ha (fun x hx=>by simp at hx;omega) (dS hX7 rfl) hX7 Kp Hc;rw [KI] at hW;have HW:=He hW;clear hbn7 hX7 hW HK;go_wp2_with fail
 clear cv7;refine HW.out.mono ?_;rintro e w7 ⟨rfl,pv7,hk7,_⟩;have hc21:=HC2.out w7 (by rw [<- HW0.out];exact hk7.tv.bel);have HR:=He (Gk hk7 HBN.out 1 0 9 (by constructor <;> omega) (by constructor <;> omega) (by constructor <;> omega) x20 rfl Jg rfl Kq rfl GS Ha Ha Ha _ Lh.symm);clear hk7 HW;go_wp2_with fail
 refine HR.out.mono ?_;rintro e w8 ⟨v8,rfl,ho8,hk8,_⟩;obtain ⟨A8,c8,rfl⟩:=rp ho8;have hc21:=HC2.out w8 (by rw [<- HW0.out];exact hk8.tv.bel);have HO8:=He ho8;have HK8:=He hk8;have HT:=He (KH hk8 HBN.out 1 3 (by constructor <;> omega) Ha x20 rfl Jg rfl Kq rfl GS (by rw [Gj];omega) K0 rfl);clear ho8 hk8 HR;go_wp2_with fail
 refine HT.out.mono ?_;rintro e w9 ⟨rfl,pv9,hk9,hs9⟩;have HO9:=He (tL HK8.out hs9 HO8.out);have hc21:=HC2.out w9 (by rw [<- HW0.out];exact hk9.tv.bel);have HK9:=He hk9;have HR:=He (Gk hk9 HBN.out 1 0 9 (by constructor <;> omega) (by constructor <;> omega) (by constructor <;> omega) Ks rfl Kt rfl K1 rfl Kb Ha Ha Ha _ Li.symm);clear hk9 hs9 HT HO8 HK8;go_wp2_with fail
 refine HR.out.mono ?_;rintro e w10 ⟨v10,rfl,ho10,hk10,hs10⟩;obtain ⟨A10,c10,rfl⟩:=rp ho10;have HO10:=He (tL HK9.out hs10 HO9.out);have HP10:=He ho10;have HK10:=He hk10;have HN0:=He (El hk10 hk10.h0 0 0 1 (by constructor <;> omega) (by constructor <;> omega) (by constructor <;> omega) _ rfl _ rfl _ rfl (by rw [nM HBN.out];exact Kc));clear ho10 hk10 hs10 HR HO9 HK9;go_wp2_with fail
 refine HN0.out.mono ?_;rintro e w11 ⟨rfl,hb11⟩;obtain ⟨A,d,e1,_,_,hy8⟩:=bN (hU HO10.out hb11) rfl;injection e1 with e1 _ e3;subst e1 e3
 obtain ⟨A,d,e1,_,_,hy10⟩:=bN (hU HP10.out hb11) rfl;injection e1 with e1 _ e3;subst e1 e3
 have HB11:Hid (Below w.heap.size w w11):=HB4.out.trans ((by have:=(HK10.out.tv.below hb11).bel;rw [HW0.out] at this;exact this:Below w4.heap.size w4 w11).mono HB4.out.size);have cv1:(convert 22 9 (.slice A8 4 c8)).run Tryz.prog w11=.ok (.string ⟨#[0,0,97,98]⟩) w11:=dY hy8 rfl;have cv2:(convert 22 9 (.slice A10 3 c10)).run Tryz.prog w11=.ok (.string ⟨#[0,0,97]⟩) w11:=dY hy10 rfl;clear hb11 hy8 hy10 HN0;go_wp2_with fail
 go_ret;exact ⟨rfl,HB11.out⟩
theorem IX:(zf 60).2=(⟨0,1,1⟩,0):=Hc
def Co:BN:=⟨fB 60,60⟩
def Lj:km:=⟨[],List.replicate 60 false,nF,List.replicate 16 (-1)⟩
def xz:List Int:=List.replicate 400 0
def Kf:Bool × Nat × km:=GM Co (xz.take (mostN 10)) (iO 10 (min 400 (mostN 10):Nat)) 0 Lj
def Jh:List Wr:=(Cv Co 1 10 Kf).2.2
theorem KK:Cv Co 1 10 Kf=(214,0,Jh):=Prod.ext Hc (Prod.ext Hc rfl)
theorem Gl:Jh.length=5:=Hc
def Ku:Bk:=gB (Co.N Jh) 1
def KL:Nd:=bj Ku.k Ku.bs
def K2:List Int:=ixOf (gB (Co.N Jh) KL.x)
theorem Kg:dk Ku:=by unfold dk;exact of_decide_eq_true Hc
def Kv:Bool × Nat × km:=GM Co (xz.take (mostN 1100)) (iO 1100 (min 400 (mostN 1100):Nat)) 0 ⟨Jh,Kf.2.2.T,KL,K2⟩
def Ji:List Wr:=(Cv Co 1 1100 Kv).2.2
theorem KM:Cv Co 1 1100 Kv=(20,0,Ji):=Prod.ext Hc (Prod.ext Hc rfl)
def Cw:Bk:=gB (Co.N Ji) 1
def IY:Nd:=bj Cw.k Cw.bs
def Kw:List Int:=ixOf (gB (Co.N Ji) IY.x)
theorem nN:dk Cw:=by unfold dk;exact of_decide_eq_true Hc
theorem KN:Ch Co Ji IY Kw (iO 1119 (min 99 (IY.s-1119)))=[0]:=Hc
theorem KO:Ch Co Ji IY Kw (iO 1120 (min 99 (IY.s-1120)))=[]:=Hc
def As (w w':World):Prop:=∀ (k:Nat) (Z:Array Value) (fr:Nat × Nat),w.heap[k]?=some (Obj.cells Z 5 fr)->w'.heap[k]?=some (Obj.cells Z 5 fr)
def JF (C:TC) (w0:World) (P:List Wr) (T:List Bool) (L4:Bool) (W:World):Prop:=(L4=false->Below w0.heap.size w0 W)/\(L4=true->∃ pv',C.K W pv' P T)
theorem JF.below {C:TC} {w0 W W':World} {P:List Wr} {T:List Bool} {b:Bool} (h:JF C w0 P T b W) (hb:Below W.heap.size W W'):JF C w0 P T b W' :=
 ⟨fun e=>(h.1 e).trans (hb.mono (h.1 e).size),fun e=>let ⟨pv',hk⟩:=h.2 e;⟨pv',hk.below hb⟩⟩
theorem rA (w:World):Calls Tryz.prog 9 #[] w fun e w'=>e=.returned (.bool true)/\Below w.heap.size w w':=by
 have HBG:=He (xy w);have HRT:=He xw;go_enter Tryz.func9,Tryz.ntmps9;go_wp2_with fail
 refine HBG.out.mono ?_;rintro e wb ⟨rfl,hbb⟩;have HBb:=He hbb;clear hbb HBG;have HN:=He (rz 0 60 wb Ha Ha);go_wp2_with fail
 refine HN.out.mono ?_;rintro e w1 ⟨s,g,rfl,hs,hb1⟩;have HS:=He hs;have HB1:=He (HBb.out.trans (hb1.mono HBb.out.size));clear hs hb1 HN;go_wp2_with fail
 refine (HRT.out w1).mono ?_;rintro e w2 ⟨rfl,hb2⟩;have HS2:=He (HS.out.below hb2);have HB2:=He (HB1.out.trans (hb2.mono HB1.out.size));have hnw:=rx HS2.out Ha (by constructor <;> omega) (xx Ha Ha) ⟨-1,0,0⟩ ⟨by constructor <;> decide,by constructor <;> decide,by constructor <;> decide⟩ [97] (fun x hx=>by simp at hx;omega) Hd 1 (by constructor <;> omega) [] (fun x hx=>by cases hx) Hd;change Calls Tryz.prog _ #[_,_,.string ⟨#[97]⟩,_,.string ⟨#[]⟩] _ (fun e w'=>∃ g' cap',e=.returned (.tuple #[(zf 60).2.1.v,.int .i64 (zf 60).2.2])/\kW w' _ s g' 60 cap' 0 (fB 60)/\_) at hnw;rw [IX] at hnw;change Calls Tryz.prog _ _ _ (fun e w'=>∃ g' cap',e=.returned (.tuple #[.agg (jc 0 1 1),.int .i64 0])/\_) at hnw;have HNW:=He hnw;clear hnw hb2;go_wp2_with fail
 refine HNW.out.mono ?_;rintro e w3 ⟨g',cap',rfl,hs,hg⟩;have HS3:=He hs;have HB3:=He (HB2.out.grown hg HB2.out.size (fun k e=>by injection e with e;subst e;exact Nat.le_trans HBb.out.size HS.out.sB));clear hs hg HNW HS HS2 HB1;have h2:=heap_alloc_new w3 (Obj.cells #[.int .i64 0,.int .i64 0,.int .u32 0] 82);have hb4:Below w3.heap.size w3 ((w3.alloc (Obj.cells #[.int .i64 0,.int .i64 0,.int .u32 0] 82)).setRow w3.heap.size (jc 0 1 1)):=below_setRow (aK (w:=w3) (Obj.cells #[.int .i64 0,.int .i64 0,.int .u32 0] 82)) (Nat.le_refl _) _;have HI:=He (am (D:=jc 0 1 1) h2);have HS4:=He (HS3.out.below hb4);have HB4:=He (HB3.out.trans (hb4.mono HB3.out.size));clear hb4 HS3 HB3;go_upto_region 5 with (first | (refine aI rfl (.tmp 2) (.tmp 35) rfl w3.heap.size rfl 0 1 1 rfl 0 0 0 h2 ?_))
 clear h2;generalize (w3.alloc (Obj.cells #[.int .i64 0,.int .i64 0,.int .u32 0] 82)).setRow w3.heap.size (jc 0 1 1)=w4 at *;generalize w3.heap.size=p2 at *;have hc2:∀ W,Below w4.heap.size w4 W->W.cell? ⟨p2,1,none⟩=some (.int .i64 1):=fun W hb=>(af (Go.Proofs.YtegjelaejbacnaaGreat.kb hb HI.out) 1).trans rfl;have c1:=HS4.out.c1;have HF:=He (rj HS4.out.row Ha Ha);have HC2:=He hc2;clear hc2 HS4;go_wp2_with fail
 refine HF.out.mono ?_;rintro e w5 ⟨q,hp,rfl,F,rb,m,v,htv,hst⟩;have HTX:=He (htv.new_tx Ha);have HST:=He hst;clear htv hst HF c1;go_wp2_with fail
 refine HTX.out.mono ?_;rintro e w6 ⟨tb,rfl,⟨kb,hkt⟩,_⟩;obtain ⟨C,hC⟩:∃ C:TC,C=⟨w4,F,q,hp,rb,60,60,m,v,tb,kb⟩:=⟨_,rfl⟩
 have hk:C.K w6 (.slice none 0 0) [] (List.replicate 60 false):=by rw [hC];exact hkt
 have hbn:C.bn=Co:=by rw [hC];show (⟨kf v,60⟩:BN)=_;rw [HST.out];rfl
 have hw0:C.w0=w4:=by rw [hC]
 have htb:tb=C.tb:=by rw [hC]
 have HBN:=He hbn;have HW0:=He hw0;have HK:=He hk;clear hkt HTX hC hk hbn hw0;subst htb;go_upto_region 9 with fail
 have cu:∀ W,Below w4.heap.size w4 W->W.cell? ⟨p2,1,none⟩=some (.int .i64 1):=HC2.out;have srefl:∀ W,As W W:=fun _ _ _ _ h=>h;refine cU (fun L W=>Below w4.heap.size w4 W/\JF C w6 Jh Kf.2.2.T (L 4) W) (fun _ w w'=>As w w') ⟨(by rw [<- HW0.out];exact HK.out.tv.bel.drew),(fun _=>(Below.refl _ _).drew),fun h=>by cases h⟩ ?_;refine xr ?_;refine XK.op (fun v W=>∃ g Z,v=.slice (some ⟨g,0,none⟩) 400 400/\W.heap[g]?=some (Obj.cells Z 5 (0,0))/\Z.toList=Bs xz) (fun i v w w' _ _ ⟨g,Z,h1,h2,h3⟩ hg=>⟨g,Z,h1,hg _ _ _ h2,h3⟩) (fun T W L hag hi hJ hLs hd=>?_) ?_
 ·obtain ⟨i0,hi0,hz0,hz1,hz2⟩:=info_parts iT;refine iU 22 (.const (.int .i64 400)) (.const (.int .i64 400)) rfl 5 i0 _ 1 Tryz.underlying22 hi0 hz0 hz1 400 .i64 .i64 rfl rfl (by rw [hz2];decide) Hd ?_;intro w6 ho hg6 hs6;rw [Nat.mul_one,pj] at ho;obtain ⟨cur,q1,_,_,q2,q3,_⟩:=gE ho;have hb6:Below W.heap.size W w6:=⟨hg6.os,hg6.tape,hg6.output,hg6.size,fun k hk=>hg6.block k hk Hb⟩
  refine ⟨_,rfl,⟨W.heap.size,cur,rfl,q1,?_⟩,⟨hJ.1.trans (hb6.mono hJ.1.size),hJ.2.below hb6⟩,fun k Z fr hk=>Go.Proofs.YtegjelaejbacnaaGreat.kb hb6 hk⟩;show cur.toList=Bs (List.replicate 400 0);rw [<- q3,List.take_of_length_le (by simp [q2])]
 refine XK.op (fun v _=>v=.tuple #[.int .i64 214,.int .i64 0]) (fun _ _ _ _ _ _ h _=>h) (fun T W L hag hi hJ hLs hd=>?_) ?_
 ·obtain ⟨d55,d57,⟨g,Z,d58,hg,hZ⟩,_⟩:=hd;have hb6:=hJ.2.1 hi;have hk:=HK.out.below hb6;have hW:=IW hk HBN.out 1 (by constructor <;> omega) 10 Ha (jE 1 nF) Hc nF Hc (List.replicate 16 (-1)) Hc Ke Hd Hd Hd g 0 xz 400 400 (by simp [xz]) Ha Ha Ha (fun x hx=>by rw [List.eq_of_mem_replicate hx];omega) (dS hg hZ) hg Kf rfl;rw [KK] at hW;go_simp;refine hW.mono ?_;rintro e w' ⟨rfl,pv',hk',hs'⟩;exact ⟨_,rfl,rfl,⟨by have:=hk'.tv.bel;rw [HW0.out] at this;exact this,(fun h=>by cases h),fun _=>⟨pv',hk'⟩⟩,fun k Y fr hY=>by
   obtain ⟨n1,n2,n3⟩:=hk.typ hY Hd Hd Hd;exact (hs'.fr k (ai hY) n1 n2 n3).trans hY⟩
 refine xr ?_;refine XK.last ?_;intro w9 L g1 g2 hJ;simp only [lL,forall_eq,List.setIfInBounds_toArray,List.set_cons_succ,List.set_cons_zero];rintro v ⟨g9,Z9,rfl,_,_⟩;obtain ⟨pv9,hk9⟩:=hJ.2.2 (g1 4 Ha);have HK9:=He hk9;clear cu srefl hJ hk9 g1 g2 HK;go_upto_region 10 with fail
 have cu:∀ W,Below w4.heap.size w4 W->W.cell? ⟨p2,1,none⟩=some (.int .i64 1):=HC2.out;have srefl:∀ W,As W W:=fun _ _ _ _ h=>h;refine cU (fun L W=>Below w4.heap.size w4 W/\JF C w9 Ji Kv.2.2.T (L 4) W) (fun _ w w'=>As w w') ⟨(by rw [<- HW0.out];exact HK9.out.tv.bel.drew),(fun _=>(Below.refl _ _).drew),fun h=>by cases h⟩ ?_;refine xr ?_;refine XK.op (fun v W=>∃ g Z,v=.slice (some ⟨g,0,none⟩) 400 400/\W.heap[g]?=some (Obj.cells Z 5 (0,0))/\Z.toList=Bs xz) (fun i v w w' _ _ ⟨g,Z,h1,h2,h3⟩ hg=>⟨g,Z,h1,hg _ _ _ h2,h3⟩) (fun T W L hag hi hJ hLs hd=>?_) ?_
 ·obtain ⟨i0,hi0,hz0,hz1,hz2⟩:=info_parts iT;refine iU 22 (.const (.int .i64 400)) (.const (.int .i64 400)) rfl 5 i0 _ 1 Tryz.underlying22 hi0 hz0 hz1 400 .i64 .i64 rfl rfl (by rw [hz2];decide) Hd ?_;intro w6 ho hg6 hs6;rw [Nat.mul_one,pj] at ho;obtain ⟨cur,q1,_,_,q2,q3,_⟩:=gE ho;have hb6:Below W.heap.size W w6:=⟨hg6.os,hg6.tape,hg6.output,hg6.size,fun k hk=>hg6.block k hk Hb⟩
  refine ⟨_,rfl,⟨W.heap.size,cur,rfl,q1,?_⟩,⟨hJ.1.trans (hb6.mono hJ.1.size),hJ.2.below hb6⟩,fun k Z fr hk=>Go.Proofs.YtegjelaejbacnaaGreat.kb hb6 hk⟩;show cur.toList=Bs (List.replicate 400 0);rw [<- q3,List.take_of_length_le (by simp [q2])]
 refine XK.op (fun v _=>v=.tuple #[.int .i64 20,.int .i64 0]) (fun _ _ _ _ _ _ h _=>h) (fun T W L hag hi hJ hLs hd=>?_) ?_
 ·obtain ⟨d63,d65,⟨g,Z,d66,hg,hZ⟩,_⟩:=hd;have hb6:=hJ.2.1 hi;have hk:=HK9.out.below hb6;have hW:=IW hk HBN.out 1 (by constructor <;> omega) 1100 Ha Ku rfl KL rfl K2 rfl Kg Hd Hd (by rw [Gl];decide) g 0 xz 400 400 (by simp [xz]) Ha Ha Ha (fun x hx=>by rw [List.eq_of_mem_replicate hx];omega) (dS hg hZ) hg Kv rfl;rw [KM] at hW;go_simp;refine hW.mono ?_;rintro e w' ⟨rfl,pv',hk',hs'⟩;exact ⟨_,rfl,rfl,⟨by have:=hk'.tv.bel;rw [HW0.out] at this;exact this,(fun h=>by cases h),fun _=>⟨pv',hk'⟩⟩,fun k Y fr hY=>by
   obtain ⟨n1,n2,n3⟩:=hk.typ hY Hd Hd Hd;exact (hs'.fr k (ai hY) n1 n2 n3).trans hY⟩
 refine xr ?_;refine XK.last ?_;intro w10 L g1 g2 hJ;simp only [lL,forall_eq,List.setIfInBounds_toArray,List.set_cons_succ,List.set_cons_zero];rintro v ⟨g9,Z9,rfl,_,_⟩;obtain ⟨pv10,hk10⟩:=hJ.2.2 (g1 4 Ha);have HK10:=He hk10;clear cu srefl hJ hk10 g1 g2 HK9;have hk:=HK10.out;have hc21:=HC2.out w10 (by rw [<- HW0.out];exact hk.tv.bel);have cv7:=Lib.run_convert_bytes_const (P:=Tryz.prog) w10 22 5 #[.int .u8 120] 1 1 Tryz.underlying22 Tryz.underlying5;have hbn7:=aK (w:=w10) (.cells #[.int .u8 120] 5 (1,2));have HCL:=He (mI (hk.below hbn7) (hk.below hbn7).h0 1 1120 (by constructor <;> omega) Cw (by rw [nM HBN.out];rfl) nN (some ⟨w10.heap.size,0,none⟩) 1 1 13 (.inr (.inr ⟨Ha,Ha,rfl⟩)));clear hk HK10 hbn7;go_wp2_with fail
 clear cv7;refine HCL.out.mono ?_;rintro e w11 ⟨rfl,hk,_⟩;clear hc21 HCL;have hc21:=HC2.out w11 (by rw [<- HW0.out];exact hk.tv.bel);have HCL:=He (mI hk hk.h0 1 1120 (by constructor <;> omega) Cw (by rw [nM HBN.out];rfl) nN none 0 0 0 (.inr (.inl ⟨Ha,rfl,rfl⟩)));clear hk;go_wp2_with fail
 refine HCL.out.mono ?_;rintro e w12 ⟨rfl,hk,_⟩;clear hc21 HCL;have hc21:=HC2.out w12 (by rw [<- HW0.out];exact hk.tv.bel);have HCL:=He (Gk hk HBN.out 1 1119 99 (by constructor <;> omega) (by constructor <;> omega) (by constructor <;> omega) Cw rfl IY rfl Kw rfl nN Ha Ha Ha _ KN.symm);clear hk;go_wp2_with fail
 refine HCL.out.mono ?_;rintro e w13 ⟨v13,rfl,ho13,hk,_⟩;obtain ⟨A13,c13,rfl⟩:=rp ho13;clear hc21 HCL ho13;have hc21:=HC2.out w13 (by rw [<- HW0.out];exact hk.tv.bel);have HCL:=He (Gk hk HBN.out 1 1120 99 (by constructor <;> omega) (by constructor <;> omega) (by constructor <;> omega) Cw rfl IY rfl Kw rfl nN Ha Ha Ha _ KO.symm);clear hk;go_wp2_with fail
 refine HCL.out.mono ?_;rintro e w14 ⟨v14,rfl,ho14,hk,_⟩;obtain ⟨A14,c14,rfl⟩:=rp ho14;clear hc21 HCL ho14;have hc21:=HC2.out w14 (by rw [<- HW0.out];exact hk.tv.bel);have HCL:=He (Ar hk hk.h0 1 1121 (by constructor <;> omega) Cw (by rw [nM HBN.out];rfl) nN 13 (.inr ⟨Ha,rfl⟩));clear hk;go_wp2_with fail
 refine HCL.out.mono ?_;rintro e w15 ⟨rfl,hk,_⟩;clear hc21 HCL;have hc21:=HC2.out w15 (by rw [<- HW0.out];exact hk.tv.bel);have HCL:=He (Ar hk hk.h0 1 (-1) (by constructor <;> omega) Cw (by rw [nM HBN.out];rfl) nN 1 (.inl ⟨Ha,rfl⟩));clear hk;go_wp2_with fail
 refine HCL.out.mono ?_;rintro e w16 ⟨rfl,hk,_⟩;clear hc21 HCL;have hc21:=HC2.out w16 (by rw [<- HW0.out];exact hk.tv.bel);have HCL:=He (tH hk hk.h0 1 (-1) 1 (by constructor <;> omega) (by constructor <;> omega) (by constructor <;> omega) Cw (by rw [nM HBN.out];rfl) _ rfl _ rfl nN (.inl Ha));clear hk;go_wp2_with fail
 refine HCL.out.mono ?_;rintro e w17 ⟨rfl,hk,_⟩;clear hc21 HCL;have hc21:=HC2.out w17 (by rw [<- HW0.out];exact hk.tv.bel);have HCL:=He (tH hk hk.h0 1 0 (-1) (by constructor <;> omega) (by constructor <;> omega) (by constructor <;> omega) Cw (by rw [nM HBN.out];rfl) _ rfl _ rfl nN (.inr Ha));clear hk;go_wp2_with fail
 refine HCL.out.mono ?_;rintro e w18 ⟨rfl,hk,_⟩;clear hc21 HCL;have hc21:=HC2.out w18 (by rw [<- HW0.out];exact hk.tv.bel);have HCL:=He (mI hk hk.h0 1 (-1) (by constructor <;> omega) Cw (by rw [nM HBN.out];rfl) nN none 0 0 1 (.inl ⟨Ha,rfl⟩));clear hk;go_wp2_with fail
 refine HCL.out.mono ?_;rintro e w19 ⟨rfl,hk,_⟩;clear hc21 HCL;have HBZ:=He (HB4.out.trans ((by have:=hk.tv.bel;rw [HW0.out] at this;exact this:Below w4.heap.size w4 w19).mono HB4.out.size));clear hk;go_wp2_with (simp only [List.length_cons,List.length_nil])
 go_ret;exact ⟨rfl,HBZ.out⟩
end Go.Proofs.YtegjelaejbacnaaGreat
