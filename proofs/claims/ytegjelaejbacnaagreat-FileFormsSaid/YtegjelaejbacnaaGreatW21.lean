/- For FileForms: contracts and facts, part 21. -/
import Derived.Deep.Slices
import Derived.Deep.Fields
import Derived.ChangeSame
import Derived.ProofKit
import Derived.OpenShut
import Derived.Carry
import Derived.Laws.BitsLemmas
import Derived.StillTailTactics
import Derived.Test.YtegjelaejbacnaaGreatW03
import Derived.Test.YtegjelaejbacnaaGreatW17
import Derived.Test.YtegjelaejbacnaaGreatW20
set_option maxRecDepth 100000
set_option maxHeartbeats 25600000
set_option linter.unusedVariables false
open Go.ChangeShapes Go.WideShapes Go.ChangeAt Go.RowKit Go.Deep
namespace Go.Proofs.YtegjelaejbacnaaGreat
theorem uG {S:List Bool} {i:Int} (h:yP S i=true):∃ j:Nat,i=j/\j<S.length:=by
 unfold yP at h;simp at h;exact ⟨i.toNat,Ha,Ha⟩
theorem yS {S:List Bool} {j:Nat} (h:j<S.length):yP S (j:Int)=true:=by unfold yP;simp;omega
theorem kO {S:List Bool} {j:Nat} (h:j<S.length):S[j]?=some (S.getD j false):=by
 rw [List.getD_eq_getElem?_getD,List.getElem?_eq_getElem h];rfl
theorem IG {w:World} {g:Nat} {S:List Bool} (h:bm w g S) (i:Int) (hi:i64 i):Calls Tryz.prog 111 #[.pointer (some ⟨g,0,none⟩),.int .i64 i] w fun e w'=>e=.returned (.bool (Ey S i))/\w=w':=by
 have HH:=He (uF h i);unfold Ey;cases hb:yP S i
 ·rw [hb] at HH;clear h;go_enter Tryz.func111,Tryz.ntmps111;go_wp2_with fail
  refine HH.out.mono ?_;rintro e w' ⟨rfl,rfl⟩;go_wp2_with fail
  go_ret;exact ⟨rfl,rfl⟩
 ·obtain ⟨j,rfl,hj⟩:=uG hb;rw [hb] at HH;have hc:=h.cAt (kO hj);have hl:=h.len;rw [Int.toNat_natCast];generalize S.getD j false=b at *;clear h hb;go_enter Tryz.func111,Tryz.ntmps111;go_wp2_with fail
  refine HH.out.mono ?_;rintro e w' ⟨rfl,rfl⟩;go_wp2_with fail
  go_ret;exact ⟨rfl,rfl⟩
theorem jb {w:World} {g:Nat} {S:List Bool} (h:bm w g S) (i:Int) (hi:i64 i):Calls Tryz.prog 49 #[.pointer (some ⟨g,0,none⟩),.int .i64 i] w fun e w'=>e=.returned (.bool (yP S i&&!Ey S i))/\bm w' g (setB S i true)/\aD (fun k=>k=g) w w':=by
 have HH:=He (uF h i);unfold Ey setB;cases hb:yP S i
 ·rw [hb] at HH;have H:=He h;clear h;go_enter Tryz.func49,Tryz.ntmps49;go_wp2_with fail
  refine HH.out.mono ?_;rintro e w' ⟨rfl,rfl⟩;go_wp2_with fail
  go_ret;exact ⟨rfl,H.out,aD.refl _ _⟩
 ·obtain ⟨j,rfl,hj⟩:=uG hb;rw [hb] at HH;have hc:=h.cAt (kO hj);have hl:=h.len;have hz:=h.cl;have hf:=h.fz;rw [Int.toNat_natCast];cases hbj:S.getD j false
  ·have hj2:S[j]?=some false:=by rw [kO hj,hbj]
   have hcs:=qZ hj2;have hle:=List.count_le_length (a:=false) (l:=S);have H:=He (h.put hj true (c:=((S.count false:Nat):Int)-1) Ha);rw [hbj] at hc;have wr1:IntKind.i64.wrap (((S.count false:Nat):Int)-1)=((S.count false:Nat):Int)-1:=IntWalk.i64_in _ Ha;generalize S.count false=cn at *;have f1:=hf (1+j);have f2:=hf 201;have c2:∀ v,(w.setCell ⟨g,1+j,none⟩ v).cell? ⟨g,201,none⟩=some (.int .i64 cn):=fun v=>by rw [World.cell?_setCell_other _ _ _ _ Hb];exact hz
   have f3:∀ v,(w.setCell ⟨g,1+j,none⟩ v).frozen? ⟨g,201,none⟩=false:=fun v=>by simpa using f2
   clear h hb hf hcs hj2 hle hbj;go_enter Tryz.func49,Tryz.ntmps49;go_wp2_with fail
   refine HH.out.mono ?_;rintro e w' ⟨rfl,rfl⟩;go_wp2_with fail
   go_ret;exact ⟨rfl,H.out⟩
  ·rw [hbj] at hc;have H:=He h;have hS:S.set j true=S:=by
    apply List.ext_getElem?;intro q;by_cases e:q=j
    ·subst e;rw [List.getElem?_set_self hj,kO hj,hbj]
    ·rw [List.getElem?_set_ne (fun h=>e h.symm)]
   clear h hb hf hbj;go_enter Tryz.func49,Tryz.ntmps49;go_wp2_with fail
   refine HH.out.mono ?_;rintro e w' ⟨rfl,rfl⟩;go_wp2_with fail
   go_ret;exact ⟨rfl,H.out,aD.refl _ _⟩
def oz (S:List Bool):Nat:=(S.takeWhile id).length
theorem uH:∀ {S:List Bool} {i:Nat},(∀ j,j<i->S[j]?=some true)->(S[i]?=some false\/S.length=i)->oz S=i
 | [],i,h,h2=>by
   rcases Nat.eq_zero_or_pos i with e | e
   ·subst e;rfl
   ·have:=h 0 e;cases this
 | true :: T,i,h,h2=>by
   cases i with
   | zero=>rcases h2 with h2 | h2 <;> simp at h2
   | succ i =>
     have:=uH (S:=T) (i:=i) (fun j hj=>by have:=h (j+1) Ha;rwa [List.getElem?_cons_succ] at this) (by rcases h2 with h2 | h2;exact Or.inl (by rwa [List.getElem?_cons_succ] at h2);exact Or.inr (by simpa using h2));unfold oz at this ⊢;simp [this]
 | false :: T,i,h,h2=>by
   cases i with
   | zero=>rfl
   | succ i=>have:=h 0 Ha;simp at this
theorem FL (S:List Bool):oz S<=S.length:=by
 unfold oz;exact (List.takeWhile_prefix _).length_le
def nI (S:List Bool):Value:=if oz S<S.length then .tuple #[.int .i64 (oz S),.bool true] else .tuple #[.int .i64 0,.bool false]
theorem BT {w:World} {g:Nat} {S:List Bool} (h:bm w g S):Calls Tryz.prog 48 #[.pointer (some ⟨g,0,none⟩)] w fun e w'=>e=.returned (nI S)/\w=w':=by
 have H:=He h;have hl:=h.len;clear h;go_enter Tryz.func48,Tryz.ntmps48;go_wp2;refine aV (fun a' w'=>w=w'/\∃ k:Nat,k<=S.length/\Hid (∀ j,j<k->S[j]?=some true)/\∃ u5 u6 u7 u8 u9 u10 u11 u12 u13 u14 u15 u16 u17:Value,a'={ tmps:=#[.pointer (some ⟨g,0,none⟩),undef,.int .i64 0,.bool false,.int .i64 k,u5,u6,u7,u8,u9,u10,u11,u12,u13,u14,u15,u16,u17],defers:=[] })
  (fun a' _=>S.length-(intOf (a'.tmps.getD 4 undef)).toNat) rfl ?_ ?_
 ·intro HF;go_wp2;go_step3;rename_i hK;exact hK _ _ (HF _ _ ⟨rfl,0,Nat.zero_le _,(fun j hj=>Ha),_,_,_,_,_,_,_,_,_,_,_,_,_,rfl⟩)
 ·rintro a' W ⟨rfl,k,hk,HA,u5,u6,u7,u8,u9,u10,u11,u12,u13,u14,u15,u16,u17,rfl⟩;have HH:=He (uF H.out k);by_cases hlt:k<S.length
  ·have hin:=yS hlt;rw [hin] at HH;have hc:=H.out.cAt (kO hlt);cases hbj:S.getD k false
   ·have HE:=He (uH HA.out (.inl (by rw [kO hlt,hbj])));rw [hbj] at hc;clear hbj hin;go_wp2_with fail
    refine HH.out.mono ?_;rintro e w' ⟨rfl,rfl⟩;go_wp2_with fail
    simp only [Exit.jump]
    go_ret2
    exact ⟨by show _=Ending.returned (nI S);unfold nI;rw [HE.out,if_pos hlt];rfl,rfl⟩
   ·rw [hbj] at hc;have HN:Hid (∀ j,j<k+1->S[j]?=some true):=fun j hj=>by
     by_cases e:j=k
     ·subst e;rw [kO hlt,hbj]
     ·exact HA.out j Ha
    have wk:IntKind.i64.wrap ((k:Int)+1)=(k:Int)+1:=IntWalk.i64_in _ Ha;clear hbj hin;go_wp2_with fail
    refine HH.out.mono ?_;rintro e w' ⟨rfl,rfl⟩;go_wp2_with fail
    go_step3;refine ⟨rfl,⟨rfl,k+1,Ha,HN,_,_,_,_,_,_,_,_,_,_,_,_,_,rfl⟩,?_⟩;simp [intOf];omega
  ·have hin:yP S (k:Int)=false:=by unfold yP;simp;omega
   rw [hin] at HH;have HE:=He (uH HA.out (.inr Ha));clear hin;go_wp2_with fail
   refine HH.out.mono ?_;rintro e w' ⟨rfl,rfl⟩;go_wp2_with fail
   simp only [Exit.jump]
   go_ret2
   exact ⟨by show _=Ending.returned (nI S);unfold nI;rw [HE.out,if_neg hlt];rfl,rfl⟩
theorem kP (S:List Bool) (i:Int) (b:Bool):(setB S i b).length=S.length:=by unfold setB;split <;> simp
theorem IH {S:List Bool} {j:Nat} {b:Bool} (h:S[j]?=some b):Ey S (j:Int)=b:=by
 have hl:=(List.getElem?_eq_some_iff.1 h).1;unfold Ey;rw [yS hl,Bool.true_and,Int.toNat_natCast,List.getD_eq_getElem?_getD,h];rfl
section
variable {H:Type} {enc:TypeId × Value->H} {w:World} {base:Nat} {spare:Nat->Bool} {held:Bool}
end
structure uI (W:World) (tb hp kb:Nat) (pv:Value) (P:List Wr) (T:List Bool):Prop where
 hd:W.heap[tb]?=some (.cells #[.pointer (some ⟨hp,0,none⟩),pv,.pointer (some ⟨kb,0,none⟩)] 107 (0,0))
 own:W.ownsRow 0 52 58 pv P.length (rowL wrL P)
 ok:bS P
 srt:P.Pairwise (fun a b=>a.t<b.t)
 few:P.length<=200
 bits:bm W kb T
theorem D5 {v:VM} (h:v.Ok) (t:Int):(lI v t).bs.length=56:=by
 unfold lI;split
 ·rename_i ht;rw [List.getD];cases hq:v.B[t.toNat]? with
  | none=>rfl
  | some x=>exact (h.ok x (List.mem_of_getElem? hq)).len
 ·exact al
section
variable {W W':World} {tb hp kb:Nat} {pv:Value} {P:List Wr} {T:List Bool}
theorem uI.below (h:uI W tb hp kb pv P T) (hb:Below W.heap.size W W'):uI W' tb hp kb pv P T:=⟨Go.Proofs.YtegjelaejbacnaaGreat.kb hb h.hd,hU h.own hb,h.ok,h.srt,h.few,h.bits.below hb⟩
theorem uI.c0 (h:uI W tb hp kb pv P T):W.cell? ⟨tb,0,none⟩=some (.pointer (some ⟨hp,0,none⟩)):=(af h.hd 0).trans rfl
theorem uI.c1 (h:uI W tb hp kb pv P T):W.cell? ⟨tb,1,none⟩=some pv:=(af h.hd 1).trans rfl
theorem uI.c2 (h:uI W tb hp kb pv P T):W.cell? ⟨tb,2,none⟩=some (.pointer (some ⟨kb,0,none⟩)):=(af h.hd 2).trans rfl
theorem uI.lit (h:uI W tb hp kb pv P T):∃ A cap,pv=.slice A P.length cap/\P.length<=cap/\cap<=9223372036854775807/\((A=none/\P.length=0/\cap=0)\/∃ gl,A=some ⟨gl,0,none⟩):=by
 rcases h.own.2 with ⟨rfl,h0⟩ | ⟨g,cap,cur,rfl,hb,hg,hn',hm,hs,ht⟩
 ·exact ⟨none,0,by rw [h0],Ha,Ha,.inl ⟨rfl,h0,rfl⟩⟩
 ·exact ⟨some ⟨g,0,none⟩,cap,rfl,hn',by simp only [maxLen] at hm;omega,.inr ⟨g,rfl⟩⟩
theorem uJ (h:bS P):kF wrL 58 P:=fun x hx=>bw (h x hx).len
theorem uI.cell {gl m cap k:Nat} {x:Wr} (h:uI W tb hp kb (.slice (some ⟨gl,0,none⟩) m cap) P T) (hx:P[k]?=some x) {j:Nat} {v:Value} (hj:(wrL x)[j]?=some v):W.cell? ⟨gl,k*58+j,none⟩=some v:=by
 have:=h.own.cells (g:=gl) rfl _ _ (m7 (uJ h.ok) hx hj)
 rwa [fP] at this
theorem uI.range {gl m cap k:Nat} {x:Wr} (h:uI W tb hp kb (.slice (some ⟨gl,0,none⟩) m cap) P T) (hx:P[k]?=some x):W.rangeAt gl (k*58+1) (blkL x.k x.bs):=fun j v hj=>by
 have:=h.cell hx (j:=j+1) (v:=v) hj;rw [show k*58+1+j=k*58+(j+1) by omega];exact this
end
theorem q8 {W:World} {tb hp kb:Nat} {pv:Value} {P:List Wr} {T:List Bool} (h:uI W tb hp kb pv P T) (t:Int) (ht:i64 t) :
 Calls Tryz.prog 51 #[.pointer (some ⟨tb,0,none⟩),.int .i64 t] W fun e w'=>e=.returned (.tuple #[.int .i64 (fndI P t:Nat),.bool (lK P t)])/\W=w':=by
 obtain ⟨A,cap,rfl,hmc,hc63,hAA⟩:=h.lit;obtain ⟨m,hm⟩:∃ m,m=P.length:=⟨_,rfl⟩
 rw [<- hm] at h hmc hAA;have HM:=He hm;have HA:=He hAA;have H:=He h;have hfew:=h.few;rw [<- hm] at hfew;have c1:=h.c1;have hle:=uD P t;rw [<- hm] at hle;obtain ⟨K,hK⟩:∃ K,K=fndI P t:=⟨_,rfl⟩
 obtain ⟨fb,hfb⟩:∃ fb,fb=lK P t:=⟨_,rfl⟩
 rw [<- hK] at hle;have HK:=He hK;have HF:=He hfb;rw [<- hK,<- hfb];clear hm hAA h hK hfb;go_enter Tryz.func51,Tryz.ntmps51;go_wp2_with fail
 refine aV (fun a' w'=>W=w'/\∃ k:Nat,k<=K/\∃ u7 u8 u9 u10 u11 u12 u13 u14 u15 u16 u17 u18 u19 u20 u21 u22 u23 u24 u25 u26 u27 u28 u29 u30 u31 u32 u33 u34 u35 u36 u37 u38 u39:Value,a'={ tmps:=#[.pointer (some ⟨tb,0,none⟩),.int .i64 t,undef,undef,.int .i64 0,.bool false,.int .i64 k,u7,u8,u9,u10,u11,u12,u13,u14,u15,u16,u17,u18,u19,u20,u21,u22,u23,u24,u25,u26,u27,u28,u29,u30,u31,u32,u33,u34,u35,u36,u37,u38,u39],defers:=[] })
  (fun a' _=>m-(intOf (a'.tmps.getD 6 undef)).toNat) rfl ?_ ?_
 ·intro HFF;go_wp2_with fail
  go_step3;rename_i hK;exact hK _ _ (HFF _ _ ⟨rfl,0,Nat.zero_le _,_,_,_,_,_,_,_,_,_,_,_,_,_,_,_,_,_,_,_,_,_,_,_,_,_,_,_,_,_,_,_,_,_,rfl⟩)
 ·rintro a' W' ⟨rfl,k,hk,u7,u8,u9,u10,u11,u12,u13,u14,u15,u16,u17,u18,u19,u20,u21,u22,u23,u24,u25,u26,u27,u28,u29,u30,u31,u32,u33,u34,u35,u36,u37,u38,u39,rfl⟩;by_cases hlt:k<K
  ·obtain ⟨gl,rfl⟩:∃ gl,A=some ⟨gl,0,none⟩:=by
    rcases HA.out with ⟨_,h0,_⟩ | h
    ·omega
    ·exact h
   obtain ⟨x,hx⟩:∃ x,P[k]?=some x:=⟨_,List.getElem?_eq_getElem (by rw [<- HM.out];omega)⟩
   have hxt:=uE (by rw [<- HK.out];exact hlt) hx;have hc:=H.out.cell hx (j:=0) (v:=.int .i64 x.t) rfl;rw [Nat.add_zero] at hc;generalize x.t=xt at *;clear hx;have hkm:(k:Int)<m:=Ha;have hkd:((k:Int)==(m:Int))=false:=beq_eq_false_iff_ne.2 Ha;have hkd2:decide ((k:Int)=(m:Int))=false:=decide_eq_false Ha;have hkn:decide (k=m)=false:=decide_eq_false Ha;have hkn2:decide (m<=k)=false:=decide_eq_false Ha;have hg1:decide (t<xt)=false:=decide_eq_false Ha;have hg2:decide (xt<t)=true:=decide_eq_true hxt;have wk:IntKind.i64.wrap ((k:Int)+1)=(k:Int)+1:=IntWalk.i64_in _ Ha;go_wp2_with fail
   go_step3;refine ⟨rfl,⟨rfl,k+1,Ha,_,_,_,_,_,_,_,_,_,_,_,_,_,_,_,_,_,_,_,_,_,_,_,_,_,_,_,_,_,_,_,_,_,rfl⟩,?_⟩;simp [intOf];omega
  ·obtain rfl:k=K:=Ha;by_cases hkm:k=m
   ·have hfb:fb=false:=by
     rw [HF.out];unfold lK;rw [<- HK.out,List.getElem?_eq_none (by rw [<- HM.out];omega)]
    subst hfb;have hkd:((k:Int)==(m:Int))=true:=beq_iff_eq.2 Ha;have hkd2:decide ((k:Int)=(m:Int))=true:=decide_eq_true Ha;have hkn:decide (k=m)=true:=decide_eq_true Ha;clear hkm;go_wp2_with fail
    simp only [Exit.jump]
    go_ret2
    exact ⟨rfl,rfl⟩
   ·obtain ⟨gl,rfl⟩:∃ gl,A=some ⟨gl,0,none⟩:=by
     rcases HA.out with ⟨_,h0,_⟩ | h
     ·omega
     ·exact h
    obtain ⟨x,hx⟩:∃ x,P[k]?=some x:=⟨_,List.getElem?_eq_getElem (by rw [<- HM.out];omega)⟩
    have hxt:=ox (by rw [<- HK.out];exact hx);have hfb:fb=decide (x.t=t):=by
     rw [HF.out];unfold lK;rw [<- HK.out,hx]
    have hc:=H.out.cell hx (j:=0) (v:=.int .i64 x.t) rfl;rw [Nat.add_zero] at hc;generalize x.t=xt at *;clear hx;have hkmi:(k:Int)<m:=Ha;have hkd:((k:Int)==(m:Int))=false:=beq_eq_false_iff_ne.2 Ha;have hkd2:decide ((k:Int)=(m:Int))=false:=decide_eq_false Ha;have hkn:decide (k=m)=false:=decide_eq_false Ha;have hkn2:decide (m<=k)=false:=decide_eq_false Ha;by_cases hgt:t<xt
    ·have hfb2:fb=false:=by rw [hfb];exact decide_eq_false Ha
     subst hfb2;have hg1:decide (t<xt)=true:=decide_eq_true hgt;clear hkm hfb;go_wp2_with fail
     simp only [Exit.jump]
     go_ret2
     exact ⟨rfl,rfl⟩
    ·have hfb2:fb=true:=by rw [hfb];exact decide_eq_true Ha
     subst hfb2;have hg1:decide (t<xt)=false:=decide_eq_false hgt;have hg2:decide (xt<t)=false:=decide_eq_false Ha;clear hkm hfb;go_wp2_with fail
     simp only [Exit.jump]
     go_ret2
     exact ⟨rfl,rfl⟩
theorem lE {W:World} {tb hp kb q rb:Nat} {pv:Value} {P:List Wr} {T:List Bool} {v:VM} (h:uI W tb hp kb pv P T) (hv:aM W q hp rb v) (hin:∀ x∈P,0<=x.t/\x.t<v.n) (t:Int) (ht:i64 t) :
 Calls Tryz.prog 23 #[.pointer (some ⟨tb,0,none⟩),.int .i64 t] W fun e w'=>e=.returned (.tuple #[.agg (ab (gB (applyW (kf v) P) t).k (gB (applyW (kf v) P) t).bs),.bool (decide (0<=t/\t<v.n))])/\Below W.heap.size W w':=by
 have hb:Below W.heap.size W (W.alloc (Obj.cells (ab 0 ay) 37)):=aK _;have e0:=heap_alloc_new W (Obj.cells (ab 0 ay) 37);have H1:=He (h.below hb);have HV:=He (hv.below hb);have HF:=He (q8 H1.out t ht);have hl:=gU hv.toOk;have HG:=He (fun hf=>BP h.srt (fun x hx=>by rw [hl];exact hin x hx) (t:=t) hf);have HGV:=He (fun hf=>FK hv.toOk h.srt (t:=t) hf);have HLN:=He hl;obtain ⟨r,hr⟩:∃ r,r=gB (applyW (kf v) P) t:=⟨_,rfl⟩
 obtain ⟨ib,hib⟩:∃ ib,ib=decide (0<=t/\t<(v.n:Int)):=⟨_,rfl⟩
 rw [<- hr,<- hib];have HR0:=He hr;have HIB:=He hib;clear hl h hv hin hr hib;go_enter Tryz.func23,Tryz.ntmps23;go_upto_region 1 with (refine aq rfl rfl ?_)
 obtain ⟨g,hg⟩:∃ g,g=W.heap.size:=⟨_,rfl⟩
 rw [<- hg] at e0 ⊢;have HB:=He hb;have HGE:=He hg;clear hb hg;generalize W.alloc (Obj.cells (ab 0 ay) 37)=W1 at *;go_wp2_with fail
 refine HF.out.mono ?_;rintro e w' ⟨rfl,rfl⟩;cases hf:lK P t with
 | true =>
   obtain ⟨x,hx,hgb,hi1,hi2⟩:=HG.out hf;have HRR:Hid (r=⟨x.k,x.bs⟩):=HR0.out.trans hgb;have HII:Hid (ib=true):=by unfold Hid;rw [HIB.out];rw [HLN.out] at hi2;exact decide_eq_true ⟨hi1,hi2⟩
   clear HR0 HIB hgb;have hkl:=(List.getElem?_eq_some_iff.1 hx).1;have HX:=He hx;have H56:=He (H1.out.ok x (List.mem_of_getElem? hx)).len;obtain ⟨A,cap,rfl,hmc,hc63,hAA⟩:=H1.out.lit;obtain ⟨gl,rfl⟩:∃ gl,A=some ⟨gl,0,none⟩:=by
    rcases hAA with ⟨_,h0,_⟩ | h
    ·omega
    ·exact h
   have c1:=H1.out.c1;have HR:=He (H1.out.range HX.out);clear hx hAA hf HF HG HGV;generalize fndI P t=k at *;generalize hm:P.length=m at *;have hkm:(k:Int)<m:=Ha;clear hm;go_wp2_with (first | (with_reducible refine wpList_load_mid rfl 37 (.tmp 24) rfl gl (k*58+1) rfl (blkL x.k x.bs) _ HR.out Tryz.underlying37 rfl (by rw [aZ H56.out];exact cO) ?_) | (refine ap rfl (.tmp 4) (.tmp 25) rfl g rfl x.k 0 x.bs ay rfl H56.out al e0 ?_))
   refine bodyPost_ret (aT rfl _ _ g x.k x.bs rfl H56.out (am e0)) rfl ?_;rw [HRR.out,HII.out];exact ⟨rfl,by rw [HGE.out];exact below_setRow HB.out (Nat.le_refl _) _⟩
 | false =>
   obtain ⟨e1,e2⟩:=HGV.out hf;have HRR:Hid (r=⟨(lI v t).k,(lI v t).bs⟩):=HR0.out.trans e1;have HII:Hid (ib=im v t):=HIB.out.trans e2.symm;clear HR0 HIB;have HVG:=He (vN HV.out t ht);have c0:=H1.out.c0;have H56:Hid ((lI v t).bs.length=56):=by unfold Hid;exact D5 HV.out.toOk t
   clear e1 e2 hf HG HGV HF;generalize (lI v t).k=gk at *;generalize (lI v t).bs=gbs at *;generalize im v t=hv at *;generalize fndI P t=k at *;go_wp2_with fail
   refine HVG.out.mono ?_;rintro e w2 ⟨rfl,hb2⟩;have HB2:=He (HB.out.trans (hb2.mono HB.out.size));have e2:w2.heap[g]?=some (.cells (ab 0 ay) 37 (0,0)):=Go.Proofs.YtegjelaejbacnaaGreat.kb hb2 e0;clear hb2;go_wp2_with (first | (refine ap rfl (.tmp 4) (.tmp 32) rfl g rfl gk 0 gbs ay rfl H56.out al e2 ?_))
   refine bodyPost_ret (aT rfl _ _ g gk gbs rfl H56.out (am e2)) rfl ?_;rw [HRR.out,HII.out];exact ⟨rfl,by rw [HGE.out];exact below_setRow HB2.out (Nat.le_refl _) _⟩
theorem r8 {b:List Bk} {x:Bk} {p:Int} (h:p∈namedL b x):0<=p:=by
 unfold namedL at h;split at h
 ·rename_i hc;have hm:=hc.2.may;have hp:=fun i hi=>hm.at_ (i:=i) hi;unfold jp at h;have hd:∀ q∈realL (cM x.bs).dir,0<=q:=fun q hq=>by
   obtain ⟨h1,h2⟩:=i9.1 hq;rw [Ag] at h1;have p0:=hp 0 Ha;have p1:=hp 1 Ha;have p2:=hp 2 Ha;have p3:=hp 3 Ha;simp only [Nd.ps,List.getD_eq_getElem?_getD,List.getElem?_cons_zero,List.getElem?_cons_succ,Option.getD_some] at p0 p1 p2 p3;omega
  rcases List.mem_append.1 h with h | h
  ·split at h
   ·cases h
   ·rename_i hx1;rcases List.mem_cons.1 h with h | h
    ·have p4:=hp 4 Ha;simp only [Nd.ps,List.getD_eq_getElem?_getD,List.getElem?_cons_zero,List.getElem?_cons_succ,Option.getD_some] at p4;omega
    ·unfold mF at h;split at h
     ·obtain ⟨h1,h2⟩:=i9.1 h;unfold tkL at h1;split at h1
      ·rename_i ht;have:=kL (DV ht).2 p h1;omega
      ·cases h1
     ·cases h
  ·exact hd p h
 ·cases h
def cL (S:List Bool) (l:List Int):List Bool:=l.foldl (fun S p=>setB S p true) S
theorem kQ (S:List Bool) (l:List Int) (p:Int):cL S (l++[p])=setB (cL S l) p true:=by unfold cL;rw [List.foldl_append];rfl
theorem mH:∀ (l:List Int) (S:List Bool),(cL S l).length=S.length
 | [],_=>rfl
 | p :: l,S=>by show (cL (setB S p true) l).length=_;rw [mH l,kP]
theorem nJ {S:List Bool} {i:Nat} (hi:i<S.length) (p:Int):(setB S p true)[i]?=some (S.getD i false||decide (p=(i:Int))):=by
 have h0:=kO hi;unfold setB;by_cases hin:yP S p=true
 ·rw [if_pos hin];obtain ⟨j,rfl,hj⟩:=uG hin;rw [Int.toNat_natCast];by_cases e:j=i
  ·subst e;rw [List.getElem?_set_self hj];simp
  ·rw [List.getElem?_set_ne e,h0,decide_eq_false Ha,Bool.or_false]
 ·rw [if_neg hin,h0,decide_eq_false,Bool.or_false];intro e;subst e;exact hin (yS hi)
theorem q9:∀ (l:List Int) {S:List Bool} {i:Nat},i<S.length->(cL S l)[i]?=some (S.getD i false||l.contains (i:Int))
 | [],S,i,hi=>by show S[i]?=_;rw [kO hi];simp
 | p :: l,S,i,hi=>by
   show (cL (setB S p true) l)[i]?=_;rw [q9 l (by rw [kP];exact hi)];have h1:=nJ hi p;rw [List.getD,h1];have h2:((i:Int)==p)=decide (p=(i:Int)):=by
    by_cases e:p=(i:Int)
    ·rw [decide_eq_true e,e];exact beq_self_eq_true _
    ·rw [decide_eq_false e];exact beq_eq_false_iff_ne.2 (fun h=>e h.symm)
   rw [Option.getD_some,List.contains_cons,h2,Bool.or_assoc]
def Ko (N:List Bk) (x:Bk):List Int:=if aX x.k x.bs then (cM x.bs).dir++(cM x.bs).x :: tkL (gB N (cM x.bs).x).k (gB N (cM x.bs).x).bs else []
theorem D6:tkL zB.k zB.bs=[]:=Hd
theorem lX (l:List Int) (i:Nat):(realL l).contains (i:Int)=l.contains (i:Int):=by
 rw [Bool.eq_iff_iff];simp only [List.contains_iff_mem,i9];constructor
 ·exact fun h=>h.1
 ·exact fun h=>⟨h,Ha⟩
theorem uK {N:List Bk} {x:Bk} (hk:x.k=1) (i:Nat):(Ko N x).contains (i:Int)=(namedL N x).contains (i:Int):=by
 unfold Ko namedL;by_cases ht:aX x.k x.bs
 ·rw [if_pos ht,if_pos ⟨hk,ht⟩];unfold jp;have hx0:(cM x.bs).x = -1\/0<=(cM x.bs).x:=by
   by_cases h:(cM x.bs).x = -1
   ·exact .inl h
   ·refine .inr (r8 (b:=N) (x:=x) ?_);unfold namedL;rw [if_pos ⟨hk,ht⟩];unfold jp;rw [if_neg h];simp
  simp only [List.contains_append,lX];rw [Bool.or_comm]
  congr 1
  rcases hx0 with h | h
  ·rw [if_pos h,h,yO Ha,D6];simp
  ·rw [if_neg Ha];simp only [List.contains_cons]
   congr 1
   unfold mF;by_cases hl:(cM x.bs).x<N.length
   ·rw [if_pos hl,lX];unfold gB;rw [if_pos h]
   ·rw [if_neg hl,yO Ha,D6]
 ·rw [if_neg ht,if_neg (fun h=>ht h.2)]
structure KS (W:World) (tb hp kb q rb:Nat) (pv:Value) (P:List Wr) (T:List Bool) (v:VM):Prop where
 tx:uI W tb hp kb pv P T
 vol:aM W q hp rb v
 inn:∀ x∈P,0<=x.t/\x.t<v.n
theorem fx {W W':World} {g:Nat} (h:aD (fun k=>k=g) W W'):W.grownBy W' (some g):=⟨h.os,h.tape,h.output,h.size,fun k hk hne=>h.block k hk (fun e=>hne (by rw [e]))⟩
section
variable {W W':World} {tb hp kb q rb:Nat} {pv:Value} {P:List Wr} {T:List Bool} {v:VM}
theorem KS.below (h:KS W tb hp kb q rb pv P T v) (hb:Below W.heap.size W W'):KS W' tb hp kb q rb pv P T v:=⟨h.tx.below hb,h.vol.below hb,h.inn⟩
theorem bu {p g:Nat} {C C':Array Value} {t t':TypeId} {fr fr':Nat × Nat} (h:W.heap[p]?=some (.cells C t fr)) (h2:W.heap[g]?=some (.cells C' t' fr')) (ht:t≠t'):p≠g:=by
 intro e;subst e;rw [h] at h2;injection h2 with h2;injection h2 with _ h2 _;exact ht h2
theorem KS.grown (h:KS W tb hp kb q rb pv P T v) {g:Nat} (hg:W.grownBy W' (some g)) {C:Array Value} {fr:Nat × Nat} (hb:W.heap[g]?=some (.cells C 197 fr)) (hne:g≠kb):KS W' tb hp kb q rb pv P T v:=by
 have keep:∀ {p:Nat} {C':Array Value} {t:TypeId} {fr':Nat × Nat},W.heap[p]?=some (.cells C' t fr')->t≠197->W'.heap[p]?=some (.cells C' t fr'):=fun hp ht=>bo hg hp (fun e=>by injection e with e;subst e;exact bu hp hb ht rfl);refine ⟨⟨keep h.tx.hd Hd,h.tx.own.kept hg (.inr (lD h.tx.own hb Hd)),h.tx.ok,h.tx.srt,h.tx.few,⟨h.tx.bits.len,bo hg h.tx.bits.hp (fun e=>by injection e with e;exact hne e)⟩⟩,h.vol.keep ?_ ?_,h.inn⟩
 ·exact (keep h.vol.hd Hd).trans h.vol.hd.symm
 ·exact (keep h.vol.row Hd).trans h.vol.row.symm
end
theorem II (n:Nd) {k:Nat} (hk:k<4):n.dir[k]?=some (n.dir.getD k 0):=by
 obtain rfl | rfl | rfl | rfl:k=0\/k=1\/k=2\/k=3:=Ha
 all_goals rfl
theorem FM {n:Nd} (h:mw n) {k:Nat} (hk:k<4):i64 (n.dir.getD k 0):=by
 obtain rfl | rfl | rfl | rfl:k=0\/k=1\/k=2\/k=3:=Ha
 all_goals (unfold Nd.dir;simp only [List.getD_cons_zero,List.getD_cons_succ])
 ·exact h.a
 ·exact h.b
 ·exact h.c
 ·exact h.d
theorem FN {k:Int} {bs:List Int} {p:Int} (h:p∈tkL k bs):i64 p:=by
 unfold tkL at h;split at h
 ·rename_i ht;have:=kL (DV ht).2 p h;constructor <;> omega
 ·cases h
theorem yT (DA:Array Value) (z:Int) {k:Nat} (h:k<4) (hx:DA[k]?=some (.int .i64 z)) (w:World):(Instr.index 135 (.agg DA) (.int .i64 k)).run Tryz.prog w=.ok (.int .i64 z) w:=by
 have u3:=Tryz.underlying3;have a3:=Tryz.isAgg3;have z3:=Tryz.sizeOf3;have u5:=Tryz.underlying135;have hk:(0:Int)<=k/\(k:Int)<4:=Ha;simp [Instr.index,run_underlying u5,asIntOf,part,a3,z3,h,hx]
theorem Ak {N:List Bk} (h:∀ y∈N,y.bs.length=56/\ax y.bs) (t:Int):(gB N t).bs.length=56/\ax (gB N t).bs:=by
 have hz:zB.bs.length=56/\ax zB.bs:=⟨al,dN⟩
 unfold gB;split
 ·unfold iD;rw [List.getD];cases hq:N[t.toNat]? with
  | none=>exact hz
  | some x=>exact h x (List.mem_of_getElem? hq)
 ·exact hz
theorem yU {W W':World} {B g:Nat} {A:Option Addr} {d:Nat} {l:List Int} (h:W.ownsRow B 3 1 (.slice A l.length d) l.length (Is l)) (hb:(Value.slice A l.length d).ownBlock≠some g) (hg:W.grownBy W' (some g)):jf W' A l:=by
 have h2:=h.kept hg (.inr hb);obtain ⟨A',d',e,_,_,hn⟩:=j3 h2 rfl;injection e with e1 e2 e3
 subst e1;exact hn
theorem BU {W:World} {tb hp kb q rb:Nat} {pv:Value} {P:List Wr} {T:List Bool} {v:VM} (h:KS W tb hp kb q rb pv P T v) (N:List Bk) (hN:N=applyW (kf v) P) (hNo:∀ y∈N,y.bs.length=56/\ax y.bs) (kg:Nat) (S:List Bool) (hS:bm W kg S) (hne:kg≠kb) (x:Bk) (hxk:i64 x.k) (h56:x.bs.length=56) (hB:ax x.bs) :
 Calls Tryz.prog 112 #[.pointer (some ⟨tb,0,none⟩),.pointer (some ⟨kg,0,none⟩),.agg (ab x.k x.bs)] W fun e w'=>e=.returned (.tuple #[])/\bm w' kg (cL S (Ko N x))/\W.grownBy w' (some kg):=by
 have e5:=heap_alloc_new W (.cells (ab x.k x.bs) 37);have HB1:=He (aK (w:=W) (.cells (ab x.k x.bs) 37));have HK:=He h;have HS1:=He (hS.below HB1.out);have HNT:=He (td x.k x.bs (W.alloc (.cells (ab x.k x.bs) 37)) hxk h56 hB);have HNO:=He hNo;have HN:=He hN;obtain ⟨L,hL⟩:∃ L,L=Ko N x:=⟨_,rfl⟩
 rw [<- hL];have HL:Hid (L=if aX x.k x.bs then (cM x.bs).dir++(cM x.bs).x :: tkL (gB N (cM x.bs).x).k (gB N (cM x.bs).x).bs else []):=hL;have HLT:=He (ai hS.hp);have HNE:=He hne;have HOK:=He (ur h56 hB);clear hL h hS hN hNo hne;go_enter Tryz.func112,Tryz.ntmps112;go_upto_region 1 with fail
 have hg1:=dM HB1.out;obtain ⟨p5,hp5⟩:∃ p5,p5=W.heap.size:=⟨_,rfl⟩
 have HP5:=He hp5;rw [<- hp5] at e5 ⊢;clear hp5 hg1;generalize W.alloc (.cells (ab x.k x.bs) 37)=W1 at *;go_wp2_with (refine aQ rfl (.tmp 5) rfl p5 rfl x.k x.bs h56 e5 ?_)
 refine HNT.out.mono ?_;rintro e w2 ⟨rfl,hb2⟩;have h6:=aR.new w2 nd0;go_upto_region 2 with (first | (refine bA rfl rfl ?_) | (refine aL rfl (.tmp 6) (.tmp 19) rfl w2.heap.size rfl (bj x.k x.bs) nd0 rfl h6 ?_))
 have hb3:Below W1.heap.size W1 ((w2.alloc (.cells (bD nd0) 137)).setRow w2.heap.size (bD (bj x.k x.bs))):=hb2.trans ((below_setRow (aK _) (Nat.le_refl _) _).mono hb2.size);have HB3:=He (HB1.out.trans (hb3.mono HB1.out.size));have H6:=He (h6.set (bj x.k x.bs));have HS3:=He (HS1.out.below hb3);clear e5 hb2 h6 hb3 HNT HB1 HS1;generalize (w2.alloc (.cells (bD nd0) 137)).setRow w2.heap.size (bD (bj x.k x.bs))=w3 at *;generalize w2.heap.size=p6 at *;by_cases ht:aX x.k x.bs
 case neg =>
  have hLn:Hid (L=[]):=by unfold Hid;rw [HL.out,if_neg ht]
  have htd:decide (aX x.k x.bs)=false:=decide_eq_false ht;go_wp2_with fail
  refine bodyPost_ret (results_none rfl _ _ _) rfl ?_;rw [hLn.out];have hgr:=dM HB3.out;exact ⟨rfl,HS3.out,hgr.os,hgr.tape,hgr.output,hgr.size,fun k hk _=>hgr.block k hk Hb⟩
 have htd:decide (aX x.k x.bs)=true:=decide_eq_true ht;have hnd:bj x.k x.bs=cM x.bs:=if_pos ht;have HL2:Hid (L=(cM x.bs).dir++(cM x.bs).x :: tkL (gB N (cM x.bs).x).k (gB N (cM x.bs).x).bs):=by unfold Hid;rw [HL.out,if_pos ht]
 rw [hnd] at H6 ⊢;clear HL ht hnd;generalize cM x.bs=nd at *;go_upto_region 3 with fail
 clear htd;have hg3:=dM HB3.out;have HG3:Hid (W.grownBy w3 (some kg)):=⟨hg3.os,hg3.tape,hg3.output,hg3.size,fun k hk _=>hg3.block k hk Hb⟩
 have HK3:=He (HK.out.below HB3.out);clear hg3 HB3;have q3:w3.cell? ⟨p6,3,none⟩=some (.int .i64 nd.a):=H6.out.cell 3;have q4:w3.cell? ⟨p6,4,none⟩=some (.int .i64 nd.b):=H6.out.cell 4;have q5:w3.cell? ⟨p6,5,none⟩=some (.int .i64 nd.c):=H6.out.cell 5;have q6:w3.cell? ⟨p6,6,none⟩=some (.int .i64 nd.d):=H6.out.cell 6;go_upto_region 4 with fail
 clear q3 q4 q5 q6;obtain ⟨DA,hDA⟩:∃ DA:Array Value,DA=#[.int .i64 nd.a,.int .i64 nd.b,.int .i64 nd.c,.int .i64 nd.d]:=⟨_,rfl⟩
 rw [<- hDA];have HDA:Hid (∀ k,k<4->DA[k]?=some (.int .i64 (nd.dir.getD k 0))):=fun k hk=>by
  rw [hDA];obtain rfl | rfl | rfl | rfl:k=0\/k=1\/k=2\/k=3:=Ha
  all_goals rfl
 have hds:DA.size=4:=by rw [hDA];rfl
 clear hDA;have HDI:Hid (∀ k,k<4->i64 (nd.dir.getD k 0)):=fun k hk=>FM HOK.out hk;have HDT:Hid (∀ k,k<4->nd.dir[k]?=some (nd.dir.getD k 0)):=fun k hk=>II nd hk;have HD4:Hid (nd.dir.take 4=nd.dir):=rfl;have hS0:bm w3 kg (cL S (nd.dir.take 0)):=HS3.out
 go_loopw [25,9] (fun i _ wr=>∃ k:Nat,k<=4/\i=.int .i64 k/\Hid (bm wr kg (cL S (nd.dir.take k)))/\Hid (W.grownBy wr (some kg))/\Hid (KS wr tb hp kb q rb pv P T v)/\Hid (aR wr p6 nd)) (fun i _ _=>4-(intOf i).toNat)
 case atStart=>exact ⟨0,Ha,rfl,hS0,HG3,HK3,H6⟩
 case round =>
  obtain ⟨k,hk,rfl,HSk,HGk,HKk,H6k⟩:=hrel;clear HS3 HG3 HK3 H6 hS0;by_cases hlt:k<4
  ·have hki:(k:Int)<4:=Ha;have hkd:decide (4<=k)=false:=decide_eq_false Ha;have hdk:=yT DA _ hlt (HDA.out k hlt) wr;have hsn:cL S (nd.dir.take (k+1))=setB (cL S (nd.dir.take k)) (nd.dir.getD k 0) true:=by rw [au (HDT.out k hlt),kQ]
   have HSN:=He hsn;have HBS:=He (jb HSk.out (nd.dir.getD k 0) (HDI.out k hlt));clear hsn;generalize nd.dir.getD k 0=z at *;go_wp2_with fail
   refine HBS.out.mono ?_;rintro e w4 ⟨rfl,hs4,ht4⟩;have hgg:=fx ht4;have HS4:Hid (bm w4 kg (cL S (nd.dir.take (k+1)))):=by unfold Hid;rw [HSN.out];exact hs4
   have HG4:=He (aW HGk.out hgg);have HK4:=He (HKk.out.grown hgg HSk.out.hp HNE.out);have H64:Hid (aR w4 p6 nd):=bo hgg H6k.out (fun e=>by injection e with e;exact bu (show wr.heap[p6]?=_ from H6k.out) HSk.out.hp Hd e.symm);clear hgg hs4 ht4 HBS;go_wp2_with fail
   go_roundw
   case rel=>exact ⟨k+1,Ha,by go_num,HS4,HG4,HK4,H64⟩
   case measure=>simp [intOf];omega
  ·obtain rfl:k=4:=Ha;have HS5:Hid (bm wr kg (cL S nd.dir)):=by have:=HSk.out;rwa [HD4.out] at this
   clear HSk HDA HDT HDI HD4;go_upto_region 8 with fail
   have q7:wr.cell? ⟨p6,7,none⟩=some (.int .i64 nd.x):=H6k.out.cells.2.2.2.1;have HBS:=He (jb HS5.out nd.x HOK.out.x);go_wp2_with fail
   refine HBS.out.mono ?_;rintro e w4 ⟨rfl,hs4,ht4⟩;have hgg:=fx ht4;have HS4:Hid (bm w4 kg (cL S (nd.dir++[nd.x]))):=by unfold Hid;rw [kQ];exact hs4
   have HG4:=He (aW HGk.out hgg);have HK4:=He (HKk.out.grown hgg HS5.out.hp HNE.out);have H64:Hid (aR w4 p6 nd):=bo hgg H6k.out (fun e=>by injection e with e;exact bu (show wr.heap[p6]?=_ from H6k.out) HS5.out.hp Hd e.symm);clear hgg hs4 ht4 HBS q7 HS5 HGk HKk H6k;go_upto_region 9 with fail
   have q7:w4.cell? ⟨p6,7,none⟩=some (.int .i64 nd.x):=H64.out.cells.2.2.2.1;have HGT:=He (lE HK4.out.tx HK4.out.vol HK4.out.inn nd.x HOK.out.x);rw [<- HN.out] at HGT;have HYO:Hid ((gB N nd.x).bs.length=56/\ax (gB N nd.x).bs):=Ak HNO.out nd.x;have HL3:Hid (L=(nd.dir++[nd.x])++tkL (gB N nd.x).k (gB N nd.x).bs):=by unfold Hid;rw [HL2.out];simp
   generalize gB N nd.x=y at *;generalize decide (0<=nd.x/\nd.x<(v.n:Int))=gi at *;go_wp2_with fail
   refine HGT.out.mono ?_;rintro e w5 ⟨rfl,hb5⟩;have h10:=heap_alloc_new w5 (.cells (ab 0 ay) 37);have h56y:=HYO.out.1;go_upto_region 10 with (first | (refine aq rfl rfl ?_) | (refine ap rfl (.tmp 10) (.tmp 41) rfl w5.heap.size rfl y.k 0 y.bs ay rfl h56y al h10 ?_))
   have hb6:Below w4.heap.size w4 ((w5.alloc (.cells (ab 0 ay) 37)).setRow w5.heap.size (ab y.k y.bs)):=hb5.trans ((below_setRow (aK _) (Nat.le_refl _) _).mono hb5.size);have H10:=He (am (D:=ab y.k y.bs) h10);have HS6:=He (HS4.out.below hb6);have HG6:=He (fZ HG4.out hb6);clear hb5 h10 hb6 q7 HGT HS4 HG4 HK4 H64;generalize (w5.alloc (.cells (ab 0 ay) 37)).setRow w5.heap.size (ab y.k y.bs)=w6 at *;generalize w5.heap.size=p10 at *;have HIX:=He (qK y.k y.bs w6 h56y HYO.out.2);go_wp2_with (refine aQ rfl (.tmp 10) rfl p10 rfl y.k y.bs h56y H10.out ?_)
   refine HIX.out.mono ?_;rintro e w7 ⟨lv,rfl,hrow,hb7⟩;have HS7:=He (HS6.out.below hb7);have HG7:=He (fZ HG6.out hb7);have HTI:Hid (∀ p∈tkL y.k y.bs,i64 p):=fun p hp=>FN hp;have HTL:=He (FE y.k y.bs);have HROW:=He hrow;clear hb7 hrow HIX HS6 HG6 H10;generalize tkL y.k y.bs=tl at *;generalize rD y.k y.bs=tbb at *;obtain ⟨AL,dl,rfl,hd1,hd2,hnt⟩:=j3 HROW.out rfl;have HNTS:=He hnt;have HTB:Hid (∀ W',w7.grownBy W' (some kg)->jf W' AL tl):=fun W' hg=>yU HROW.out (lD HROW.out HS7.out.hp Hd) hg;clear hnt;go_wp2_with fail
   obtain ⟨m,hm⟩:∃ m,m=tl.length:=⟨_,rfl⟩
   rw [<- hm];have HM:=He hm;have hm16:m<=16:=by rw [hm];exact HTL.out
   have HS7':Hid (bm w7 kg (cL S ((nd.dir++[nd.x])++tl.take 0))):=by unfold Hid;rw [List.take_zero,List.append_nil];exact HS7.out
   have HGR:Hid (w7.grownBy w7 (some kg)):=World.grownBy.refl _ _;clear hm
   go_loopw [50,15] (fun i _ wr=>∃ k:Nat,k<=m/\i=.int .i64 k/\Hid (bm wr kg (cL S ((nd.dir++[nd.x])++tl.take k)))/\Hid (W.grownBy wr (some kg))/\Hid (w7.grownBy wr (some kg))) (fun i _ _=>m-(intOf i).toNat)
   case atStart=>exact ⟨0,Ha,rfl,HS7',HG7,HGR⟩
   case round =>
    obtain ⟨j,hj,rfl,HSj,HGj,HGw⟩:=hrel;clear HS7' HG7 HS7;by_cases hlt:j<m
    ·have hji:(j:Int)<m:=Ha;have hjd:decide (m<=j)=false:=decide_eq_false Ha;obtain ⟨z,hz⟩:∃ z,tl[j]?=some z:=⟨_,List.getElem?_eq_getElem (by rw [<- HM.out];exact hlt)⟩
     obtain ⟨ad,rfl,hcz⟩:=HTB.out wr HGw.out j z hz;have hzi:=HTI.out z (List.mem_of_getElem? hz);have HBS:=He (jb HSj.out z hzi);have HSN:Hid (cL S ((nd.dir++[nd.x])++tl.take (j+1))=setB (cL S ((nd.dir++[nd.x])++tl.take j)) z true):=by unfold Hid;rw [au hz,<- List.append_assoc,kQ]
     clear hz;go_wp2_with fail
     refine HBS.out.mono ?_;rintro e w8 ⟨rfl,hs8,ht8⟩;have hgg:=fx ht8;have HS8:Hid (bm w8 kg (cL S ((nd.dir++[nd.x])++tl.take (j+1)))):=by unfold Hid;rw [HSN.out];exact hs8
     have HG8:=He (aW HGj.out hgg);have HW8:=He (aW HGw.out hgg);clear hgg hs8 ht8 HBS;go_wp2_with fail
     go_roundw
     case rel=>exact ⟨j+1,Ha,by go_num,HS8,HG8,HW8⟩
     case measure=>simp [intOf];omega
    ·obtain rfl:j=m:=Ha;have hji:¬ (j:Int)<j:=Ha;have HSF:Hid (bm wr kg (cL S L)):=by
      have h:=HSj.out;rw [List.take_of_length_le (by rw [<- HM.out];exact Nat.le_refl _),<- HL3.out] at h;exact h
     go_wp2_with fail
     go_end0
     exact ⟨rfl,HSF.out,HGj.out⟩
def oY (N:List Bk) (T:List Bool) (m i:Nat):Bool:=decide (i=0)||dz N m i||(decide (i<m)&&T.getD i false)
def uL (N:List Bk) (T:List Bool) (m:Nat):List Bool:=(List.range N.length).map (oY N T m)
def iy (N:List Bk) (T:List Bool):List Bool:=(List.range N.length).map fun i=>dz N N.length i||T.getD i false
theorem lF (N:List Bk) (T:List Bool) (m:Nat):(uL N T m).length=N.length:=by unfold uL;simp
theorem px {N:List Bk} {T:List Bool} {m i:Nat} (hi:i<N.length):(uL N T m)[i]?=some (oY N T m i):=by unfold uL;simp [hi]
theorem xd {N:List Bk} {T:List Bool} {m i:Nat} (hi:i<N.length):(uL N T m).getD i false=oY N T m i:=by rw [List.getD,px hi];rfl
theorem xe (N:List Bk) (i:Nat):dz N 0 i=false:=by unfold dz;simp
theorem D7 {N:List Bk} (T:List Bool) (h:0<N.length):setB (List.replicate N.length false) 0 true=uL N T 0:=by
 apply List.ext_getElem?;intro i;by_cases hi:i<N.length
 ·rw [nJ (by rw [List.length_replicate];exact hi),px hi];unfold oY;rw [xe,decide_eq_false (Nat.not_lt_zero i),Bool.false_and,Bool.or_false,Bool.or_false];have:(List.replicate N.length false).getD i false=false:=by rw [List.getD,List.getElem?_replicate,if_pos hi];rfl
  rw [this,Bool.false_or]
  congr 1
  rw [Bool.eq_iff_iff];simp only [decide_eq_true_eq];omega
 ·rw [List.getElem?_eq_none (by rw [kP,List.length_replicate];omega),List.getElem?_eq_none (by rw [lF];omega)]
theorem FO {N:List Bk} (T:List Bool) (h:0<N.length):uL N T N.length=iy N T:=by
 unfold uL iy;apply List.map_congr_left;intro i hi;have hi':i<N.length:=List.mem_range.1 hi;unfold oY;rw [decide_eq_true hi',Bool.true_and];by_cases e:i=0
 ·subst e;have:dz N N.length 0=true:=by unfold dz;rw [decide_eq_true h];simp
  rw [this];simp
 ·rw [decide_eq_false e,Bool.false_or]
theorem oZ {N:List Bk} {m:Nat} {x:Bk} (hx:N[m]?=some x) (i:Nat):dz N (m+1) i=(dz N m i||(decide (i=m)&&(decide (m=0)||decide (it x.k)||decide (x.k=6)))||(namedL N x).contains (i:Int)):=by
 unfold dz;rw [au hx,List.any_append];simp only [List.any_cons,List.any_nil,Bool.or_false];have hbx:iD N (m:Int)=x:=kl hx;by_cases e:i=m
 ·subst e;rw [hbx,decide_eq_true (Nat.lt_succ_self i),decide_eq_false (Nat.lt_irrefl i),decide_eq_true rfl];simp only [Bool.true_and,Bool.false_and,Bool.false_or];cases (decide (i=0)||decide (it x.k)||decide (x.k=6)) <;> cases ((N.take i).any fun x=>(namedL N x).contains (i:Int)) <;> simp
 ·rw [decide_eq_false e,Bool.false_and,Bool.or_false];have h1:decide (i<m+1)=decide (i<m):=by rw [Bool.eq_iff_iff];simp only [decide_eq_true_eq];omega
  rw [h1];simp only [Bool.or_assoc]
theorem rc (T:List Bool) (m i:Nat):(decide (i<m+1)&&T.getD i false)=((decide (i<m)&&T.getD i false)||(decide (i=m)&&T.getD m false)):=by
 by_cases e:i=m
 ·subst e;rw [decide_eq_true (Nat.lt_succ_self i),decide_eq_false (Nat.lt_irrefl i),decide_eq_true rfl];simp
 ·have h1:decide (i<m+1)=decide (i<m):=by rw [Bool.eq_iff_iff];simp only [decide_eq_true_eq];omega
  rw [h1,decide_eq_false e];simp
def nK (N:List Bk) (T:List Bool) (m:Nat):List Bool:=if Ey T m=true then setB (uL N T m) m true else uL N T m
theorem kR (N:List Bk) (T:List Bool) (m:Nat):(nK N T m).length=N.length:=by unfold nK;split;rw [kP,lF];exact lF _ _ _
theorem D8 (T:List Bool) (m:Nat):Ey T (m:Int)=T.getD m false:=by
 by_cases h:m<T.length
 ·exact IH (kO h)
 ·unfold Ey yP;rw [decide_eq_false (show ¬ (m:Int)<T.length by omega),Bool.and_false,Bool.false_and,List.getD,List.getElem?_eq_none Ha];rfl
theorem tA {N:List Bk} {T:List Bool} {m i:Nat} (hi:i<N.length):(nK N T m).getD i false=(oY N T m i||(decide (i=m)&&T.getD m false)):=by
 unfold nK;rw [D8];cases hT:T.getD m false
 ·rw [if_neg Hd,xd hi];simp
 ·rw [if_pos rfl,List.getD,nJ (by rw [lF];exact hi),xd hi];simp only [Option.getD_some,Bool.and_true]
  congr 1
  rw [Bool.eq_iff_iff];simp only [decide_eq_true_eq];omega
theorem IJ {N:List Bk} {T:List Bool} {m:Nat} {x:Bk} (hx:N[m]?=some x) (h:¬ it x.k/\x.k≠6):nK N T m=uL N T (m+1):=by
 have hml:=(List.getElem?_eq_some_iff.1 hx).1;apply List.ext_getElem?;intro i;by_cases hi:i<N.length
 ·rw [kO (show i<(nK N T m).length by rw [kR];exact hi),tA hi,px hi];unfold oY;rw [oZ hx,rc];have hn:namedL N x=[]:=by unfold namedL;rw [if_neg];intro hh;exact h.1 (.inl hh.1)
  rw [hn,decide_eq_false h.1,decide_eq_false h.2];simp only [Bool.or_false,List.contains_nil];by_cases e:i=m
  ·subst e;by_cases e0:i=0
   ·subst e0;simp
   ·rw [decide_eq_false e0];simp
  ·rw [decide_eq_false e];simp [Bool.or_assoc]
 ·rw [List.getElem?_eq_none (by rw [kR];omega),List.getElem?_eq_none (by rw [lF];omega)]
theorem FP {N:List Bk} {T:List Bool} {m:Nat} {x:Bk} (hx:N[m]?=some x) (h:it x.k\/x.k=6) {l:List Int} (hl:∀ i:Nat,l.contains (i:Int)=(namedL N x).contains (i:Int)):setB (cL (nK N T m) l) m true=uL N T (m+1):=by
 have hml:=(List.getElem?_eq_some_iff.1 hx).1;have hu:(decide (m=0)||decide (it x.k)||decide (x.k=6))=true:=by rcases h with h | h <;> simp [h]
 apply List.ext_getElem?;intro i;by_cases hi:i<N.length
 ·have hlen:(cL (nK N T m) l).length=N.length:=by rw [mH,kR]
  rw [nJ (by rw [hlen];exact hi),List.getD,q9 l (by rw [kR];exact hi),Option.getD_some,tA hi,px hi,hl];unfold oY;rw [oZ hx,rc,hu,Bool.and_true];have he:decide ((m:Int)=(i:Int))=decide (i=m):=by rw [Bool.eq_iff_iff];simp only [decide_eq_true_eq];omega
  rw [he]
  congr 1
  cases decide (i=0) <;> cases dz N m i <;> cases decide (i=m) <;> cases (namedL N x).contains (i:Int) <;> cases (decide (i<m)&&T.getD i false) <;> cases T.getD m false <;> rfl
 ·rw [List.getElem?_eq_none (by rw [kP,mH,kR];omega),List.getElem?_eq_none (by rw [lF];omega)]
theorem xf {N:List Bk} {x:Bk} (h:x.k≠1) (i:Nat):([]:List Int).contains (i:Int)=(namedL N x).contains (i:Int):=by
 have:namedL N x=[]:=by unfold namedL;rw [if_neg (fun hh=>h hh.1)]
 rw [this]
theorem yV {P:Program} {a:Act} {w:World} {Q:Exit->Act->World->Prop} {c r0 r1 r2:Code} (J0 J1 J2:Act->World->Prop) (μ:Act->World->Nat)
 (h0:findLabel c 0=some (.seq .skip r0)) (h1:findLabel c 1=some r1) (h2:findLabel c 2=some r2)
 (first:(∀ a w,J0 a w->r0.wp P (cB (fun l a w=>match l with | 0=>J0 a w | 1=>J1 a w | 2=>J2 a w | _=>False) Q) a w)->c.wp P (cB (fun l a w=>match l with | 0=>J0 a w | 1=>J1 a w | 2=>J2 a w | _=>False) Q) a w)
 (pass0:∀ a w,J0 a w->r0.wp P (cB (fun l a' w'=>match l with | 1=>J1 a' w'/\μ a' w'=μ a w | 2=>J2 a' w'/\μ a' w'=μ a w | _=>False) Q) a w)
 (pass1:∀ a w,J1 a w->r1.wp P (cB (fun l a' w'=>match l with | 0=>J0 a' w'/\μ a' w'<μ a w | _=>False) Q) a w)
 (pass2:∀ a w,J2 a w->r2.wp P (cB (fun l a' w'=>match l with | 0=>J0 a' w'/\μ a' w'<μ a w | _=>False) Q) a w):(Code.scope c).wp P Q a w:=by
 refine gp (fun l a w=>match l with | 0=>J0 a w | 1=>J1 a w | 2=>J2 a w | _=>False) (fun l a w=>match l with | 0=>3*μ a w+2 | 1=>3*μ a w+1 | _=>3*μ a w) ?_ (first fun a w h=>?_) ?_
 ·intro l a w h
  match l,h with
  | 0,_=>exact ⟨_,h0⟩
  | 1,_=>exact ⟨_,h1⟩
  | 2,_=>exact ⟨_,h2⟩
 ·refine wp_mono (pass0 a w h) ?_;intro e a' w' he;cases e with
  | goto l'=>match l',he with
    | 1,he=>exact he.1
    | 2,he=>exact he.1
  | _=>exact he
 ·intro l rest hl a w h
  match l,h with
  | 0,h =>
    rw [h0] at hl;injection hl with hl;subst hl
    refine wp_seq (wp_skip (wp_mono (pass0 a w h) ?_));intro e a' w' he;cases e with
    | goto l'=>match l',he with
      | 1,he=>exact ⟨he.1,by show 3*μ a' w'+1<3*μ a w+2;have:=he.2;omega⟩
      | 2,he=>exact ⟨he.1,by show 3*μ a' w'<3*μ a w+2;have:=he.2;omega⟩
    | _=>exact he
  | 1,h =>
    rw [h1] at hl;injection hl with hl;subst hl
    refine wp_mono (pass1 a w h) ?_;intro e a' w' he;cases e with
    | goto l'=>match l',he with
      | 0,he=>exact ⟨he.1,by show 3*μ a' w'+2<3*μ a w+1;have:=he.2;omega⟩
    | _=>exact he
  | 2,h =>
    rw [h2] at hl;injection hl with hl;subst hl
    refine wp_mono (pass2 a w h) ?_;intro e a' w' he;cases e with
    | goto l'=>match l',he with
      | 0,he=>exact ⟨he.1,by show 3*μ a' w'+2<3*μ a w;have:=he.2;omega⟩
    | _=>exact he
structure KJ (W:World) (tb hp kb q rb:Nat) (pv:Value) (P:List Wr) (T:List Bool) (v:VM) (kg p4:Nat) (S:List Bool) (W':World):Prop where
 bits:bm W' kg S
 ks:KS W' tb hp kb q rb pv P T v
 b4:∃ (k:Int) (bs:List Int),bs.length=56/\W'.heap[p4]?=some (.cells (ab k bs) 37 (0,0))
 bel:Below W.heap.size W W'
 kge:W.heap.size<=kg
 pge:W.heap.size<=p4
 nkb:kg≠kb
section
variable {W W' W'':World} {tb hp kb q rb kg p4:Nat} {pv:Value} {P:List Wr} {T S S':List Bool} {v:VM}
theorem KJ.below (h:KJ W tb hp kb q rb pv P T v kg p4 S W') (hb:Below W'.heap.size W' W''):KJ W tb hp kb q rb pv P T v kg p4 S W'' :=
 ⟨h.bits.below hb,h.ks.below hb,let ⟨k,bs,h1,h2⟩:=h.b4;⟨k,bs,h1,Go.Proofs.YtegjelaejbacnaaGreat.kb hb h2⟩,h.bel.trans (hb.mono h.bel.size),h.kge,h.pge,h.nkb⟩
theorem KJ.set (h:KJ W tb hp kb q rb pv P T v kg p4 S W') (hg:W'.grownBy W'' (some kg)) (hs:bm W'' kg S'):KJ W tb hp kb q rb pv P T v kg p4 S' W'' :=
 ⟨hs,h.ks.grown hg h.bits.hp h.nkb,let ⟨k,bs,h1,h2⟩:=h.b4;⟨k,bs,h1,bo hg h2 (fun e=>by injection e with e;exact bu h2 h.bits.hp Hd e.symm)⟩,h.bel.grown hg h.bel.size (fun k e=>by injection e with e;subst e;exact h.kge),h.kge,h.pge,h.nkb⟩
theorem KJ.box (h:KJ W tb hp kb q rb pv P T v kg p4 S W') (k:Int) (bs:List Int) (h56:bs.length=56):KJ W tb hp kb q rb pv P T v kg p4 S (W'.setRow p4 (ab k bs))/\(W'.setRow p4 (ab k bs)).heap[p4]?=some (.cells (ab k bs) 37 (0,0)):=by
 obtain ⟨k0,bs0,h1,h2⟩:=h.b4;have h3:=am (D:=ab k bs) h2;have hg:W'.grownBy (W'.setRow p4 (ab k bs)) (some p4):=⟨rfl,rfl,rfl,Hb,fun j hj hne=>setRow_other W' p4 j _ (fun e=>hne (by rw [e]))⟩
 have keep:∀ {p:Nat} {C':Array Value} {t:TypeId} {fr':Nat × Nat},W'.heap[p]?=some (.cells C' t fr')->t≠37->(W'.setRow p4 (ab k bs)).heap[p]?=some (.cells C' t fr'):=fun hp ht=>bo hg hp (fun e=>by injection e with e;subst e;exact bu hp h2 ht rfl);refine ⟨⟨⟨h.bits.len,keep h.bits.hp Hd⟩,⟨⟨keep h.ks.tx.hd Hd,h.ks.tx.own.kept hg (.inr (lD h.ks.tx.own h2 Hd)),h.ks.tx.ok,h.ks.tx.srt,h.ks.tx.few,⟨h.ks.tx.bits.len,keep h.ks.tx.bits.hp Hd⟩⟩,h.ks.vol.keep ((keep h.ks.vol.hd Hd).trans h.ks.vol.hd.symm) ((keep h.ks.vol.row Hd).trans h.ks.vol.row.symm),h.ks.inn⟩,⟨k,bs,h56,h3⟩,below_setRow h.bel h.pge _,h.kge,h.pge,h.nkb⟩,h3⟩
end
theorem D9 {W:World} {tb hp kb q rb:Nat} {pv:Value} {P:List Wr} {T:List Bool} {v:VM} (h:KS W tb hp kb q rb pv P T v) (N:List Bk) (hN:N=applyW (kf v) P) (hNo:∀ y∈N,i64 y.k/\y.bs.length=56/\ax y.bs) (h1:0<v.n) (h200:v.n<=200) :
 Calls Tryz.prog 47 #[.pointer (some ⟨tb,0,none⟩)] W fun e w'=>∃ kg,e=.returned (.pointer (some ⟨kg,0,none⟩))/\bm w' kg (iy N T)/\Below W.heap.size W w'/\W.heap.size<=kg:=by
 obtain ⟨n,hn⟩:∃ n,n=v.n:=⟨_,rfl⟩
 have hnl:N.length=n:=by rw [hN,cZ,gU h.vol.toOk,hn]
 have HNL:=He hnl;have HN:=He hN;have HNO:=He hNo;have HVN:=He hn;rw [<- hn] at h1 h200;have hkb:=ai h.tx.bits.hp;have HKB:=He hkb;have HK:=He h;have hb4:=aK (w:=W) (.cells (ab 0 ay) 37);have HK4:=He (h.below hb4);have h4:=heap_alloc_new W (.cells (ab 0 ay) 37);have HB4:=He hb4;clear hN hNo hnl h hn hkb hb4;have HBN:=He (fun W=>Aj (n:Int) (by constructor <;> omega) W);rw [show (min (max (n:Int) 0) 200).toNat=n by omega] at HBN;have HVB:=He (kH HK4.out.vol);rw [<- HVN.out] at HVB;go_enter Tryz.func47,Tryz.ntmps47;go_wp2_with fail
 refine yV (fun a' W'=>∃ (kg p4 k:Nat),k<=n/\KJ W tb hp kb q rb pv P T v kg p4 (uL N T k) W'/\∃ u5 u7 u8 u9 u10 u11 u12 u13 u14 u15 u16 u17 u18 u19 u20 u21 u22 u23 u24 u25 u26 u27 u28 u29 u30 u31 u32 u33 u34 u35 u36 u37 u38 u39 u40 u41 u42 u43 u44 u45 u46 u47 u48 u49 u50 u51:Value,a'={ tmps:=#[.pointer (some ⟨tb,0,none⟩),undef,.pointer none,.pointer (some ⟨kg,0,none⟩),.pointer (some ⟨p4,0,none⟩),u5,.int .i64 k,u7,u8,u9,u10,u11,u12,u13,u14,u15,u16,u17,u18,u19,u20,u21,u22,u23,u24,u25,u26,u27,u28,u29,u30,u31,u32,u33,u34,u35,u36,u37,u38,u39,u40,u41,u42,u43,u44,u45,u46,u47,u48,u49,u50,u51],defers:=[] }) (fun a' W'=>∃ (kg p4 k:Nat),k<n/\(∃ S,setB S (k:Int) true=uL N T (k+1)/\KJ W tb hp kb q rb pv P T v kg p4 S W')/\∃ u5 u7 u8 u9 u10 u11 u12 u13 u14 u15 u16 u17 u18 u19 u20 u21 u22 u23 u24 u25 u26 u27 u28 u29 u30 u31 u32 u33 u34 u35 u36 u37 u38 u39 u40 u41 u42 u43 u44 u45 u46 u47 u48 u49 u50 u51:Value,a'={ tmps:=#[.pointer (some ⟨tb,0,none⟩),undef,.pointer none,.pointer (some ⟨kg,0,none⟩),.pointer (some ⟨p4,0,none⟩),u5,.int .i64 k,u7,u8,u9,u10,u11,u12,u13,u14,u15,u16,u17,u18,u19,u20,u21,u22,u23,u24,u25,u26,u27,u28,u29,u30,u31,u32,u33,u34,u35,u36,u37,u38,u39,u40,u41,u42,u43,u44,u45,u46,u47,u48,u49,u50,u51],defers:=[] }) (fun a' W'=>∃ (kg p4 k:Nat),k<n/\KJ W tb hp kb q rb pv P T v kg p4 (uL N T (k+1)) W'/\∃ u5 u7 u8 u9 u10 u11 u12 u13 u14 u15 u16 u17 u18 u19 u20 u21 u22 u23 u24 u25 u26 u27 u28 u29 u30 u31 u32 u33 u34 u35 u36 u37 u38 u39 u40 u41 u42 u43 u44 u45 u46 u47 u48 u49 u50 u51:Value,a'={ tmps:=#[.pointer (some ⟨tb,0,none⟩),undef,.pointer none,.pointer (some ⟨kg,0,none⟩),.pointer (some ⟨p4,0,none⟩),u5,.int .i64 k,u7,u8,u9,u10,u11,u12,u13,u14,u15,u16,u17,u18,u19,u20,u21,u22,u23,u24,u25,u26,u27,u28,u29,u30,u31,u32,u33,u34,u35,u36,u37,u38,u39,u40,u41,u42,u43,u44,u45,u46,u47,u48,u49,u50,u51],defers:=[] }) (fun a' _=>n-(intOf (a'.tmps.getD 6 undef)).toNat) rfl rfl rfl ?_ ?_ ?_ ?_
 ·intro HFF;go_upto_region 3 with (refine aq rfl rfl ?_)
  obtain ⟨p4,hp4⟩:∃ p4,p4=W.heap.size:=⟨_,rfl⟩
  rw [<- hp4] at h4 ⊢;have HP4:Hid (W.heap.size<=p4):=Nat.le_of_eq hp4.symm;have H4:=He h4;clear hp4 h4;generalize W.alloc (.cells (ab 0 ay) 37)=W4 at *;have c0:=HK4.out.tx.c0;go_wp2_with fail
  refine HVB.out.mono ?_;rintro e w5 ⟨rfl,rfl⟩;go_wp2_with fail
  refine (HBN.out W4).mono ?_;rintro e w6 ⟨kg,rfl,hkg,hbits,hb6⟩;have hj6:KJ W tb hp kb q rb pv P T v kg p4 (List.replicate n false) w6:=⟨hbits,HK4.out.below hb6,⟨0,ay,al,Go.Proofs.YtegjelaejbacnaaGreat.kb hb6 H4.out⟩,HB4.out.trans (hb6.mono HB4.out.size),by rw [hkg];exact HB4.out.size,HP4.out,by have:=HKB.out;have:=HB4.out.size;omega⟩
  have HJ6:=He hj6;have HBS:=He (jb hbits 0 (by constructor <;> omega));clear hj6 hbits hb6 hkg;go_wp2_with fail
  refine HBS.out.mono ?_;rintro e w7 ⟨rfl,hs7,ht7⟩;have hz:setB (List.replicate n false) 0 true=uL N T 0:=by rw [<- HNL.out];exact D7 T (by rw [HNL.out];exact h1)
  have HJ7:Hid (KJ W tb hp kb q rb pv P T v kg p4 (uL N T 0) w7):=HJ6.out.set (fx ht7) (by rw [<- hz];exact hs7);clear hs7 ht7 hz HBS HJ6;go_wp2_with fail
  go_step3;rename_i hK;exact hK _ _ (HFF _ _ ⟨kg,p4,0,Nat.zero_le _,HJ7.out,_,_,_,_,_,_,_,_,_,_,_,_,_,_,_,_,_,_,_,_,_,_,_,_,_,_,_,_,_,_,_,_,_,_,_,_,_,_,_,_,_,_,_,_,_,_,rfl⟩)
 ·rintro a' W' ⟨kg,p4,k,hk,hJ,u5,u7,u8,u9,u10,u11,u12,u13,u14,u15,u16,u17,u18,u19,u20,u21,u22,u23,u24,u25,u26,u27,u28,u29,u30,u31,u32,u33,u34,u35,u36,u37,u38,u39,u40,u41,u42,u43,u44,u45,u46,u47,u48,u49,u50,u51,rfl⟩;have HJ:=He hJ;clear hJ;have HG:=He (lE HJ.out.ks.tx HJ.out.ks.vol HJ.out.ks.inn (k:Int) (by constructor <;> omega));rw [<- HN.out,<- HVN.out] at HG;by_cases hlt:k<n
  case neg =>
   obtain rfl:k=n:=Ha;have hdd:decide (0<=(k:Int)/\(k:Int)<(k:Int))=false:=decide_eq_false Ha;rw [hdd] at HG;have hy56:=(Ak (fun y hy=>(HNO.out y hy).2) (k:Int)).1;generalize gB N (k:Int)=y at *;clear hdd;go_wp2_with fail
   refine HG.out.mono ?_;rintro e w8 ⟨rfl,hb8⟩;obtain ⟨k0,bs0,hl0,hq0⟩:=(HJ.out.below hb8).b4;have hbox:=((HJ.out.below hb8).box y.k y.bs hy56).1;have HBX:=He hbox;clear hbox hb8;go_wp2_with (first | (refine ap rfl (.tmp 4) (.tmp 21) rfl p4 rfl y.k k0 y.bs bs0 rfl hy56 hl0 hq0 ?_))
   simp only [aY];go_ret;refine ⟨kg,rfl,?_,HBX.out.bel,HBX.out.kge⟩;have hbt:=HBX.out.bits;rw [<- HNL.out,FO T (by rw [HNL.out];exact h1)] at hbt;exact hbt
  obtain ⟨x,hx⟩:∃ x,N[k]?=some x:=⟨_,List.getElem?_eq_getElem (by rw [HNL.out];exact hlt)⟩
  have hdd:decide (0<=(k:Int)/\(k:Int)<(n:Int))=true:=decide_eq_true Ha;rw [hdd,DZ hx] at HG;have HX:=He hx;have hxo:=HNO.out x (List.mem_of_getElem? hx);have hx56:=hxo.2.1;clear hdd hx;go_wp2_with fail
  refine HG.out.mono ?_;rintro e w8 ⟨rfl,hb8⟩;obtain ⟨k0,bs0,hl0,hq0⟩:=(HJ.out.below hb8).b4;obtain ⟨hbox,h48⟩:=(HJ.out.below hb8).box x.k x.bs hx56;have HJ8:=He hbox;have H48:=He h48;clear hbox hb8 HG HJ h48;go_upto_region 10 with (first | (refine ap rfl (.tmp 4) (.tmp 21) rfl p4 rfl x.k k0 x.bs bs0 rfl hx56 hl0 hq0 ?_))
  clear hl0 hq0;generalize w8.setRow p4 (ab x.k x.bs)=w9 at *;have c2:=HJ8.out.ks.tx.c2;have HIS:=He (IG HJ8.out.ks.tx.bits (k:Int) (by constructor <;> omega));go_wp2_with fail
  refine HIS.out.mono ?_;rintro e w' ⟨rfl,rfl⟩;obtain ⟨tb1,htb1⟩:∃ tb1,tb1=Ey T (k:Int):=⟨_,rfl⟩
  have HTB:=He htb1;rw [<- htb1];clear HIS c2 htb1
  go_upto_if 31 with fail
  go_cut [] (fun wx=>Hid (KJ W tb hp kb q rb pv P T v kg p4 (nK N T k) wx)/\Hid (wx.heap[p4]?=some (.cells (ab x.k x.bs) 37 (0,0))))
  case first =>
   cases tb1 with
   | true =>
     have HBS:=He (jb HJ8.out.bits (k:Int) (by constructor <;> omega));go_wp2_with fail
     refine HBS.out.mono ?_;rintro e w10 ⟨rfl,hs10,ht10⟩;have hgg:=fx ht10;have hq10:=bo hgg H48.out (fun e=>by injection e with e;exact bu H48.out HJ8.out.bits.hp Hd e.symm);have HJT:Hid (KJ W tb hp kb q rb pv P T v kg p4 (nK N T k) w10):=by unfold Hid nK;rw [if_pos HTB.out.symm];exact HJ8.out.set hgg hs10
     have HQT:=He hq10;clear hgg hq10 hs10 ht10 HBS;go_wp2_with fail
     go_meet
     case rel=>exact ⟨HJT,HQT⟩
   | false =>
     have HJT:Hid (KJ W tb hp kb q rb pv P T v kg p4 (nK N T k) w9):=by unfold Hid nK;rw [if_neg (by rw [<- HTB.out];decide)];exact HJ8.out
     go_wp2_with fail
     go_meet
     case rel=>exact ⟨HJT,H48⟩
  case rest =>
  obtain ⟨HJX,HQX⟩:=hcut;clear HJ8 H48 HTB;have hk0:=af HQX.out 0;rw [show (ab x.k x.bs)[0]?=some (.int .i64 x.k) from rfl] at hk0;go_upto_region 15 with fail
  clear hk0;have HYES:=He (fun hh l hl=>FP (T:=T) HX.out hh (l:=l) hl);have HNOO:=He (fun hh=>IJ (T:=T) HX.out hh);have HNMD:=He (fun hh=>xf (N:=N) (x:=x) hh);have HKN:=He (BU HJX.out.ks N HN.out (fun y hy=>(HNO.out y hy).2) kg (nK N T k) HJX.out.bits HJX.out.nkb x hxo.1 hx56 hxo.2.2);have HNA:=He (fun hh=>uK (N:=N) (x:=x) hh);obtain ⟨xk,hxk⟩:∃ xk,xk=x.k:=⟨_,rfl⟩
  rw [<- hxk] at HYES HNOO HNMD HKN HQX HNA ⊢;have hbx56:x.bs.length=56:=hx56;clear hxk hxo HX;by_cases h0:xk=1
  ·have hc:=h0;have t0:(xk==1)=true:=beq_iff_eq.2 hc;have t0d:decide (xk=1)=true:=decide_eq_true hc;have HYS:=He (HYES.out (.inl (.inl hc)) _ (HNA.out hc));clear h0 hc;go_wp2_with (first | (refine aQ rfl (.tmp 4) rfl p4 rfl xk x.bs hbx56 HQX.out ?_))
   refine HKN.out.mono ?_;rintro e w11 ⟨rfl,hs11,hg11⟩;have HJY:=He (HJX.out.set hg11 hs11);clear hs11 hg11 HKN;go_wp2_with fail
   go_step3;exact ⟨⟨kg,p4,k,hlt,⟨_,HYS.out,HJY.out⟩,_,_,_,_,_,_,_,_,_,_,_,_,_,_,_,_,_,_,_,_,_,_,_,_,_,_,_,_,_,_,_,_,_,_,_,_,_,_,_,_,_,_,_,_,_,_,rfl⟩,rfl⟩
  by_cases h1':xk=2
  ·have hc:=h1';have h1:=h1';have t0:(xk==1)=false:=beq_eq_false_iff_ne.2 h0;have t0d:decide (xk=1)=false:=decide_eq_false h0;have t1:(xk==2)=true:=beq_iff_eq.2 hc;have t1d:decide (xk=2)=true:=decide_eq_true hc;have HYS:=He (HYES.out (.inl (.inr (.inl hc))) [] (HNMD.out h0));clear hc h1 h1' h0;go_wp2_with fail
   go_step3;exact ⟨⟨kg,p4,k,hlt,⟨_,HYS.out,HJX.out⟩,_,_,_,_,_,_,_,_,_,_,_,_,_,_,_,_,_,_,_,_,_,_,_,_,_,_,_,_,_,_,_,_,_,_,_,_,_,_,_,_,_,_,_,_,_,_,rfl⟩,rfl⟩
  have h1:=h1';by_cases h2:xk=3
  ·have hc:=h2;have t0:(xk==1)=false:=beq_eq_false_iff_ne.2 h0;have t0d:decide (xk=1)=false:=decide_eq_false h0;have t1:(xk==2)=false:=beq_eq_false_iff_ne.2 h1;have t1d:decide (xk=2)=false:=decide_eq_false h1;have t2:(xk==3)=true:=beq_iff_eq.2 hc;have t2d:decide (xk=3)=true:=decide_eq_true hc;have HYS:=He (HYES.out (.inl (.inr (.inr hc))) [] (HNMD.out h0));clear hc h1 h1' h0 h2;go_wp2_with fail
   go_step3;exact ⟨⟨kg,p4,k,hlt,⟨_,HYS.out,HJX.out⟩,_,_,_,_,_,_,_,_,_,_,_,_,_,_,_,_,_,_,_,_,_,_,_,_,_,_,_,_,_,_,_,_,_,_,_,_,_,_,_,_,_,_,_,_,_,_,rfl⟩,rfl⟩
  by_cases h3:xk=6
  ·have hc:=h3;have t0:(xk==1)=false:=beq_eq_false_iff_ne.2 h0;have t0d:decide (xk=1)=false:=decide_eq_false h0;have t1:(xk==2)=false:=beq_eq_false_iff_ne.2 h1;have t1d:decide (xk=2)=false:=decide_eq_false h1;have t2:(xk==3)=false:=beq_eq_false_iff_ne.2 h2;have t2d:decide (xk=3)=false:=decide_eq_false h2;have t3:(xk==6)=true:=beq_iff_eq.2 hc;have t3d:decide (xk=6)=true:=decide_eq_true hc;have HYS:=He (HYES.out (.inr hc) [] (HNMD.out h0));clear hc h1 h1' h0 h2 h3;go_wp2_with fail
   go_step3;exact ⟨⟨kg,p4,k,hlt,⟨_,HYS.out,HJX.out⟩,_,_,_,_,_,_,_,_,_,_,_,_,_,_,_,_,_,_,_,_,_,_,_,_,_,_,_,_,_,_,_,_,_,_,_,_,_,_,_,_,_,_,_,_,_,_,rfl⟩,rfl⟩
  have t0:(xk==1)=false:=beq_eq_false_iff_ne.2 h0;have t0d:decide (xk=1)=false:=decide_eq_false h0;have t1:(xk==2)=false:=beq_eq_false_iff_ne.2 h1;have t1d:decide (xk=2)=false:=decide_eq_false h1;have t2:(xk==3)=false:=beq_eq_false_iff_ne.2 h2;have t2d:decide (xk=3)=false:=decide_eq_false h2;have t3:(xk==6)=false:=beq_eq_false_iff_ne.2 h3;have t3d:decide (xk=6)=false:=decide_eq_false h3;have hst:=HNOO.out ⟨fun hh=>hh.elim h0 (fun hh=>hh.elim h1 h2),h3⟩;have HJY:Hid (KJ W tb hp kb q rb pv P T v kg p4 (uL N T (k+1)) wc):=by rw [<- hst];exact HJX
  clear hst h0 h1 h1' h2 h3;go_wp2_with fail
  go_step3;exact ⟨⟨kg,p4,k,hlt,HJY.out,_,_,_,_,_,_,_,_,_,_,_,_,_,_,_,_,_,_,_,_,_,_,_,_,_,_,_,_,_,_,_,_,_,_,_,_,_,_,_,_,_,_,_,_,_,_,rfl⟩,rfl⟩
 ·rintro a' W' ⟨kg,p4,k,hk,⟨S,hS,hJ⟩,u5,u7,u8,u9,u10,u11,u12,u13,u14,u15,u16,u17,u18,u19,u20,u21,u22,u23,u24,u25,u26,u27,u28,u29,u30,u31,u32,u33,u34,u35,u36,u37,u38,u39,u40,u41,u42,u43,u44,u45,u46,u47,u48,u49,u50,u51,rfl⟩;have HBS:=He (jb hJ.bits (k:Int) (by constructor <;> omega));have HJ:=He hJ;have HSE:=He hS;clear hJ hS;go_wp2_with fail
  refine HBS.out.mono ?_;rintro e w10 ⟨rfl,hs10,ht10⟩;have HJY:Hid (KJ W tb hp kb q rb pv P T v kg p4 (uL N T (k+1)) w10):=by unfold Hid;rw [<- HSE.out];exact HJ.out.set (fx ht10) hs10
  have wk:IntKind.i64.wrap ((k:Int)+1)=(k:Int)+1:=IntWalk.i64_in _ Ha;clear hs10 ht10 HBS;go_wp2_with fail
  go_step3;rename_i hK;refine hK _ _ ?_;go_wp2_with fail
  go_step3;refine ⟨⟨kg,p4,k+1,Ha,HJY.out,_,_,_,_,_,_,_,_,_,_,_,_,_,_,_,_,_,_,_,_,_,_,_,_,_,_,_,_,_,_,_,_,_,_,_,_,_,_,_,_,_,_,_,_,_,_,rfl⟩,?_⟩;simp [intOf];omega
 ·rintro a' W' ⟨kg,p4,k,hk,hJ,u5,u7,u8,u9,u10,u11,u12,u13,u14,u15,u16,u17,u18,u19,u20,u21,u22,u23,u24,u25,u26,u27,u28,u29,u30,u31,u32,u33,u34,u35,u36,u37,u38,u39,u40,u41,u42,u43,u44,u45,u46,u47,u48,u49,u50,u51,rfl⟩;have HJY:=He hJ;clear hJ;have wk:IntKind.i64.wrap ((k:Int)+1)=(k:Int)+1:=IntWalk.i64_in _ Ha;go_wp2_with fail
  go_step3;refine ⟨⟨kg,p4,k+1,Ha,HJY.out,_,_,_,_,_,_,_,_,_,_,_,_,_,_,_,_,_,_,_,_,_,_,_,_,_,_,_,_,_,_,_,_,_,_,_,_,_,_,_,_,_,_,_,_,_,_,rfl⟩,?_⟩;simp [intOf];omega
end Go.Proofs.YtegjelaejbacnaaGreat
