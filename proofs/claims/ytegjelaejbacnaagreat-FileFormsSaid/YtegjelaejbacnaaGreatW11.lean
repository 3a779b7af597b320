/- For FileForms: contracts and facts, part 11. -/
import Derived.Test.YtegjelaejbacnaaGreatW10
set_option maxRecDepth 100000
set_option maxHeartbeats 25600000
set_option linter.unusedVariables false
open Go.ChangeShapes Go.WideShapes Go.ChangeAt Go.RowKit
namespace Go.Proofs.YtegjelaejbacnaaGreat
def aJ (e:Nat):Nat->List (List Wr)->List (List Int)
 | _,[]=>[]
 | s,l :: Rs=>putL 0 e s l++aJ e (s+1) Rs
theorem xA.cut {W:World} {R:Nat->Prop} {A:Option Addr} {ls:List (List Int)} {c k:Nat} (h:xA W R A ls) (hc:ls.length<=c):xA W R (ED A c k) (ls.drop k):=fun i b hi=>by
 rw [List.getElem?_drop] at hi;have hl:k+i<ls.length:=(List.getElem?_eq_some_iff.1 hi).1;obtain ⟨a,B,d,rfl,h1,h2,h3⟩:=h _ _ hi;refine ⟨a.add k,B,d,?_,by rw [dP];exact h1,by rw [iS];exact h2,h3⟩;unfold ED;rw [if_neg Ha,Nat.mul_one];rfl
theorem m6.txR {W:World} {base:Nat} {v:Value} {vs:List Value} {ls:List (List Int)} (h:m6 W base v vs ls) (h64:∀ b∈ls,b.length=64):∃ A c,v=.slice A ls.length c/\ls.length<=c/\c<=9223372036854775807/\xA W (fun k=>base<=k/\k<W.heap.size) A ls:=by
 obtain ⟨A,c,rfl,h1,h2⟩:=h.row.val;refine ⟨A,c,rfl,h1,h2,fun i b hi=>?_⟩;obtain ⟨p,h3,h4,h5⟩:=h.blk i b hi;have hlt:=(List.getElem?_eq_some_iff.1 hi).1;obtain ⟨g,cap,he,ho,hgl,_,_,hc,_⟩:=h.row.pos Ha;injection he with e1 e2 e3
 subst e1;have hb:=h64 b (List.mem_of_getElem? hi);refine ⟨_,some ⟨p,0,none⟩,64,rfl,⟨ho,hgl⟩,?_,Ha,Ha,fun j x hj=>?_⟩
 ·rw [fP,hc i Ha,h3,hb]
 ·obtain ⟨a,e,hx⟩:=dS (bs:=b) h4 Hb j x hj;injection e with e;subst e
  exact ⟨_,rfl,⟨h5,ai h4⟩,hx⟩
theorem xA.tx {W:World} {R:Nat->Prop} {A:Option Addr} {ls:List (List Int)} (h:xA W R A ls):Tx W A ls:=fun i b hi=>by
 obtain ⟨a,B,d,e,_,h2,h3,h4,h5⟩:=h i b hi;exact ⟨a,B,d,e,h2,h3,h4,fun j x hj=>let ⟨c,e2,_,h7⟩:=h5 j x hj;⟨c,e2,h7⟩⟩
theorem fQ.wrsR {W:World} {base:Nat} {v:Value} {l:List Wr} (h:fQ W base v l) (h56:vG l):∃ A d,v=.slice A l.length d/\l.length<=d/\d<=9223372036854775807/\o6 W (fun k=>base<=k/\k<W.heap.size) A l:=by
 obtain ⟨A,d,rfl,h1,h2,h3⟩:=h.wrs h56;refine ⟨A,d,rfl,h1,h2,fun i x hi=>?_⟩;obtain ⟨a,rfl,h4⟩:=h3 i x hi;refine ⟨a,rfl,h4,?_⟩;rcases h.2 with ⟨h9,_⟩ | ⟨g,cap,cur,h9,hb,hg,_⟩
 ·cases h9
 ·injection h9 with h9;injection h9 with h9;subst h9
  exact ⟨hb,ai hg⟩
def JG (hp base n c N:Nat) (e k:Int) (A:Option Addr) (b:Bool) (tv:List Wr) (i:Nat) (v:Value) (w:World):Prop :=
 match i with
 | 0 | 1 | 2 | 5 | 6=>v=.pointer (some ⟨hp,0,none⟩)
 | 3=>v=.pointer (some ⟨hp,2,none⟩)
 | 4=>v=.int .u8 0
 | 7=>v=.pointer (some ⟨hp,9,none⟩)
 | 8=>v=.int .u32 (e:Int)
 | 9=>v=.int .u32 (k:Int)
 | 10=>v=.slice A n c
 | 14 | 17=>v=.int .i64 N
 | 15=>v=.bool b
 | 11=>∃ u,v=.tuple #[u,.int .i64 N,.bool b]/\fQ w base u tv
 | 12=>∃ u,v=.tuple #[u,.int .i64 N,.bool b]/\fQ w base u tv
 | 13=>fQ w base v tv
 | 16=>fQ w base v tv
 | _=>True
def zJ (w0 W:World) (P:Nat->Prop) (q:Nat) (m:DM) (hp rb:Nat) (v:VM) (Rs:List (List Wr)) (rest:List (List Int)) (a':Act) (w':World):Prop :=
 ∃ (P':Nat->Prop) (k:Nat) (ls:List (List Int)) (A:Option Addr) (c:Nat),(∀ k,P k->P' k)/\Hid (SV w0 w' P' q m hp rb { v with B:=cN v.B (Rs.take k).flatten })/\Hid (bv (n8 P hp rb) W w')/\k<=Rs.length/\Hid (ls.length<=c)/\Hid (c<=9223372036854775807)/\Hid (xA w' (n8 P' hp rb) A ls)/\Hid (rL ls)/\Hid (ls=aJ v.ep k (Rs.drop k)++rest)/\∃ u2 u3 u4 u7 u8 u9 u10 u11 u12 u13 u14 u15 u16 u17 u18 u19 u20 u21 u22 u23 u24 u25 u26 u27 u28 u29 u30 u31 u32 u33 u34 u35 u36 u37:Value,a'={ tmps:=#[.pointer (some ⟨hp,0,none⟩),undef,u2,u3,u4,.slice A ls.length c,.int .u32 k,u7,u8,u9,u10,u11,u12,u13,u14,u15,u16,u17,u18,u19,u20,u21,u22,u23,u24,u25,u26,u27,u28,u29,u30,u31,u32,u33,u34,u35,u36,u37],defers:=[] }
theorem vS {w0 W:World} {P:Nat->Prop} {q:Nat} {m:DM} {hp rb:Nat} {v:VM} (h:SV w0 W P q m hp rb v) (L:List (List Int)) (hL:L.length=v.g) (hrow:∀ i b,L[i]?=some b->iB m v.r ((2+i:Nat):Int)=some b) (hLB:∀ b∈L,cG b)
 (Rs:List (List Wr)) (rest:List (List Int)) (hRs:∀ l∈Rs,bM l/\bS l) (hLs:L=aJ v.ep 0 Rs++rest) (hnt:¬ fN 0 v.ep Rs.length rest) (hrl:Rs.length<=1000000) :
 Calls Tryz.prog 99 #[.pointer (some ⟨hp,0,none⟩)] W fun e w'=>e=.returned (.tuple #[])/\SV w0 w' P q m hp rb { v with B:=cN v.B Rs.flatten }/\bv (n8 P hp rb) W w':=by
 have HV:=He h;have HL:=He hL;have HRW:=He hrow;have HLB:=He hLB;have HRS:=He hRs;have HLS0:=He hLs;have HNT:=He hnt;have HPP:=He (And.intro h.ph h.pr);have HLG:=He (C7 (h.ds.rd v.r h.at_.r) v.n v.g v.fr h.at_.g L hL hrow);clear h hL hrow hLB hRs hLs hnt;obtain ⟨WW,rfl⟩:∃ WW,WW=W:=⟨W,rfl⟩
 go_enter Tryz.func99,Tryz.ntmps99;go_wp2;refine aV (zJ w0 WW P q m hp rb v Rs rest) (fun a' _=>Rs.length-(intOf (a'.tmps.getD 6 undef)).toNat) rfl ?_ ?_
 ·intro HF0;have HF:=He HF0;clear HF0;go_wp2_with (with_reducible refine wpList_load_mid rfl 115 (.tmp 9) rfl hp 0 rfl (oN (some ⟨q,0,none⟩) v.r v.n v.g v.fr) _ HV.out.at_.rangeG Tryz.underlying115 rfl (by rw [show (oN (some ⟨q,0,none⟩) v.r v.n v.g v.fr).length=8 from rfl];exact n6) ?_)
  refine HLG.out.mono ?_;rintro e W1 ⟨⟨u,vs,rfl,hlo⟩,hb1⟩;obtain ⟨A,c,rfl,hc1,hc2,htx⟩:=hlo.txR (fun b hb=>(HLB.out b hb).1);have hsv1:=HV.out.grow hb1 (Q:=fun k=>WW.heap.size<=k/\k<W1.heap.size) (fun k hk=>hk);have hlp:=HV.out.ds.low _ HV.out.ph;have hlr:=HV.out.ds.low _ HV.out.pr;have hj:∀ (a':Act),(∃ u2 u3 u4 u7 u8 u9 u10 u11 u12 u13 u14 u15 u16 u17 u18 u19 u20 u21 u22 u23 u24 u25 u26 u27 u28 u29 u30 u31 u32 u33 u34 u35 u36 u37:Value,a'={ tmps:=#[.pointer (some ⟨hp,0,none⟩),undef,u2,u3,u4,.slice A L.length c,.int .u32 0,u7,u8,u9,u10,u11,u12,u13,u14,u15,u16,u17,u18,u19,u20,u21,u22,u23,u24,u25,u26,u27,u28,u29,u30,u31,u32,u33,u34,u35,u36,u37],defers:=[] })->zJ w0 WW P q m hp rb v Rs rest a' W1:=fun a' ha=>⟨_,0,L,A,c,fun k hk=>Or.inl hk,hsv1,bv.rst (HV.out.same hb1),Nat.zero_le _,hc1,hc2,htx.mono (fun k hk=>⟨Or.inr hk,Ha,Ha⟩),(fun b hb=>(HLB.out b hb).2),HLS0.out,ha⟩
  have HJ0:=He hj;clear hlo hb1 hc1 hc2 htx hsv1 hlp hlr hj HLG;go_wp2;go_step3;rename_i hK;exact hK _ _ (HF.out _ _ (HJ0.out _ ⟨_,_,_,_,_,_,_,_,_,_,_,_,_,_,_,_,_,_,_,_,_,_,_,_,_,_,_,_,_,_,_,_,_,_,rfl⟩))
 ·rintro a' w5 ⟨P',k,ls,A,c,HPI,HSV,HSM,hkR,HLC,HC2,HTX,HTO,HLS,u2,u3,u4,u7,u8,u9,u10,u11,u12,u13,u14,u15,u16,u17,u18,u19,u20,u21,u22,u23,u24,u25,u26,u27,u28,u29,u30,u31,u32,u33,u34,u35,u36,u37,rfl⟩;have HC:=He (fun (W':World) (hb':Below w5.heap.size w5 W')=>(HSV.out.at_.below hb').cs);have HTK:=He (fun (W':World) (hb':Below w5.heap.size w5 W')=>C2 0 v.ep k A ls ls.length c W' Ha HSV.out.at_.ep Ha rfl HLC.out HC2.out HTO.out ((HTX.out.tx).keep hb'));have HTVL:Hid (vG (kr 0 v.ep k ls)):=(CT HTO.out).len;generalize htn:mX 0 v.ep k ls=N at *;generalize htv:kr 0 v.ep k ls=tv at *;generalize hbb:decide (fN 0 v.ep k ls)=b at *;have HTV:=He (And.intro htv htn);have HBB:=He hbb;generalize hln:ls.length=n at *;have HLN:=He hln;clear htn htv hbb hln;go_upto_region 5 with fail
  refine aw (JG hp w5.heap.size n c N v.ep k A b tv) (fun _ W=>Below w5.heap.size w5 W) (fun _ w w'=>Below w.heap.size w w') Hc Hc (fun i j v w w' _ _ h hs=>by revert h;unfold JG;split <;> intro h <;> first | exact h | (obtain ⟨p,h1,h2⟩:=h;exact ⟨p,h1,hU h2 hs⟩) | exact hU h hs | trivial) ((Below.refl _ _).drew) ?_;simp only [bW];refine ⟨?_,?_,?_,?_,?_,?_,?_,?_,?_,?_,?_,?_,?_,?_,?_,?_,?_,?_,?_⟩
  ·refine aa.of rfl fun T W L hag hL hJ hLs hd=>?_;have e0:=Hf hag 0;exact Hh
  ·refine aa.of rfl fun T W L hag hL hJ hLs hd=>?_;have d13:T.getD 13 undef=_:=Hg hd 0 rfl;exact Hh
  ·refine aa.of rfl fun T W L hag hL hJ hLs hd=>?_;have d14:T.getD 14 undef=_:=Hg hd 1 rfl;exact Hh
  ·refine aa.of rfl fun T W L hag hL hJ hLs hd=>?_;have d15:T.getD 15 undef=_:=Hg hd 2 rfl;exact Hh
  ·refine aa.of rfl fun T W L hag hL hJ hLs hd=>?_;have d16:T.getD 16 undef=_:=Hg hd 3 rfl;obtain ⟨z0,z1,z2,z3,z4,z5,z6,z7,z8,z9,z10,z11⟩:=HC.out W hJ;exact Hh
  ·refine aa.of rfl fun T W L hag hL hJ hLs hd=>?_;have e0:=Hf hag 0;exact Hh
  ·refine aa.of rfl fun T W L hag hL hJ hLs hd=>?_;have d18:T.getD 18 undef=_:=Hg hd 5 rfl;exact Hh
  ·refine aa.of rfl fun T W L hag hL hJ hLs hd=>?_;have d19:T.getD 19 undef=_:=Hg hd 6 rfl;exact Hh
  ·refine aa.of rfl fun T W L hag hL hJ hLs hd=>?_;have d20:T.getD 20 undef=_:=Hg hd 7 rfl;obtain ⟨z0,z1,z2,z3,z4,z5,z6,z7,z8,z9,z10,z11⟩:=HC.out W hJ;exact Hh
  ·refine aa.of rfl fun T W L hag hL hJ hLs hd=>?_;have e6:=Hf hag 6;exact Hh
  ·refine aa.of rfl fun T W L hag hL hJ hLs hd=>?_;have e5:=Hf hag 5;exact Hh
  ·refine aa.of rfl fun T W L hag hL hJ hLs hd=>?_;have d17:T.getD 17 undef=_:=Hg hd 4 rfl;have d21:T.getD 21 undef=_:=Hg hd 8 rfl;have d22:T.getD 22 undef=_:=Hg hd 9 rfl;have d23:T.getD 23 undef=_:=Hg hd 10 rfl;clear hag hd;go_simp;refine (HTK.out W hJ).mono ?_;rintro e w' ⟨u,rfl,hu,hb⟩;exact ⟨_,rfl,⟨_,rfl,World.ownsRow.mono hu hJ.size⟩,aP hJ hb,hb⟩
  ·refine aa.of rfl fun T W L hag hL hJ hLs hd=>?_;have x24:=Hg hd 11 rfl;obtain ⟨u,(hs:T.getD 24 undef=_),hp⟩:=x24;clear hag hd;go_simp;exact ⟨_,rfl,⟨_,rfl,hp⟩,ag _⟩
  ·refine aa.of rfl fun T W L hag hL hJ hLs hd=>?_;have x12:=Hg hd 12 rfl;obtain ⟨u,(hs:T.getD 12 undef=_),hp⟩:=x12;clear hag hd;go_simp;exact ⟨_,rfl,hp,ag _⟩
  ·refine aa.of rfl fun T W L hag hL hJ hLs hd=>?_;have x12:=Hg hd 12 rfl;obtain ⟨u,(hs:T.getD 12 undef=_),hp⟩:=x12;exact Hh
  ·refine aa.of rfl fun T W L hag hL hJ hLs hd=>?_;have x12:=Hg hd 12 rfl;obtain ⟨u,(hs:T.getD 12 undef=_),hp⟩:=x12;exact Hh
  ·refine aa.of rfl fun T W L hag hL hJ hLs hd=>?_;have x25:=Hg hd 13 rfl;have x25':fQ W w5.heap.size (T.getD 25 undef) tv:=x25;clear hag hd x25;go_simp;exact ⟨_,rfl,(by show fQ W w5.heap.size (T[25]?.getD undef) tv;simpa using x25'),ag _⟩
  ·refine aa.of rfl fun T W L hag hL hJ hLs hd=>?_;have d26:T.getD 26 undef=_:=Hg hd 14 rfl;exact Hh
  ·refine bg.of rfl fun T W L hag hLs hL hJ hd=>?_;have d27:T.getD 27 undef=_:=hd 15 _ Hb rfl;obtain ⟨f,hf,hT⟩:=aH hag;have d13:T.getD 13 undef=_:=hd 0 _ Hb rfl;have h13:=(hf 13).trans d13;have d14:T.getD 14 undef=_:=hd 1 _ Hb rfl;have h14:=(hf 14).trans d14;have d15:T.getD 15 undef=_:=hd 2 _ Hb rfl;have h15:=(hf 15).trans d15;have d16:T.getD 16 undef=_:=hd 3 _ Hb rfl;have h16:=(hf 16).trans d16;have d17:T.getD 17 undef=_:=hd 4 _ Hb rfl;have h17:=(hf 17).trans d17;have d18:T.getD 18 undef=_:=hd 5 _ Hb rfl;have h18:=(hf 18).trans d18;have d19:T.getD 19 undef=_:=hd 6 _ Hb rfl;have h19:=(hf 19).trans d19;have d20:T.getD 20 undef=_:=hd 7 _ Hb rfl;have h20:=(hf 20).trans d20;have d21:T.getD 21 undef=_:=hd 8 _ Hb rfl;have h21:=(hf 21).trans d21;have d22:T.getD 22 undef=_:=hd 9 _ Hb rfl;have h22:=(hf 22).trans d22;have d23:T.getD 23 undef=_:=hd 10 _ Hb rfl;have h23:=(hf 23).trans d23;have d26:T.getD 26 undef=_:=hd 14 _ Hb rfl;have h26:=(hf 26).trans d26;have h27:=(hf 27).trans d27;have d3:T.getD 3 undef=_:=hd 17 _ Hb rfl;have h3:=(hf 3).trans d3;have HJ:=He hJ;have x2:fQ W w5.heap.size (T.getD 2 undef) tv:=hd 16 _ Hb rfl;obtain ⟨B,c2,hv,hb1,hb2,hwr⟩:=fQ.wrsR x2 HTVL.out;have h2:=(hf 2).trans hv;have HWR:=He hwr;have HCC:=He (And.intro hb1 hb2);clear x2 hv hwr hb1 hb2;clear hag hd d13 d14 d15 d16 d17 d18 d19 d20 d21 d22 d23 d26 d27 d3 hJ hf;rw [hT];clear hT;simp only [List.pop_toArray,List.dropLast_cons_cons,List.dropLast_singleton,List.filterMap_cons,List.filterMap_nil,List.foldl_cons,List.foldl_nil,List.setIfInBounds_toArray,List.set_cons_succ,List.set_cons_zero,h13,h14,h15,h16,h17,h18,h19,h20,h21,h22,h23,h26,h27,h3];simp only [h2];have HS6:=He (HSV.out.grow HJ.out (Q:=fun k=>w5.heap.size<=k/\k<W.heap.size) (fun k hk=>hk));have HM6:=He (HSM.out.trans (bv.rst ((HSV.out.same HJ.out).mono HPI)));have HTX6:=He (HTX.out.same (bv.rst (HSV.out.same HJ.out)));have hlp:=HSV.out.ds.low _ HSV.out.ph;have hlr:=HSV.out.ds.low _ HSV.out.pr;have HLOW:=He (And.intro hlp hlr);clear hlp hlr HTK HC;by_cases hk2:k=Rs.length
   ·have hnt:b=false:=by
     rw [<- HBB.out];refine decide_eq_false ?_;rw [HLS.out,hk2,List.drop_length];exact HNT.out
    have hfl:cN v.B (Rs.take k).flatten=cN v.B Rs.flatten:=by rw [hk2,List.take_length]
    have HF:Hid (SV w0 W P q m hp rb { v with B:=cN v.B Rs.flatten }):=by
     have h3:=HS6.out.mono (P':=P) (fun k hk=>Or.inl (HPI k hk)) HPP.out.1 HPP.out.2;rw [<- hfl];exact h3
    rw [hnt];clear hnt hfl hk2;go_wp2;simp only [Exit.jump];refine bodyPost_ret (results_none rfl _ _ _) rfl ⟨rfl,HF.out,HM6.out⟩
   ·have hkl:k<Rs.length:=Ha;obtain ⟨l,hl⟩:∃ l,Rs[k]?=some l:=⟨_,List.getElem?_eq_getElem hkl⟩
    have hml:=HRS.out l (List.mem_of_getElem? hl);have hdr:Rs.drop k=l :: Rs.drop (k+1):=by rw [List.drop_eq_getElem_cons hkl,(List.getElem?_eq_some_iff.1 hl).2]
    have hls:ls=putL 0 v.ep k l++(aJ v.ep (k+1) (Rs.drop (k+1))++rest):=by rw [HLS.out,hdr];show (putL 0 v.ep k l++aJ v.ep (k+1) (Rs.drop (k+1)))++rest=_;rw [List.append_assoc]
    have hep:=HSV.out.at_.ep;have hbt:b=true:=by
     rw [<- HBB.out,hls];exact decide_eq_true ((sC hml.1 hml.2 hep hep Ha Ha).2 ⟨rfl,rfl,rfl⟩)
    have htv:=A9 (lb:=0) (e:=v.ep) (s:=k) (rest:=aJ v.ep (k+1) (Rs.drop (k+1))++rest) hml.1 hml.2 hep Ha;rw [<- hls] at htv;have htvl:tv=l:=by rw [<- HTV.out.1];exact htv.1
    have htn:N=1+l.length:=by rw [<- HTV.out.2];exact htv.2
    rw [hbt];subst htvl;have hnn:n=ls.length:=HLN.out.symm;have hll:(putL 0 v.ep k tv).length=N:=by rw [bE,htn]
    have hle:N<=n:=by rw [hnn,hls,List.length_append,hll];omega
    have hly:=vP HS6.out B tv tv.length c2 rfl HCC.out.1 HCC.out.2 hml.2 hml.1.kinds (HWR.out.mono fun k hk=>⟨Or.inr hk,by have:=HLOW.out.1;omega,by have:=HLOW.out.2;omega⟩);have HLY:=He hly;have HDR:Hid (ls.drop N=aJ v.ep (k+1) (Rs.drop (k+1))++rest):=by
     unfold Hid;rw [hls,<- hll];exact List.drop_left
    have HFL:Hid (cN (cN v.B (Rs.take k).flatten) tv=cN v.B (Rs.take (k+1)).flatten):=by
     unfold Hid;rw [au hl,List.flatten_append,kI];simp
    have HLE:=He hle;have wk:IntKind.u32.wrap ((k:Int)+1)=((k+1:Nat):Int):=by rw [IntWalk.u32_in _ Ha];omega
    have hle2:(N:Int)<=n:=Ha;have hlc:=HLC.out;have hn1:(N:Int)<=c:=Ha;have hnc:(n:Int)<=c:=Ha;have HKL:=He hkl;have HTC:Hid (rL (ls.drop N)):=fun b hb=>HTO.out b (List.mem_of_mem_drop hb);clear hbt htv hll hly hls hdr hml hl hnn htn hlc;generalize tv.length=tl at *;go_wp2_with fail
    refine HLY.out.mono ?_;rintro e W7 ⟨rfl,h7,hs7⟩;have h7':=h7.mono (P':=P') (fun k hk=>Or.inl hk) HSV.out.ph HSV.out.pr;have hB7:(cN (cN v.B (Rs.take k).flatten) tv)=cN v.B (Rs.take (k+1)).flatten:=HFL.out;have HS7:Hid (SV w0 W7 P' q m hp rb { v with B:=cN v.B (Rs.take (k+1)).flatten }):=by
     rw [<- hB7];exact h7'
    have HM7:=He (HM6.out.trans (hs7.mono fun k hk=>⟨Or.inl (HPI k hk.1),hk.2⟩));have htx7:=(HTX6.out.same (hs7.mono fun k hk=>⟨Or.inl hk.1,hk.2⟩)).cut (c:=c) (k:=N) (by rw [HLN.out];omega);have HTX7:=He htx7;clear h7 hs7 h7' hB7 htx7 HLY;have HDL:Hid ((ls.drop N).length=n-N):=by unfold Hid;rw [List.length_drop,HLN.out]
    by_cases hcn:c=N
    ·subst hcn;have htx8:=HTX7.out;unfold ED at htx8;rw [if_pos rfl] at htx8;have HTX8:=He htx8;clear htx8;go_wp2;go_step3;refine ⟨rfl,(show zJ w0 WW P q m hp rb v Rs rest _ W7 from ⟨P',k+1,ls.drop c,A,0,HPI,HS7.out,HM7.out,by have:=HKL.out;omega,(by rw [HDL.out];unfold Hid;omega),by unfold Hid;omega,HTX8.out,HTC.out,HDR.out,_,_,_,_,_,_,_,_,_,_,_,_,_,_,_,_,_,_,_,_,_,_,_,_,_,_,_,_,_,_,_,_,_,_,(by rw [HDL.out,show ((k+1:Nat):Int)=(k:Int)+1 from rfl])⟩),?_⟩;have:=HKL.out;simp [intOf];omega
    ·have htx8:=HTX7.out;unfold ED at htx8;rw [if_neg hcn,Nat.mul_one] at htx8;have HTX8:=He htx8;have hcn':¬ ((c:Int)=N):=Ha;clear htx8;go_wp2;go_step3;refine ⟨rfl,(show zJ w0 WW P q m hp rb v Rs rest _ W7 from ⟨P',k+1,ls.drop N,A.map (·.add N),c-N,HPI,HS7.out,HM7.out,by have:=HKL.out;omega,(by rw [HDL.out];have:=HLC.out;unfold Hid;omega),(by have:=HC2.out;unfold Hid;omega),HTX8.out,HTC.out,HDR.out,_,_,_,_,_,_,_,_,_,_,_,_,_,_,_,_,_,_,_,_,_,_,_,_,_,_,_,_,_,_,_,_,_,_,(by rw [HDL.out,show ((k+1:Nat):Int)=(k:Int)+1 from rfl])⟩),?_⟩;have:=HKL.out;simp [intOf];omega
def lJ (X:Nat->List Int) (o:Nat) (x:HB):HB:=if x.lg then x else ⟨Ew (X o),ij (X o),false⟩
def dx (X:Nat->List Int):Nat->List HB->List HB
 | _,[]=>[]
 | o,x :: l=>lJ X o x :: dx X (o+1) l
theorem dR (X:Nat->List Int):∀ (l:List HB) (o:Nat),(dx X o l).length=l.length
 | [],_=>rfl
 | x :: l,o=>by show (dx X (o+1) l).length+1=_;rw [dR X l];rfl
theorem oP (X:Nat->List Int):∀ (l:List HB) (o:Nat) (x:HB),dx X o (l++[x])=dx X o l++[lJ X (o+l.length) x]
 | [],o,x=>rfl
 | y :: l,o,x=>by
   show lJ X o y :: dx X (o+1) (l++[x])=_;rw [oP X l (o+1) x,List.length_cons,show o+1+l.length=o+(l.length+1) by omega];rfl
theorem lu (X:Nat->List Int):∀ (l:List HB) (o i:Nat),(dx X o l)[i]?=(l[i]?).map (lJ X (o+i))
 | [],_,_=>rfl
 | x :: l,o,0=>rfl
 | x :: l,o,i+1=>by
   show (dx X (o+1) l)[i]?=_;rw [lu X l (o+1) i,show o+1+i=o+(i+1) by omega];rfl
def yd (X:Nat->List Int) (B:List HB) (k:Nat):List HB:=dx X 0 (B.take k)++B.drop k
theorem De {X:Nat->List Int} {B:List HB} {k:Nat} {x:HB} (h:B[k]?=some x):(yd X B k)[k]?=some x:=by
 have hl:=(List.getElem?_eq_some_iff.1 h).1;unfold yd;rw [List.getElem?_append_right (by rw [dR,List.length_take];omega),dR,List.length_take,List.getElem?_drop,show k+(k-min k B.length)=k by omega];exact h
theorem vT {X:Nat->List Int} {B:List HB} {k:Nat} {x:HB} (h:B[k]?=some x):yd X B (k+1)=(yd X B k).set k (lJ X k x):=by
 have hl:=(List.getElem?_eq_some_iff.1 h).1;have hlen:(dx X 0 (B.take k)).length=k:=by rw [dR,List.length_take];omega
 unfold yd;rw [au h,oP,List.set_append_right _ _ Ha,hlen,Nat.sub_self,List.drop_eq_getElem_cons hl,(List.getElem?_eq_some_iff.1 h).2,List.append_assoc,List.length_take,show 0+min k B.length=k by omega];rfl
theorem Df {X:Nat->List Int} {B:List HB} {k:Nat} {x:HB} (h:B[k]?=some x) (hx:x.lg=true):yd X B (k+1)=yd X B k:=by
 rw [vT h];have:lJ X k x=x:=by unfold lJ;rw [if_pos hx]
 rw [this];exact zF (De h)
theorem Fd {X:Nat->List Int} {B:List HB} {k:Nat} (h:B.length<=k):yd X B k=dx X 0 B:=by unfold yd;rw [List.take_of_length_le h,List.drop_of_length_le h,List.append_nil]
theorem aM.setK {W:World} {q hp rb:Nat} {v:VM} (h:aM W q hp rb v) (hne:hp≠rb) {i:Nat} {x:HB} {k:Int} {bs:List Int} (hi:v.B[i]?=some x) (hk:0<=k/\k<=7) (h56:bs.length=56) (hB:ax bs):aM (W.setCells rb (i*58) (blkL k bs)) q hp rb { v with B:=v.B.set i ⟨k,bs,x.lg⟩ }:=by
 have hx:=h.ok x (List.mem_of_getElem? hi);have hl:(rowL hbL v.B).length=v.n*58:=by rw [dE h.ok.fits,h.len]
 have hlt:=(List.getElem?_eq_some_iff.1 hi).1;have hmul:(i+1)*58<=v.n*58:=Nat.mul_le_mul_right _ (by rw [<- h.len];exact hlt);refine { h with len:=by rw [List.length_set];exact h.len,ok:=h.ok.set ⟨hk,h56,hB⟩,hd:=?_,row:=?_ }
 ·rw [dr hne];exact h.hd
 ·rw [cD (blkL k bs) (i*58) _ W h.row (by rw [List.size_toArray,hl,aZ h56];omega)];have:=ik (k:=i) (x:=x) (y:=⟨k,bs,x.lg⟩) (j:=0) (cs:=blkL k bs) h.ok.fits hi (by rw [aZ h56];omega) (by
   unfold splice hbL;rw [aZ h56,List.drop_append,List.drop_of_length_le (by rw [aZ hx.len];omega),aZ hx.len];simp)
  rw [Nat.add_zero] at this;rw [List.toList_toArray,this]
theorem SV.setK {w0 W:World} {P:Nat->Prop} {q:Nat} {m:DM} {hp rb:Nat} {v:VM} (h:SV w0 W P q m hp rb v) {i:Nat} {x:HB} {k:Int} {bs:List Int} (hi:v.B[i]?=some x) (hk:0<=k/\k<=7) (h56:bs.length=56) (hB:ax bs) :
 SV w0 (W.setCells rb (i*58) (blkL k bs)) P q m hp rb { v with B:=v.B.set i ⟨k,bs,x.lg⟩ }/\bv (n8 P hp rb) W (W.setCells rb (i*58) (blkL k bs)) :=
 h.own ((aD.refl _ _).setCells (F:=fun k=>k=hp\/k=rb) (Or.inr rfl) _ _) (h.at_.setK h.ne hi hk h56 hB)
def JH (hp rb n k:Nat) (bk:Int) (bs:List Int) (i:Nat) (v:Value) (w:World):Prop :=
 match i with
 | 0 | 1=>v=.pointer (some ⟨hp,0,none⟩)
 | 2=>v=.pointer (some ⟨hp,8,none⟩)
 | 3=>v=.slice (some ⟨rb,0,none⟩) n n
 | 4=>v=.int .i64 (k:Int)
 | 5=>v=.agg (ab bk bs)
 | 6 | 7=>v=.pointer (some ⟨rb,k*58,none⟩)
 | _=>True
def Dg (w0 W:World) (P:Nat->Prop) (q:Nat) (m:DM) (hp rb:Nat) (v:VM) (X:Nat->List Int) (a':Act) (w':World):Prop :=
 ∃ k:Nat,k<=v.n/\Hid (SV w0 w' P q m hp rb { v with B:=yd X v.B k })/\Hid (bv (n8 P hp rb) W w')/\∃ u4 u5 u6 u7 u8 u9 u10 u11 u12 u13 u14 u15 u16 u17 u18 u19 u20 u21 u22 u23 u24 u25 u26 u27 u28 u29 u30 u31 u32 u33 u34 u35 u36 u37 u38 u39 u40 u41 u42:Value,a'={ tmps:=#[.pointer (some ⟨hp,0,none⟩),undef,.bool false,.int .i64 k,u4,u5,u6,u7,u8,u9,u10,u11,u12,u13,u14,u15,u16,u17,u18,u19,u20,u21,u22,u23,u24,u25,u26,u27,u28,u29,u30,u31,u32,u33,u34,u35,u36,u37,u38,u39,u40,u41,u42],defers:=[] }
theorem ye {w0 WW:World} {P:Nat->Prop} {q:Nat} {m:DM} {hp rb:Nat} {v:VM} (h:SV w0 WW P q m hp rb v) (X:Nat->List Int) (hrow:∀ i,i<v.n->iB m v.r ((2+v.g+i:Nat):Int)=some (X i)/\cG (X i)) (hop:∀ (i:Nat) (x:HB),v.B[i]?=some x->x.lg=false->lQ 0 i (X i)) :
 Calls Tryz.prog 100 #[.pointer (some ⟨hp,0,none⟩)] WW fun e w'=>e=.returned (.bool true)/\SV w0 w' P q m hp rb { v with B:=dx X 0 v.B }/\bv (n8 P hp rb) WW w':=by
 have HV:=He h;have HRW:=He hrow;have HOP:=He hop;have HNL:=He h.at_.len;have HNG:=He (And.intro h.at_.n h.at_.g);clear h hrow hop;go_enter Tryz.func100,Tryz.ntmps100;go_wp2;refine aV (Dg w0 WW P q m hp rb v X) (fun a' _=>v.n-(intOf (a'.tmps.getD 3 undef)).toNat) rfl ?_ ?_
 ·intro HF0;have HF:=He HF0;clear HF0;go_wp2;go_step3;rename_i hK;exact hK _ _ (HF.out _ _ ⟨0,Nat.zero_le _,HV.out,bv.refl _ _,_,_,_,_,_,_,_,_,_,_,_,_,_,_,_,_,_,_,_,_,_,_,_,_,_,_,_,_,_,_,_,_,_,_,_,_,_,_,_,rfl⟩)
 ·rintro a' w5 ⟨kk,hk,HSV,HSM,u4,u5,u6,u7,u8,u9,u10,u11,u12,u13,u14,u15,u16,u17,u18,u19,u20,u21,u22,u23,u24,u25,u26,u27,u28,u29,u30,u31,u32,u33,u34,u35,u36,u37,u38,u39,u40,u41,u42,rfl⟩;have c8:w5.cell? ⟨hp,8,none⟩=some (.slice (some ⟨rb,0,none⟩) v.n v.n):=HSV.out.at_.c8;by_cases hkn:kk=v.n
  ·have hq:((kk:Int)==v.n)=true:=by simp;omega
   have hsv:=HSV.out;rw [Fd (by rw [HNL.out];omega)] at hsv;have HF:=He hsv;clear hsv;go_wp2;simp only [Exit.jump];go_ret;exact ⟨rfl,HF.out,HSM.out⟩
  ·have hkl:kk<v.n:=Ha;have hq:((kk:Int)==v.n)=false:=by simp;omega
   have hki:(kk:Int)<v.n:=Ha;obtain ⟨x,hx⟩:∃ x,v.B[kk]?=some x:=⟨_,List.getElem?_eq_getElem (by rw [HNL.out];exact hkl)⟩
   have HXB:Hid ((yd X v.B kk)[kk]?=some x):=De hx;have zl:w5.cell? ⟨rb,kk*58+57,none⟩=some (.bool x.lg):=HSV.out.at_.lg HXB.out;have hn2:=HNG.out.1;have HKN:Hid (kk<v.n):=hkl;have HX:=He hx;clear hx;cases hlg:x.lg
   ·have hop:=HOP.out kk x HX.out hlg;have HBN:Hid ((yd X v.B kk).set kk ⟨Ew (X kk),ij (X kk),x.lg⟩=yd X v.B (kk+1)):=by
     unfold Hid;rw [vT HX.out];unfold lJ;rw [if_neg (by rw [hlg];simp),hlg]
    have hoa:oH 0 kk (X kk)=ab (Ew (X kk)) (ij (X kk)):=by unfold oH;rw [if_pos hop]
    have hgo:=Bb (HSV.out.ds.rd v.r HSV.out.at_.r) v.n v.g v.fr HNG.out.1 HNG.out.2 kk hkl (X kk) (HRW.out kk hkl).1 (HRW.out kk hkl).2;rw [hoa,decide_eq_true hop] at hgo;have HGO:=He hgo;have H56:=He (pQ (HRW.out kk hkl).2.1);have HOKB:=He (nX (HRW.out kk hkl).2.2);have HOKK:=He hop.2.1.1;rw [hlg] at zl;clear hop hoa hgo hlg;generalize Ew (X kk)=bk at *;generalize ij (X kk)=bs at *;go_upto_region 5 with fail
    go_wp2_with (first | (with_reducible refine wpList_load_mid rfl 115 (.tmp 25) rfl hp 0 rfl (oN (some ⟨q,0,none⟩) v.r v.n v.g v.fr) _ HSV.out.at_.rangeG Tryz.underlying115 rfl (by rw [show (oN (some ⟨q,0,none⟩) v.r v.n v.g v.fr).length=8 from rfl];exact n6) ?_))
    refine HGO.out.mono ?_;rintro e W4 ⟨rfl,hb4⟩;have hs4:=HSV.out.below hb4;have hm4:=HSM.out.trans (bv.rst (HSV.out.same hb4));have HS4:=He hs4;have HM4:=He hm4;clear hb4 hs4 hm4 c8 zl HGO;go_upto_region 6 with (first | (refine aq rfl rfl ?_) | (refine ap rfl (.tmp 4) (.tmp 29) rfl W4.heap.size rfl bk 0 bs ay rfl H56.out al (heap_alloc_new W4 _) ?_))
    have hb5:Below W4.heap.size W4 ((W4.alloc (Obj.cells (ab 0 ay) 37)).setRow W4.heap.size (ab bk bs)):=below_setRow ((Below.refl _ _).alloc (Nat.le_refl _) _) (Nat.le_refl _) _;have e4:=am (D:=ab bk bs) (heap_alloc_new W4 (Obj.cells (ab 0 ay) 37));have HS5:=He (HS4.out.below hb5);have HM5:=He (HM4.out.trans (bv.rst (HS4.out.same hb5)));generalize (W4.alloc (Obj.cells (ab 0 ay) 37)).setRow W4.heap.size (ab bk bs)=W5 at *;generalize W4.heap.size=g4 at *;have HG4:=He (fun (W':World) (hb':Below W5.heap.size W5 W')=>kb hb' e4);obtain ⟨nn,hnn⟩:∃ nn,nn=v.n:=⟨_,rfl⟩
    have HC8:Hid (∀ W',Below W5.heap.size W5 W'->W'.cell? ⟨hp,8,none⟩=some (.slice (some ⟨rb,0,none⟩) nn nn)):=fun W' hb=>by rw [hnn];exact (HS5.out.at_.below hb).c8
    have hti:(kk:Int)<nn:=by rw [hnn];exact hki
    have hnn2:nn<=200:=by rw [hnn];exact hn2
    clear hb5 e4 hnn;go_upto_region 8 with fail
    refine aw (JH hp rb nn kk bk bs) (fun _ W=>Below W5.heap.size W5 W) (fun _ w w'=>Below w.heap.size w w') Hc Hc (fun i j v w w' _ _ h hs=>by unfold JH at *;exact h) ((Below.refl _ _).drew) ?_;simp only [bW];refine ⟨?_,?_,?_,?_,?_,?_,?_,?_,?_⟩
    ·refine aa.of rfl fun T W L hag hL hJ hLs hd=>?_;have e0:=Hf hag 0;exact Hh
    ·refine aa.of rfl fun T W L hag hL hJ hLs hd=>?_;have d33:T.getD 33 undef=_:=Hg hd 0 rfl;exact Hh
    ·refine aa.of rfl fun T W L hag hL hJ hLs hd=>?_;have d34:T.getD 34 undef=_:=Hg hd 1 rfl;exact Hh
    ·refine aa.of rfl fun T W L hag hL hJ hLs hd=>?_;have d35:T.getD 35 undef=_:=Hg hd 2 rfl;have z8:=HC8.out W hJ;exact Hh
    ·refine aa.of rfl fun T W L hag hL hJ hLs hd=>?_;have e3:=Hf hag 3;exact Hh
    ·refine aa.of rfl fun T W L hag hL hJ hLs hd=>?_;have e4:=Hf hag 4;clear hag hd;refine wp_load_row 37 (.tmp 4) rfl g4 e4 _ _ _ _ (HG4.out W hJ) Tryz.underlying37 rfl (by rw [aN H56.out];exact cO) ?_;exact ⟨_,rfl,rfl,hJ,ag _⟩
    ·refine aa.of rfl fun T W L hag hL hJ hLs hd=>?_;have d36:T.getD 36 undef=_:=Hg hd 3 rfl;have d37:T.getD 37 undef=_:=Hg hd 4 rfl;exact Hh
    ·refine aa.of rfl fun T W L hag hL hJ hLs hd=>?_;have d39:T.getD 39 undef=_:=Hg hd 6 rfl;exact Hh
    ·refine bg.of rfl fun T W L hag hLs hL hJ hd=>?_;have d40:T.getD 40 undef=_:=hd 7 _ Hb rfl;have d38:T.getD 38 undef=_:=hd 5 _ Hb rfl;obtain ⟨f,hf,hT⟩:=aH hag;have d33:T.getD 33 undef=_:=hd 0 _ Hb rfl;have h33:=(hf 33).trans d33;have d34:T.getD 34 undef=_:=hd 1 _ Hb rfl;have h34:=(hf 34).trans d34;have d35:T.getD 35 undef=_:=hd 2 _ Hb rfl;have h35:=(hf 35).trans d35;have d36:T.getD 36 undef=_:=hd 3 _ Hb rfl;have h36:=(hf 36).trans d36;have d37:T.getD 37 undef=_:=hd 4 _ Hb rfl;have h37:=(hf 37).trans d37;have h38:=(hf 38).trans d38;have d39:T.getD 39 undef=_:=hd 6 _ Hb rfl;have h39:=(hf 39).trans d39;have h40:=(hf 40).trans d40;have HJ:=He hJ;clear hag hd d33 d34 d35 d36 d37 d38 d39 d40 hJ hf;rw [hT];clear hT;simp only [List.pop_toArray,List.dropLast_cons_cons,List.dropLast_singleton,List.filterMap_cons,List.filterMap_nil,List.foldl_cons,List.foldl_nil,List.setIfInBounds_toArray,List.set_cons_succ,List.set_cons_zero,h33,h34,h35,h36,h37,h38,h39,h40];have hth:=(HS5.out.at_.below HJ.out).there (i:=kk) (o:=0) (c:=57) HKN.out Ha;refine wp_store_mid 37 (.tmp 40) (.tmp 38) rfl rb (kk*58) _ rfl rfl (by rw [aN H56.out];exact hth) (by rw [aN H56.out];exact cO) (jL _ _) ?_;rw [bp];have hst:=(HS5.out.below HJ.out).setK (k:=bk) (bs:=bs) HXB.out HOKK.out H56.out HOKB.out;have hsm:=(HM5.out.trans (bv.rst (HS5.out.same HJ.out))).trans hst.2;rw [HBN.out] at hst;have HST:=He hst.1;have HSM3:=He hsm;clear hst hsm hth HJ;generalize W.setCells rb (kk*58) (blkL bk bs)=W7 at *;simp only [Act.put];go_wp2;go_step3;refine ⟨rfl,(show Dg w0 WW P q m hp rb v X _ W7 from ⟨kk+1,by have:=HKN.out;omega,HST.out,HSM3.out,_,_,_,_,_,_,_,_,_,_,_,_,_,_,_,_,_,_,_,_,_,_,_,_,_,_,_,_,_,_,_,_,_,_,_,_,_,_,_,(by rw [show ((kk+1:Nat):Int)=(kk:Int)+1 from rfl])⟩),?_⟩;have:=HKN.out;simp [intOf];omega
   ·have HBN:Hid (yd X v.B (kk+1)=yd X v.B kk):=Df HX.out hlg;have hsv:=HSV.out;rw [<- HBN.out] at hsv;have HF:=He hsv;rw [hlg] at zl;clear hsv hlg;go_wp2;go_step3;refine ⟨rfl,(show Dg w0 WW P q m hp rb v X _ w5 from ⟨kk+1,by have:=HKN.out;omega,HF.out,HSM.out,_,_,_,_,_,_,_,_,_,_,_,_,_,_,_,_,_,_,_,_,_,_,_,_,_,_,_,_,_,_,_,_,_,_,_,_,_,_,_,(by rw [show ((kk+1:Nat):Int)=(kk:Int)+1 from rfl])⟩),?_⟩;have:=HKN.out;simp [intOf];omega
def zH:HB:=⟨0,ay,false⟩
theorem Gv:zH.Ok:=⟨by show (0:Int)<=0/\(0:Int)<=7;omega,al,dN⟩
def Gw (r fr:Int) (n g:Nat):VM:=⟨r,fr,n,g,List.replicate n zH,0,0,0⟩
theorem Fe (q rb:Nat) (r fr:Int) (n g:Nat):Tryz.prog.built 118 [(0,.agg (bH (some ⟨q,0,none⟩) r n g fr)),(1,.slice (some ⟨rb,0,none⟩) n n)]=some (rP q rb (Gw r fr n g)):=Hc
theorem Ia (n:Nat):madeCells (Value.agg (hbL zH).toArray).cells (n*58)=(rowL hbL (List.replicate n zH)).toArray:=by
 have hf:kF hbL 58 (List.replicate n zH):=fun x hx=>by rw [List.eq_of_mem_replicate hx];exact gF al
 apply Array.toList_inj.1;rw [List.toList_toArray];apply List.ext_getElem?;intro j;by_cases hj:j<n*58
 ·have hl:(madeCells (Value.agg (hbL zH).toArray).cells (n*58)).toList[j]?=some ((hbL zH).toArray[j%(hbL zH).toArray.size]!):=by simp [madeCells,hj,Value.cells]
  have hsz:(hbL zH).toArray.size=58:=by rw [List.size_toArray];exact gF al
  have hr:j%58<58:=Nat.mod_lt _ Ha;have hi:j/58<n:=Nat.div_lt_of_lt_mul Ha;obtain ⟨u,hu⟩:∃ u,(hbL zH)[j%58]?=some u:=⟨_,List.getElem?_eq_getElem (by rw [gF al];exact hr)⟩
  have h2:=m7 hf (i:=j/58) (x:=zH) (by rw [List.getElem?_replicate,if_pos hi]) hu;rw [show j/58*58+j%58=j by omega] at h2;rw [hl,hsz,h2]
  congr 1
  rw [getElem!_def,List.getElem?_toArray,hu]
 ·rw [List.getElem?_eq_none (by rw [Array.length_toList,size_madeCells];omega),List.getElem?_eq_none (by rw [dE hf,List.length_replicate];omega)]
def JI (q g5 n g base:Nat) (r fr:Int) (i:Nat) (v:Value) (w:World):Prop :=
 match i with
 | 0=>v=.agg (bH (some ⟨q,0,none⟩) r n g fr)
 | 1=>v=.pointer (some ⟨g5,2,none⟩)
 | 2=>v=.int .i64 n
 | 3=>∃ rb,v=.slice (some ⟨rb,0,none⟩) n n/\w.heap[rb]?=some (.cells (rowL hbL (List.replicate n zH)).toArray 113 (0,0))/\base<=rb
 | 4=>∃ rb,v=.agg (rP q rb (Gw r fr n g))/\w.heap[rb]?=some (.cells (rowL hbL (List.replicate n zH)).toArray 113 (0,0))/\base<=rb
 | 5=>∃ hp rb,v=.pointer (some ⟨hp,0,none⟩)/\w.heap[hp]?=some (.cells (rP q rb (Gw r fr n g)) 118 (0,0))/\w.heap[rb]?=some (.cells (rowL hbL (List.replicate n zH)).toArray 113 (0,0))/\base<=rb/\base<=hp/\hp≠rb
 | _=>True
theorem yf {w0 W:World} {P:Nat->Prop} {q:Nat} {m:DM} (h:DS w0 W P q m) (r:Int) (hr:i64 r) (n g:Nat) (fr:Int) (hn:n<=200) (hg:g<=1000) (e:Nat) (hep:epN (iB m r) 2=(e,true)) (he:e+1<4294967296) (hblk:∀ i b,iB m r i=some b->cG b)
 (LG:List (List Int)) (hL:LG.length=g) (hrow:∀ i b,LG[i]?=some b->iB m r ((2+i:Nat):Int)=some b) (hLB:∀ b∈LG,cG b)
 (Rs:List (List Wr)) (rest:List (List Int)) (hRs:∀ l∈Rs,bM l/\bS l) (hLs:LG=aJ e 0 Rs++rest) (hnt:¬ fN 0 e Rs.length rest) (hrl:Rs.length<=1000000)
 (X:Nat->List Int) (hX:∀ i,i<n->iB m r ((2+g+i:Nat):Int)=some (X i)/\cG (X i)) (hop:∀ (i:Nat) (x:HB),(cN (List.replicate n zH) Rs.flatten)[i]?=some x->x.lg=false->lQ 0 i (X i)) (hmax:m.done.length<=999000) :
 Calls Tryz.prog 43 #[.pointer (some ⟨q,0,none⟩),.int .i64 r,pi 0 0 n g fr] W fun en w'=>∃ hp rb,en=.returned (.tuple #[.pointer (some ⟨hp,0,none⟩),.int .i64 0]) /\
  SV w0 w' (fun k=>P k\/k=hp\/k=rb) q (fg m ⟨r,fr,n,g,dx X 0 (cN (List.replicate n zH) Rs.flatten),e,0,0⟩) hp rb (gG ⟨r,fr,n,g,dx X 0 (cN (List.replicate n zH) Rs.flatten),e,0,0⟩)/\bv P W w'/\W.heap.size<=hp/\W.heap.size<=rb:=by
 obtain ⟨WW,rfl⟩:∃ WW,WW=W:=⟨W,rfl⟩
 have HD:=He h;have HR:=He hr;have HNG:=He (And.intro hn hg);have HMX:=He hmax;have HGO:=He (fun W=>m5 (some ⟨q,0,none⟩) r n g fr hn hg W);have hb1:∀ o,Below WW.heap.size WW (WW.alloc o):=fun o=>(Below.refl _ _).alloc (Nat.le_refl _) _;have e5:=fun o=>heap_alloc_new WW o;have HEP:=He hep;have HE:=He he;have HBL:=He hblk;have HRP:=He (And.intro hL (And.intro hrow (And.intro hLB (And.intro hRs (And.intro hLs (And.intro hnt hrl))))));have HXX:=He (And.intro hX hop);obtain ⟨i0,hi0,hz0,hz1,hz2⟩:=info_parts C8;have hmk:=fun w:World=>run_make (P:=Tryz.prog) w 116 113 i0 _ Tryz.underlying116 hi0 hz0 .i64 .i64 (n:Int) (n:Int) Ha Ha (by rw [hz2];omega) Ha;rw [Int.toNat_natCast,hz1,show (hbL ⟨0,ay,false⟩)=hbL zH from rfl,Ia] at hmk;have HMK:=He hmk;unfold pi;clear h hmax hep he hblk hL hrow hLB hRs hLs hnt hrl hX hop hi0 hz0 hz1 hz2 hmk;go_enter Tryz.func43,Tryz.ntmps43;go_wp2;go_step3;go_wp2_with fail
 have HB1:=He (hb1 (Obj.cells #[.int .i64 0,.int .i64 0,.int .i64 n,.int .i64 g,.int .i64 fr] 97));have he5:=e5 (Obj.cells #[.int .i64 0,.int .i64 0,.int .i64 n,.int .i64 g,.int .i64 fr] 97);refine (HGO.out _).mono ?_;rintro en W2 ⟨rfl,hb2⟩;have he6:=kb hb2 he5;have HB2:=He (aP HB1.out hb2);clear hb1 hb2 e5 he5;unfold jS;go_upto_region 3 with (refine jy rfl (.tmp 9) (.tmp 16) rfl W2.heap.size rfl (bH (some ⟨q,0,none⟩) r n g fr) rfl (qf _ _ _ _ _) rfl _ rfl (heap_alloc_new W2 _) ?_)
 have e7:=am (D:=bH (some ⟨q,0,none⟩) r n g fr) (heap_alloc_new W2 (Obj.cells #[.pointer none,.int .i64 0,.int .u8 0,.int .i64 0,.int .i64 0,.int .i64 0,.int .i64 0,.int .i64 0] 115));have hb3:Below W2.heap.size W2 ((W2.alloc (Obj.cells #[.pointer none,.int .i64 0,.int .u8 0,.int .i64 0,.int .i64 0,.int .i64 0,.int .i64 0,.int .i64 0] 115)).setRow W2.heap.size (bH (some ⟨q,0,none⟩) r n g fr)):=below_setRow ((Below.refl _ _).alloc (Nat.le_refl _) _) (Nat.le_refl _) _;have HB3:=He (aP HB2.out hb3);have e5:=kb hb3 he6;have hlt5:WW.heap.size<W2.heap.size:=ai he6;have hsz3:W2.heap.size<((W2.alloc (Obj.cells #[.pointer none,.int .i64 0,.int .u8 0,.int .i64 0,.int .i64 0,.int .i64 0,.int .i64 0,.int .i64 0] 115)).setRow W2.heap.size (bH (some ⟨q,0,none⟩) r n g fr)).heap.size:=ai e7;generalize (W2.alloc (Obj.cells #[.pointer none,.int .i64 0,.int .u8 0,.int .i64 0,.int .i64 0,.int .i64 0,.int .i64 0,.int .i64 0] 115)).setRow W2.heap.size (bH (some ⟨q,0,none⟩) r n g fr)=W3 at *;generalize W2.heap.size=g9 at *;clear hb3;have HSZ:=He (And.intro hlt5 hsz3);have HG:=He (fun (W':World) (hb':Below W3.heap.size W3 W')=>kb hb' e7);have HY2:Hid (∀ W',Below W3.heap.size W3 W'->W'.cell? ⟨WW.heap.size,2,none⟩=some (.int .i64 n)):=fun W' hb'=>(af (kb hb' e5) 2).trans rfl;clear e7 e5 he6 hlt5 hsz3;go_upto_region 4 with fail
 refine aw (JI q WW.heap.size n g W3.heap.size r fr) (fun _ W=>Below W3.heap.size W3 W) (fun _ w w'=>Below w.heap.size w w') Hc Hc (fun i j v w w' _ _ h hs=>by revert h;unfold JI;split <;> intro h <;> first | exact h | (obtain ⟨p,h1,h2,h3⟩:=h;exact ⟨p,h1,kb hs h2,h3⟩) | (obtain ⟨p,p2,h1,h2,h3,h4⟩:=h;exact ⟨p,p2,h1,kb hs h2,kb hs h3,h4⟩) | trivial) ((Below.refl _ _).drew) ?_;simp only [bW];refine ⟨?_,?_,?_,?_,?_,?_,?_⟩
 ·refine aa.of rfl fun T W L hag hL hJ hLs hd=>?_;have e9:=Hf hag 9;obtain ⟨z0,z1,z2,z3,z4,z5,z6,z7⟩:=bf (HG.out W hJ);have y2:=HY2.out W hJ;exact Hh
 ·refine aa.of rfl fun T W L hag hL hJ hLs hd=>?_;have e5:=Hf hag 5;exact Hh
 ·refine aa.of rfl fun T W L hag hL hJ hLs hd=>?_;have d21:T.getD 21 undef=_:=Hg hd 1 rfl;obtain ⟨z0,z1,z2,z3,z4,z5,z6,z7⟩:=bf (HG.out W hJ);have y2:=HY2.out W hJ;exact Hh
 ·refine aa.of rfl fun T W L hag hL hJ hLs hd=>?_;have d22:T.getD 22 undef=_:=Hg hd 2 rfl;have ev22:(⟨T,[]⟩:Act).eval (.tmp 22)=.int .i64 n:=d22;clear hag hd;refine ju (v:=.slice (some ⟨W.heap.size,0,none⟩) n n) (w':=W.alloc (.cells (rowL hbL (List.replicate n zH)).toArray 113)) ?_ ⟨_,rfl,⟨_,rfl,heap_alloc_new W _,hJ.size⟩,hJ.alloc hJ.size _,(ag W).alloc (Nat.le_refl _) _⟩;have hm:=HMK.out W;unfold execOp;simp only [ev22,Sem.run_bind,hm,Result.andThen_ok,Sem.run_pure]
 ·refine aa.of rfl fun T W L hag hL hJ hLs hd=>?_;have d20:T.getD 20 undef=_:=Hg hd 0 rfl;have x23:=Hg hd 3 rfl;obtain ⟨rb,(hs:T.getD 23 undef=_),hp,hbs⟩:=x23;have ev20:(⟨T,[]⟩:Act).eval (.tmp 20)=.agg (bH (some ⟨q,0,none⟩) r n g fr):=d20;have ev23:(⟨T,[]⟩:Act).eval (.tmp 23)=.slice (some ⟨rb,0,none⟩) n n:=hs;clear hag hd;have hb:=run_build (P:=Tryz.prog) W 118 #[(0,.agg (bH (some ⟨q,0,none⟩) r n g fr)),(1,.slice (some ⟨rb,0,none⟩) n n)] _ (Fe q rb r fr n g);refine ju (v:=.agg (rP q rb (Gw r fr n g))) (w':=W) ?_ ⟨_,rfl,⟨_,rfl,hp,hbs⟩,hJ,ag _⟩;unfold execOp;simp only [List.map_toArray,List.map_cons,List.map_nil,ev20,ev23,Sem.run_bind,hb,Result.andThen_ok,Sem.run_pure]
 ·refine aa.of rfl fun T W L hag hL hJ hLs hd=>?_;have x24:=Hg hd 4 rfl;obtain ⟨rb,(hs:T.getD 24 undef=_),hp,hbs⟩:=x24;clear hag hd;go_simp;exact ⟨_,rfl,⟨W.heap.size,rb,rfl,heap_alloc_new W _,kb ((ag W).alloc (Nat.le_refl _) _) hp,hbs,hJ.size,by have:=ai hp;omega⟩,hJ.alloc hJ.size _,(ag W).alloc (Nat.le_refl _) _⟩
 ·refine bg.of rfl fun T W L hag hLs hL hJ hd=>?_;have x25:=hd 5 _ Hb rfl;obtain ⟨f,hf,hT⟩:=aH hag;have d20:T.getD 20 undef=_:=hd 0 _ Hb rfl;have h20:=(hf 20).trans d20;have d21:T.getD 21 undef=_:=hd 1 _ Hb rfl;have h21:=(hf 21).trans d21;have d22:T.getD 22 undef=_:=hd 2 _ Hb rfl;have h22:=(hf 22).trans d22;have HJ:=He hJ;obtain ⟨hp,rb,(hv:T.getD 25 undef=_),hh1,hh2,hb1,hb2,hne⟩:=x25;have h25:=(hf 25).trans hv;have HH:=He (And.intro hh1 (And.intro hh2 (And.intro hb1 (And.intro hb2 hne))));clear hv hh1 hh2 hb1 hb2 hne;clear hag hd d20 d21 d22 hJ hf;rw [hT];clear hT;simp only [List.pop_toArray,List.dropLast_cons_cons,List.dropLast_singleton,List.filterMap_cons,List.filterMap_nil,List.foldl_cons,List.foldl_nil,List.setIfInBounds_toArray,List.set_cons_succ,List.set_cons_zero,h20,h21,h22];simp only [h25];have HB5:=He (aP HB3.out HJ.out);have hlh:=ai HH.out.1;have hlr:=ai HH.out.2.1;have hs3:=HB3.out.size;have hs0:=HD.out.bel.size;have hd5:DS w0 W (fun k=>P k\/k=hp\/k=rb) q m:=HD.out.below HB5.out (fun k hk=>by
   rcases hk with hk | rfl | rfl
   ·exact Or.inl hk
   ·exact Or.inr ⟨by have:=HH.out.2.2.2.1;omega,hlh⟩
   ·exact Or.inr ⟨by have:=HH.out.2.2.1;omega,hlr⟩)
  have hv0:aM W q hp rb (Gw r fr n g):={ len:=List.length_replicate,ok:=(fun x hx=>by rw [List.eq_of_mem_replicate hx];exact Gv),n:=HNG.out.1,g:=HNG.out.2,r:=HR.out,ep:=(by show (0:Nat)<4294967296;omega),sq:=(by show (0:Nat)<4294967296;omega),us:=(by show (0:Nat)<=2000;omega),hd:=HH.out.1,row:=HH.out.2.1 }
  have hsv5:SV w0 W (fun k=>P k\/k=hp\/k=rb) q m hp rb (Gw r fr n g):={ ds:=hd5,at_:=hv0,ph:=Or.inr (Or.inl rfl),pr:=Or.inr (Or.inr rfl),lh:=(by have:=HH.out.2.2.2.1;omega),lr:=(by have:=HH.out.2.2.1;omega),ne:=HH.out.2.2.2.2 }
  have HS5:=He hsv5;have HSM5:=He (HD.out.same HB5.out);have HLO:Hid (WW.heap.size<=hp/\WW.heap.size<=rb):=⟨by have:=HH.out.2.2.2.1;omega,by have:=HH.out.2.2.1;omega⟩
  have HRST:Hid (∀ k,P k->n8 (fun k=>P k\/k=hp\/k=rb) hp rb k):=fun k hk=>by
   have:=HD.out.low k hk;have h1:=HLO.out.1;have h2:=HLO.out.2;exact ⟨Or.inl hk,Ha,Ha⟩
  have he9:=HG.out W HJ.out;have hepo:=yb ((HD.out.rd r HR.out).keep HB5.out) HBL.out n g fr;rw [HEP.out] at hepo;have HEPO:=He hepo;clear hlh hlr hs3 hs0 hd5 hv0 hsv5 hepo HJ HG HY2 HMK;go_wp2_with (refine iL rfl (.tmp 9) rfl g9 rfl (bH (some ⟨q,0,none⟩) r n g fr) rfl he9 ?_)
  refine HEPO.out.mono ?_;rintro en W6 ⟨rfl,hb6⟩;have hs6:=HS5.out.below hb6;have hs7:=hs6.setHd (i:=9) (u:=.int .u32 e) (v':={ Gw r fr n g with ep:=e }) rfl rfl { hs6.at_.toOk with ep:=(by show e<4294967296;have:=HE.out;omega) };have z9:W6.cell? ⟨hp,9,none⟩=some (.int .u32 0):=hs6.at_.c9;have y9:=hs6.at_.f 9;have HS7:=He hs7.1;have HSM7:=He ((HSM5.out.trans ((HS5.out.same hb6).mono fun k hk=>Or.inl hk)).trans (hs7.2.mono HRST.out));clear he9 hs6 hs7 hb6 HEPO;obtain ⟨h1,h2,h3,h4,h5,h6,h7⟩:=HRP.out;have hre:=fun W (hs:SV w0 W (fun k=>P k\/k=hp\/k=rb) q m hp rb { Gw r fr n g with ep:=e })=>vS hs LG h1 h2 h3 Rs rest h4 h5 h6 h7;have HRE:=He hre;clear hre h1 h2 h3 h4 h5 h6 h7;go_upto_region 6 with fail
  generalize W6.setCell ⟨hp,9,none⟩ (.int .u32 e)=W7 at *;clear z9 y9;go_wp2_with fail
  refine (HRE.out W7 HS7.out).mono ?_;rintro en W8 ⟨rfl,hs8,hm8⟩;have hfe:=ye hs8 X HXX.out.1 HXX.out.2;have HFE:=He hfe;have HSM8:=He (HSM7.out.trans (hm8.mono HRST.out));clear hs8 hm8 hfe HRE HS7;go_wp2_with fail
  refine HFE.out.mono ?_;rintro en W9 ⟨rfl,hs9,hm9⟩;have hgo:=oO hs9 HE.out HMX.out;have HGH:=He hgo;have HSM9:=He (HSM8.out.trans (hm9.mono HRST.out));clear hs9 hm9 hgo HFE;go_wp2_with fail
  refine HGH.out.mono ?_;rintro en W10 ⟨rfl,hs10,hm10⟩;have HF:=He hs10;have HSM10:=He (HSM9.out.trans (hm10.mono HRST.out));clear hs10 hm10 HGH;go_wp2
  try rw [Exit.noGoto_ret]
  go_ret2
  exact ⟨hp,rb,rfl,HF.out,HSM10.out,HLO.out.1,HLO.out.2⟩
def I6 (b:List Int):List Int:=(b.drop 56).take 2
def Bh:List Int:=List.replicate 64 0
theorem Ff (b:List Int):I6 b=((b.take 60).drop 56).take 2:=by
 unfold I6;rw [List.drop_take,List.take_take];rfl
theorem zK {xs:List Int} (h:xs.length<=60):I6 (cS xs)=((cR xs).drop 56).take 2:=by rw [Ff,jR h]
theorem Fg (e s:Nat) {l:List Wr} (hm:bM l):I6 (cS (bK 0 e s l))=[0,0]:=by
 have hl:(bK 0 e s l).length<=47:=by rw [ct];have:=hm.1.2;omega
 rw [zK Ha];unfold cR;rw [List.drop_append,List.drop_of_length_le Ha,List.nil_append,List.drop_replicate,List.take_replicate];rw [show min 2 (60-(bK 0 e s l).length-(56-(bK 0 e s l).length))=2 by omega];rfl
theorem Fh (e s:Nat) {bs:List Int} (h:bs.length=56):I6 (cS (fM e s bs))=be e 2:=by
 have hl:(fM e s bs).length=60:=gz h;rw [zK Ha];unfold cR;rw [hl,show 60-60=0 from rfl,List.replicate_zero,List.append_nil];unfold fM;rw [List.append_assoc,<- h,List.drop_left,List.take_append_of_le_length (by rw [av];exact Nat.le_refl _),List.take_of_length_le (by rw [av];exact Nat.le_refl _)]
theorem Dh {e:Nat} (h:e<65536) (h0:be e 2=[0,0]):e=0:=zg h Ha (h0.trans rfl)
theorem Fi {e e0 s s0:Nat} {l l0:List Wr} (hm:bM l) (hm0:bM l0) (he:e<4294967296) (he0:e0<4294967296) (h:cS (bK 0 e s l)=cS (bK 0 e0 s0 l0)):e=e0:=by
 have h1:∀ (e s:Nat) {l:List Wr},bM l->(((cS (bK 0 e s l)).take 60).drop 2).take 4=be e 4:=fun e s l hm=>by
  have hl:(bK 0 e s l).length<=60:=by rw [ct];have:=hm.1.2;omega
  rw [jR hl];unfold cR bK jP;simp only [List.append_assoc,List.cons_append,List.nil_append,List.drop_succ_cons,List.drop_zero];rw [List.take_append_of_le_length (by rw [av];exact Nat.le_refl _),List.take_of_length_le (by rw [av];exact Nat.le_refl _)]
 have h2:=congrArg (fun b:List Int=>((b.take 60).drop 2).take 4) h;simp only [h1 e s hm,h1 e0 s0 hm0] at h2;exact tP he he0 h2
theorem yg (e s:Nat) {l:List Wr} (hm:bM l):(cS (bK 0 e s l))[0]?=some 72:=by
 rw [zE hm Ha];rfl
def Di (e:Nat) (b:List Int):Prop:=(∃ s l,bM l/\b=cS (bK 0 e s l))\/∃ s bs,bs.length=56/\b=cS (fM e s bs)
def zL (e:Nat) (b:List Int):Prop:=b=Bh\/∃ e0,1<=e0/\e0<e/\Di e0 b
theorem zL.mono {e e':Nat} {b:List Int} (h:zL e b) (he:e<=e'):zL e' b:=by
 rcases h with h | ⟨e0,h1,h2,h3⟩
 ·exact Or.inl h
 ·exact Or.inr ⟨e0,h1,Ha,h3⟩
theorem Di.old {e:Nat} {b:List Int} (h:Di e b) (he:1<=e):zL (e+1) b:=Or.inr ⟨e,he,Ha,h⟩
theorem zL.head {e s:Nat} {l:List Wr} (he:e<65536) (hm:bM l) (h:zL e (cS (bK 0 e s l))):False:=by
 rcases h with h | ⟨e0,h1,h2,⟨s0,l0,hm0,h3⟩ | ⟨s0,bs,h56,h3⟩⟩
 ·have h4:=yg e s hm;rw [h] at h4;exact absurd h4 Hd
 ·have:=Fi hm hm0 Ha Ha h3;omega
 ·have h4:=congrArg I6 h3;rw [Fg e s hm,Fh e0 s0 h56] at h4;have:=Dh Ha h4.symm;omega
theorem sI {e s:Nat} {l:List Wr} (hm:bM l) (hok:bS l) {c:List Int} (hc:c∈putL 0 e s l):Di e c:=by
 unfold putL at hc;rcases List.mem_cons.1 hc with rfl | hc
 ·exact Or.inl ⟨s,l,hm,rfl⟩
 ·obtain ⟨x,hx,rfl⟩:=List.mem_map.1 hc;exact Or.inr ⟨s,x.bs,(hok x hx).len,rfl⟩
theorem vU {e s:Nat} {rest:List (List Int)} (h:fN 0 e s rest):∃ l',bM l'/\l'.length=oJ rest/\(∀ x∈l',x.bs.length=56)/\∀ i,i<1+oJ rest->rest[i]?=(putL 0 e s l')[i]?:=by
 obtain ⟨h1,h2,h3⟩:=h;refine ⟨dO rest (oJ rest),h2,bT _ _,fun x hx=>?_,fun i hi=>?_⟩
 ·unfold dO at hx;obtain ⟨j,_,rfl⟩:=List.mem_map.1 hx;exact kD _
 ·rw [h3,List.getElem?_take,if_pos hi]
theorem Ib {e s:Nat} {rest:List (List Int)} (he:e<65536) (h:∀ b,rest[0]?=some b->zL e b):¬ fN 0 e s rest:=fun ht=>by
 obtain ⟨l',h1,h2,h3,h4⟩:=vU ht;exact (h _ (h4 0 Ha)).head he h1
theorem iM (e:Nat):∀ (Rs Rs':List (List Wr)) (s:Nat),aJ e s (Rs++Rs')=aJ e s Rs++aJ e (s+Rs.length) Rs'
 | [],_,_=>rfl
 | l :: Rs,Rs',s=>by
   show putL 0 e s l++aJ e (s+1) (Rs++Rs')=(putL 0 e s l++aJ e (s+1) Rs)++_;rw [iM e Rs Rs' (s+1),List.append_assoc,List.length_cons,show s+1+Rs.length=s+(Rs.length+1) by omega]
theorem sJ (e s:Nat) (l:List Wr):aJ e s [l]=putL 0 e s l:=by show putL 0 e s l++[]=_;rw [List.append_nil]
theorem sK {e:Nat}:∀ {Rs:List (List Wr)} {s:Nat} {c:List Int},(∀ l∈Rs,bM l/\bS l)->c∈aJ e s Rs->Di e c
 | [],_,_,_,h=>by cases h
 | l :: Rs,s,c,hR,h=>by
   rcases List.mem_append.1 h with h | h
   ·exact sI (hR l Hb).1 (hR l Hb).2 h
   ·exact sK (fun l' hl=>hR l' (by simp [hl])) h
structure Bk where
 (k:Int) (bs:List Int)
deriving DecidableEq
def val (x:HB):Bk:=⟨x.k,x.bs⟩
def applyW (S:List Bk):List Wr->List Bk
 | []=>S
 | x :: l=>applyW (if 0<=x.t/\x.t<S.length then S.set x.t.toNat ⟨x.k,x.bs⟩ else S) l
theorem rQ (S:List Bk):∀ l m,applyW S (l++m)=applyW (applyW S l) m:=by
 intro l
 induction l generalizing S with
 | nil=>intro m;rfl
 | cons x l ih=>intro m;exact ih _ m
theorem cZ:∀ (l:List Wr) (S:List Bk),(applyW S l).length=S.length
 | [],_=>rfl
 | x :: l,S=>by
   show (applyW _ l).length=_;rw [cZ l];split
   ·simp
   ·rfl
theorem ql:∀ (l:List Wr) (B:List HB),(cN B l).map val=applyW (B.map val) l
 | [],_=>rfl
 | x :: l,B=>by
   show (cN _ l).map val=applyW _ l;rw [ql l,List.length_map]
   congr 1
   split
   ·rw [List.map_set];rfl
   ·rfl
def jX (l:List Wr) (i:Nat):Prop:=∀ w∈l,w.t≠(i:Int)
theorem nb:∀ (l:List Wr) (B:List HB) (S:List Bk) (S0:Nat->Option Bk),B.length=S.length->(∀ (i:Nat) (x:HB),B[i]?=some x->(x.lg=true->S[i]?=some (val x))/\(x.lg=false->S[i]?=S0 i)) ->
 ∀ (i:Nat) (x:HB),(cN B l)[i]?=some x->(x.lg=true->(applyW S l)[i]?=some (val x))/\(x.lg=false->(applyW S l)[i]?=S0 i/\jX l i/\∃ y,B[i]?=some y/\y.lg=false)
 | [],B,S,S0,hl,h,i,x,hx=>⟨(h i x hx).1,fun hf=>⟨(h i x hx).2 hf,(fun w hw=>by cases hw),x,hx,hf⟩⟩
 | w :: l,B,S,S0,hl,h,i,x,hx=>by
   have hx':(cN (if 0<=w.t/\w.t<B.length then B.set w.t.toNat ⟨w.k,w.bs,true⟩ else B) l)[i]?=some x:=hx;by_cases hc:0<=w.t/\w.t<B.length
   ·rw [if_pos hc] at hx';have hc':0<=w.t/\w.t<S.length:=by rw [<- hl];exact hc
    have ih:=nb l (B.set w.t.toNat ⟨w.k,w.bs,true⟩) (S.set w.t.toNat ⟨w.k,w.bs⟩) S0 (by simp [hl]) (fun i' x' hx''=>by
     by_cases e:w.t.toNat=i'
     ·subst e;rw [List.getElem?_set_self Ha] at hx'';injection hx'' with hx'';subst hx''
      exact ⟨fun _=>by rw [List.getElem?_set_self Ha];rfl,fun hf=>by cases hf⟩
     ·rw [List.getElem?_set_ne e] at hx'';rw [List.getElem?_set_ne e];exact h i' x' hx'') i x hx'
    have e1:applyW S (w :: l)=applyW (S.set w.t.toNat ⟨w.k,w.bs⟩) l:=by show applyW (if _ then _ else _) l=_;rw [if_pos hc']
    rw [e1];refine ⟨ih.1,fun hf=>?_⟩;obtain ⟨h1,h2,y,h3,h4⟩:=ih.2 hf;have hne:w.t.toNat≠i:=fun e=>by
     subst e;rw [List.getElem?_set_self Ha] at h3;injection h3 with h3;subst h3;cases h4
    rw [List.getElem?_set_ne hne] at h3;refine ⟨h1,fun w' hw'=>?_,y,h3,h4⟩;rcases List.mem_cons.1 hw' with rfl | hw'
    ·omega
    ·exact h2 w' hw'
   ·rw [if_neg hc] at hx';have hc':¬ (0<=w.t/\w.t<S.length):=by rw [<- hl];exact hc
    have ih:=nb l B S S0 hl h i x hx';have e1:applyW S (w :: l)=applyW S l:=by show applyW (if _ then _ else _) l=_;rw [if_neg hc']
    rw [e1];refine ⟨ih.1,fun hf=>?_⟩;obtain ⟨h1,h2,y,h3,h4⟩:=ih.2 hf;refine ⟨h1,fun w' hw'=>?_,y,h3,h4⟩;rcases List.mem_cons.1 hw' with rfl | hw'
    ·have:=(List.getElem?_eq_some_iff.1 h3).1;omega
    ·exact h2 w' hw'
theorem qm:∀ (l:List Wr) (S:List Bk) (i:Nat),jX l i->(applyW S l)[i]?=S[i]?
 | [],_,_,_=>rfl
 | w :: l,S,i,h=>by
   show (applyW (if _ then _ else _) l)[i]?=_;rw [qm l _ i fun w' hw'=>h w' (by simp [hw'])];have:=h w Hb;split
   ·rw [List.getElem?_set_ne Ha]
   ·rfl
structure Bk.Ok (x:Bk):Prop where
 k:0<=x.k/\x.k<=7
 len:x.bs.length=56
 b:ax x.bs
def dF (S:List Bk):Prop:=∀ x∈S,x.Ok
theorem sL:∀ {l:List Wr} {S:List Bk},bS l->m9 l->dF S->dF (applyW S l)
 | [],_,_,_,h=>h
 | w :: l,S,hw,hk,h=>by
   refine sL (l:=l) (fun y hy=>hw y (by simp [hy])) (fun y hy=>hk y (by simp [hy])) ?_;have hx:=hw w Hb;split
   ·intro y hy;rcases List.mem_or_eq_of_mem_set hy with h1 | h1
    ·exact h y h1
    ·rw [h1];exact ⟨hk w Hb,hx.len,hx.b⟩
   ·exact h
end Go.Proofs.YtegjelaejbacnaaGreat
