/- For VolAll: contracts and facts, part 23. -/
import Derived.Test.YtamnpblijdgdaaaGreatV22
namespace Go.Proofs.YtamnpblijdgdaaaGreat
open Go.ChangeShapes Go.WideShapes Go.ChangeAt Go.RowKit
set_option linter.unusedVariables false
set_option maxRecDepth 100000
theorem firstK_ok (i:Nat):0≤firstK i∧firstK i≤7:=by unfold firstK;split <;> omega
def firstW (r:Int) (g:Nat) (m:DM):Nat→DM
 | 0=>m
 | k+1=>(firstW r g m k).doWrite r ((2+g+k:Nat):Int) (sealB 0 (firstK k) k (firstB k))
theorem firstW_done (r:Int) (g:Nat) (m:DM):∀ k,(firstW r g m k).done.length≤m.done.length+k
 | 0=>Nat.le_refl _
 | k+1=>by
   have h1:=firstW_done r g m k
   have h2:=done_doWrite (firstW r g m k) r ((2+g+k:Nat):Int) (sealB 0 (firstK k) k (firstB k))
   show (DM.doWrite _ _ _ _).done.length≤_
   omega
def makeM (m:DM) (r:Int) (n g:Nat):DM:=(firstW r g m n).doBegin r 1
def VNmk (q n g k:Nat) (r fr:Int) (i:Nat) (v:Value) (w:World):Prop :=
 match i with
 | 0=>v=.agg (gndC (some ⟨q,0,none⟩) r n g fr)
 | 1 | 2=>v=.int .i64 (k:Int)
 | 3=>v=.agg (blkA (firstK k) (firstB k))
 | _=>True
set_option maxHeartbeats 1600000 in
theorem vmake_no {W:World} {d:Option Addr} {r:Int} {row:Int→Option (List Int)} (h:Rd W d r row) (n g:Nat) (fr:Int) (hn:n≤200) (hg:g≤1000) (hno:row ((1+g+n:Nat):Int)=none) :
 Calls Tryz.prog 11 #[.pointer d,.int .i64 r,shQ 0 0 n g fr] W fun e w'=>e=.returned (.bool false)∧Below W.heap.size W w':=by
 have H0:=Lib.hid h
 have HGO:=Lib.hid (fun W=>groundOf_any d r n g fr hn hg W)
 have hb1:∀ o,Below W.heap.size W (W.alloc o):=fun o=>(Below.refl _ _).alloc (Nat.le_refl _) _
 have HNO:=Lib.hid hno
 unfold shQ
 clear h hno
 go_enter Tryz.func11,Tryz.ntmps11
 go_wp2_with fail
 have HB1:=Lib.hid (hb1 (Obj.cells #[.int .i64 0,.int .i64 0,.int .i64 n,.int .i64 g,.int .i64 fr] 28))
 refine (HGO.out _).mono ?_
 rintro e W2 ⟨rfl,hb2⟩
 have HB2:=Lib.hid (keepB HB1.out hb2)
 clear hb1 hb2
 unfold gndA
 go_upto_region 2 with (refine wpList_storeG rfl (.tmp 7) (.tmp 15) rfl W2.heap.size rfl (gndC d r n g fr) rfl (gndC_one _ _ _ _ _) rfl _ rfl (heap_alloc_new W2 _) ?_)
 have e7:=setRow_blk (D:=gndC d r n g fr) (heap_alloc_new W2 (Obj.cells #[.pointer none,.int .i64 0,.int .u8 0,.int .i64 0,.int .i64 0,.int .i64 0,.int .i64 0,.int .i64 0] 87))
 have hb3:Below W2.heap.size W2 ((W2.alloc (Obj.cells #[.pointer none,.int .i64 0,.int .u8 0,.int .i64 0,.int .i64 0,.int .i64 0,.int .i64 0,.int .i64 0] 87)).setRow W2.heap.size (gndC d r n g fr)):=below_setRow ((Below.refl _ _).alloc (Nat.le_refl _) _) (Nat.le_refl _) _
 have HB3:=Lib.hid (keepB HB2.out hb3)
 generalize (W2.alloc (Obj.cells #[.pointer none,.int .i64 0,.int .u8 0,.int .i64 0,.int .i64 0,.int .i64 0,.int .i64 0,.int .i64 0] 87)).setRow W2.heap.size (gndC d r n g fr)=W3 at *
 generalize W2.heap.size=g7 at *
 clear hb3
 obtain ⟨z0,z1,z2,z3,z4,z5,z6,z7⟩:=gnd_cells e7
 have hf:=gfits_any (W:=W3) (H0.out.keep HB3.out) n g fr hn hg
 rw [HNO.out] at hf
 have HF:=Lib.hid hf
 clear e7 hf
 go_wp2_with fail
 refine HF.out.mono ?_
 rintro e W4 ⟨rfl,hb4⟩
 have HB4:=Lib.hid (keepB HB3.out hb4)
 clear hb4 z0 z1 z2 z3 z4 z5 z6 z7
 go_wp2
 go_ret
 exact ⟨rfl,HB4.out⟩
set_option maxHeartbeats 3200000 in
theorem vmake_any {w0 W:World} {P:Nat→Prop} {q:Nat} {m:DM} (h:DS w0 W P q m) (r:Int) (hr:i64 r) (n g:Nat) (fr:Int) (hn:n≤200) (hg:g≤1000) (hyes:(rowV m r ((1+g+n:Nat):Int)).isSome=true) (hmax:m.done.length+n≤999000) :
 Calls Tryz.prog 11 #[.pointer (some ⟨q,0,none⟩),.int .i64 r,shQ 0 0 n g fr] W fun e w'=>e=.returned (.bool true)∧DS w0 w' P q (makeM m r n g)∧Same P W w':=by
 have HD:=Lib.hid h
 have HR:=Lib.hid hr
 have HNG:=Lib.hid (And.intro hn hg)
 have HMX:=Lib.hid hmax
 have HGO:=Lib.hid (fun W=>groundOf_any (some ⟨q,0,none⟩) r n g fr hn hg W)
 have hb1:∀ o,Below W.heap.size W (W.alloc o):=fun o=>(Below.refl _ _).alloc (Nat.le_refl _) _
 have HYES:=Lib.hid hyes
 have e5:=fun o=>heap_alloc_new W o
 unfold shQ makeM
 clear h hyes hmax
 go_enter Tryz.func11,Tryz.ntmps11
 go_wp2_with fail
 have HB1:=Lib.hid (hb1 (Obj.cells #[.int .i64 0,.int .i64 0,.int .i64 n,.int .i64 g,.int .i64 fr] 28))
 have he5:=e5 (Obj.cells #[.int .i64 0,.int .i64 0,.int .i64 n,.int .i64 g,.int .i64 fr] 28)
 refine (HGO.out _).mono ?_
 rintro e W2 ⟨rfl,hb2⟩
 have he6:=kb hb2 he5
 have HB2:=Lib.hid (keepB HB1.out hb2)
 clear hb1 hb2 e5 he5
 unfold gndA
 go_upto_region 2 with (refine wpList_storeG rfl (.tmp 7) (.tmp 15) rfl W2.heap.size rfl (gndC (some ⟨q,0,none⟩) r n g fr) rfl (gndC_one _ _ _ _ _) rfl _ rfl (heap_alloc_new W2 _) ?_)
 have e7:=setRow_blk (D:=gndC (some ⟨q,0,none⟩) r n g fr) (heap_alloc_new W2 (Obj.cells #[.pointer none,.int .i64 0,.int .u8 0,.int .i64 0,.int .i64 0,.int .i64 0,.int .i64 0,.int .i64 0] 87))
 have hb3:Below W2.heap.size W2 ((W2.alloc (Obj.cells #[.pointer none,.int .i64 0,.int .u8 0,.int .i64 0,.int .i64 0,.int .i64 0,.int .i64 0,.int .i64 0] 87)).setRow W2.heap.size (gndC (some ⟨q,0,none⟩) r n g fr)):=below_setRow ((Below.refl _ _).alloc (Nat.le_refl _) _) (Nat.le_refl _) _
 have HB3:=Lib.hid (keepB HB2.out hb3)
 have e5:=kb hb3 he6
 have hlt5:W.heap.size<W2.heap.size:=room_lt he6
 have hsz3:W2.heap.size<((W2.alloc (Obj.cells #[.pointer none,.int .i64 0,.int .u8 0,.int .i64 0,.int .i64 0,.int .i64 0,.int .i64 0,.int .i64 0] 87)).setRow W2.heap.size (gndC (some ⟨q,0,none⟩) r n g fr)).heap.size:=room_lt e7
 have hws:=HB2.out.size
 generalize (W2.alloc (Obj.cells #[.pointer none,.int .i64 0,.int .u8 0,.int .i64 0,.int .i64 0,.int .i64 0,.int .i64 0,.int .i64 0] 87)).setRow W2.heap.size (gndC (some ⟨q,0,none⟩) r n g fr)=W3 at *
 generalize W2.heap.size=g7 at *
 clear hb3
 have hf:=gfits_any (W:=W3) ((HD.out.rd r hr).keep HB3.out) n g fr hn hg
 rw [HYES.out] at hf
 have HF:=Lib.hid hf
 obtain ⟨z0,z1,z2,z3,z4,z5,z6,z7⟩:=gnd_cells e7
 have HE7:=Lib.hid e7
 have HE5:=Lib.hid e5
 clear e7 hf e5 he6
 go_wp2_with fail
 refine HF.out.mono ?_
 rintro e W4 ⟨rfl,hb4⟩
 have he5:=kb hb4 HE5.out
 have hd4:DS w0 W4 (fun k=>P k∨k=g7) q m:=HD.out.below (keepB HB3.out hb4) (fun k hk=>by
  rcases hk with hk | rfl
  ·exact Or.inl hk
  ·exact Or.inr ⟨hws,Nat.lt_of_lt_of_le hsz3 hb4.size⟩)
 have HD4:=Lib.hid hd4
 have HE74:=Lib.hid (kb hb4 HE7.out)
 have HSM4:=Lib.hid (HD.out.same (keepB HB3.out hb4))
 have y2:W4.cell? ⟨W.heap.size,2,none⟩=some (.int .i64 n):=(blk_cell he5 2).trans rfl
 clear he5 hd4 hb4 z0 z1 z2 z3 z4 z5 z6 z7 hlt5 hsz3 hws
 go_wp2
 clear y2
 go_loopw [26] (fun i wr=>∃ k:Nat,i=.int .i64 k∧k≤n∧Hid (DS w0 wr (fun k=>P k∨k=g7) q (firstW r g m k))∧Hid (Same (fun k=>P k∨k=g7) W4 wr)) (fun i _=>n-(intOf i).toNat)
 case atStart=>exact ⟨0,rfl,by omega,HD4.out,Same.refl _ _⟩
 case round =>
  obtain ⟨kk,rfl,hk,HD5,HSM⟩:=hrel
  obtain ⟨w5,rfl⟩:∃ w5,w5=wr:=⟨wr,rfl⟩
  have HG5:=Lib.hid ((HSM.out.blk g7 (Or.inr rfl)).trans HE74.out)
  by_cases hlt:kk<n
  ·have hki:(kk:Int)<n:=by omega
   have HM:Hid ((firstW r g m kk).done.length≤1000000):=by
    have h1:=firstW_done r g m kk
    have h2:=HMX.out
    unfold Hid;omega
   have HG:Hid (∀ W',Below w5.heap.size w5 W'→W'.heap[g7]?=some (.cells (gndC (some ⟨q,0,none⟩) r n g fr) 87 (0,0))):=fun W' h=>kb h HG5.out
   go_upto_region 7 with fail
   refine wp_region_rgk (VNmk q n g kk r fr) (fun _ W=>Below w5.heap.size w5 W) (fun _ w w'=>Below w.heap.size w w') (by kernel_rfl) (by kernel_rfl) (fun i j v w w' _ _ h hs=>by unfold VNmk at *;exact h) ((Below.refl _ _).drew) ?_
   simp only [RAll]
   refine ⟨?_,?_,?_,?_,?_⟩
   ·refine RStepK.of rfl fun T W L hag hL hJ hLs hd=>?_
    have e7:T.getD 7 undef=_:=(agree_at hag 7 (by kernel_rfl)).trans rfl
    obtain ⟨z0,z1,z2,z3,z4,z5,z6,z7⟩:=gnd_cells (HG.out W hJ)
    clear hag hd
    go_simp
    first | exact ⟨_,rfl,rfl⟩ | exact ⟨_,rfl,rfl,brefl _⟩ | exact ⟨_,rfl,rfl,hJ,brefl _⟩
   ·refine RStepK.of rfl fun T W L hag hL hJ hLs hd=>?_
    have e9:T.getD 9 undef=_:=(agree_at hag 9 (by kernel_rfl)).trans rfl
    clear hag hd
    go_simp
    first | exact ⟨_,rfl,rfl⟩ | exact ⟨_,rfl,rfl,brefl _⟩ | exact ⟨_,rfl,rfl,hJ,brefl _⟩
   ·refine RStepK.of rfl fun T W L hag hL hJ hLs hd=>?_
    have e9:T.getD 9 undef=_:=(agree_at hag 9 (by kernel_rfl)).trans rfl
    clear hag hd
    go_simp
    first | exact ⟨_,rfl,rfl⟩ | exact ⟨_,rfl,rfl,brefl _⟩ | exact ⟨_,rfl,rfl,hJ,brefl _⟩
   ·refine RStepK.of rfl fun T W L hag hL hJ hLs hd=>?_
    have d31:T.getD 31 undef=_:=hd ⟨2,.data⟩ (by simp) rfl _ rfl
    clear hag hd
    go_simp
    refine (atFirst_any kk W).mono ?_
    rintro e w' ⟨rfl,hb⟩
    exact ⟨_,rfl,rfl,keepB hJ hb,hb⟩
   ·refine RLastK.of rfl fun T W L hag hLs hL hJ hd=>?_
    have d29:T.getD 29 undef=_:=hd 0 _ (by simp) rfl
    have d30:T.getD 30 undef=_:=hd 1 _ (by simp) rfl
    have d32:T.getD 32 undef=_:=hd 3 _ (by simp) rfl
    obtain ⟨f,hf,hT⟩:=agree_fn hag
    have h29:=(hf 29).trans d29
    have h30:=(hf 30).trans d30
    have d31:T.getD 31 undef=_:=hd 2 _ (by simp) rfl
    have h31:=(hf 31).trans d31
    have h32:=(hf 32).trans d32
    have HJ:=Lib.hid hJ
    clear hag hd d29 d30 d31 d32 hJ hf
    rw [hT]
    clear hT
    simp only [List.pop_toArray,List.dropLast_cons_cons,List.dropLast_singleton,List.filterMap_cons,List.filterMap_nil,List.foldl_cons,List.foldl_nil,List.setIfInBounds_toArray,List.set_cons_succ,List.set_cons_zero,h29,h30,h31,h32]
    have hd:=HD5.out.below HJ.out (fun k hk=>Or.inl hk)
    go_simp
    refine (gsettle_any hd r HR.out n g fr HNG.out.1 HNG.out.2 kk hlt (firstK kk) (firstB kk) (firstK_ok kk) (firstB_len kk) (firstB_ok kk) HM.out).mono ?_
    rintro e w' ⟨rfl,hd',hs⟩
    have HD6:=Lib.hid hd'
    have HSM6:=Lib.hid ((HSM.out.trans (HD5.out.same HJ.out)).trans hs)
    clear hd hd' hs HJ
    go_wp2
    go_roundw
    case rel=>exact ⟨kk+1,by go_num,by omega,HD6.out,HSM6.out⟩
    case measure=>simp [intOf];omega
  ·obtain rfl:kk=n:=by omega
   have hki:¬ ((kk:Int)<kk):=by omega
   have HM:Hid ((firstW r g m kk).done.length≤999990):=by
    have h1:=firstW_done r g m kk
    have h2:=HMX.out
    unfold Hid;omega
   have HBG:=Lib.hid (fun W (h:DS w0 W (fun k=>P k∨k=g7) q (firstW r g m kk))=>gbegin_any h r hr kk g fr 1 (by omega) HM.out)
   go_wp2_with (refine wpList_loadG rfl (.tmp 7) rfl g7 rfl (gndC (some ⟨q,0,none⟩) r kk g fr) rfl HG5.out ?_)
   refine (HBG.out _ HD5.out).mono ?_
   rintro e w' ⟨rfl,hd',hs⟩
   have HF1:=Lib.hid (hd'.mono fun k hk=>Or.inl hk)
   have HF2:=Lib.hid ((HSM4.out.trans (HSM.out.mono fun k hk=>Or.inl hk)).trans (hs.mono fun k hk=>Or.inl hk))
   clear hd' hs
   go_wp2
   go_ret
   exact ⟨rfl,HF1.out,HF2.out⟩
def putsL (e:Nat):Nat→List (List Wr)→List (List Int)
 | _,[]=>[]
 | s,l :: Rs=>putL 0 e s l++putsL e (s+1) Rs
theorem TxR.cut {W:World} {R:Nat→Prop} {A:Option Addr} {ls:List (List Int)} {c k:Nat} (h:TxR W R A ls) (hc:ls.length≤c):TxR W R (cutA A c k) (ls.drop k):=fun i b hi=>by
 rw [List.getElem?_drop] at hi
 have hl:k+i<ls.length:=(List.getElem?_eq_some_iff.1 hi).1
 obtain ⟨a,B,d,rfl,h1,h2,h3⟩:=h _ _ hi
 refine ⟨a.add k,B,d,?_,by rw [block_of_add'];exact h1,by rw [add_add'];exact h2,h3⟩
 unfold cutA
 rw [if_neg (by omega),Nat.mul_one];rfl
theorem LogO.txR {W:World} {base:Nat} {v:Value} {vs:List Value} {ls:List (List Int)} (h:LogO W base v vs ls) (h64:∀ b∈ls,b.length=64):∃ A c,v=.slice A ls.length c∧ls.length≤c∧c≤9223372036854775807∧TxR W (fun k=>base≤k∧k<W.heap.size) A ls:=by
 obtain ⟨A,c,rfl,h1,h2⟩:=h.row.val
 refine ⟨A,c,rfl,h1,h2,fun i b hi=>?_⟩
 obtain ⟨p,h3,h4,h5⟩:=h.blk i b hi
 have hlt:=(List.getElem?_eq_some_iff.1 hi).1
 obtain ⟨g,cap,he,ho,hgl,_,_,hc,_⟩:=h.row.pos (by omega)
 injection he with e1 e2 e3
 subst e1
 have hb:=h64 b (List.mem_of_getElem? hi)
 refine ⟨_,some ⟨p,0,none⟩,64,rfl,⟨ho,hgl⟩,?_,by omega,by omega,fun j x hj=>?_⟩
 ·rw [add_at,hc i (by omega),h3,hb]
 ·obtain ⟨a,e,hx⟩:=byt_blk (bs:=b) h4 (by simp) j x hj
  injection e with e;subst e
  exact ⟨_,rfl,⟨h5,room_lt h4⟩,hx⟩
theorem TxR.tx {W:World} {R:Nat→Prop} {A:Option Addr} {ls:List (List Int)} (h:TxR W R A ls):Tx W A ls:=fun i b hi=>by
 obtain ⟨a,B,d,e,_,h2,h3,h4,h5⟩:=h i b hi
 exact ⟨a,B,d,e,h2,h3,h4,fun j x hj=>let ⟨c,e2,_,h7⟩:=h5 j x hj;⟨c,e2,h7⟩⟩
theorem OwnW.wrsR {W:World} {base:Nat} {v:Value} {l:List Wr} (h:OwnW W base v l) (h56:Len56 l):∃ A d,v=.slice A l.length d∧l.length≤d∧d≤9223372036854775807∧WrsR W (fun k=>base≤k∧k<W.heap.size) A l:=by
 obtain ⟨A,d,rfl,h1,h2,h3⟩:=h.wrs h56
 refine ⟨A,d,rfl,h1,h2,fun i x hi=>?_⟩
 obtain ⟨a,rfl,h4⟩:=h3 i x hi
 refine ⟨a,rfl,h4,?_⟩
 rcases h.2 with ⟨h9,_⟩ | ⟨g,cap,cur,h9,hb,hg,_⟩
 ·cases h9
 ·injection h9 with h9;injection h9 with h9;subst h9
  exact ⟨hb,room_lt hg⟩
def VNre (hp base n c N:Nat) (e k:Int) (A:Option Addr) (b:Bool) (tv:List Wr) (i:Nat) (v:Value) (w:World):Prop :=
 match i with
 | 0 | 1 | 2 | 5 | 6=>v=.pointer (some ⟨hp,0,none⟩)
 | 3=>v=.pointer (some ⟨hp,2,none⟩)
 | 4=>v=.int .u8 0
 | 7=>v=.pointer (some ⟨hp,9,none⟩)
 | 8=>v=.int .u32 (e:Int)
 | 9=>v=.int .u32 (k:Int)
 | 10=>v=.slice A n c
 | 14 | 17=>v=.int .i64 N
 | 15=>v=.bool b
 | 11=>∃ u,v=.tuple #[u,.int .i64 N,.bool b]∧OwnW w base u tv
 | 12=>∃ u,v=.tuple #[u,.int .i64 N,.bool b]∧OwnW w base u tv
 | 13=>OwnW w base v tv
 | 16=>OwnW w base v tv
 | _=>True
def AtRep (w0 W:World) (P:Nat→Prop) (q:Nat) (m:DM) (hp rb:Nat) (v:VM) (Rs:List (List Wr)) (rest:List (List Int)) (a':Act) (w':World):Prop :=
 ∃ (P':Nat→Prop) (k:Nat) (ls:List (List Int)) (A:Option Addr) (c:Nat),(∀ k,P k→P' k)∧Hid (SV w0 w' P' q m hp rb { v with B:=layB v.B (Rs.take k).flatten })∧Hid (Same (Rst P hp rb) W w')∧k≤Rs.length∧Hid (ls.length≤c)∧Hid (c≤9223372036854775807)∧Hid (TxR w' (Rst P' hp rb) A ls)∧Hid (TxOk ls)∧Hid (ls=putsL v.ep k (Rs.drop k)++rest)∧∃ u2 u3 u4 u7 u8 u9 u10 u11 u12 u13 u14 u15 u16 u17 u18 u19 u20 u21 u22 u23 u24 u25 u26 u27 u28 u29 u30 u31 u32 u33 u34 u35 u36 u37:Value,a'={ tmps:=#[.pointer (some ⟨hp,0,none⟩),undef,u2,u3,u4,.slice A ls.length c,.int .u32 k,u7,u8,u9,u10,u11,u12,u13,u14,u15,u16,u17,u18,u19,u20,u21,u22,u23,u24,u25,u26,u27,u28,u29,u30,u31,u32,u33,u34,u35,u36,u37],defers:=[] }
set_option maxHeartbeats 3200000 in
theorem vreplay_any {w0 W:World} {P:Nat→Prop} {q:Nat} {m:DM} {hp rb:Nat} {v:VM} (h:SV w0 W P q m hp rb v) (L:List (List Int)) (hL:L.length=v.g) (hrow:∀ i b,L[i]?=some b→rowV m v.r ((2+i:Nat):Int)=some b) (hLB:∀ b∈L,BlkOk b)
 (Rs:List (List Wr)) (rest:List (List Int)) (hRs:∀ l∈Rs,MayL l∧WrsOk l) (hLs:L=putsL v.ep 0 Rs++rest) (hnt:¬ Taken 0 v.ep Rs.length rest) (hrl:Rs.length≤1000000) :
 Calls Tryz.prog 45 #[.pointer (some ⟨hp,0,none⟩)] W fun e w'=>e=.returned (.tuple #[])∧SV w0 w' P q m hp rb { v with B:=layB v.B Rs.flatten }∧Same (Rst P hp rb) W w':=by
 have HV:=Lib.hid h
 have HL:=Lib.hid hL
 have HRW:=Lib.hid hrow
 have HLB:=Lib.hid hLB
 have HRS:=Lib.hid hRs
 have HLS0:=Lib.hid hLs
 have HNT:=Lib.hid hnt
 have HPP:=Lib.hid (And.intro h.ph h.pr)
 have HLG:=Lib.hid (glog_any (h.ds.rd v.r h.at_.r) v.n v.g v.fr h.at_.g L hL hrow)
 clear h hL hrow hLB hRs hLs hnt
 obtain ⟨WW,rfl⟩:∃ WW,WW=W:=⟨W,rfl⟩
 go_enter Tryz.func45,Tryz.ntmps45
 go_wp2
 refine wp_scope1e (AtRep w0 WW P q m hp rb v Rs rest) (fun a' _=>Rs.length-(intOf (a'.tmps.getD 6 undef)).toNat) rfl ?_ ?_
 ·intro HF0
  have HF:=Lib.hid HF0
  clear HF0
  go_wp2_with (with_reducible refine wpList_load_mid rfl 87 (.tmp 9) rfl hp 0 rfl (gndLs (some ⟨q,0,none⟩) v.r v.n v.g v.fr) _ HV.out.at_.rangeG Tryz.underlying87 rfl (by rw [show (gndLs (some ⟨q,0,none⟩) v.r v.n v.g v.fr).length=8 from rfl];exact size82) ?_)
  refine HLG.out.mono ?_
  rintro e W1 ⟨⟨u,vs,rfl,hlo⟩,hb1⟩
  obtain ⟨A,c,rfl,hc1,hc2,htx⟩:=hlo.txR (fun b hb=>(HLB.out b hb).1)
  have hsv1:=HV.out.grow hb1 (Q:=fun k=>WW.heap.size≤k∧k<W1.heap.size) (fun k hk=>hk)
  have hlp:=HV.out.ds.low _ HV.out.ph
  have hlr:=HV.out.ds.low _ HV.out.pr
  have hj:∀ (a':Act),(∃ u2 u3 u4 u7 u8 u9 u10 u11 u12 u13 u14 u15 u16 u17 u18 u19 u20 u21 u22 u23 u24 u25 u26 u27 u28 u29 u30 u31 u32 u33 u34 u35 u36 u37:Value,a'={ tmps:=#[.pointer (some ⟨hp,0,none⟩),undef,u2,u3,u4,.slice A L.length c,.int .u32 0,u7,u8,u9,u10,u11,u12,u13,u14,u15,u16,u17,u18,u19,u20,u21,u22,u23,u24,u25,u26,u27,u28,u29,u30,u31,u32,u33,u34,u35,u36,u37],defers:=[] })→AtRep w0 WW P q m hp rb v Rs rest a' W1:=fun a' ha=>⟨_,0,L,A,c,fun k hk=>Or.inl hk,hsv1,Same.rst (HV.out.same hb1),Nat.zero_le _,hc1,hc2,htx.mono (fun k hk=>⟨Or.inr hk,by omega,by omega⟩),(fun b hb=>(HLB.out b hb).2),HLS0.out,ha⟩
  have HJ0:=Lib.hid hj
  clear hlo hb1 hc1 hc2 htx hsv1 hlp hlr hj HLG
  go_wp2
  go_step3
  rename_i hK
  exact hK _ _ (HF.out _ _ (HJ0.out _ ⟨_,_,_,_,_,_,_,_,_,_,_,_,_,_,_,_,_,_,_,_,_,_,_,_,_,_,_,_,_,_,_,_,_,_,rfl⟩))
 ·rintro a' w5 ⟨P',k,ls,A,c,HPI,HSV,HSM,hkR,HLC,HC2,HTX,HTO,HLS,u2,u3,u4,u7,u8,u9,u10,u11,u12,u13,u14,u15,u16,u17,u18,u19,u20,u21,u22,u23,u24,u25,u26,u27,u28,u29,u30,u31,u32,u33,u34,u35,u36,u37,rfl⟩
  have HC:=Lib.hid (fun (W':World) (hb':Below w5.heap.size w5 W')=>(HSV.out.at_.below hb').cs)
  have HTK:=Lib.hid (fun (W':World) (hb':Below w5.heap.size w5 W')=>take_any 0 v.ep k A ls ls.length c W' (by omega) HSV.out.at_.ep (by omega) rfl HLC.out HC2.out HTO.out ((HTX.out.tx).keep hb'))
  have HTVL:Hid (Len56 (takeV 0 v.ep k ls)):=(takeV_ok HTO.out).len
  generalize htn:takeN 0 v.ep k ls=N at *
  generalize htv:takeV 0 v.ep k ls=tv at *
  generalize hbb:decide (Taken 0 v.ep k ls)=b at *
  have HTV:=Lib.hid (And.intro htv htn)
  have HBB:=Lib.hid hbb
  generalize hln:ls.length=n at *
  have HLN:=Lib.hid hln
  clear htn htv hbb hln
  go_upto_region 5 with fail
  refine wp_region_rgk (VNre hp w5.heap.size n c N v.ep k A b tv) (fun _ W=>Below w5.heap.size w5 W) (fun _ w w'=>Below w.heap.size w w') (by kernel_rfl) (by kernel_rfl) (fun i j v w w' _ _ h hs=>by revert h;unfold VNre;split <;> intro h <;> first | exact h | (obtain ⟨p,h1,h2⟩:=h;exact ⟨p,h1,ownB h2 hs⟩) | exact ownB h hs | trivial) ((Below.refl _ _).drew) ?_
  simp only [RAll]
  refine ⟨?_,?_,?_,?_,?_,?_,?_,?_,?_,?_,?_,?_,?_,?_,?_,?_,?_,?_,?_⟩
  ·refine RStepK.of rfl fun T W L hag hL hJ hLs hd=>?_
   have e0:T.getD 0 undef=_:=(agree_at hag 0 (by kernel_rfl)).trans rfl
   clear hag hd
   go_simp
   first | exact ⟨_,rfl,rfl⟩ | exact ⟨_,rfl,rfl,brefl _⟩ | exact ⟨_,rfl,rfl,hJ,brefl _⟩
  ·refine RStepK.of rfl fun T W L hag hL hJ hLs hd=>?_
   have d13:T.getD 13 undef=_:=hd ⟨0,.data⟩ (by simp) rfl _ rfl
   clear hag hd
   go_simp
   first | exact ⟨_,rfl,rfl⟩ | exact ⟨_,rfl,rfl,brefl _⟩ | exact ⟨_,rfl,rfl,hJ,brefl _⟩
  ·refine RStepK.of rfl fun T W L hag hL hJ hLs hd=>?_
   have d14:T.getD 14 undef=_:=hd ⟨1,.data⟩ (by simp) rfl _ rfl
   clear hag hd
   go_simp
   first | exact ⟨_,rfl,rfl⟩ | exact ⟨_,rfl,rfl,brefl _⟩ | exact ⟨_,rfl,rfl,hJ,brefl _⟩
  ·refine RStepK.of rfl fun T W L hag hL hJ hLs hd=>?_
   have d15:T.getD 15 undef=_:=hd ⟨2,.data⟩ (by simp) rfl _ rfl
   clear hag hd
   go_simp
   first | exact ⟨_,rfl,rfl⟩ | exact ⟨_,rfl,rfl,brefl _⟩ | exact ⟨_,rfl,rfl,hJ,brefl _⟩
  ·refine RStepK.of rfl fun T W L hag hL hJ hLs hd=>?_
   have d16:T.getD 16 undef=_:=hd ⟨3,.data⟩ (by simp) rfl _ rfl
   obtain ⟨z0,z1,z2,z3,z4,z5,z6,z7,z8,z9,z10,z11⟩:=HC.out W hJ
   clear hag hd
   go_simp
   first | exact ⟨_,rfl,rfl⟩ | exact ⟨_,rfl,rfl,brefl _⟩ | exact ⟨_,rfl,rfl,hJ,brefl _⟩
  ·refine RStepK.of rfl fun T W L hag hL hJ hLs hd=>?_
   have e0:T.getD 0 undef=_:=(agree_at hag 0 (by kernel_rfl)).trans rfl
   clear hag hd
   go_simp
   first | exact ⟨_,rfl,rfl⟩ | exact ⟨_,rfl,rfl,brefl _⟩ | exact ⟨_,rfl,rfl,hJ,brefl _⟩
  ·refine RStepK.of rfl fun T W L hag hL hJ hLs hd=>?_
   have d18:T.getD 18 undef=_:=hd ⟨5,.data⟩ (by simp) rfl _ rfl
   clear hag hd
   go_simp
   first | exact ⟨_,rfl,rfl⟩ | exact ⟨_,rfl,rfl,brefl _⟩ | exact ⟨_,rfl,rfl,hJ,brefl _⟩
  ·refine RStepK.of rfl fun T W L hag hL hJ hLs hd=>?_
   have d19:T.getD 19 undef=_:=hd ⟨6,.data⟩ (by simp) rfl _ rfl
   clear hag hd
   go_simp
   first | exact ⟨_,rfl,rfl⟩ | exact ⟨_,rfl,rfl,brefl _⟩ | exact ⟨_,rfl,rfl,hJ,brefl _⟩
  ·refine RStepK.of rfl fun T W L hag hL hJ hLs hd=>?_
   have d20:T.getD 20 undef=_:=hd ⟨7,.data⟩ (by simp) rfl _ rfl
   obtain ⟨z0,z1,z2,z3,z4,z5,z6,z7,z8,z9,z10,z11⟩:=HC.out W hJ
   clear hag hd
   go_simp
   first | exact ⟨_,rfl,rfl⟩ | exact ⟨_,rfl,rfl,brefl _⟩ | exact ⟨_,rfl,rfl,hJ,brefl _⟩
  ·refine RStepK.of rfl fun T W L hag hL hJ hLs hd=>?_
   have e6:T.getD 6 undef=_:=(agree_at hag 6 (by kernel_rfl)).trans rfl
   clear hag hd
   go_simp
   first | exact ⟨_,rfl,rfl⟩ | exact ⟨_,rfl,rfl,brefl _⟩ | exact ⟨_,rfl,rfl,hJ,brefl _⟩
  ·refine RStepK.of rfl fun T W L hag hL hJ hLs hd=>?_
   have e5:T.getD 5 undef=_:=(agree_at hag 5 (by kernel_rfl)).trans rfl
   clear hag hd
   go_simp
   first | exact ⟨_,rfl,rfl⟩ | exact ⟨_,rfl,rfl,brefl _⟩ | exact ⟨_,rfl,rfl,hJ,brefl _⟩
  ·refine RStepK.of rfl fun T W L hag hL hJ hLs hd=>?_
   have d17:T.getD 17 undef=_:=hd ⟨4,.data⟩ (by simp) rfl _ rfl
   have d21:T.getD 21 undef=_:=hd ⟨8,.data⟩ (by simp) rfl _ rfl
   have d22:T.getD 22 undef=_:=hd ⟨9,.data⟩ (by simp) rfl _ rfl
   have d23:T.getD 23 undef=_:=hd ⟨10,.data⟩ (by simp) rfl _ rfl
   clear hag hd
   go_simp
   refine (HTK.out W hJ).mono ?_
   rintro e w' ⟨u,rfl,hu,hb⟩
   exact ⟨_,rfl,⟨_,rfl,World.ownsRow.mono hu hJ.size⟩,keepB hJ hb,hb⟩
  ·refine RStepK.of rfl fun T W L hag hL hJ hLs hd=>?_
   have x24:=hd ⟨11,.data⟩ (by simp) rfl _ rfl
   obtain ⟨u,(hs:T.getD 24 undef=_),hp⟩:=x24
   clear hag hd
   go_simp
   exact ⟨_,rfl,⟨_,rfl,hp⟩,brefl _⟩
  ·refine RStepK.of rfl fun T W L hag hL hJ hLs hd=>?_
   have x12:=hd ⟨12,.data⟩ (by simp) rfl _ rfl
   obtain ⟨u,(hs:T.getD 12 undef=_),hp⟩:=x12
   clear hag hd
   go_simp
   exact ⟨_,rfl,hp,brefl _⟩
  ·refine RStepK.of rfl fun T W L hag hL hJ hLs hd=>?_
   have x12:=hd ⟨12,.data⟩ (by simp) rfl _ rfl
   obtain ⟨u,(hs:T.getD 12 undef=_),hp⟩:=x12
   clear hag hd
   go_simp
   first | exact ⟨_,rfl,rfl⟩ | exact ⟨_,rfl,rfl,brefl _⟩ | exact ⟨_,rfl,rfl,hJ,brefl _⟩
  ·refine RStepK.of rfl fun T W L hag hL hJ hLs hd=>?_
   have x12:=hd ⟨12,.data⟩ (by simp) rfl _ rfl
   obtain ⟨u,(hs:T.getD 12 undef=_),hp⟩:=x12
   clear hag hd
   go_simp
   first | exact ⟨_,rfl,rfl⟩ | exact ⟨_,rfl,rfl,brefl _⟩ | exact ⟨_,rfl,rfl,hJ,brefl _⟩
  ·refine RStepK.of rfl fun T W L hag hL hJ hLs hd=>?_
   have x25:=hd ⟨13,.data⟩ (by simp) rfl _ rfl
   have x25':OwnW W w5.heap.size (T.getD 25 undef) tv:=x25
   clear hag hd x25
   go_simp
   exact ⟨_,rfl,(by show OwnW W w5.heap.size (T[25]?.getD undef) tv;simpa using x25'),brefl _⟩
  ·refine RStepK.of rfl fun T W L hag hL hJ hLs hd=>?_
   have d26:T.getD 26 undef=_:=hd ⟨14,.data⟩ (by simp) rfl _ rfl
   clear hag hd
   go_simp
   first | exact ⟨_,rfl,rfl⟩ | exact ⟨_,rfl,rfl,brefl _⟩ | exact ⟨_,rfl,rfl,hJ,brefl _⟩
  ·refine RLastK.of rfl fun T W L hag hLs hL hJ hd=>?_
   have d27:T.getD 27 undef=_:=hd 15 _ (by simp) rfl
   obtain ⟨f,hf,hT⟩:=agree_fn hag
   have d13:T.getD 13 undef=_:=hd 0 _ (by simp) rfl
   have h13:=(hf 13).trans d13
   have d14:T.getD 14 undef=_:=hd 1 _ (by simp) rfl
   have h14:=(hf 14).trans d14
   have d15:T.getD 15 undef=_:=hd 2 _ (by simp) rfl
   have h15:=(hf 15).trans d15
   have d16:T.getD 16 undef=_:=hd 3 _ (by simp) rfl
   have h16:=(hf 16).trans d16
   have d17:T.getD 17 undef=_:=hd 4 _ (by simp) rfl
   have h17:=(hf 17).trans d17
   have d18:T.getD 18 undef=_:=hd 5 _ (by simp) rfl
   have h18:=(hf 18).trans d18
   have d19:T.getD 19 undef=_:=hd 6 _ (by simp) rfl
   have h19:=(hf 19).trans d19
   have d20:T.getD 20 undef=_:=hd 7 _ (by simp) rfl
   have h20:=(hf 20).trans d20
   have d21:T.getD 21 undef=_:=hd 8 _ (by simp) rfl
   have h21:=(hf 21).trans d21
   have d22:T.getD 22 undef=_:=hd 9 _ (by simp) rfl
   have h22:=(hf 22).trans d22
   have d23:T.getD 23 undef=_:=hd 10 _ (by simp) rfl
   have h23:=(hf 23).trans d23
   have d26:T.getD 26 undef=_:=hd 14 _ (by simp) rfl
   have h26:=(hf 26).trans d26
   have h27:=(hf 27).trans d27
   have d3:T.getD 3 undef=_:=hd 17 _ (by simp) rfl
   have h3:=(hf 3).trans d3
   have HJ:=Lib.hid hJ
   have x2:OwnW W w5.heap.size (T.getD 2 undef) tv:=hd 16 _ (by simp) rfl
   obtain ⟨B,c2,hv,hb1,hb2,hwr⟩:=OwnW.wrsR x2 HTVL.out
   have h2:=(hf 2).trans hv
   have HWR:=Lib.hid hwr
   have HCC:=Lib.hid (And.intro hb1 hb2)
   clear x2 hv hwr hb1 hb2
   clear hag hd d13 d14 d15 d16 d17 d18 d19 d20 d21 d22 d23 d26 d27 d3 hJ hf
   rw [hT]
   clear hT
   simp only [List.pop_toArray,List.dropLast_cons_cons,List.dropLast_singleton,List.filterMap_cons,List.filterMap_nil,List.foldl_cons,List.foldl_nil,List.setIfInBounds_toArray,List.set_cons_succ,List.set_cons_zero,h13,h14,h15,h16,h17,h18,h19,h20,h21,h22,h23,h26,h27,h3]
   simp only [h2]
   have HS6:=Lib.hid (HSV.out.grow HJ.out (Q:=fun k=>w5.heap.size≤k∧k<W.heap.size) (fun k hk=>hk))
   have HM6:=Lib.hid (HSM.out.trans (Same.rst ((HSV.out.same HJ.out).mono HPI)))
   have HTX6:=Lib.hid (HTX.out.same (Same.rst (HSV.out.same HJ.out)))
   have hlp:=HSV.out.ds.low _ HSV.out.ph
   have hlr:=HSV.out.ds.low _ HSV.out.pr
   have HLOW:=Lib.hid (And.intro hlp hlr)
   clear hlp hlr HTK HC
   by_cases hk2:k=Rs.length
   ·have hnt:b=false:=by
     rw [← HBB.out]
     refine decide_eq_false ?_
     rw [HLS.out,hk2,List.drop_length]
     exact HNT.out
    have hfl:layB v.B (Rs.take k).flatten=layB v.B Rs.flatten:=by rw [hk2,List.take_length]
    have HF:Hid (SV w0 W P q m hp rb { v with B:=layB v.B Rs.flatten }):=by
     have h3:=HS6.out.mono (P':=P) (fun k hk=>Or.inl (HPI k hk)) HPP.out.1 HPP.out.2
     rw [← hfl];exact h3
    rw [hnt]
    clear hnt hfl hk2
    go_wp2
    simp only [Exit.jump]
    refine bodyPost_ret (results_none rfl _ _ _) rfl ⟨rfl,HF.out,HM6.out⟩
   ·have hkl:k<Rs.length:=by omega
    obtain ⟨l,hl⟩:∃ l,Rs[k]?=some l:=⟨_,List.getElem?_eq_getElem hkl⟩
    have hml:=HRS.out l (List.mem_of_getElem? hl)
    have hdr:Rs.drop k=l :: Rs.drop (k+1):=by rw [List.drop_eq_getElem_cons hkl,(List.getElem?_eq_some_iff.1 hl).2]
    have hls:ls=putL 0 v.ep k l++(putsL v.ep (k+1) (Rs.drop (k+1))++rest):=by rw [HLS.out,hdr];show (putL 0 v.ep k l++putsL v.ep (k+1) (Rs.drop (k+1)))++rest=_;rw [List.append_assoc]
    have hep:=HSV.out.at_.ep
    have hbt:b=true:=by
     rw [← HBB.out,hls]
     exact decide_eq_true ((taken_put hml.1 hml.2 hep hep (by omega) (by omega)).2 ⟨rfl,rfl,rfl⟩)
    have htv:=takeV_put (lb:=0) (e:=v.ep) (s:=k) (rest:=putsL v.ep (k+1) (Rs.drop (k+1))++rest) hml.1 hml.2 hep (by omega)
    rw [← hls] at htv
    have htvl:tv=l:=by rw [← HTV.out.1];exact htv.1
    have htn:N=1+l.length:=by rw [← HTV.out.2];exact htv.2
    rw [hbt]
    subst htvl
    have hnn:n=ls.length:=HLN.out.symm
    have hll:(putL 0 v.ep k tv).length=N:=by rw [putL_length,htn]
    have hle:N≤n:=by rw [hnn,hls,List.length_append,hll];omega
    have hly:=vlay_any HS6.out B tv tv.length c2 rfl HCC.out.1 HCC.out.2 hml.2 hml.1.kinds (HWR.out.mono fun k hk=>⟨Or.inr hk,by have:=HLOW.out.1;omega,by have:=HLOW.out.2;omega⟩)
    have HLY:=Lib.hid hly
    have HDR:Hid (ls.drop N=putsL v.ep (k+1) (Rs.drop (k+1))++rest):=by
     unfold Hid
     rw [hls,← hll];exact List.drop_left
    have HFL:Hid (layB (layB v.B (Rs.take k).flatten) tv=layB v.B (Rs.take (k+1)).flatten):=by
     unfold Hid
     rw [take_snoc' hl,List.flatten_append,layB_append];simp
    have HLE:=Lib.hid hle
    have wk:IntKind.u32.wrap ((k:Int)+1)=((k+1:Nat):Int):=by rw [IntWalk.u32_in _ (by omega)];omega
    have hle2:(N:Int)≤n:=by omega
    have hlc:=HLC.out
    have hn1:(N:Int)≤c:=by omega
    have hnc:(n:Int)≤c:=by omega
    have HKL:=Lib.hid hkl
    have HTC:Hid (TxOk (ls.drop N)):=fun b hb=>HTO.out b (List.mem_of_mem_drop hb)
    clear hbt htv hll hly hls hdr hml hl hnn htn hlc
    generalize tv.length=tl at *
    go_wp2_with fail
    refine HLY.out.mono ?_
    rintro e W7 ⟨rfl,h7,hs7⟩
    have h7':=h7.mono (P':=P') (fun k hk=>Or.inl hk) HSV.out.ph HSV.out.pr
    have hB7:(layB (layB v.B (Rs.take k).flatten) tv)=layB v.B (Rs.take (k+1)).flatten:=HFL.out
    have HS7:Hid (SV w0 W7 P' q m hp rb { v with B:=layB v.B (Rs.take (k+1)).flatten }):=by
     rw [← hB7];exact h7'
    have HM7:=Lib.hid (HM6.out.trans (hs7.mono fun k hk=>⟨Or.inl (HPI k hk.1),hk.2⟩))
    have htx7:=(HTX6.out.same (hs7.mono fun k hk=>⟨Or.inl hk.1,hk.2⟩)).cut (c:=c) (k:=N) (by rw [HLN.out];omega)
    have HTX7:=Lib.hid htx7
    clear h7 hs7 h7' hB7 htx7 HLY
    have HDL:Hid ((ls.drop N).length=n-N):=by unfold Hid;rw [List.length_drop,HLN.out]
    by_cases hcn:c=N
    ·subst hcn
     have htx8:=HTX7.out
     unfold cutA at htx8
     rw [if_pos rfl] at htx8
     have HTX8:=Lib.hid htx8
     clear htx8
     go_wp2
     go_step3
     refine ⟨rfl,(show AtRep w0 WW P q m hp rb v Rs rest _ W7 from ⟨P',k+1,ls.drop c,A,0,HPI,HS7.out,HM7.out,by have:=HKL.out;omega,(by rw [HDL.out];unfold Hid;omega),by unfold Hid;omega,HTX8.out,HTC.out,HDR.out,_,_,_,_,_,_,_,_,_,_,_,_,_,_,_,_,_,_,_,_,_,_,_,_,_,_,_,_,_,_,_,_,_,_,(by rw [HDL.out,show ((k+1:Nat):Int)=(k:Int)+1 from rfl])⟩),?_⟩
     have:=HKL.out
     simp [intOf];omega
    ·have htx8:=HTX7.out
     unfold cutA at htx8
     rw [if_neg hcn,Nat.mul_one] at htx8
     have HTX8:=Lib.hid htx8
     have hcn':¬ ((c:Int)=N):=by omega
     clear htx8
     go_wp2
     go_step3
     refine ⟨rfl,(show AtRep w0 WW P q m hp rb v Rs rest _ W7 from ⟨P',k+1,ls.drop N,A.map (·.add N),c-N,HPI,HS7.out,HM7.out,by have:=HKL.out;omega,(by rw [HDL.out];have:=HLC.out;unfold Hid;omega),(by have:=HC2.out;unfold Hid;omega),HTX8.out,HTC.out,HDR.out,_,_,_,_,_,_,_,_,_,_,_,_,_,_,_,_,_,_,_,_,_,_,_,_,_,_,_,_,_,_,_,_,_,_,(by rw [HDL.out,show ((k+1:Nat):Int)=(k:Int)+1 from rfl])⟩),?_⟩
     have:=HKL.out
     simp [intOf];omega
end Go.Proofs.YtamnpblijdgdaaaGreat
