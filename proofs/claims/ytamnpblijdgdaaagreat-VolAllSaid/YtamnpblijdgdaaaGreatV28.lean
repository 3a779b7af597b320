/- For VolAll: contracts and facts, part 28. -/
import Derived.Maps.OwnSet
import Derived.Maps.OwnOps
import Derived.Deep.Slices
import Derived.Deep.Fields
import Derived.ChangeSame
import Derived.OpenShut
import Derived.Test.YtamnpblijdgdaaaGreatV12
import Derived.Test.YtamnpblijdgdaaaGreatV27
namespace Go.Proofs.YtamnpblijdgdaaaGreat
open Go.ChangeShapes Go.WideShapes Go.ChangeAt Go.RowKit
set_option linter.unusedVariables false
set_option maxRecDepth 100000
theorem no_epoch:epN (fun _=>none) 2=(0,false):=by
 have h:∀ k,anOk [] k=false:=fun k=>by
  unfold anOk
  rw [decide_eq_false (fun h=>by have:=h.1;simp at this)];rfl
 show (if anOk [] 1=true then _ else _)=_
 rw [h 1]
 show (if anOk [] 0=true then _ else _)=_
 rw [h 0]
 rfl
set_option maxHeartbeats 3200000 in
theorem begun9_any (w:World):Calls Tryz.prog 4 #[] w fun e w'=>e=.returned (.bool true)∧Below w.heap.size w w':=by
 have hm40:mayV [40]=true:=by decide
 obtain ⟨I1,I2,I3⟩:=new_idle (r:=0) (z:=40) (n:=8) (g:=16) hm40 rfl (by decide) (by omega)
 have HI:=Lib.hid (And.intro I1 (And.intro I2 I3))
 have hfit:=make_fit (r:=0) (z:=40) (N:=26) hm40 rfl (by decide)
 have HFIT:=Lib.hid hfit
 clear I1 I2 I3 hfit
 go_enter Tryz.func4,Tryz.ntmps4
 go_wp2_with fail
 refine (new_at _ w.heap.size [40] 1 rfl hm40 (fun x hx=>by simp at hx;subst hx;constructor <;> omega) _ (heap_alloc_new w _)).mono ?_
 rintro e w1 ⟨⟨q,F,rfl,hd,hF⟩,hb⟩
 have HD1:=Lib.hid (DS.made ((Below.refl w.heap.size w).alloc (Nat.le_refl _) _) hd hF hb)
 clear hd hF hb
 go_upto_region 3 with (refine wpList_storeS rfl (.tmp 3) (.tmp 16) rfl w1.heap.size rfl 8 16 2 rfl _ rfl (heap_alloc_new w1 _) ?_)
 have e3:=setRow_blk (D:=shC 8 16 2) (heap_alloc_new w1 (Obj.cells #[.int .i64 0,.int .i64 0,.int .i64 0,.int .i64 0,.int .i64 0] 28))
 have hb2:Below w1.heap.size w1 ((w1.alloc (Obj.cells #[.int .i64 0,.int .i64 0,.int .i64 0,.int .i64 0,.int .i64 0] 28)).setRow w1.heap.size (shC 8 16 2)):=below_setRow ((Below.refl _ _).alloc (Nat.le_refl _) _) (Nat.le_refl _) _
 obtain ⟨g3,hg3⟩:∃ g3,g3=w1.heap.size:=⟨_,rfl⟩
 have hd2:=HD1.out.below (P':=fun k=>k=g3) hb2 (fun k hk=>Or.inr ⟨by omega,by rw [hk,hg3];exact room_lt e3⟩)
 rw [← hg3] at e3 hd2 ⊢
 clear hg3
 clear hb2
 generalize (w1.alloc (Obj.cells #[.int .i64 0,.int .i64 0,.int .i64 0,.int .i64 0,.int .i64 0] 28)).setRow g3 (shC 8 16 2)=w2 at *
 simp only [Act.put]
 have HD2:=Lib.hid hd2
 have HE3:=Lib.hid e3
 have hyes:(rowV (DM.make [40]) (0:Int) ((1+16+8:Nat):Int)).isSome=true:=by
  obtain ⟨b,hb⟩:=HFIT.out.get (i:=25) (by omega)
  have h1:=HFIT.out.rV 25
  rw [hb] at h1
  rw [show (0:Int)=((0:Nat):Int) from rfl,show 1+16+8=25 from rfl,h1];rfl
 have hmk:=vmake_any HD2.out (0:Int) (by constructor <;> omega) 8 16 2 (by omega) (by omega) hyes (by show (0:Nat)+8≤999000;omega)
 have HMK:=Lib.hid hmk
 clear hyes hmk hd2 e3
 go_wp2_with (refine wpList_loadSw rfl (.tmp 3) rfl g3 rfl 8 16 2 HE3.out ?_)
 refine HMK.out.mono ?_
 rintro e w3 ⟨rfl,hd3,hs3⟩
 have HD3:=Lib.hid hd3
 have HE3b:=Lib.hid ((hs3.blk g3 rfl).trans HE3.out)
 have hmt:=HI.out.1.mtb_now
 have hdn:=makeM_done (DM.make [40]) (0:Int) 8 16
 have hmo:=mount_mtb HD3.out (r:=0) (e:=1) (S0:=firstS 8) (Rs:=[]) hmt (by omega) (by omega) 2 (by simp) (by have:(DM.make [40]).done.length=0:=rfl;omega)
 have htd:=hmt.tied 2 (by omega) (by omega)
 have hns:(homeM (makeM (DM.make [40]) (0:Int) 8 16) (mntV (makeM (DM.make [40]) (0:Int) 8 16) 0 8 16 1 2 [])).stops=false:=by rw [ns_home];exact HI.out.2.2
 have hlv:=(hmt.live htd (by omega) (ns_of hns)).1
 have hdn2:=homeM_done' (makeM (DM.make [40]) (0:Int) 8 16) 0 8 16 1 2 []
 have HDN:Hid ((homeM (makeM (DM.make [40]) (0:Int) 8 16) (mntV (makeM (DM.make [40]) (0:Int) 8 16) 0 8 16 1 2 [])).done.length≤900000):=by
  have:(DM.make [40]).done.length=0:=rfl
  unfold Hid;omega
 have HMO:=Lib.hid hmo
 have HLV:=Lib.hid hlv
 have HNS:=Lib.hid hns
 clear hd3 hs3 hmt hdn hmo htd hns hlv hdn2 HD2 HE3 HMK HFIT HI
 have hB8:Hid ((homeV (mntV (makeM (DM.make [40]) (0:Int) 8 16) 0 8 16 1 2 [])).ep=2∧(homeV (mntV (makeM (DM.make [40]) (0:Int) 8 16) 0 8 16 1 2 [])).us=0∧(homeV (mntV (makeM (DM.make [40]) (0:Int) 8 16) 0 8 16 1 2 [])).n=8∧(homeV (mntV (makeM (DM.make [40]) (0:Int) 8 16) 0 8 16 1 2 [])).g=16):=⟨rfl,rfl,rfl,rfl⟩
 generalize homeV (mntV (makeM (DM.make [40]) (0:Int) 8 16) 0 8 16 1 2 [])=v at *
 generalize homeM (makeM (DM.make [40]) (0:Int) 8 16) (mntV (makeM (DM.make [40]) (0:Int) 8 16) 0 8 16 1 2 [])=m at *
 go_wp2_with (refine wpList_loadS rfl (.tmp 3) rfl g3 rfl 8 16 2 HE3b.out ?_)
 refine HMO.out.mono ?_
 rintro e w4 ⟨hp,rb,rfl,hsv,hs4,hlo1,hlo2⟩
 have HE3c:=Lib.hid ((hs4.blk g3 rfl).trans HE3b.out)
 have hg3l:=room_lt HE3b.out
 have HSV:=Lib.hid hsv
 have HNE:Hid (g3≠hp∧g3≠rb):=⟨by omega,by omega⟩
 clear hsv hs4 hlo1 hlo2 hg3l HMO HE3b HD3
 go_upto_region 8 with fail
 go_wp2_with (first
  | (refine wpList_buildBk rfl (.const (.int .i64 4)) 4 rfl rfl ?_)
  | (refine wpList_buildW1 rfl (.const (.int .i64 1)) (.tmp 38) 1 4 rfl rfl rfl ?_)
  | (refine wpList_oneW rfl (.tmp 39) rfl yb yb_ok.len rfl ?_))
 have hb5:Below w4.heap.size w4 (w4.alloc (Obj.cells (wrA yb) 73)):=(Below.refl _ _).alloc (Nat.le_refl _) _
 have hnew:=heap_alloc_new w4 (Obj.cells (wrA yb) 73)
 have hsz:=room_lt hnew
 generalize hw5:w4.alloc (Obj.cells (wrA yb) 73)=w5 at *
 generalize hgs:w4.heap.size=gs at *
 have hsv5:=HSV.out.grow (by rw [hgs];exact hb5) (Q:=fun k=>k=gs) (fun k hk=>by rw [hgs];exact ⟨by omega,by omega⟩)
 have hlp:=HSV.out.ds.low _ HSV.out.ph
 have hlr:=HSV.out.ds.low _ HSV.out.pr
 have hwr:WrsR w5 (Rst (fun k=>(k=g3∨k=hp∨k=rb)∨k=gs) hp rb) (some ⟨gs,0,none⟩) [yb]:=fun i x hi=>by
  cases i with
  | zero=>injection hi with hi;subst hi;exact ⟨_,rfl,wrAt_blk hnew,Or.inr rfl,by show gs≠hp;omega,by show gs≠rb;omega⟩
  | succ i=>cases hi
 have he3d:=kb (by rw [hgs];exact hb5) HE3c.out
 obtain ⟨b1,b2,b3,b4⟩:=hB8.out
 have hok:ChOk v [yb]:=⟨yb_may,by unfold hasAllV hasV;simp [yb,b3]⟩
 have hti:¬ Tight v [yb]:=by unfold Tight;rw [b2,b4];decide
 have hch:=vchange_any hsv5 (some ⟨gs,0,none⟩) [yb] 1 1 rfl (by omega) (by omega) yb_wrs hwr (by omega) (by omega) (by omega) (by have:=HLV.out.sqg;omega) (by have:=HDN.out;omega)
 rw [if_pos hok] at hch
 have hv2:chV v [yb]=putV v [yb]:=by unfold chV;rw [if_pos hok,if_neg hti]
 have hl8:v.B.length=8:=by rw [HLV.out.tied.vok.len,b3]
 have hgb:(chV v [yb]).B[1]?=some ⟨4,zBs,true⟩:=by
  rw [hv2]
  show (layB v.B [yb])[1]?=_
  show (if 0≤yb.t∧yb.t<v.B.length then v.B.set yb.t.toNat ⟨yb.k,yb.bs,true⟩ else v.B)[1]?=_
  rw [if_pos ⟨by decide,by rw [hl8];decide⟩]
  show (v.B.set 1 ⟨4,zBs,true⟩)[1]?=_
  rw [List.getElem?_set_self (by omega)]
 have HV2:Hid ((chV v [yb]).ep=2∧(chV v [yb]).us=2∧(chV v [yb]).n=8∧(chV v [yb]).g=16∧(chV v [yb]).sq≤17∧(chV v [yb]).B[1]?=some ⟨4,zBs,true⟩):=by
  refine ⟨?_,?_,?_,?_,?_,hgb⟩ <;> rw [hv2]
  ·exact b1
  ·show v.us+2=2;rw [b2]
  ·exact b3
  ·exact b4
  ·show v.sq+1≤17;have:=HLV.out.sqg;omega
 have HCH:=Lib.hid hch
 have hcd:=chM_done m v [yb]
 have HDN2:Hid ((chM m v [yb]).done.length≤998000):=by
  have h1:=HDN.out
  unfold Hid;omega
 have HE3d:=Lib.hid he3d
 have HNE2:Hid (g3≠gs):=by have:=room_lt HE3c.out;unfold Hid;omega
 clear hb5 hnew hsz hsv5 hlp hlr hwr he3d b1 b2 b3 b4 hok hti hch hv2 hl8 hgb hcd HSV HE3c
 generalize chM m v [yb]=m2 at *
 generalize chV v [yb]=v2 at *
 refine HCH.out.mono ?_
 rintro e w6 ⟨rfl,hs6,hm6⟩
 have HS6:=Lib.hid hs6
 have HE6:=Lib.hid ((hm6.blk g3 ⟨Or.inl (Or.inl rfl),HNE.out.1,HNE.out.2⟩).trans HE3d.out)
 have hget:=vget_any hs6.at_ 1 (by constructor <;> omega)
 have hgi:=getB_in (v:=v2) (i:=1) hs6.at_.len HV2.out.2.2.2.2.2
 rw [show ((1:Nat):Int)=1 from rfl] at hgi
 rw [hgi.1,hgi.2] at hget
 have HGET:=Lib.hid hget
 clear hs6 hm6 hget hgi HCH HE3d
 go_wp2_with fail
 refine HGET.out.mono ?_
 rintro e w7 ⟨rfl,hb7⟩
 have HS7:=Lib.hid (HS6.out.below hb7)
 have HE7:=Lib.hid (kb hb7 HE6.out)
 clear hb7 HGET HS6 HE6
 go_upto_region 10 with (first | (refine wpList_allocB rfl rfl ?_) | (refine wpList_storeB rfl (.tmp 7) (.tmp 45) rfl w7.heap.size rfl 4 0 zBs zBs rfl zBs_len zBs_len (heap_alloc_new w7 _) ?_))
 have hb8:Below w7.heap.size w7 ((w7.alloc (Obj.cells (blkA 0 zBs) 71)).setRow w7.heap.size (blkA 4 zBs)):=below_setRow ((Below.refl _ _).alloc (Nat.le_refl _) _) (Nat.le_refl _) _
 have e8:=setRow_blk (D:=blkA 4 zBs) (heap_alloc_new w7 (Obj.cells (blkA 0 zBs) 71))
 have HS8:=Lib.hid (HS7.out.below hb8)
 have HE8:=Lib.hid (kb hb8 HE7.out)
 generalize (w7.alloc (Obj.cells (blkA 0 zBs) 71)).setRow w7.heap.size (blkA 4 zBs)=w8 at *
 generalize w7.heap.size=g7 at *
 have HEB:=Lib.hid e8
 clear hb8 e8 HS7 HE7
 try simp only [Act.put]
 go_wp2_with (refine wpList_loadS rfl (.tmp 3) rfl g3 rfl 8 16 2 HE8.out ?_)
 refine (vmount_no (Rd.none w8 0) (fun i b hb=>by cases hb) 8 16 2 (by omega) (by omega) 0 no_epoch).mono ?_
 rintro e w9 ⟨rfl,hb9⟩
 have HS9:=Lib.hid (HS8.out.below hb9)
 have e9:=kb hb9 HEB.out
 clear hb9 HS8 HEB HE8
 obtain ⟨a1,a2,a3,a4,a5,a6⟩:=HV2.out
 have hep:=vepoch_any HS9.out.at_
 have hrm:=vroom_any HS9.out.at_ (by omega)
 have hbl:=vblocks_any HS9.out.at_
 rw [a1] at hep
 rw [a2,a4] at hrm
 rw [a3] at hbl
 have HEP:=Lib.hid hep
 have HRM:=Lib.hid hrm
 have HBL:=Lib.hid hbl
 have c7:w9.cell? ⟨g7,0,none⟩=some (.int .i64 4):=(blk_cell e9 0).trans rfl
 clear hep hrm hbl e9 a1 a2 a3 a4 a5 a6
 go_wp2_with fail
 refine HEP.out.mono ?_
 rintro e w' ⟨rfl,rfl⟩
 go_wp2_with fail
 refine HRM.out.mono ?_
 rintro e w10 ⟨rfl,hb10⟩
 have HS10:=Lib.hid (HS9.out.below hb10)
 have hbl:=vblocks_any HS10.out.at_
 rw [HV2.out.2.2.1] at hbl
 have HBL:=Lib.hid hbl
 clear hb10 hbl c7 HEP HRM
 go_wp2_with fail
 refine HBL.out.mono ?_
 rintro e w' ⟨rfl,rfl⟩
 have hno:¬ ChOk v2 []:=fun h=>by have:=h.1.1.1;simp at this
 have hch:=vchange_any HS10.out none [] 0 0 rfl (by omega) (by omega) (fun x hx=>by cases hx) (fun i x hx=>by cases hx) (by have:=HV2.out;omega) (by have:=HV2.out;omega) (by have:=HV2.out;omega) (by have:=HV2.out;omega) HDN2.out
 rw [if_neg hno] at hch
 have HCH:=Lib.hid hch
 clear hno hch
 go_wp2_with fail
 refine HCH.out.mono ?_
 rintro e w11 ⟨rfl,hs11,_⟩
 have HF:=Lib.hid hs11.ds.bel
 clear hs11
 go_wp2
 go_ret
 exact ⟨rfl,HF.out⟩
structure RS (w0 W:World) (P:Nat→Prop) (q:Nat) (m:DM):Prop where
 dev:∃ F,Ref W F q (refOf m).G (refOf m).left∧(∀ k,F k→w0.heap.size≤k)∧∀ k,P k→¬ F k
 ok:m.Ok
 rel:RelOk m
 low:∀ k,P k→k<W.heap.size
 bel:Below w0.heap.size w0 W
def BytP (W:World) (P:Nat→Prop) (A:Option Addr) (bs:List Int):Prop:=∀ i x,bs[i]?=some x→∃ a,A=some a∧P a.block∧W.cell? (a.add i)=some (.int .u8 x)
theorem Ref.lt {W:World} {F:Nat→Prop} {hp:Nat} {G:Nat→RTab} {l:Int} (h:Ref W F hp G l):∀ k,F k→k<W.heap.size:=by obtain ⟨O,L,_,_,h⟩:=h;exact h
theorem own_bytP {W:World} {B:Nat} {t:TypeId} {v:Value} {n:Nat} {bs:List Int} (h:W.ownsRow B t 1 v n (Bs bs)) (hn:bs.length=n):∃ A d,v=.slice A n d∧n≤d∧d≤9223372036854775807∧BytP W (fun k=>B≤k∧k<W.heap.size) A bs:=by
 obtain ⟨A,d,rfl,h1,h2,h3⟩:=byt_own h hn
 rw [hn] at h1 h ⊢
 refine ⟨A,d,rfl,h1,h2,fun i x hi=>?_⟩
 obtain ⟨a,rfl,hc⟩:=h3 i x hi
 exact ⟨a,rfl,World.ownsRow.lt h a.block rfl,hc⟩
section
variable {w0 W W':World} {P P':Nat→Prop} {q:Nat} {m m':DM}
theorem RS.next (h:RS w0 W P q m) {F:Nat→Prop} (hF:∀ k,F k→w0.heap.size≤k) (hP:∀ k,P k→¬ F k) (hs:RefStep W W' F q (refOf m').G (refOf m').left) (ho:m'.Ok) (hr:RelOk m'):RS w0 W' P q m'∧Same P W W':=by
 obtain ⟨F',h1,h2,h3⟩:=hs
 have hsz:=h.bel.size
 refine ⟨⟨⟨F',h1,fun k hk=>?_,fun k hk hf=>?_⟩,ho,hr,fun k hk=>Nat.lt_of_lt_of_le (h.low k hk) h2.size,h.bel.trans (h2.below hsz hF)⟩,fun k hk=>h2.block k (h.low k hk) (hP k hk),h2.size⟩
 ·rcases h3 k hk with h4 | h4
  ·exact hF k h4
  ·omega
 ·rcases h3 k hf with h4 | h4
  ·exact hP k hk h4
  ·have:=h.low k hk;omega
theorem RS.below (h:RS w0 W P q m) (hb:Below W.heap.size W W') (hP:∀ k,P' k→P k∨(W.heap.size≤k∧k<W'.heap.size)):RS w0 W' P' q m:=by
 obtain ⟨F,h1,h2,h3⟩:=h.dev
 refine ⟨⟨F,h1.below hb,h2,fun k hk hf=>?_⟩,h.ok,h.rel,fun k hk=>?_,h.bel.trans (hb.mono h.bel.size)⟩
 ·rcases hP k hk with h4 | h4
  ·exact h3 k h4 hf
  ·have:=h1.lt k hf;omega
 ·rcases hP k hk with h4 | h4
  ·have:=h.low k h4;have:=hb.size;omega
  ·exact h4.2
theorem RS.mono (h:RS w0 W P q m) (hP:∀ k,P' k→P k):RS w0 W P' q m:=by
 obtain ⟨F,h1,h2,h3⟩:=h.dev
 exact ⟨⟨F,h1,h2,fun k hk=>h3 k (hP k hk)⟩,h.ok,h.rel,fun k hk=>h.low k (hP k hk),h.bel⟩
theorem RS.same (h:RS w0 W P q m) (hb:Below W.heap.size W W'):Same P W W':=⟨fun k hk=>hb.block k (h.low k hk),hb.size⟩
theorem RS.own {G:Nat→Prop} (h:RS w0 W P q m) (ht:Touch G W W') (hG:∀ k,G k→P k∧w0.heap.size≤k):RS w0 W' P q m:=by
 obtain ⟨F,h1,h2,h3⟩:=h.dev
 exact ⟨⟨F,h1.touch ht (fun k hk hg=>h3 k (hG k hg).1 hk),h2,h3⟩,h.ok,h.rel,fun k hk=>Nat.lt_of_lt_of_le (h.low k hk) ht.size,h.bel.trans (ht.below h.bel.size fun k hk=>(hG k hk).2)⟩
theorem doWrite_ok (hm:m.Ok) (hr:RelOk m) (r i:Int) (b:List Int) (hb:AllB b):(m.doWrite r i b).Ok∧RelOk (m.doWrite r i b):=by
 unfold DM.doWrite
 split
 ·rename_i hc
  obtain ⟨rn,j,row,rfl,rfl,hrow,hj⟩:=hasB_row hc.1
  rw [Int.toNat_natCast,Int.toNat_natCast]
  have:=(hm.rows _ _ hrow).1
  exact ⟨hm.write hrow hj ⟨hc.2.1,hb⟩,hr.write hm rn j b (by omega)⟩
 ·exact ⟨hm,hr⟩
theorem doBar_ok (hm:m.Ok) (hr:RelOk m) (r:Int):(m.doBarrier r).Ok∧RelOk (m.doBarrier r):=by
 unfold DM.doBarrier
 split
 ·rename_i hc
  have h1:0≤r∧r<m.now.length:=by have:=hc.1;unfold hasR at this;simpa using this
  have hlt:r.toNat<m.now.length:=by omega
  exact ⟨(hm.tell hlt).settle r.toNat _,hr.barrier hm hlt⟩
 ·exact ⟨hm,hr⟩
theorem RS.write (h:RS w0 W P q m) (r i:Int) (hr:i64 r) (hi:i64 i) (A:Option Addr) (bs:List Int) (c:Nat) (hB:AllB bs) (hy:BytP W P A bs) (hl:bs.length≤1000000) (hmax:m.done.length≤100000) :
 Calls Tryz.prog 40 #[.pointer (some ⟨q,0,none⟩),.int .i64 r,.int .i64 i,.slice A bs.length c] W fun e w'=>e=.returned (.bool (okWrite m r i bs))∧RS w0 w' P q (m.doWrite r i bs)∧Same P W w':=by
 obtain ⟨F,h1,h2,h3⟩:=h.dev
 obtain ⟨o1,o2⟩:=doWrite_ok h.ok h.rel r i bs hB
 refine (rwrite_any h1 h.ok h.rel r i hr hi A bs c hB (fun W2 ht k x hk=>?_) hl hmax).mono fun e w' ⟨he,hs⟩=>⟨he,h.next h2 h3 hs o1 o2⟩
 obtain ⟨a,e,hp,hc⟩:=hy k x hk
 refine ⟨a,e,?_⟩
 have hlt:=h.low _ hp
 rw [World.cell?_of_block (ht.block (a.add k).block (by rw [block_of_add'];exact hlt) (by rw [block_of_add'];exact h3 _ hp))]
 exact hc
theorem RS.barrier (h:RS w0 W P q m) (r:Int) (hr:i64 r) (hmax:m.done.length≤100000) :
 Calls Tryz.prog 42 #[.pointer (some ⟨q,0,none⟩),.int .i64 r] W fun e w'=>e=.returned (.bool (hasR m r))∧RS w0 w' P q (m.doBarrier r)∧Same P W w':=by
 obtain ⟨F,h1,h2,h3⟩:=h.dev
 obtain ⟨o1,o2⟩:=doBar_ok h.ok h.rel r
 exact (rbar_any h1 h.ok h.rel r hr hmax).mono fun e w' ⟨he,hs⟩=>⟨he,h.next h2 h3 hs o1 o2⟩
theorem RS.crash (h:RS w0 W P q m) (A:Option Addr) (ks:List (List Int)) (c:Nat) (hks:∀ F,(∀ k,F k→w0.heap.size≤k)→(∀ k,P k→¬ F k)→TxtsF W F A ks) (hkl:ks.length≤1000000) (hmax:m.done.length≤100000) :
 Calls Tryz.prog 20 #[.pointer (some ⟨q,0,none⟩),.slice A ks.length c] W fun e w'=>e=.returned (.tuple #[])∧RS w0 w' P q (m.crash ks)∧Same P W w':=by
 obtain ⟨F,h1,h2,h3⟩:=h.dev
 exact (rcrash_any2 h1 h.ok h.rel A ks c (hks F h2 h3) hkl hmax).mono fun e w' ⟨he,hs⟩=>⟨he,h.next h2 h3 hs (crash_ok h.ok ks) (h.rel.crash h.ok ks)⟩
end
theorem sh_cells {W:World} {p n g:Nat} {f:Int} {t:TypeId} {fr:Nat × Nat} (h:W.heap[p]?=some (.cells (shC n g f) t fr)) :
 W.cell? ⟨p,0,none⟩=some (.int .i64 0)∧W.cell? ⟨p,1,none⟩=some (.int .i64 0)∧W.cell? ⟨p,2,none⟩=some (.int .i64 n)∧W.cell? ⟨p,3,none⟩=some (.int .i64 g)∧W.cell? ⟨p,4,none⟩=some (.int .i64 f) :=
 ⟨(blk_cell h 0).trans rfl,(blk_cell h 1).trans rfl,(blk_cell h 2).trans rfl,(blk_cell h 3).trans rfl,(blk_cell h 4).trans rfl⟩
theorem share_any (a b:Nat) (ha:a≤255) (hb:b≤255) (w:World):Calls Tryz.prog 6 #[.int .u8 a,.int .u8 b] w fun e w'=>e=.returned (shQ 0 0 (4+a%30) (16+b%30) 3)∧Below w.heap.size w w':=by
 have e1:(a:Int).tmod 30=((a%30:Nat):Int):=by rw [Int.tmod_eq_emod_of_nonneg (by omega)];omega
 have e2:(b:Int).tmod 30=((b%30:Nat):Int):=by rw [Int.tmod_eq_emod_of_nonneg (by omega)];omega
 have u1:IntKind.u8.wrap ((a%30:Nat):Int)=((a%30:Nat):Int):=IntWalk.u8_in _ (by omega)
 have u2:IntKind.u8.wrap ((b%30:Nat):Int)=((b%30:Nat):Int):=IntWalk.u8_in _ (by omega)
 have v1:IntKind.i64.wrap ((a%30:Nat):Int)=((a%30:Nat):Int):=IntWalk.i64_in _ (by omega)
 have v2:IntKind.i64.wrap ((b%30:Nat):Int)=((b%30:Nat):Int):=IntWalk.i64_in _ (by omega)
 have w1:IntKind.i64.wrap (4+((a%30:Nat):Int))=((4+a%30:Nat):Int):=by rw [IntWalk.i64_in _ (by omega)];omega
 have w2:IntKind.i64.wrap (16+((b%30:Nat):Int))=((16+b%30:Nat):Int):=by rw [IntWalk.i64_in _ (by omega)];omega
 generalize a%30=x at *
 generalize b%30=y at *
 generalize 4+x=n at *
 generalize 16+y=g at *
 go_enter Tryz.func6,Tryz.ntmps6
 go_wp2_with (refine wpList_storeS rfl (.tmp 4) (.tmp 13) rfl w.heap.size rfl n g 3 rfl _ rfl (heap_alloc_new w _) ?_)
 have e3:=setRow_blk (D:=shC n g 3) (heap_alloc_new w (Obj.cells #[.int .i64 0,.int .i64 0,.int .i64 0,.int .i64 0,.int .i64 0] 28))
 refine bodyPost_ret (results_cell_row rfl _ _ w.heap.size _ _ _ _ rfl e3 Tryz.underlying28 rfl (by rw [show (shC n g 3).size=5 from rfl];exact size30)) rfl ?_
 exact ⟨rfl,below_setRow ((Below.refl _ _).alloc (Nat.le_refl _) _) (Nat.le_refl _) _⟩
section
variable {ops:Array Oper} {rest:List Oper} {o:Oper} {a:Act} {w:World} {Q:Exit→Act→World→Prop}
end
def dev1 (n g:Nat):DM:=DM.make [((2+g+n:Nat):Int)]
def mk1 (n g:Nat):DM:=makeM (dev1 n g) (0:Int) n g
def stM (n g:Nat):DM:=homeM (mk1 n g) (mntV (mk1 n g) 0 n g 1 3 [])
def stW (n g:Nat):VM:=homeV (mntV (mk1 n g) 0 n g 1 3 [])
theorem may1 (n g:Nat) (hn:n≤40) (hg:g≤60):mayV [((2+g+n:Nat):Int)]=true:=by
 have h:badSize ((2+g+n:Nat):Int)=false:=by
  unfold badSize;simp only [Bool.or_eq_false_iff,decide_eq_false_iff_not];omega
 unfold mayV
 rw [show ([((2+g+n:Nat):Int)].any badSize)=false by rw [List.any_cons,h];rfl];rfl
structure Started (m:DM) (v:VM) (n g:Nat):Prop where
 live:Live m v 0 n g 2 (firstS n) [] 0
 sure:AllSure m 0
 stops:m.stops=false
 done:m.done.length≤2*n+6
 us:v.us=0
 sq:v.sq=0
 n_:v.n=n
 g_:v.g=g
 ep:v.ep=2
 r_:v.r=((0:Nat):Int)
theorem mk1_idle {n g:Nat} (hn:n≤40) (hg:g≤60):Idle (mk1 n g) 0 n g 1 (firstS n) [] 0 [] 0∧(mk1 n g).stops=false:=by
 obtain ⟨I1,I2,I3⟩:=new_idle (r:=0) (z:=((2+g+n:Nat):Int)) (n:=n) (g:=g) (may1 n g hn hg) rfl (by omega) (by omega)
 exact ⟨I1,I3⟩
theorem started {n g:Nat} (hn:n≤40) (hg:g≤60):Started (stM n g) (stW n g) n g:=by
 obtain ⟨hi,h3⟩:=mk1_idle hn hg
 have hmt:=hi.mtb_now
 have htd:=hmt.tied 3 (by omega) (by omega)
 have hns:(homeM (mk1 n g) (mntV (mk1 n g) 0 n g 1 3 [])).stops=false:=by rw [ns_home];exact h3
 have hlv:=hmt.live htd (by omega) (ns_of hns)
 have hd1:=makeM_done (dev1 n g) (0:Int) n g
 have hd2:=homeM_done' (mk1 n g) 0 n g 1 3 []
 have hd0:(dev1 n g).done.length=0:=rfl
 exact ⟨hlv.1,hlv.2,hns,by unfold stM;unfold mk1 at *;omega,rfl,rfl,rfl,rfl,rfl,rfl⟩
section
variable {ops:Array Oper} {rest:List Oper} {o:Oper} {a:Act} {w:World} {Q:Exit→Act→World→Prop}
theorem guardB9:Tryz.prog.eqGuardType Tryz.prog.depth 71=false:=by kernel_rfl
end
end Go.Proofs.YtamnpblijdgdaaaGreat
namespace Go.Proofs.YtamnpblijdgdaaaGreat
open Go.ChangeShapes Go.WideShapes Go.ChangeAt Go.RowKit Go.Deep
set_option linter.unusedVariables false
theorem nlist_of {α:Type} {p:Nat→α→Prop} (n:Nat) (h:∀ k,k<n→∃ x,p k x):∃ l:List α,l.length=n∧∀ i x,l[i]?=some x→p i x:=by
 induction n with
 | zero=>exact ⟨[],rfl,fun i x hi=>by cases hi⟩
 | succ n ih =>
   obtain ⟨l,h1,h2⟩:=ih (fun k hk=>h k (by omega))
   obtain ⟨x,hx⟩:=h n (by omega)
   refine ⟨l++[x],by simp [h1],fun i y hi=>?_⟩
   by_cases hin:i<n
   ·rw [List.getElem?_append_left (by omega)] at hi;exact h2 i y hi
   ·have hlt:=(List.getElem?_eq_some_iff.1 hi).1
    simp at hlt
    obtain rfl:i=n:=by omega
    rw [List.getElem?_append_right (by omega),h1,Nat.sub_self] at hi
    injection hi with hi
    subst hi
    exact hx
structure Wd where
 (k:Int) (A:Option Addr) (l:List Wr) (c:Nat) (K:Option Addr) (ks:List Int) (kc:Nat)
def wdL (d:Wd):List Value:=[.int .i64 d.k,.slice d.A d.l.length d.c,.slice d.K d.ks.length d.kc]
structure WdAt (w:World) (p:Addr) (d:Wd):Prop where
 c0:w.cell? p=some (.int .i64 d.k)
 c1:w.cell? ⟨p.block,p.off+1,none⟩=some (.slice d.A d.l.length d.c)
 c2:w.cell? ⟨p.block,p.off+2,none⟩=some (.slice d.K d.ks.length d.kc)
 wr:Wrs w d.A d.l
 by_:Byt w d.K d.ks
structure WdOk (d:Wd):Prop where
 k:i64 d.k
 ok:WrsOk d.l
 lc:d.l.length≤d.c
 cm:d.c≤9223372036854775807
 kb:AllB d.ks
 kl:d.ks.length≤d.kc
 km:d.kc≤9223372036854775807
def Wds (w:World) (A:Option Addr) (l:List Wd):Prop:=∀ i d,l[i]?=some d→∃ a,A=some a∧WdAt w (a.add (i*3)) d
def WdsOk (l:List Wd):Prop:=∀ d∈l,WdOk d
theorem WdAt.keep {w w':World} {p:Addr} {d:Wd} (h:WdAt w p d) (hb:Below w.heap.size w w'):WdAt w' p d :=
 ⟨keepC hb h.c0,keepC hb h.c1,keepC hb h.c2,h.wr.keep hb,h.by_.keep hb⟩
theorem Wds.keep {w w':World} {A:Option Addr} {l:List Wd} (h:Wds w A l) (hb:Below w.heap.size w w'):Wds w' A l:=fun i d hi =>
 let ⟨a,e,hs⟩:=h i d hi;⟨a,e,hs.keep hb⟩
theorem Wrs.old {w W:World} {R:Nat→Prop} {A:Option Addr} {l:List Wr} (h:Wrs w A l) (h2:Wrs W A l) (hR:∀ k,k<w.heap.size→R k):WrsR W R A l:=fun i x hi=>by
 obtain ⟨a,e,h1⟩:=h2 i x hi
 obtain ⟨a',e',h3⟩:=h i x hi
 rw [e] at e'
 injection e' with e'
 subst e'
 refine ⟨a,e,h1,hR _ ?_⟩
 have:=World.block_lt_of_cell? w _ h3.c0
 rw [block_of_add'] at this
 exact this
section
variable {H:Type} {enc:TypeId × Value→H} {w:World} {base:Nat} {spare:Nat→Bool} {held:Bool}
theorem ncells_write:Tryz.prog.cellsOf 73=58:=by kernel_rfl
theorem ncells_wrs:Tryz.prog.cellsOf 47=1:=by kernel_rfl
theorem ncells_bytes:Tryz.prog.cellsOf 48=1:=by kernel_rfl
theorem ncells_int:Tryz.prog.cellsOf 3=1:=by kernel_rfl
theorem ncells_blk:Tryz.prog.cellsOf 71=57:=by kernel_rfl
theorem ncells_deed:Tryz.prog.cellsOf 50=3:=by kernel_rfl
theorem open_wr {fuel:Nat} {cs:List Value} {x:DataW H × List MemPlace} (h:DataW.trod enc Tryz.prog w base spare held fuel 73 cs=some x) :
 ∃ y:Wr,cs=wrL y∧y.Ok:=by
 have hS:Tryz.prog.underlying 73=some (.struct (Tryz.prog.fieldsOf 73)):=by kernel_rfl
 obtain ⟨ys,m,_,rfl,hl,hys,hel⟩:=DataW.trod_struct hS h
 rw [ncells_write] at hl
 have hf:(Tryz.prog.fieldsOf 73).toList.map (fun f=>(f.type,f.offset))=[(3,0),(71,1)]:=by kernel_rfl
 have hsz:(Tryz.prog.fieldsOf 73).size=2:=by kernel_rfl
 obtain ⟨f0,f1,hfs⟩:=two_of (show (Tryz.prog.fieldsOf 73).toList.length=2 by simpa using hsz)
 rw [hfs] at hf
 simp only [List.map_cons,List.map_nil,List.cons.injEq,Prod.mk.injEq,and_true] at hf
 obtain ⟨⟨t0,o0⟩,⟨t1,o1⟩⟩:=hf
 have h0:=hel 0 f0 (by rw [← Array.getElem?_toList,hfs];rfl)
 have h1:=hel 1 f1 (by rw [← Array.getElem?_toList,hfs];rfl)
 rw [t0,o0] at h0
 rw [t1,o1] at h1
 rw [hsz] at hys
 obtain ⟨y0,hy0⟩:∃ y,ys[0]?=some y:=⟨_,List.getElem?_eq_getElem (by omega)⟩
 obtain ⟨y1,hy1⟩:∃ y,ys[1]?=some y:=⟨_,List.getElem?_eq_getElem (by omega)⟩
 rw [hy0] at h0
 rw [hy1] at h1
 obtain ⟨t,e0,_,hwf⟩:=DataW.trod_int Tryz.underlying3 h0
 obtain ⟨k,bs,e1,h56,hk,hB⟩:=open_blk h1
 rw [show Tryz.prog.cellsOf (3)=1 from ncells_int] at e0
 rw [show Tryz.prog.cellsOf (71)=57 from ncells_blk] at e1
 have c0:=take_one e0
 refine ⟨⟨t,k,bs⟩,?_,⟨?_,hk,h56,hB⟩⟩
 ·unfold wrL
  cases cs with
  | nil=>cases c0
  | cons v l =>
    have hv:v=.int .i64 t:=by simpa using c0
    have:(l.take 57)=blkL k bs:=e1
    rw [hv,← this,List.take_of_length_le (by simp at hl;omega)]
 ·have:=bounds_i64 hwf
  constructor <;> (simp only;omega)
theorem open_wrs {fuel:Nat} {cs:List Value} {x:DataW H × List MemPlace} (h:DataW.trod enc Tryz.prog w base spare held fuel 47 cs=some x) :
 ∃ (A:Option Addr) (l:List Wr) (d:Nat),cs=[.slice A l.length d]∧l.length≤d∧d≤9223372036854775807∧Wrs w A l∧WrsOk l:=by
 rcases open_slice Tryz.underlying47 h with ⟨rfl,_⟩ | ⟨a,len,cap,m,n,D,Pl,rfl,_,hl,hm,hmm,_,hi⟩
 ·exact ⟨none,[],0,rfl,Nat.le_refl _,by omega,(fun i s hi=>by cases hi),(fun s hs=>by cases hs)⟩
 ·have hml:len≤m:=by rw [hmm];split <;> omega
  obtain ⟨l,h1,h2⟩:=nlist_of (p:=fun i y=>WrAt w (a.add (i*58)) y∧y.Ok) len (fun k hk=>by
   obtain ⟨cs',hc,ht⟩:=hi k (by omega)
   rw [ncells_write] at hc
   obtain ⟨y,rfl,hy⟩:=open_wr ht
   obtain ⟨_,_,hat⟩:=World.cells?_some hc
   refine ⟨y,fun j u hu=>?_,hy⟩
   have hj:j<58:=by have:=(List.getElem?_eq_some_iff.1 hu).1;rw [wrL_length hy.len] at this;exact this
   rw [hat j hj,hu])
  refine ⟨some a,l,cap,by rw [h1],by omega,by simp only [maxLen] at hm;omega,fun i d hid=>⟨a,rfl,(h2 i d hid).1⟩,fun d hd=>?_⟩
  obtain ⟨i,hi⟩:=List.mem_iff_getElem?.1 hd
  exact (h2 i d hi).2
set_option maxRecDepth 100000 in
theorem open_wd {fuel:Nat} {cs:List Value} {x:DataW H × List MemPlace} (h:DataW.trod enc Tryz.prog w base spare held fuel 50 cs=some x) :
 ∃ d:Wd,cs=wdL d∧WdOk d∧Wrs w d.A d.l∧Byt w d.K d.ks:=by
 obtain ⟨xs,n,_,hx,hlen,hxl,hf⟩:=DataW.trod_struct Tryz.underlying50 h
 rw [ncells_deed] at hlen
 match cs,hlen with
 | [c0,c1,c2],_ =>
   have e0:DataW.trod enc Tryz.prog w base spare held n 3 (([c0,c1,c2].drop 0).take (Tryz.prog.cellsOf 3))=xs[0]?:=hf 0 _ rfl
   have e1:DataW.trod enc Tryz.prog w base spare held n 47 (([c0,c1,c2].drop 1).take (Tryz.prog.cellsOf 47))=xs[1]?:=hf 1 _ rfl
   have e2:DataW.trod enc Tryz.prog w base spare held n 48 (([c0,c1,c2].drop 2).take (Tryz.prog.cellsOf 48))=xs[2]?:=hf 2 _ rfl
   rw [ncells_int] at e0
   rw [ncells_wrs] at e1
   rw [ncells_bytes] at e2
   have hs:∀ i,i<3→∃ y,xs[i]?=some y:=fun i hi=>⟨_,List.getElem?_eq_getElem (by rw [hxl];exact hi)⟩
   obtain ⟨y0,h0⟩:=hs 0 (by omega)
   obtain ⟨y1,h1⟩:=hs 1 (by omega)
   obtain ⟨y2,h2⟩:=hs 2 (by omega)
   rw [h0] at e0
   rw [h1] at e1
   rw [h2] at e2
   obtain ⟨k,ek,_,wk⟩:=DataW.trod_int Tryz.underlying3 e0
   obtain ⟨A,l,c,el,l1,l2,l3,l4⟩:=open_wrs e1
   obtain ⟨K,b,kc,eb,b1,b2,b3,b4⟩:=open_byt e2
   injection ek with ek
   injection el with el
   injection eb with eb
   exact ⟨⟨k,A,l,c,K,b,kc⟩,by unfold wdL;rw [ek,el,eb],⟨by have:=bounds_i64 wk;constructor <;> (simp only;omega),l4,l1,l2,b4,b1,b2⟩,l3,b3⟩
set_option maxRecDepth 100000 in
theorem open_wds {fuel:Nat} {cs:List Value} {x:DataW H × List MemPlace} (h:DataW.trod enc Tryz.prog w base spare held fuel 22 cs=some x) :
 ∃ (A:Option Addr) (l:List Wd) (d:Nat),cs=[.slice A l.length d]∧l.length≤d∧d≤9223372036854775807∧Wds w A l∧WdsOk l:=by
 rcases open_slice Tryz.underlying22 h with ⟨rfl,_⟩ | ⟨a,len,cap,m,n,D,Pl,rfl,_,hl,hm,hmm,_,hi⟩
 ·exact ⟨none,[],0,rfl,Nat.le_refl _,by omega,(fun i s hi=>by cases hi),(fun s hs=>by cases hs)⟩
 ·have hml:len≤m:=by rw [hmm];split <;> omega
  obtain ⟨l,h1,h2⟩:=nlist_of (p:=fun i d=>WdAt w (a.add (i*3)) d∧WdOk d) len (fun k hk=>by
   obtain ⟨cs',hc,ht⟩:=hi k (by omega)
   rw [ncells_deed] at hc
   obtain ⟨d,rfl,hd,hw,hb⟩:=open_wd ht
   obtain ⟨_,_,hat⟩:=World.cells?_some hc
   have at_:∀ j u,j<3→(wdL d)[j]?=some u→w.cell? ((a.add (k*3)).add j)=some u:=fun j u hj hu=>by rw [hat j hj,hu]
   have c0:=at_ 0 _ (by omega) rfl
   have c1:=at_ 1 _ (by omega) rfl
   have c2:=at_ 2 _ (by omega) rfl
   rw [add_pos' _ _ (by omega)] at c1 c2
   exact ⟨d,⟨c0,c1,c2,hw,hb⟩,hd⟩)
  refine ⟨some a,l,cap,by rw [h1],by omega,by simp only [maxLen] at hm;omega,fun i d hid=>⟨a,rfl,(h2 i d hid).1⟩,fun d hd=>?_⟩
  obtain ⟨i,hi⟩:=List.mem_iff_getElem?.1 hd
  exact (h2 i d hi).2
end
end Go.Proofs.YtamnpblijdgdaaaGreat
