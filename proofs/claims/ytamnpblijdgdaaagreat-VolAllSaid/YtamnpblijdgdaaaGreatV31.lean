/- For VolAll: contracts and facts, part 31. -/
import Derived.Test.YtamnpblijdgdaaaGreatV30
namespace Go.Proofs.YtamnpblijdgdaaaGreat
open Go.ChangeShapes Go.WideShapes Go.ChangeAt Go.RowKit
set_option linter.unusedVariables false
set_option maxRecDepth 100000
theorem zeroBo (W:World):(zeroValue 4).run Tryz.prog W=.ok (.bool false) W:=by rfl
def BytN (w:World) (B:Nat) (A:Option Addr) (bs:List Int):Prop:=BytP w (fun j=>B≤j∧j<w.heap.size) A bs
theorem BytN.keep {w w':World} {B:Nat} {A:Option Addr} {bs:List Int} (h:BytN w B A bs) (hb:Below w.heap.size w w'):BytN w' B A bs:=fun i x hi=>by
 obtain ⟨a,e,h1,h2⟩:=h i x hi
 exact ⟨a,e,⟨h1.1,Nat.lt_of_lt_of_le h1.2 hb.size⟩,keepC hb h2⟩
theorem BytN.low {w:World} {B B':Nat} {A:Option Addr} {bs:List Int} (h:BytN w B A bs) (hB:B'≤B):BytN w B' A bs:=fun i x hi=>by
 obtain ⟨a,e,h1,h2⟩:=h i x hi
 exact ⟨a,e,⟨Nat.le_trans hB h1.1,h1.2⟩,h2⟩
theorem BytP.mono {w:World} {P P':Nat→Prop} {A:Option Addr} {bs:List Int} (h:BytP w P A bs) (hP:∀ k,P k→P' k):BytP w P' A bs:=fun i x hi=>by
 obtain ⟨a,e,h1,h2⟩:=h i x hi
 exact ⟨a,e,hP _ h1,h2⟩
theorem BytP.keep {w w':World} {P:Nat→Prop} {A:Option Addr} {bs:List Int} (h:BytP w P A bs) (hb:Below w.heap.size w w'):BytP w' P A bs:=fun i x hi=>by
 obtain ⟨a,e,h1,h2⟩:=h i x hi
 exact ⟨a,e,h1,keepC hb h2⟩
theorem dirty_at {B:List HB} {i:Nat} {x:HB} (h:B[i]?=some x):(dirtyF B i).getD (.bool false)=.bool x.lg:=by
 unfold dirtyF
 rw [Int.toNat_natCast,h]
 cases hl:x.lg
 ·rw [if_neg (by rintro ⟨_,h2⟩;simp [hl] at h2)];rfl
 ·rw [if_pos ⟨by omega,by simp [hl]⟩];rfl
theorem dirty_none (B:List HB):dirtyF (B.map unlog)=fun _=>none:=by
 funext k
 unfold dirtyF
 rw [if_neg]
 rintro ⟨_,h2⟩
 rw [List.getElem?_map] at h2
 cases hb:B[k.toNat]? with
 | none=>rw [hb] at h2;cases h2
 | some x=>rw [hb] at h2;injection h2 with h2;cases h2
section
variable {w0 W W':World} {Q:Nat→Prop} {hd:Nat} {m m':DM} {hp rb mb cap cm:Nat} {v v':VM}
theorem RSV.clear (h:RSV w0 W Q hd m hp rb mb cap cm v):RSV w0 ((((W.alloc (.map #[] 0)).setCell ⟨hp,9,none⟩ (.int .u32 0)).setCell ⟨hp,10,none⟩ (.int .i64 0)).setCell ⟨hp,12,none⟩ (.map (some W.heap.size))) Q hd m hp rb W.heap.size cap 0 { v with B:=v.B.map unlog,sq:=0,us:=0 }∧Same Q W ((((W.alloc (.map #[] 0)).setCell ⟨hp,9,none⟩ (.int .u32 0)).setCell ⟨hp,10,none⟩ (.int .i64 0)).setCell ⟨hp,12,none⟩ (.map (some W.heap.size))):=by
 have l1:=h.ds.low hp (Or.inr (Or.inl rfl))
 have l2:=h.ds.low rb (Or.inr (Or.inr (Or.inl rfl)))
 have hba:Below W.heap.size W (W.alloc (.map #[] 0)):=(Below.refl _ _).alloc (Nat.le_refl _) _
 have h1:=h.grow hba (Q':=Q) fun k hk=>Or.inl hk
 have ht:Touch (fun k=>k=hp) (W.alloc (.map #[] 0)) ((((W.alloc (.map #[] 0)).setCell ⟨hp,9,none⟩ (.int .u32 0)).setCell ⟨hp,10,none⟩ (.int .i64 0)).setCell ⟨hp,12,none⟩ (.map (some W.heap.size))) :=
  (((Touch.refl (fun k=>k=hp) _).setCell (p:=⟨hp,9,none⟩) rfl _).setCell (p:=⟨hp,10,none⟩) rfl _).setCell (p:=⟨hp,12,none⟩) rfl _
 have hz:(W.alloc (.map #[] 0)).heap.size=W.heap.size+1:=by simp
 have hq:∀ k,Q k→k<W.heap.size:=fun k hk=>h.ds.low k (Or.inl hk)
 have hst:stV { v with B:=v.B.map unlog,sq:=0,us:=0 }=stV v:=unlog_val v.B
 have hok:VM.Ok { v with B:=v.B.map unlog,sq:=0,us:=0 }:={ h.at_.ok with len:=by rw [List.length_map];exact h.at_.ok.len,ok:=fun x hx=>by obtain ⟨y,hy,rfl⟩:=List.mem_map.1 hx;exact ⟨(h.at_.ok.ok y hy).k,(h.at_.ok.ok y hy).len,(h.at_.ok.ok y hy).b⟩,sq:=by show (0:Nat)<_;omega,us:=by show (0:Nat)≤_;omega }
 have hn:=heap_alloc_new W (.map #[] 0)
 refine ⟨⟨?_,⟨hok,h.at_.pos,?_,?_,?_⟩,fun k hk=>⟨(h.q k hk).1,(h.q k hk).2.1,by have:=hq k hk;omega⟩,⟨h.ne.1,by omega,by omega⟩,⟨h.lo.1,h.lo.2.1,h.ds.bel.size⟩⟩,⟨fun k hk=>(ht.block k (by rw [hz];have:=hq k hk;omega) (h.q k hk).1).trans (hba.block k (hq k hk)),Nat.le_trans hba.size ht.size⟩⟩
 ·have h2:=h.ds.below (P':=fun k=>Q k∨k=hp∨k=rb∨k=W.heap.size) hba (fun k hk=>by
   rcases hk with hk | hk | hk | hk
   ·exact Or.inl (Or.inl hk)
   ·exact Or.inl (Or.inr (Or.inl hk))
   ·exact Or.inl (Or.inr (Or.inr (Or.inl hk)))
   ·exact Or.inr ⟨by omega,by rw [hz];omega⟩)
  exact h2.own ht fun k hk=>by subst hk;exact ⟨Or.inr (Or.inl rfl),h.lo.1⟩
 ·have e0:=h1.at_.hd_
  have e1:=heap_setCell_same' (i:=9) e0 (.int .u32 0)
  have e2:=heap_setCell_same' (i:=10) e1 (.int .i64 0)
  have e3:=heap_setCell_same' (i:=12) e2 (.map (some W.heap.size))
  exact e3
 ·rw [hst]
  exact h1.at_.row.touch ht (fun k hk e=>h.ne.1 (by rw [← e,hk]))
 ·rw [dirty_none]
  exact (MapI.new W).keep (ht.block _ (by rw [hz];omega) (by omega))
end
def VSe4 (hp rb n cap k B:Nat) (bk:Int) (bs bb:List Int) (i:Nat) (v:Value) (w:World):Prop :=
 match i with
 | 0 | 1 | 5 | 6=>v=.pointer (some ⟨hp,0,none⟩)
 | 2=>v=.pointer (some ⟨hp,7,none⟩)
 | 3=>v=.int .u8 0
 | 4 | 9=>v=.int .i64 (k:Int)
 | 7=>v=.pointer (some ⟨hp,11,none⟩)
 | 8=>v=.slice (some ⟨rb,0,none⟩) n cap
 | 10=>v=.pointer (some ⟨rb,k*57,none⟩)
 | 11=>v=.agg (blkA bk bs)
 | 15=>v=.bool true
 | 12=>∃ A d,v=.tuple #[.slice A 64 d,.bool true]∧BytN w B A bb
 | 13=>∃ A d,v=.tuple #[.slice A 64 d,.bool true]∧BytN w B A bb
 | 14=>∃ A d,v=.slice A 64 d∧BytN w B A bb
 | 16=>∃ A d,v=.slice A 64 d∧BytN w B A bb
 | _=>True
def VSe5 (hp hd n g k y d:Nat) (r fr:Int) (A:Option Addr) (i:Nat) (v:Value) (w:World):Prop :=
 match i with
 | 0 | 1 | 2 | 4 | 5 | 8 | 9=>v=.pointer (some ⟨hp,0,none⟩)
 | 3=>v=.pointer (some ⟨hd,0,none⟩)
 | 6=>v=.pointer (some ⟨hp,1,none⟩)
 | 7=>v=.int .i64 r
 | 10=>v=.pointer (some ⟨hp,2,none⟩)
 | 11=>v=shQ 0 0 n g fr
 | 12=>v=.int .i64 (k:Int)
 | 13=>v=.int .i64 (y:Int)
 | 14=>v=.slice A 64 d
 | _=>True
def VSe6 (hp hd:Nat) (r:Int) (i:Nat) (v:Value) (w:World):Prop :=
 match i with
 | 0 | 1 | 2 | 4 | 5=>v=.pointer (some ⟨hp,0,none⟩)
 | 3=>v=.pointer (some ⟨hd,0,none⟩)
 | 6=>v=.pointer (some ⟨hp,1,none⟩)
 | 7=>v=.int .i64 r
 | _=>True
def VSe8 (hp hd e y B:Nat) (r:Int) (bb:List Int) (i:Nat) (v:Value) (w:World):Prop :=
 match i with
 | 0 | 1 | 2 | 4 | 5 | 8 | 9 | 14 | 15 | 18 | 19=>v=.pointer (some ⟨hp,0,none⟩)
 | 3=>v=.pointer (some ⟨hd,0,none⟩)
 | 6=>v=.pointer (some ⟨hp,1,none⟩)
 | 7=>v=.int .i64 r
 | 10 | 20=>v=.pointer (some ⟨hp,8,none⟩)
 | 11 | 21=>v=.int .u32 (e:Int)
 | 12=>v=.int .u32 (y:Int)
 | 13=>v=.int .i64 (y:Int)
 | 16=>v=.pointer (some ⟨hp,7,none⟩)
 | 17=>v=.int .u8 0
 | 22=>∃ A d,v=.slice A 64 d∧BytN w B A bb
 | _=>True
def VSe9 (hp hd:Nat) (r:Int) (i:Nat) (v:Value) (w:World):Prop :=
 match i with
 | 0 | 1 | 2 | 4 | 5=>v=.pointer (some ⟨hp,0,none⟩)
 | 3=>v=.pointer (some ⟨hd,0,none⟩)
 | 6=>v=.pointer (some ⟨hp,1,none⟩)
 | 7=>v=.int .i64 r
 | _=>True
set_option maxHeartbeats 6400000 in
theorem rvsettle_any {w0 W:World} {Q:Nat→Prop} {hd:Nat} {m:DM} {hp rb mb cap cm:Nat} {v:VM} (h:RSV w0 W Q hd m hp rb mb cap cm v) (hep:v.ep+1<4294967296) (hmax:m.done.length≤99000) :
 Calls Tryz.prog 53 #[.pointer (some ⟨hp,0,none⟩)] W fun e w'=>e=.returned (.tuple #[])∧∃ mb',RSV w0 w' Q hd (homeM m v) hp rb mb' cap 0 (homeV v)∧Same Q W w':=by
 have H0:=Lib.hid h
 have HMX:=Lib.hid hmax
 have HR:Hid (i64 v.r):=h.at_.ok.r
 have HL:Hid (v.B.length=v.n):=h.at_.ok.len
 have HNG:Hid (v.n≤200∧v.g≤1000):=⟨h.at_.ok.n,h.at_.ok.g⟩
 have HOK:=Lib.hid h.at_.ok
 have hn200:=h.at_.ok.n
 clear h hmax
 go_enter Tryz.func53,Tryz.ntmps53
 go_wp2_with fail
 go_loopw [2,3,4] (fun i s3 s4 wr=>∃ kk:Nat,i=.int .i64 kk∧kk≤v.n∧Hid (RSV w0 wr Q hd (homeW v.r v.g m 0 (v.B.take kk)) hp rb mb cap cm v)∧Hid (Same Q W wr)) (fun i _ _ _=>v.n-(intOf i).toNat)
 case atStart=>exact ⟨0,rfl,by omega,by rw [List.take_zero];exact H0.out,⟨fun k hk=>rfl,Nat.le_refl _⟩⟩
 case round =>
  clear H0
  obtain ⟨kk,rfl,hk,HSV,HSM⟩:=hrel
  obtain ⟨w5,rfl⟩:∃ w5,w5=wr:=⟨wr,rfl⟩
  have HC:=Lib.hid (fun (W':World) (hb':Below w5.heap.size w5 W')=>(HSV.out.below hb').at_.cs)
  obtain ⟨z0,z1,z2,z3,z4,z5,z6,z7,z8,z9,z10,z11,z12⟩:=HSV.out.at_.cs
  by_cases hlt:kk<v.n
  ·obtain ⟨x,hx⟩:∃ x,v.B[kk]?=some x:=⟨_,List.getElem?_eq_getElem (by rw [HL.out];exact hlt)⟩
   have HXO:=Lib.hid (HOK.out.ok x (List.mem_of_getElem? hx))
   have HTL:Hid ((v.B.take kk).length=kk):=by unfold Hid;rw [List.length_take,HL.out];omega
   have HTK:Hid (v.B.take (kk+1)=v.B.take kk++[x]):=take_snoc' hx
   have hki:(kk:Int)<v.n:=by omega
   have hlk:=HSV.out.at_.map.look Tryz.underlying57 (zeroBo w5) (k:=kk) (by constructor <;> omega) (by omega)
   rw [dirty_at hx] at hlk
   have HX:=Lib.hid hx
   clear hx
   cases hlg:x.lg
   ·have HM2:Hid (homeW v.r v.g m 0 (v.B.take (kk+1))=homeW v.r v.g m 0 (v.B.take kk)):=by unfold Hid;rw [HTK.out,homeW_snoc,hlg];rfl
    rw [hlg] at hlk
    clear hlg
    go_wp2
    go_roundw
    case rel =>
     refine ⟨kk+1,by go_num,by omega,?_,HSM.out⟩
     rw [HM2.out]
     exact HSV.out
    case measure=>simp [intOf];omega
   ·have HM2:Hid (homeW v.r v.g m 0 (v.B.take (kk+1))=(homeW v.r v.g m 0 (v.B.take kk)).doWrite v.r ((2+v.g+kk:Nat):Int) (sealB 0 x.k kk x.bs)):=by unfold Hid;rw [HTK.out,homeW_snoc,hlg,HTL.out,Nat.zero_add];rfl
    have HM:Hid ((homeW v.r v.g m 0 (v.B.take kk)).done.length≤100000):=by
     have h1:=homeW_done v.r v.g (v.B.take kk) m 0
     have h2:=HMX.out
     rw [HTL.out] at h1
     unfold Hid;omega
    have HBK:Hid (BlkOk (sealB 0 x.k kk x.bs)):=sealB_blk kk HXO.out.k HXO.out.len HXO.out.b
    have HRB:=Lib.hid (fun (W':World) (hb':Below w5.heap.size w5 W')=>(HSV.out.below hb').at_.rangeB HX.out)
    rw [hlg] at hlk
    clear hlg
    go_upto_region 4 with fail
    clear hlk z0 z1 z2 z3 z4 z5 z6 z7 z8 z9 z10 z11 z12
    refine wp_region_rgk (VSe4 hp rb v.n cap kk w5.heap.size x.k x.bs (sealB 0 x.k kk x.bs)) (fun _ W=>Below w5.heap.size w5 W) (fun _ w w'=>Below w.heap.size w w') (by kernel_rfl) (by kernel_rfl) (fun i j v w w' _ _ h hs=>by revert h;unfold VSe4;split <;> intro h <;> first | exact h | (obtain ⟨A,d,h1,h2⟩:=h;exact ⟨A,d,h1,h2.keep hs⟩) | trivial) ((Below.refl _ _).drew) ?_
    simp only [RAll]
    refine ⟨?_,?_,?_,?_,?_,?_,?_,?_,?_,?_,?_,?_,?_,?_,?_,?_,?_,?_⟩
    ·refine RStepK.of rfl fun T W L hag hL hJ hLs hd=>?_
     have e0:T.getD 0 undef=_:=(agree_at hag 0 (by kernel_rfl)).trans rfl
     clear hag hd
     go_simp
     first | exact ⟨_,rfl,rfl⟩ | exact ⟨_,rfl,rfl,brefl _⟩ | exact ⟨_,rfl,rfl,hJ,brefl _⟩
    ·refine RStepK.of rfl fun T W L hag hL hJ hLs hd=>?_
     have d21:T.getD 21 undef=_:=hd ⟨0,.data⟩ (by simp) rfl _ rfl
     clear hag hd
     go_simp
     first | exact ⟨_,rfl,rfl⟩ | exact ⟨_,rfl,rfl,brefl _⟩ | exact ⟨_,rfl,rfl,hJ,brefl _⟩
    ·refine RStepK.of rfl fun T W L hag hL hJ hLs hd=>?_
     have d22:T.getD 22 undef=_:=hd ⟨1,.data⟩ (by simp) rfl _ rfl
     clear hag hd
     go_simp
     first | exact ⟨_,rfl,rfl⟩ | exact ⟨_,rfl,rfl,brefl _⟩ | exact ⟨_,rfl,rfl,hJ,brefl _⟩
    ·refine RStepK.of rfl fun T W L hag hL hJ hLs hd=>?_
     have d23:T.getD 23 undef=_:=hd ⟨2,.data⟩ (by simp) rfl _ rfl
     obtain ⟨z0,z1,z2,z3,z4,z5,z6,z7,z8,z9,z10,z11,z12⟩:=HC.out W hJ
     clear hag hd
     go_simp
     first | exact ⟨_,rfl,rfl⟩ | exact ⟨_,rfl,rfl,brefl _⟩ | exact ⟨_,rfl,rfl,hJ,brefl _⟩
    ·refine RStepK.of rfl fun T W L hag hL hJ hLs hd=>?_
     have e2:T.getD 2 undef=_:=(agree_at hag 2 (by kernel_rfl)).trans rfl
     clear hag hd
     go_simp
     first | exact ⟨_,rfl,rfl⟩ | exact ⟨_,rfl,rfl,brefl _⟩ | exact ⟨_,rfl,rfl,hJ,brefl _⟩
    ·refine RStepK.of rfl fun T W L hag hL hJ hLs hd=>?_
     have e0:T.getD 0 undef=_:=(agree_at hag 0 (by kernel_rfl)).trans rfl
     clear hag hd
     go_simp
     first | exact ⟨_,rfl,rfl⟩ | exact ⟨_,rfl,rfl,brefl _⟩ | exact ⟨_,rfl,rfl,hJ,brefl _⟩
    ·refine RStepK.of rfl fun T W L hag hL hJ hLs hd=>?_
     have d26:T.getD 26 undef=_:=hd ⟨5,.data⟩ (by simp) rfl _ rfl
     clear hag hd
     go_simp
     first | exact ⟨_,rfl,rfl⟩ | exact ⟨_,rfl,rfl,brefl _⟩ | exact ⟨_,rfl,rfl,hJ,brefl _⟩
    ·refine RStepK.of rfl fun T W L hag hL hJ hLs hd=>?_
     have d27:T.getD 27 undef=_:=hd ⟨6,.data⟩ (by simp) rfl _ rfl
     clear hag hd
     go_simp
     first | exact ⟨_,rfl,rfl⟩ | exact ⟨_,rfl,rfl,brefl _⟩ | exact ⟨_,rfl,rfl,hJ,brefl _⟩
    ·refine RStepK.of rfl fun T W L hag hL hJ hLs hd=>?_
     have d28:T.getD 28 undef=_:=hd ⟨7,.data⟩ (by simp) rfl _ rfl
     obtain ⟨z0,z1,z2,z3,z4,z5,z6,z7,z8,z9,z10,z11,z12⟩:=HC.out W hJ
     clear hag hd
     go_simp
     first | exact ⟨_,rfl,rfl⟩ | exact ⟨_,rfl,rfl,brefl _⟩ | exact ⟨_,rfl,rfl,hJ,brefl _⟩
    ·refine RStepK.of rfl fun T W L hag hL hJ hLs hd=>?_
     have e2:T.getD 2 undef=_:=(agree_at hag 2 (by kernel_rfl)).trans rfl
     clear hag hd
     go_simp
     first | exact ⟨_,rfl,rfl⟩ | exact ⟨_,rfl,rfl,brefl _⟩ | exact ⟨_,rfl,rfl,hJ,brefl _⟩
    ·refine RStepK.of rfl fun T W L hag hL hJ hLs hd=>?_
     have d29:T.getD 29 undef=_:=hd ⟨8,.data⟩ (by simp) rfl _ rfl
     have d30:T.getD 30 undef=_:=hd ⟨9,.data⟩ (by simp) rfl _ rfl
     clear hag hd
     go_simp
     first | exact ⟨_,rfl,rfl⟩ | exact ⟨_,rfl,rfl,brefl _⟩ | exact ⟨_,rfl,rfl,hJ,brefl _⟩
    ·refine RStepK.of rfl fun T W L hag hL hJ hLs hd=>?_
     have d31:T.getD 31 undef=_:=hd ⟨10,.data⟩ (by simp) rfl _ rfl
     clear hag
     refine wp_load_mid 71 (.tmp 31) rfl rb (kk*57) d31 (blkL x.k x.bs) _ (HRB.out W hJ) Tryz.underlying71 rfl (by rw [blkL_len HXO.out.len];exact size24b) ?_
     exact ⟨_,rfl,rfl,hJ,brefl _⟩
    ·refine RStepK.of rfl fun T W L hag hL hJ hLs hd=>?_
     have d24:T.getD 24 undef=_:=hd ⟨3,.data⟩ (by simp) rfl _ rfl
     have d25:T.getD 25 undef=_:=hd ⟨4,.data⟩ (by simp) rfl _ rfl
     have d32:T.getD 32 undef=_:=hd ⟨11,.data⟩ (by simp) rfl _ rfl
     clear hag hd
     go_simp
     refine (rseal_yes 0 x.k kk _ x.bs W (by omega) HXO.out.k (by omega) rfl HXO.out.len HXO.out.b).mono ?_
     rintro e w' ⟨v',rfl,ho,hb⟩
     obtain ⟨A,d,rfl,_,_,hby⟩:=own_bytP ho (sealB_length HXO.out.len)
     exact ⟨_,rfl,⟨_,_,rfl,BytN.low hby hJ.size⟩,keepB hJ hb,hb⟩
    ·refine RStepK.of rfl fun T W L hag hL hJ hLs hd=>?_
     have x33:=hd ⟨12,.data⟩ (by simp) rfl _ rfl
     obtain ⟨A,d,(hs:T.getD 33 undef=_),hby⟩:=x33
     clear hag hd
     go_simp
     exact ⟨_,rfl,⟨_,_,rfl,hby⟩,brefl _⟩
    ·refine RStepK.of rfl fun T W L hag hL hJ hLs hd=>?_
     have x20:=hd ⟨13,.data⟩ (by simp) rfl _ rfl
     obtain ⟨A,d,(hs:T.getD 20 undef=_),hby⟩:=x20
     clear hag hd
     go_simp
     exact ⟨_,rfl,⟨_,_,rfl,hby⟩,brefl _⟩
    ·refine RStepK.of rfl fun T W L hag hL hJ hLs hd=>?_
     have x20:=hd ⟨13,.data⟩ (by simp) rfl _ rfl
     obtain ⟨A,d,(hs:T.getD 20 undef=_),hby⟩:=x20
     clear hag hd hby
     go_simp
     first | exact ⟨_,rfl,rfl⟩ | exact ⟨_,rfl,rfl,brefl _⟩ | exact ⟨_,rfl,rfl,hJ,brefl _⟩
    ·refine RStepK.of rfl fun T W L hag hL hJ hLs hd=>?_
     have x34:=hd ⟨14,.data⟩ (by simp) rfl _ rfl
     obtain ⟨A,d,(hs:T.getD 34 undef=_),hby⟩:=x34
     clear hag hd
     go_simp
     exact ⟨_,rfl,⟨_,_,rfl,hby⟩,brefl _⟩
    ·refine RLastK.of rfl fun T W L hag hLs hL hJ hd=>?_
     have d35:T.getD 35 undef=_:=hd 15 _ (by simp) rfl
     obtain ⟨f,hf,hT⟩:=agree_fn hag
     have d21:T.getD 21 undef=_:=hd 0 _ (by simp) rfl
     have h21:=(hf 21).trans d21
     have d22:T.getD 22 undef=_:=hd 1 _ (by simp) rfl
     have h22:=(hf 22).trans d22
     have d23:T.getD 23 undef=_:=hd 2 _ (by simp) rfl
     have h23:=(hf 23).trans d23
     have d24:T.getD 24 undef=_:=hd 3 _ (by simp) rfl
     have h24:=(hf 24).trans d24
     have d25:T.getD 25 undef=_:=hd 4 _ (by simp) rfl
     have h25:=(hf 25).trans d25
     have d26:T.getD 26 undef=_:=hd 5 _ (by simp) rfl
     have h26:=(hf 26).trans d26
     have d27:T.getD 27 undef=_:=hd 6 _ (by simp) rfl
     have h27:=(hf 27).trans d27
     have d28:T.getD 28 undef=_:=hd 7 _ (by simp) rfl
     have h28:=(hf 28).trans d28
     have d29:T.getD 29 undef=_:=hd 8 _ (by simp) rfl
     have h29:=(hf 29).trans d29
     have d30:T.getD 30 undef=_:=hd 9 _ (by simp) rfl
     have h30:=(hf 30).trans d30
     have d31:T.getD 31 undef=_:=hd 10 _ (by simp) rfl
     have h31:=(hf 31).trans d31
     have d32:T.getD 32 undef=_:=hd 11 _ (by simp) rfl
     have h32:=(hf 32).trans d32
     have h35:=(hf 35).trans d35
     have HJ:=Lib.hid hJ
     have x3:=hd 16 _ (by simp) rfl
     obtain ⟨A,d,(hv:T.getD 3 undef=_),hby⟩:=x3
     have h3:=(hf 3).trans hv
     have HBY:=Lib.hid hby
     clear hv hby
     clear hag hd d21 d22 d23 d24 d25 d26 d27 d28 d29 d30 d31 d32 d35 hJ hf
     rw [hT]
     clear hT
     simp only [List.pop_toArray,List.dropLast_cons_cons,List.dropLast_singleton,List.filterMap_cons,List.filterMap_nil,List.foldl_cons,List.foldl_nil,List.setIfInBounds_toArray,List.set_cons_succ,List.set_cons_zero,h21,h22,h23,h24,h25,h26,h27,h28,h29,h30,h31,h32,h35]
     simp only [h3]
     have HB6:=Lib.hid HJ.out
     have HBP:=Lib.hid (show BytP W (fun k=>Q k∨(w5.heap.size≤k∧k<W.heap.size)) A (sealB 0 x.k kk x.bs) from HBY.out.mono fun k hk=>Or.inr hk)
     have HG:=Lib.hid (HSV.out.grow HJ.out (Q':=fun k=>Q k∨(w5.heap.size≤k∧k<W.heap.size)) fun k hk=>hk)
     clear HBY HJ HC HRB
     obtain ⟨w6,rfl⟩:∃ w6,w6=W:=⟨W,rfl⟩
     have HC:=Lib.hid (fun (W':World) (hb':Below w6.heap.size w6 W')=>(HG.out.below hb').at_.cs)
     have HHO:=Lib.hid (fun W=>rhome_any v.n v.g v.fr kk HNG.out.2 (by have:=HNG.out.1;omega) W)
     have HY:Hid (i64 ((2+v.g+kk:Nat):Int)):=by have:=HNG.out;constructor <;> omega
     obtain ⟨y,hy⟩:∃ y,2+v.g+kk=y:=⟨_,rfl⟩
     rw [hy] at HHO HY HM2
     clear hy
     go_upto_region 5 with fail
     refine wp_region_rgk (VSe5 hp hd v.n v.g kk y d v.r v.fr A) (fun _ W=>Below w6.heap.size w6 W) (fun _ w w'=>Below w.heap.size w w') (by kernel_rfl) (by kernel_rfl) (fun i j v w w' _ _ h hs=>by unfold VSe5 at *;exact h) ((Below.refl _ _).drew) ?_
     simp only [RAll]
     refine ⟨?_,?_,?_,?_,?_,?_,?_,?_,?_,?_,?_,?_,?_,?_,?_,?_⟩
     ·refine RStepK.of rfl fun T W L hag hL hJ hLs hd=>?_
      have e0:T.getD 0 undef=_:=(agree_at hag 0 (by kernel_rfl)).trans rfl
      clear hag hd
      go_simp
      first | exact ⟨_,rfl,rfl⟩ | exact ⟨_,rfl,rfl,brefl _⟩ | exact ⟨_,rfl,rfl,hJ,brefl _⟩
     ·refine RStepK.of rfl fun T W L hag hL hJ hLs hd=>?_
      have d36:T.getD 36 undef=_:=hd ⟨0,.data⟩ (by simp) rfl _ rfl
      clear hag hd
      go_simp
      first | exact ⟨_,rfl,rfl⟩ | exact ⟨_,rfl,rfl,brefl _⟩ | exact ⟨_,rfl,rfl,hJ,brefl _⟩
     ·refine RStepK.of rfl fun T W L hag hL hJ hLs hd=>?_
      have d37:T.getD 37 undef=_:=hd ⟨1,.data⟩ (by simp) rfl _ rfl
      clear hag hd
      go_simp
      first | exact ⟨_,rfl,rfl⟩ | exact ⟨_,rfl,rfl,brefl _⟩ | exact ⟨_,rfl,rfl,hJ,brefl _⟩
     ·refine RStepK.of rfl fun T W L hag hL hJ hLs hd=>?_
      have d38:T.getD 38 undef=_:=hd ⟨2,.data⟩ (by simp) rfl _ rfl
      obtain ⟨z0,z1,z2,z3,z4,z5,z6,z7,z8,z9,z10,z11,z12⟩:=HC.out W hJ
      clear hag hd
      go_simp
      first | exact ⟨_,rfl,rfl⟩ | exact ⟨_,rfl,rfl,brefl _⟩ | exact ⟨_,rfl,rfl,hJ,brefl _⟩
     ·refine RStepK.of rfl fun T W L hag hL hJ hLs hd=>?_
      have e0:T.getD 0 undef=_:=(agree_at hag 0 (by kernel_rfl)).trans rfl
      clear hag hd
      go_simp
      first | exact ⟨_,rfl,rfl⟩ | exact ⟨_,rfl,rfl,brefl _⟩ | exact ⟨_,rfl,rfl,hJ,brefl _⟩
     ·refine RStepK.of rfl fun T W L hag hL hJ hLs hd=>?_
      have d40:T.getD 40 undef=_:=hd ⟨4,.data⟩ (by simp) rfl _ rfl
      clear hag hd
      go_simp
      first | exact ⟨_,rfl,rfl⟩ | exact ⟨_,rfl,rfl,brefl _⟩ | exact ⟨_,rfl,rfl,hJ,brefl _⟩
     ·refine RStepK.of rfl fun T W L hag hL hJ hLs hd=>?_
      have d41:T.getD 41 undef=_:=hd ⟨5,.data⟩ (by simp) rfl _ rfl
      clear hag hd
      go_simp
      first | exact ⟨_,rfl,rfl⟩ | exact ⟨_,rfl,rfl,brefl _⟩ | exact ⟨_,rfl,rfl,hJ,brefl _⟩
     ·refine RStepK.of rfl fun T W L hag hL hJ hLs hd=>?_
      have d42:T.getD 42 undef=_:=hd ⟨6,.data⟩ (by simp) rfl _ rfl
      obtain ⟨z0,z1,z2,z3,z4,z5,z6,z7,z8,z9,z10,z11,z12⟩:=HC.out W hJ
      clear hag hd
      go_simp
      first | exact ⟨_,rfl,rfl⟩ | exact ⟨_,rfl,rfl,brefl _⟩ | exact ⟨_,rfl,rfl,hJ,brefl _⟩
     ·refine RStepK.of rfl fun T W L hag hL hJ hLs hd=>?_
      have e0:T.getD 0 undef=_:=(agree_at hag 0 (by kernel_rfl)).trans rfl
      clear hag hd
      go_simp
      first | exact ⟨_,rfl,rfl⟩ | exact ⟨_,rfl,rfl,brefl _⟩ | exact ⟨_,rfl,rfl,hJ,brefl _⟩
     ·refine RStepK.of rfl fun T W L hag hL hJ hLs hd=>?_
      have d44:T.getD 44 undef=_:=hd ⟨8,.data⟩ (by simp) rfl _ rfl
      clear hag hd
      go_simp
      first | exact ⟨_,rfl,rfl⟩ | exact ⟨_,rfl,rfl,brefl _⟩ | exact ⟨_,rfl,rfl,hJ,brefl _⟩
     ·refine RStepK.of rfl fun T W L hag hL hJ hLs hd=>?_
      have d45:T.getD 45 undef=_:=hd ⟨9,.data⟩ (by simp) rfl _ rfl
      clear hag hd
      go_simp
      first | exact ⟨_,rfl,rfl⟩ | exact ⟨_,rfl,rfl,brefl _⟩ | exact ⟨_,rfl,rfl,hJ,brefl _⟩
     ·refine RStepK.of rfl fun T W L hag hL hJ hLs hd=>?_
      have d46:T.getD 46 undef=_:=hd ⟨10,.data⟩ (by simp) rfl _ rfl
      obtain ⟨z0,z1,z2,z3,z4,z5,z6,z7,z8,z9,z10,z11,z12⟩:=HC.out W hJ
      clear hag hd
      go_simp
      first | exact ⟨_,rfl,rfl⟩ | exact ⟨_,rfl,rfl,brefl _⟩ | exact ⟨_,rfl,rfl,hJ,brefl _⟩
     ·refine RStepK.of rfl fun T W L hag hL hJ hLs hd=>?_
      have e2:T.getD 2 undef=_:=(agree_at hag 2 (by kernel_rfl)).trans rfl
      clear hag hd
      go_simp
      first | exact ⟨_,rfl,rfl⟩ | exact ⟨_,rfl,rfl,brefl _⟩ | exact ⟨_,rfl,rfl,hJ,brefl _⟩
     ·refine RStepK.of rfl fun T W L hag hL hJ hLs hd=>?_
      have d47:T.getD 47 undef=_:=hd ⟨11,.data⟩ (by simp) rfl _ rfl
      have d48:T.getD 48 undef=_:=hd ⟨12,.data⟩ (by simp) rfl _ rfl
      clear hag hd
      go_simp
      refine (HHO.out W).mono ?_
      rintro e w' ⟨rfl,hb⟩
      exact ⟨_,rfl,rfl,keepB hJ hb,hb⟩
     ·refine RStepK.of rfl fun T W L hag hL hJ hLs hd=>?_
      have e3:T.getD 3 undef=_:=(agree_at hag 3 (by kernel_rfl)).trans rfl
      clear hag hd
      go_simp
      first | exact ⟨_,rfl,rfl⟩ | exact ⟨_,rfl,rfl,brefl _⟩ | exact ⟨_,rfl,rfl,hJ,brefl _⟩
     ·refine RLastK.of rfl fun T W L hag hLs hL hJ hd=>?_
      have d39:T.getD 39 undef=_:=hd 3 _ (by simp) rfl
      have d43:T.getD 43 undef=_:=hd 7 _ (by simp) rfl
      have d49:T.getD 49 undef=_:=hd 13 _ (by simp) rfl
      have d50:T.getD 50 undef=_:=hd 14 _ (by simp) rfl
      obtain ⟨f,hf,hT⟩:=agree_fn hag
      have d36:T.getD 36 undef=_:=hd 0 _ (by simp) rfl
      have h36:=(hf 36).trans d36
      have d37:T.getD 37 undef=_:=hd 1 _ (by simp) rfl
      have h37:=(hf 37).trans d37
      have d38:T.getD 38 undef=_:=hd 2 _ (by simp) rfl
      have h38:=(hf 38).trans d38
      have h39:=(hf 39).trans d39
      have d40:T.getD 40 undef=_:=hd 4 _ (by simp) rfl
      have h40:=(hf 40).trans d40
      have d41:T.getD 41 undef=_:=hd 5 _ (by simp) rfl
      have h41:=(hf 41).trans d41
      have d42:T.getD 42 undef=_:=hd 6 _ (by simp) rfl
      have h42:=(hf 42).trans d42
      have h43:=(hf 43).trans d43
      have d44:T.getD 44 undef=_:=hd 8 _ (by simp) rfl
      have h44:=(hf 44).trans d44
      have d45:T.getD 45 undef=_:=hd 9 _ (by simp) rfl
      have h45:=(hf 45).trans d45
      have d46:T.getD 46 undef=_:=hd 10 _ (by simp) rfl
      have h46:=(hf 46).trans d46
      have d47:T.getD 47 undef=_:=hd 11 _ (by simp) rfl
      have h47:=(hf 47).trans d47
      have d48:T.getD 48 undef=_:=hd 12 _ (by simp) rfl
      have h48:=(hf 48).trans d48
      have h49:=(hf 49).trans d49
      have h50:=(hf 50).trans d50
      have HJ:=Lib.hid hJ
      clear hag hd d36 d37 d38 d39 d40 d41 d42 d43 d44 d45 d46 d47 d48 d49 d50 hJ hf
      rw [hT]
      clear hT
      simp only [List.pop_toArray,List.dropLast_cons_cons,List.dropLast_singleton,List.filterMap_cons,List.filterMap_nil,List.foldl_cons,List.foldl_nil,List.setIfInBounds_toArray,List.set_cons_succ,List.set_cons_zero,h36,h37,h38,h39,h40,h41,h42,h43,h44,h45,h46,h47,h48,h49,h50]
      have hq:=HG.out.below HJ.out
      have hby:=HBP.out.keep HJ.out
      go_simp
      refine (hq.write v.r y HR.out HY.out A _ d HBK.out hby HM.out).mono ?_
      rintro e w' ⟨rfl,hs,hm⟩
      have HS2:Hid (RSV w0 w' Q hd (homeW v.r v.g m 0 (v.B.take (kk+1))) hp rb mb cap cm v):=by rw [HM2.out];exact hs.shrink fun k hk=>Or.inl hk
      have HSM2:=Lib.hid ((HSM.out.trans (HSV.out.same (HB6.out.trans (HJ.out.mono HB6.out.size)))).trans (hm.mono fun k hk=>Or.inl hk))
      clear hq hby hs hm HJ HG HBP
      go_wp2
      go_roundw
      case rel=>exact ⟨kk+1,by go_num,by omega,HS2.out,HSM2.out⟩
      case measure=>simp [intOf];omega
  ·obtain rfl:kk=v.n:=by omega
   have hki:¬ ((v.n:Int)<v.n):=by omega
   have hsv:=HSV.out
   rw [List.take_of_length_le (by rw [HL.out];exact Nat.le_refl _)] at hsv
   have h1:=homeW_done v.r v.g v.B m 0
   rw [HL.out] at h1
   have h2:=HMX.out
   obtain ⟨mm,hmm⟩:∃ mm,mm=homeW v.r v.g m 0 v.B:=⟨_,rfl⟩
   rw [← hmm] at hsv h1
   have HM:Hid (mm.done.length≤100000):=by unfold Hid;omega
   have HM8:Hid ((mm.doBarrier v.r).done.length≤100000):=by have:=done_doBarrier mm v.r;unfold Hid;omega
   have HM9:Hid (∀ y b,((mm.doBarrier v.r).doWrite v.r y b).done.length≤100000):=fun y b=>by have:=done_doBarrier mm v.r;have:=done_doWrite (mm.doBarrier v.r) v.r y b;omega
   have HMM:=Lib.hid hmm
   clear h1 h2 hmm HSV
   have HSV:=Lib.hid hsv
   clear hsv
   go_upto_region 6 with fail
   clear z0 z1 z2 z3 z4 z5 z6 z7 z8 z9 z10 z11 z12
   refine wp_region_rgk (VSe6 hp hd v.r) (fun _ W=>Below w5.heap.size w5 W) (fun _ w w'=>Below w.heap.size w w') (by kernel_rfl) (by kernel_rfl) (fun i j v w w' _ _ h hs=>by unfold VSe6 at *;exact h) ((Below.refl _ _).drew) ?_
   simp only [RAll]
   refine ⟨?_,?_,?_,?_,?_,?_,?_,?_,?_⟩
   ·refine RStepK.of rfl fun T W L hag hL hJ hLs hd=>?_
    have e0:T.getD 0 undef=_:=(agree_at hag 0 (by kernel_rfl)).trans rfl
    clear hag hd
    go_simp
    first | exact ⟨_,rfl,rfl⟩ | exact ⟨_,rfl,rfl,brefl _⟩ | exact ⟨_,rfl,rfl,hJ,brefl _⟩
   ·refine RStepK.of rfl fun T W L hag hL hJ hLs hd=>?_
    have d52:T.getD 52 undef=_:=hd ⟨0,.data⟩ (by simp) rfl _ rfl
    clear hag hd
    go_simp
    first | exact ⟨_,rfl,rfl⟩ | exact ⟨_,rfl,rfl,brefl _⟩ | exact ⟨_,rfl,rfl,hJ,brefl _⟩
   ·refine RStepK.of rfl fun T W L hag hL hJ hLs hd=>?_
    have d53:T.getD 53 undef=_:=hd ⟨1,.data⟩ (by simp) rfl _ rfl
    clear hag hd
    go_simp
    first | exact ⟨_,rfl,rfl⟩ | exact ⟨_,rfl,rfl,brefl _⟩ | exact ⟨_,rfl,rfl,hJ,brefl _⟩
   ·refine RStepK.of rfl fun T W L hag hL hJ hLs hd=>?_
    have d54:T.getD 54 undef=_:=hd ⟨2,.data⟩ (by simp) rfl _ rfl
    obtain ⟨z0,z1,z2,z3,z4,z5,z6,z7,z8,z9,z10,z11,z12⟩:=HC.out W hJ
    clear hag hd
    go_simp
    first | exact ⟨_,rfl,rfl⟩ | exact ⟨_,rfl,rfl,brefl _⟩ | exact ⟨_,rfl,rfl,hJ,brefl _⟩
   ·refine RStepK.of rfl fun T W L hag hL hJ hLs hd=>?_
    have e0:T.getD 0 undef=_:=(agree_at hag 0 (by kernel_rfl)).trans rfl
    clear hag hd
    go_simp
    first | exact ⟨_,rfl,rfl⟩ | exact ⟨_,rfl,rfl,brefl _⟩ | exact ⟨_,rfl,rfl,hJ,brefl _⟩
   ·refine RStepK.of rfl fun T W L hag hL hJ hLs hd=>?_
    have d56:T.getD 56 undef=_:=hd ⟨4,.data⟩ (by simp) rfl _ rfl
    clear hag hd
    go_simp
    first | exact ⟨_,rfl,rfl⟩ | exact ⟨_,rfl,rfl,brefl _⟩ | exact ⟨_,rfl,rfl,hJ,brefl _⟩
   ·refine RStepK.of rfl fun T W L hag hL hJ hLs hd=>?_
    have d57:T.getD 57 undef=_:=hd ⟨5,.data⟩ (by simp) rfl _ rfl
    clear hag hd
    go_simp
    first | exact ⟨_,rfl,rfl⟩ | exact ⟨_,rfl,rfl,brefl _⟩ | exact ⟨_,rfl,rfl,hJ,brefl _⟩
   ·refine RStepK.of rfl fun T W L hag hL hJ hLs hd=>?_
    have d58:T.getD 58 undef=_:=hd ⟨6,.data⟩ (by simp) rfl _ rfl
    obtain ⟨z0,z1,z2,z3,z4,z5,z6,z7,z8,z9,z10,z11,z12⟩:=HC.out W hJ
    clear hag hd
    go_simp
    first | exact ⟨_,rfl,rfl⟩ | exact ⟨_,rfl,rfl,brefl _⟩ | exact ⟨_,rfl,rfl,hJ,brefl _⟩
   ·refine RLastK.of rfl fun T W L hag hLs hL hJ hd=>?_
    have d55:T.getD 55 undef=_:=hd 3 _ (by simp) rfl
    have d59:T.getD 59 undef=_:=hd 7 _ (by simp) rfl
    obtain ⟨f,hf,hT⟩:=agree_fn hag
    have d52:T.getD 52 undef=_:=hd 0 _ (by simp) rfl
    have h52:=(hf 52).trans d52
    have d53:T.getD 53 undef=_:=hd 1 _ (by simp) rfl
    have h53:=(hf 53).trans d53
    have d54:T.getD 54 undef=_:=hd 2 _ (by simp) rfl
    have h54:=(hf 54).trans d54
    have h55:=(hf 55).trans d55
    have d56:T.getD 56 undef=_:=hd 4 _ (by simp) rfl
    have h56:=(hf 56).trans d56
    have d57:T.getD 57 undef=_:=hd 5 _ (by simp) rfl
    have h57:=(hf 57).trans d57
    have d58:T.getD 58 undef=_:=hd 6 _ (by simp) rfl
    have h58:=(hf 58).trans d58
    have h59:=(hf 59).trans d59
    have HJ:=Lib.hid hJ
    clear hag hd d52 d53 d54 d55 d56 d57 d58 d59 hJ hf
    rw [hT]
    clear hT
    simp only [List.pop_toArray,List.dropLast_cons_cons,List.dropLast_singleton,List.filterMap_cons,List.filterMap_nil,List.foldl_cons,List.foldl_nil,List.setIfInBounds_toArray,List.set_cons_succ,List.set_cons_zero,h52,h53,h54,h55,h56,h57,h58,h59]
    have hq:=HSV.out.below HJ.out
    go_simp
    refine (hq.barrier v.r HR.out HM.out).mono ?_
    rintro e w' ⟨rfl,hs,hm⟩
    have HSV7:=Lib.hid hs
    have HSM7:=Lib.hid ((HSM.out.trans (HSV.out.same HJ.out)).trans hm)
    clear hq hs hm HJ HSV HSM HC
    obtain ⟨w7,rfl⟩:∃ w7,w7=w':=⟨w',rfl⟩
    obtain ⟨e1,he1⟩:∃ e1,e1=v.ep+1:=⟨_,rfl⟩
    have he:IntKind.u32.wrap ((v.ep:Int)+1)=(e1:Int):=by rw [IntWalk.u32_in _ (by omega)];omega
    rw [← he1] at hep
    have HE1:Hid (e1<4294967296):=hep
    have h8:=HSV7.out.setHd (i:=8) (u:=.int .u32 (e1:Int)) (v':={ v with ep:=e1 }) rfl rfl rfl { HSV7.out.at_.ok with ep:=hep }
    have HSV8:=Lib.hid h8.1
    have HSM8:=Lib.hid (HSM7.out.trans h8.2)
    have z8:=HSV7.out.at_.cs.2.2.2.2.2.2.2.2.1
    have y8:=HSV7.out.at_.f 8
    have HE0:=Lib.hid he1
    clear h8 he1
    generalize hq8:w7.setCell ⟨hp,8,none⟩ (.int .u32 (e1:Int))=w8 at *
    go_upto_region 8 with fail
    clear hq8 z8 y8 HSV7 HSM7 he
    have HC:=Lib.hid (fun (W':World) (hb':Below w8.heap.size w8 W')=>(HSV8.out.below hb').at_.cs)
    obtain ⟨y,hy⟩:∃ y,e1%2=y:=⟨_,rfl⟩
    have hy2:y<2:=by omega
    have f1:(e1:Int).tmod 2=(y:Int):=by rw [Int.tmod_eq_emod_of_nonneg (by omega)];omega
    have f2:IntKind.u32.wrap (y:Int)=(y:Int):=IntWalk.u32_in _ (by omega)
    have f3:IntKind.i64.wrap (y:Int)=(y:Int):=IntWalk.i64_in _ (by omega)
    have HYE:=Lib.hid hy
    clear hy
    refine wp_region_rgk (VSe8 hp hd e1 y w8.heap.size v.r (anchorB 0 e1)) (fun _ W=>Below w8.heap.size w8 W) (fun _ w w'=>Below w.heap.size w w') (by kernel_rfl) (by kernel_rfl) (fun i j v w w' _ _ h hs=>by revert h;unfold VSe8;split <;> intro h <;> first | exact h | (obtain ⟨A,d,h1,h2⟩:=h;exact ⟨A,d,h1,h2.keep hs⟩) | trivial) ((Below.refl _ _).drew) ?_
    simp only [RAll]
    refine ⟨?_,?_,?_,?_,?_,?_,?_,?_,?_,?_,?_,?_,?_,?_,?_,?_,?_,?_,?_,?_,?_,?_,?_,?_⟩
    ·refine RStepK.of rfl fun T W L hag hL hJ hLs hd=>?_
     have e0:T.getD 0 undef=_:=(agree_at hag 0 (by kernel_rfl)).trans rfl
     clear hag hd
     go_simp
     first | exact ⟨_,rfl,rfl⟩ | exact ⟨_,rfl,rfl,brefl _⟩ | exact ⟨_,rfl,rfl,hJ,brefl _⟩
    ·refine RStepK.of rfl fun T W L hag hL hJ hLs hd=>?_
     have d68:T.getD 68 undef=_:=hd ⟨0,.data⟩ (by simp) rfl _ rfl
     clear hag hd
     go_simp
     first | exact ⟨_,rfl,rfl⟩ | exact ⟨_,rfl,rfl,brefl _⟩ | exact ⟨_,rfl,rfl,hJ,brefl _⟩
    ·refine RStepK.of rfl fun T W L hag hL hJ hLs hd=>?_
     have d69:T.getD 69 undef=_:=hd ⟨1,.data⟩ (by simp) rfl _ rfl
     clear hag hd
     go_simp
     first | exact ⟨_,rfl,rfl⟩ | exact ⟨_,rfl,rfl,brefl _⟩ | exact ⟨_,rfl,rfl,hJ,brefl _⟩
    ·refine RStepK.of rfl fun T W L hag hL hJ hLs hd=>?_
     have d70:T.getD 70 undef=_:=hd ⟨2,.data⟩ (by simp) rfl _ rfl
     obtain ⟨z0,z1,z2,z3,z4,z5,z6,z7,z8,z9,z10,z11,z12⟩:=HC.out W hJ
     clear hag hd
     go_simp
     first | exact ⟨_,rfl,rfl⟩ | exact ⟨_,rfl,rfl,brefl _⟩ | exact ⟨_,rfl,rfl,hJ,brefl _⟩
    ·refine RStepK.of rfl fun T W L hag hL hJ hLs hd=>?_
     have e0:T.getD 0 undef=_:=(agree_at hag 0 (by kernel_rfl)).trans rfl
     clear hag hd
     go_simp
     first | exact ⟨_,rfl,rfl⟩ | exact ⟨_,rfl,rfl,brefl _⟩ | exact ⟨_,rfl,rfl,hJ,brefl _⟩
    ·refine RStepK.of rfl fun T W L hag hL hJ hLs hd=>?_
     have d72:T.getD 72 undef=_:=hd ⟨4,.data⟩ (by simp) rfl _ rfl
     clear hag hd
     go_simp
     first | exact ⟨_,rfl,rfl⟩ | exact ⟨_,rfl,rfl,brefl _⟩ | exact ⟨_,rfl,rfl,hJ,brefl _⟩
    ·refine RStepK.of rfl fun T W L hag hL hJ hLs hd=>?_
     have d73:T.getD 73 undef=_:=hd ⟨5,.data⟩ (by simp) rfl _ rfl
     clear hag hd
     go_simp
     first | exact ⟨_,rfl,rfl⟩ | exact ⟨_,rfl,rfl,brefl _⟩ | exact ⟨_,rfl,rfl,hJ,brefl _⟩
    ·refine RStepK.of rfl fun T W L hag hL hJ hLs hd=>?_
     have d74:T.getD 74 undef=_:=hd ⟨6,.data⟩ (by simp) rfl _ rfl
     obtain ⟨z0,z1,z2,z3,z4,z5,z6,z7,z8,z9,z10,z11,z12⟩:=HC.out W hJ
     clear hag hd
     go_simp
     first | exact ⟨_,rfl,rfl⟩ | exact ⟨_,rfl,rfl,brefl _⟩ | exact ⟨_,rfl,rfl,hJ,brefl _⟩
    ·refine RStepK.of rfl fun T W L hag hL hJ hLs hd=>?_
     have e0:T.getD 0 undef=_:=(agree_at hag 0 (by kernel_rfl)).trans rfl
     clear hag hd
     go_simp
     first | exact ⟨_,rfl,rfl⟩ | exact ⟨_,rfl,rfl,brefl _⟩ | exact ⟨_,rfl,rfl,hJ,brefl _⟩
    ·refine RStepK.of rfl fun T W L hag hL hJ hLs hd=>?_
     have d76:T.getD 76 undef=_:=hd ⟨8,.data⟩ (by simp) rfl _ rfl
     clear hag hd
     go_simp
     first | exact ⟨_,rfl,rfl⟩ | exact ⟨_,rfl,rfl,brefl _⟩ | exact ⟨_,rfl,rfl,hJ,brefl _⟩
    ·refine RStepK.of rfl fun T W L hag hL hJ hLs hd=>?_
     have d77:T.getD 77 undef=_:=hd ⟨9,.data⟩ (by simp) rfl _ rfl
     clear hag hd
     go_simp
     first | exact ⟨_,rfl,rfl⟩ | exact ⟨_,rfl,rfl,brefl _⟩ | exact ⟨_,rfl,rfl,hJ,brefl _⟩
    ·refine RStepK.of rfl fun T W L hag hL hJ hLs hd=>?_
     have d78:T.getD 78 undef=_:=hd ⟨10,.data⟩ (by simp) rfl _ rfl
     obtain ⟨z0,z1,z2,z3,z4,z5,z6,z7,z8,z9,z10,z11,z12⟩:=HC.out W hJ
     clear hag hd
     go_simp
     first | exact ⟨_,rfl,rfl⟩ | exact ⟨_,rfl,rfl,brefl _⟩ | exact ⟨_,rfl,rfl,hJ,brefl _⟩
    ·refine RStepK.of rfl fun T W L hag hL hJ hLs hd=>?_
     have d79:T.getD 79 undef=_:=hd ⟨11,.data⟩ (by simp) rfl _ rfl
     clear hag hd
     go_simp
     first | exact ⟨_,rfl,rfl⟩ | exact ⟨_,rfl,rfl,brefl _⟩ | exact ⟨_,rfl,rfl,hJ,brefl _⟩
    ·refine RStepK.of rfl fun T W L hag hL hJ hLs hd=>?_
     have d80:T.getD 80 undef=_:=hd ⟨12,.data⟩ (by simp) rfl _ rfl
     clear hag hd
     go_simp
     first | exact ⟨_,rfl,rfl⟩ | exact ⟨_,rfl,rfl,brefl _⟩ | exact ⟨_,rfl,rfl,hJ,brefl _⟩
    ·refine RStepK.of rfl fun T W L hag hL hJ hLs hd=>?_
     have e0:T.getD 0 undef=_:=(agree_at hag 0 (by kernel_rfl)).trans rfl
     clear hag hd
     go_simp
     first | exact ⟨_,rfl,rfl⟩ | exact ⟨_,rfl,rfl,brefl _⟩ | exact ⟨_,rfl,rfl,hJ,brefl _⟩
    ·refine RStepK.of rfl fun T W L hag hL hJ hLs hd=>?_
     have d82:T.getD 82 undef=_:=hd ⟨14,.data⟩ (by simp) rfl _ rfl
     clear hag hd
     go_simp
     first | exact ⟨_,rfl,rfl⟩ | exact ⟨_,rfl,rfl,brefl _⟩ | exact ⟨_,rfl,rfl,hJ,brefl _⟩
    ·refine RStepK.of rfl fun T W L hag hL hJ hLs hd=>?_
     have d83:T.getD 83 undef=_:=hd ⟨15,.data⟩ (by simp) rfl _ rfl
     clear hag hd
     go_simp
     first | exact ⟨_,rfl,rfl⟩ | exact ⟨_,rfl,rfl,brefl _⟩ | exact ⟨_,rfl,rfl,hJ,brefl _⟩
    ·refine RStepK.of rfl fun T W L hag hL hJ hLs hd=>?_
     have d84:T.getD 84 undef=_:=hd ⟨16,.data⟩ (by simp) rfl _ rfl
     obtain ⟨z0,z1,z2,z3,z4,z5,z6,z7,z8,z9,z10,z11,z12⟩:=HC.out W hJ
     clear hag hd
     go_simp
     first | exact ⟨_,rfl,rfl⟩ | exact ⟨_,rfl,rfl,brefl _⟩ | exact ⟨_,rfl,rfl,hJ,brefl _⟩
    ·refine RStepK.of rfl fun T W L hag hL hJ hLs hd=>?_
     have e0:T.getD 0 undef=_:=(agree_at hag 0 (by kernel_rfl)).trans rfl
     clear hag hd
     go_simp
     first | exact ⟨_,rfl,rfl⟩ | exact ⟨_,rfl,rfl,brefl _⟩ | exact ⟨_,rfl,rfl,hJ,brefl _⟩
    ·refine RStepK.of rfl fun T W L hag hL hJ hLs hd=>?_
     have d86:T.getD 86 undef=_:=hd ⟨18,.data⟩ (by simp) rfl _ rfl
     clear hag hd
     go_simp
     first | exact ⟨_,rfl,rfl⟩ | exact ⟨_,rfl,rfl,brefl _⟩ | exact ⟨_,rfl,rfl,hJ,brefl _⟩
    ·refine RStepK.of rfl fun T W L hag hL hJ hLs hd=>?_
     have d87:T.getD 87 undef=_:=hd ⟨19,.data⟩ (by simp) rfl _ rfl
     clear hag hd
     go_simp
     first | exact ⟨_,rfl,rfl⟩ | exact ⟨_,rfl,rfl,brefl _⟩ | exact ⟨_,rfl,rfl,hJ,brefl _⟩
    ·refine RStepK.of rfl fun T W L hag hL hJ hLs hd=>?_
     have d88:T.getD 88 undef=_:=hd ⟨20,.data⟩ (by simp) rfl _ rfl
     obtain ⟨z0,z1,z2,z3,z4,z5,z6,z7,z8,z9,z10,z11,z12⟩:=HC.out W hJ
     clear hag hd
     go_simp
     first | exact ⟨_,rfl,rfl⟩ | exact ⟨_,rfl,rfl,brefl _⟩ | exact ⟨_,rfl,rfl,hJ,brefl _⟩
    ·refine RStepK.of rfl fun T W L hag hL hJ hLs hd=>?_
     have d85:T.getD 85 undef=_:=hd ⟨17,.data⟩ (by simp) rfl _ rfl
     have d89:T.getD 89 undef=_:=hd ⟨21,.data⟩ (by simp) rfl _ rfl
     clear hag hd
     go_simp
     refine (ranchor_any 0 e1 W (by omega) HE1.out).mono ?_
     rintro e w' ⟨v',rfl,ho,hb⟩
     obtain ⟨A,d,rfl,_,_,hby⟩:=own_bytP ho (anchorB_length 0 e1)
     exact ⟨_,rfl,⟨_,_,rfl,BytN.low hby hJ.size⟩,keepB hJ hb,hb⟩
    ·refine RLastK.of rfl fun T W L hag hLs hL hJ hd=>?_
     have d71:T.getD 71 undef=_:=hd 3 _ (by simp) rfl
     have d75:T.getD 75 undef=_:=hd 7 _ (by simp) rfl
     have d81:T.getD 81 undef=_:=hd 13 _ (by simp) rfl
     have x90:=hd 22 _ (by simp) rfl
     obtain ⟨f,hf,hT⟩:=agree_fn hag
     have d68:T.getD 68 undef=_:=hd 0 _ (by simp) rfl
     have h68:=(hf 68).trans d68
     have d69:T.getD 69 undef=_:=hd 1 _ (by simp) rfl
     have h69:=(hf 69).trans d69
     have d70:T.getD 70 undef=_:=hd 2 _ (by simp) rfl
     have h70:=(hf 70).trans d70
     have h71:=(hf 71).trans d71
     have d72:T.getD 72 undef=_:=hd 4 _ (by simp) rfl
     have h72:=(hf 72).trans d72
     have d73:T.getD 73 undef=_:=hd 5 _ (by simp) rfl
     have h73:=(hf 73).trans d73
     have d74:T.getD 74 undef=_:=hd 6 _ (by simp) rfl
     have h74:=(hf 74).trans d74
     have h75:=(hf 75).trans d75
     have d76:T.getD 76 undef=_:=hd 8 _ (by simp) rfl
     have h76:=(hf 76).trans d76
     have d77:T.getD 77 undef=_:=hd 9 _ (by simp) rfl
     have h77:=(hf 77).trans d77
     have d78:T.getD 78 undef=_:=hd 10 _ (by simp) rfl
     have h78:=(hf 78).trans d78
     have d79:T.getD 79 undef=_:=hd 11 _ (by simp) rfl
     have h79:=(hf 79).trans d79
     have d80:T.getD 80 undef=_:=hd 12 _ (by simp) rfl
     have h80:=(hf 80).trans d80
     have h81:=(hf 81).trans d81
     have d82:T.getD 82 undef=_:=hd 14 _ (by simp) rfl
     have h82:=(hf 82).trans d82
     have d83:T.getD 83 undef=_:=hd 15 _ (by simp) rfl
     have h83:=(hf 83).trans d83
     have d84:T.getD 84 undef=_:=hd 16 _ (by simp) rfl
     have h84:=(hf 84).trans d84
     have d85:T.getD 85 undef=_:=hd 17 _ (by simp) rfl
     have h85:=(hf 85).trans d85
     have d86:T.getD 86 undef=_:=hd 18 _ (by simp) rfl
     have h86:=(hf 86).trans d86
     have d87:T.getD 87 undef=_:=hd 19 _ (by simp) rfl
     have h87:=(hf 87).trans d87
     have d88:T.getD 88 undef=_:=hd 20 _ (by simp) rfl
     have h88:=(hf 88).trans d88
     have d89:T.getD 89 undef=_:=hd 21 _ (by simp) rfl
     have h89:=(hf 89).trans d89
     have HJ:=Lib.hid hJ
     have x90:=hd 22 _ (by simp) rfl
     obtain ⟨A,d,(hv:T.getD 90 undef=_),hby⟩:=x90
     have h90:=(hf 90).trans hv
     have HBY:=Lib.hid hby
     clear hv hby
     clear hag hd d68 d69 d70 d71 d72 d73 d74 d75 d76 d77 d78 d79 d80 d81 d82 d83 d84 d85 d86 d87 d88 d89 hJ hf
     rw [hT]
     clear hT
     simp only [List.pop_toArray,List.dropLast_cons_cons,List.dropLast_singleton,List.filterMap_cons,List.filterMap_nil,List.foldl_cons,List.foldl_nil,List.setIfInBounds_toArray,List.set_cons_succ,List.set_cons_zero,h68,h69,h70,h71,h72,h73,h74,h75,h76,h77,h78,h79,h80,h81,h82,h83,h84,h85,h86,h87,h88,h89]
     simp only [h90]
     have hq:=HSV8.out.grow HJ.out (Q':=fun k=>Q k∨(w8.heap.size≤k∧k<W.heap.size)) fun k hk=>hk
     have hby:BytP W (fun k=>Q k∨(w8.heap.size≤k∧k<W.heap.size)) A (anchorB 0 e1):=HBY.out.mono fun k hk=>Or.inr hk
     go_simp
     refine (hq.write v.r y HR.out (by constructor <;> omega) A _ d ⟨anchorB_length 0 e1,anchorB_allB e1 (by omega)⟩ hby HM8.out).mono ?_
     rintro e w' ⟨rfl,hs,hm⟩
     have HSV9:=Lib.hid (hs.shrink (Q':=Q) fun k hk=>Or.inl hk)
     have HSM9:=Lib.hid ((HSM8.out.trans (HSV8.out.same HJ.out)).trans (hm.mono fun k hk=>Or.inl hk))
     clear hq hby hs hm HJ HSV8 HSM8 HC HBY f1 f2 f3
     obtain ⟨w9,rfl⟩:∃ w9,w9=w':=⟨w',rfl⟩
     have HC:=Lib.hid (fun (W':World) (hb':Below w9.heap.size w9 W')=>(HSV9.out.below hb').at_.cs)
     go_upto_region 9 with fail
     refine wp_region_rgk (VSe9 hp hd v.r) (fun _ W=>Below w9.heap.size w9 W) (fun _ w w'=>Below w.heap.size w w') (by kernel_rfl) (by kernel_rfl) (fun i j v w w' _ _ h hs=>by unfold VSe9 at *;exact h) ((Below.refl _ _).drew) ?_
     simp only [RAll]
     refine ⟨?_,?_,?_,?_,?_,?_,?_,?_,?_⟩
     ·refine RStepK.of rfl fun T W L hag hL hJ hLs hd=>?_
      have e0:T.getD 0 undef=_:=(agree_at hag 0 (by kernel_rfl)).trans rfl
      clear hag hd
      go_simp
      first | exact ⟨_,rfl,rfl⟩ | exact ⟨_,rfl,rfl,brefl _⟩ | exact ⟨_,rfl,rfl,hJ,brefl _⟩
     ·refine RStepK.of rfl fun T W L hag hL hJ hLs hd=>?_
      have d92:T.getD 92 undef=_:=hd ⟨0,.data⟩ (by simp) rfl _ rfl
      clear hag hd
      go_simp
      first | exact ⟨_,rfl,rfl⟩ | exact ⟨_,rfl,rfl,brefl _⟩ | exact ⟨_,rfl,rfl,hJ,brefl _⟩
     ·refine RStepK.of rfl fun T W L hag hL hJ hLs hd=>?_
      have d93:T.getD 93 undef=_:=hd ⟨1,.data⟩ (by simp) rfl _ rfl
      clear hag hd
      go_simp
      first | exact ⟨_,rfl,rfl⟩ | exact ⟨_,rfl,rfl,brefl _⟩ | exact ⟨_,rfl,rfl,hJ,brefl _⟩
     ·refine RStepK.of rfl fun T W L hag hL hJ hLs hd=>?_
      have d94:T.getD 94 undef=_:=hd ⟨2,.data⟩ (by simp) rfl _ rfl
      obtain ⟨z0,z1,z2,z3,z4,z5,z6,z7,z8,z9,z10,z11,z12⟩:=HC.out W hJ
      clear hag hd
      go_simp
      first | exact ⟨_,rfl,rfl⟩ | exact ⟨_,rfl,rfl,brefl _⟩ | exact ⟨_,rfl,rfl,hJ,brefl _⟩
     ·refine RStepK.of rfl fun T W L hag hL hJ hLs hd=>?_
      have e0:T.getD 0 undef=_:=(agree_at hag 0 (by kernel_rfl)).trans rfl
      clear hag hd
      go_simp
      first | exact ⟨_,rfl,rfl⟩ | exact ⟨_,rfl,rfl,brefl _⟩ | exact ⟨_,rfl,rfl,hJ,brefl _⟩
     ·refine RStepK.of rfl fun T W L hag hL hJ hLs hd=>?_
      have d96:T.getD 96 undef=_:=hd ⟨4,.data⟩ (by simp) rfl _ rfl
      clear hag hd
      go_simp
      first | exact ⟨_,rfl,rfl⟩ | exact ⟨_,rfl,rfl,brefl _⟩ | exact ⟨_,rfl,rfl,hJ,brefl _⟩
     ·refine RStepK.of rfl fun T W L hag hL hJ hLs hd=>?_
      have d97:T.getD 97 undef=_:=hd ⟨5,.data⟩ (by simp) rfl _ rfl
      clear hag hd
      go_simp
      first | exact ⟨_,rfl,rfl⟩ | exact ⟨_,rfl,rfl,brefl _⟩ | exact ⟨_,rfl,rfl,hJ,brefl _⟩
     ·refine RStepK.of rfl fun T W L hag hL hJ hLs hd=>?_
      have d98:T.getD 98 undef=_:=hd ⟨6,.data⟩ (by simp) rfl _ rfl
      obtain ⟨z0,z1,z2,z3,z4,z5,z6,z7,z8,z9,z10,z11,z12⟩:=HC.out W hJ
      clear hag hd
      go_simp
      first | exact ⟨_,rfl,rfl⟩ | exact ⟨_,rfl,rfl,brefl _⟩ | exact ⟨_,rfl,rfl,hJ,brefl _⟩
     ·refine RLastK.of rfl fun T W L hag hLs hL hJ hd=>?_
      have d95:T.getD 95 undef=_:=hd 3 _ (by simp) rfl
      have d99:T.getD 99 undef=_:=hd 7 _ (by simp) rfl
      obtain ⟨f,hf,hT⟩:=agree_fn hag
      have d92:T.getD 92 undef=_:=hd 0 _ (by simp) rfl
      have h92:=(hf 92).trans d92
      have d93:T.getD 93 undef=_:=hd 1 _ (by simp) rfl
      have h93:=(hf 93).trans d93
      have d94:T.getD 94 undef=_:=hd 2 _ (by simp) rfl
      have h94:=(hf 94).trans d94
      have h95:=(hf 95).trans d95
      have d96:T.getD 96 undef=_:=hd 4 _ (by simp) rfl
      have h96:=(hf 96).trans d96
      have d97:T.getD 97 undef=_:=hd 5 _ (by simp) rfl
      have h97:=(hf 97).trans d97
      have d98:T.getD 98 undef=_:=hd 6 _ (by simp) rfl
      have h98:=(hf 98).trans d98
      have h99:=(hf 99).trans d99
      have HJ:=Lib.hid hJ
      clear hag hd d92 d93 d94 d95 d96 d97 d98 d99 hJ hf
      rw [hT]
      clear hT
      simp only [List.pop_toArray,List.dropLast_cons_cons,List.dropLast_singleton,List.filterMap_cons,List.filterMap_nil,List.foldl_cons,List.foldl_nil,List.setIfInBounds_toArray,List.set_cons_succ,List.set_cons_zero,h92,h93,h94,h95,h96,h97,h98,h99]
      have hq:=HSV9.out.below HJ.out
      go_simp
      refine (hq.barrier v.r HR.out (HM9.out _ _)).mono ?_
      rintro e w' ⟨rfl,hs,hm⟩
      have HSVa:=Lib.hid hs
      have HSMa:=Lib.hid ((HSM9.out.trans (HSV9.out.same HJ.out)).trans hm)
      clear hq hs hm HJ HSV9 HSM9 HC
      obtain ⟨wa,rfl⟩:∃ wa,wa=w':=⟨w',rfl⟩
      have hcl:=HSVa.out.clear
      have HF:=Lib.hid hcl.1
      have HFM:=Lib.hid (HSMa.out.trans hcl.2)
      have hba:Below wa.heap.size wa (wa.alloc (.map #[] 0)):=(Below.refl _ _).alloc (Nat.le_refl _) _
      have hat:=(HSVa.out.grow hba (Q':=Q) fun k hk=>Or.inl hk).at_
      have z9:(wa.alloc (.map #[] 0)).cell? ⟨hp,9,none⟩=some (.int .u32 v.sq):=hat.cs.2.2.2.2.2.2.2.2.2.1
      have y9:=hat.f 9
      have e0:=hat.hd_
      have e1':=heap_setCell_same' (i:=9) e0 (.int .u32 0)
      have e2':=heap_setCell_same' (i:=10) e1' (.int .i64 0)
      have z10:((wa.alloc (.map #[] 0)).setCell ⟨hp,9,none⟩ (.int .u32 0)).cell? ⟨hp,10,none⟩=some (.int .i64 v.us):=(blk_cell e1' 10).trans rfl
      have y10:((wa.alloc (.map #[] 0)).setCell ⟨hp,9,none⟩ (.int .u32 0)).frozen? ⟨hp,10,none⟩=false:=blk_free e1' 10
      have z12:(((wa.alloc (.map #[] 0)).setCell ⟨hp,9,none⟩ (.int .u32 0)).setCell ⟨hp,10,none⟩ (.int .i64 0)).cell? ⟨hp,12,none⟩=some (.map (some mb)):=(blk_cell e2' 12).trans rfl
      have y12:(((wa.alloc (.map #[] 0)).setCell ⟨hp,9,none⟩ (.int .u32 0)).setCell ⟨hp,10,none⟩ (.int .i64 0)).frozen? ⟨hp,12,none⟩=false:=blk_free e2' 12
      clear e0 e1' e2'
      clear hcl hba hat
      have m5:(Instr.makeMap 57 none).run Tryz.prog wa=.ok (.map (some wa.heap.size)) (wa.alloc (.map #[] 0)):=run_makeMap _ _
      go_wp2
      go_end0
      refine ⟨rfl,wa.heap.size,?_,HFM.out⟩
      unfold homeM homeV DM.doBegin
      rw [← HE0.out,← HMM.out,HYE.out]
      exact HF.out
theorem rvtidy_any {w0 W:World} {Q:Nat→Prop} {hd:Nat} {m:DM} {hp rb mb cap cm:Nat} {v:VM} (h:RSV w0 W Q hd m hp rb mb cap cm v) (hep:v.ep+1<4294967296) (hmax:m.done.length≤98999) :
 Calls Tryz.prog 18 #[.pointer (some ⟨hp,0,none⟩)] W fun e w'=>e=.returned (.tuple #[])∧∃ mb',RSV w0 w' Q hd (tidyM m v) hp rb mb' cap 0 (homeV v)∧Same Q W w':=by
 have hd1:=done_doBarrier m v.r
 have HMX:Hid ((m.doBarrier v.r).done.length≤99000):=by unfold Hid;omega
 have HSY:=Lib.hid (rvsync_any h (by omega))
 clear h hd1 hmax
 go_enter Tryz.func18,Tryz.ntmps18
 go_wp2_with fail
 refine HSY.out.mono ?_
 rintro e w1 ⟨rfl,hs,hm⟩
 have HM:=Lib.hid hm
 have HST:=Lib.hid (rvsettle_any hs hep HMX.out)
 clear hs hm HSY
 go_wp2_with fail
 refine HST.out.mono ?_
 rintro e w2 ⟨rfl,mb',hs,hm⟩
 have HF:=Lib.hid hs
 have HFM:=Lib.hid (HM.out.trans hm)
 clear hs hm HST
 go_wp2
 go_end0
 exact ⟨rfl,mb',HF.out,HFM.out⟩
end Go.Proofs.YtamnpblijdgdaaaGreat
