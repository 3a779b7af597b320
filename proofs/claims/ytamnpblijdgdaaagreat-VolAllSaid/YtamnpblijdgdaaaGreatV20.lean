/- For VolAll: contracts and facts, part 20. -/
import Derived.Test.YtamnpblijdgdaaaGreatV19
namespace Go.Proofs.YtamnpblijdgdaaaGreat
open Go.ChangeShapes Go.WideShapes Go.ChangeAt Go.RowKit
set_option linter.unusedVariables false
set_option maxRecDepth 100000
def gndLs (d:Option Addr) (r:Int) (n g:Nat) (f:Int):List Value:=[.pointer d,.int .i64 r,.int .u8 0,.int .i64 0,.int .i64 0,.int .i64 n,.int .i64 g,.int .i64 f]
theorem VolAt.rangeG {W:World} {q hp rb:Nat} {v:VM} (h:VolAt W q hp rb v):W.rangeAt hp 0 (gndLs (some ⟨q,0,none⟩) v.r v.n v.g v.fr):=fun j u hj=>by
 rw [Nat.zero_add,blk_cell h.hd]
 unfold gndLs at hj
 unfold volC
 rw [List.getElem?_toArray]
 match j,hj with
 | 0,hj | 1,hj | 2,hj | 3,hj | 4,hj | 5,hj | 6,hj | 7,hj=>exact hj
 | j+8,hj=>rw [List.getElem?_eq_none (by simp)] at hj;cases hj
theorem vsync_any {w0 W:World} {P:Nat→Prop} {q:Nat} {m:DM} {hp rb:Nat} {v:VM} (h:SV w0 W P q m hp rb v) (hmax:m.done.length<1000000) :
 Calls Tryz.prog 15 #[.pointer (some ⟨hp,0,none⟩)] W fun e w'=>e=.returned (.tuple #[])∧SV w0 w' P q (m.doBarrier v.r) hp rb v∧Same P W w':=by
 have HV:=Lib.hid h
 have HM:=Lib.hid hmax
 clear h hmax
 go_enter Tryz.func15,Tryz.ntmps15
 go_wp2_with (with_reducible refine wpList_load_mid rfl 87 (.tmp 6) rfl hp 0 rfl (gndLs (some ⟨q,0,none⟩) v.r v.n v.g v.fr) _ HV.out.at_.rangeG Tryz.underlying87 rfl (by rw [show (gndLs (some ⟨q,0,none⟩) v.r v.n v.g v.fr).length=8 from rfl];exact size82) ?_)
 refine (gbarrier_any HV.out.ds v.r HV.out.at_.r v.n v.g v.fr HM.out).mono ?_
 rintro e w' ⟨rfl,hd,hs⟩
 have HD:=Lib.hid (HV.out.step hd hs)
 have HS:=Lib.hid hs
 clear hd hs
 go_wp2
 go_end0
 exact ⟨rfl,HD.out,HS.out⟩
theorem VolAt.cs {W:World} {q hp rb:Nat} {v:VM} (h:VolAt W q hp rb v):W.cell? ⟨hp,0,none⟩=some (.pointer (some ⟨q,0,none⟩))∧W.cell? ⟨hp,1,none⟩=some (.int .i64 v.r)∧W.cell? ⟨hp,2,none⟩=some (.int .u8 0)∧W.cell? ⟨hp,3,none⟩=some (.int .i64 0)∧W.cell? ⟨hp,4,none⟩=some (.int .i64 0)∧W.cell? ⟨hp,5,none⟩=some (.int .i64 v.n)∧W.cell? ⟨hp,6,none⟩=some (.int .i64 v.g)∧W.cell? ⟨hp,7,none⟩=some (.int .i64 v.fr)∧W.cell? ⟨hp,8,none⟩=some (.slice (some ⟨rb,0,none⟩) v.n v.n)∧W.cell? ⟨hp,9,none⟩=some (.int .u32 v.ep)∧W.cell? ⟨hp,10,none⟩=some (.int .u32 v.sq)∧W.cell? ⟨hp,11,none⟩=some (.int .i64 v.us) :=
 ⟨h.c0,h.c1,h.c2,h.c3,h.c4,h.c5,h.c6,h.c7,h.c8,h.c9,h.c10,h.c11⟩
theorem VolAt.setHd {W:World} {q hp rb:Nat} {v v':VM} (h:VolAt W q hp rb v) (hne:hp≠rb) {i:Nat} {u:Value} (hC:(volC q rb v).setIfInBounds i u=volC q rb v') (hB:v'.B=v.B) (hok:v'.Ok):VolAt (W.setCell ⟨hp,i,none⟩ u) q hp rb v' :=
 { hok with
   hd:=by rw [heap_setCell_same' h.hd,hC]
   row:=by rw [Below.heap_setCell W ⟨hp,i,none⟩ u rb (fun e=>hne e.symm),hB];exact h.row }
theorem SV.setHd {w0 W:World} {P:Nat→Prop} {q:Nat} {m:DM} {hp rb:Nat} {v v':VM} (h:SV w0 W P q m hp rb v) {i:Nat} {u:Value} (hC:(volC q rb v).setIfInBounds i u=volC q rb v') (hB:v'.B=v.B) (hok:v'.Ok) :
 SV w0 (W.setCell ⟨hp,i,none⟩ u) P q m hp rb v'∧Same (Rst P hp rb) W (W.setCell ⟨hp,i,none⟩ u) :=
 h.own ((Touch.refl _ _).setCell (F:=fun k=>k=hp∨k=rb) (Or.inl rfl) u) (h.at_.setHd h.ne hC hB hok)
def logW (r:Int):DM→Nat→List (List Int)→DM
 | m,_,[]=>m
 | m,o,b :: l=>logW r (m.doWrite r ((2+o:Nat):Int) b) (o+1) l
theorem logW_snoc (r:Int):∀ (l:List (List Int)) (m:DM) (o:Nat) (b:List Int),logW r m o (l++[b])=(logW r m o l).doWrite r ((2+(o+l.length):Nat):Int) b
 | [],m,o,b=>rfl
 | c :: l,m,o,b=>by
   show logW r _ (o+1) (l++[b])=_
   rw [logW_snoc r l _ (o+1) b,List.length_cons,show o+1+l.length=o+(l.length+1) by omega];rfl
theorem logW_done (r:Int):∀ (l:List (List Int)) (m:DM) (o:Nat),(logW r m o l).done.length≤m.done.length+l.length
 | [],m,o=>by simp [logW]
 | c :: l,m,o=>by
   have h1:=logW_done r l (m.doWrite r ((2+o:Nat):Int) c) (o+1)
   have h2:=done_doWrite m r ((2+o:Nat):Int) c
   show (logW r _ _ l).done.length≤_
   rw [List.length_cons];omega
def TxR (W:World) (R:Nat→Prop) (A:Option Addr) (ls:List (List Int)):Prop:=∀ i b,ls[i]?=some b→∃ a B d,A=some a∧R a.block∧W.cell? (a.add i)=some (.slice B b.length d)∧b.length≤d∧d≤9223372036854775807∧∀ j x,b[j]?=some x→∃ c,B=some c∧R c.block∧W.cell? (c.add j)=some (.int .u8 x)
theorem TxR.same {W W':World} {R:Nat→Prop} {A:Option Addr} {ls:List (List Int)} (h:TxR W R A ls) (hs:Same R W W'):TxR W' R A ls:=fun i b hi=>by
 obtain ⟨a,B,d,e,h1,h2,h3,h4,h5⟩:=h i b hi
 refine ⟨a,B,d,e,h1,?_,h3,h4,fun j x hj=>?_⟩
 ·rw [World.cell?_of_block (hs.blk _ (by rw [block_of_add'];exact h1))];exact h2
 ·obtain ⟨c,e2,h6,h7⟩:=h5 j x hj
  exact ⟨c,e2,h6,by rw [World.cell?_of_block (hs.blk _ (by rw [block_of_add'];exact h6))];exact h7⟩
theorem OwnTx.txR {W:World} {base:Nat} {v:Value} {ls:List (List Int)} (h:OwnTx W base v ls):∃ A d,v=.slice A ls.length d∧ls.length≤d∧d≤9223372036854775807∧TxR W (fun k=>base≤k∧k<W.heap.size) A ls:=by
 obtain ⟨xs,h1,h2⟩:=h
 have key:∀ (i:Nat) (b:List Int),ls[i]?=some b→∃ B d,xs[i]?=some (Value.slice B b.length d)∧b.length≤d∧d≤9223372036854775807∧∀ (j:Nat) (x:Int),b[j]?=some x→∃ c:Addr,B=some c∧(base≤c.block∧c.block<W.heap.size)∧W.cell? (c.add j)=some (.int .u8 x):=fun i b hi=>by
  obtain ⟨u,e,h3⟩:=h2 i b hi
  obtain ⟨B,d,rfl,h4,h5,h6⟩:=byt_own h3 rfl
  refine ⟨B,d,e,h4,h5,fun j x hj=>?_⟩
  obtain ⟨c,rfl,h7⟩:=h6 j x hj
  have h8:=World.block_lt_of_cell? W _ h7
  rw [block_of_add'] at h8
  rcases h3.2 with ⟨h9,_⟩ | ⟨g,cap,cur,h9,hb,_⟩
  ·cases h9
  ·injection h9 with h9;injection h9 with h9;subst h9
   exact ⟨_,rfl,⟨hb,h8⟩,h7⟩
 rcases h1.2 with ⟨rfl,h0⟩ | ⟨g,cap,cur,rfl,hb,hg,hn',hm,hs,ht⟩
 ·refine ⟨none,0,by rw [h0],by omega,by omega,fun i b hi=>?_⟩
  rw [List.length_eq_zero_iff.1 h0] at hi;cases hi
 ·refine ⟨some ⟨g,0,none⟩,cap,rfl,hn',by simp only [maxLen] at hm;omega,fun i b hi=>?_⟩
  obtain ⟨B,d,e,h4,h5,h6⟩:=key i b hi
  exact ⟨_,B,d,rfl,⟨hb,room_lt hg⟩,h1.cells (g:=g) rfl _ _ e,h4,h5,h6⟩
def VNlo (q hp n g us k y z:Nat) (r fr:Int) (B:Option Addr) (c:Nat) (i:Nat) (v:Value) (w:World):Prop :=
 match i with
 | 0 | 1 | 2 | 4 | 5 | 6 | 9 | 10=>v=.pointer (some ⟨hp,0,none⟩)
 | 3=>v=.agg (gndC (some ⟨q,0,none⟩) r n g fr)
 | 7=>v=.pointer (some ⟨hp,3,none⟩)
 | 8=>v=shQ 0 0 n g fr
 | 11=>v=.pointer (some ⟨hp,11,none⟩)
 | 12=>v=.int .i64 us
 | 13=>v=.int .i64 (k:Int)
 | 14=>v=.int .i64 (z:Int)
 | 15=>v=.int .i64 (y:Int)
 | 16=>v=.slice B 64 c
 | _=>True
set_option maxHeartbeats 6400000 in
theorem vlog_any {w0 W:World} {P:Nat→Prop} {q:Nat} {m:DM} {hp rb:Nat} {v:VM} (h:SV w0 W P q m hp rb v) (A:Option Addr) (ls:List (List Int)) (n d:Nat) (hn:ls.length=n) (hl:n≤d) (hd:d≤9223372036854775807) (hok:∀ b∈ls,BlkOk b) (hy:TxR W (Rst P hp rb) A ls)
 (hg:v.us+n≤v.g) (hsq:v.sq+1<4294967296) (hmax:m.done.length+n≤1000000) :
 Calls Tryz.prog 61 #[.pointer (some ⟨hp,0,none⟩),.slice A n d] W fun e w'=>e=.returned (.tuple #[])∧SV w0 w' P q (logW v.r m v.us ls) hp rb { v with us:=v.us+n,sq:=v.sq+1 }∧Same (Rst P hp rb) W w':=by
 have HV:=Lib.hid h
 have HN:=Lib.hid hn
 have HO:=Lib.hid hok
 have HY:=Lib.hid hy
 have HMX:=Lib.hid hmax
 have HGG:=h.at_.g
 clear h hn hok hy hmax
 go_enter Tryz.func61,Tryz.ntmps61
 go_wp2
 go_loopw [8] (fun i wr=>∃ k:Nat,i=.int .i64 k∧k≤n∧Hid (SV w0 wr P q (logW v.r m v.us (ls.take k)) hp rb v)∧Hid (Same P W wr)) (fun i _=>n-(intOf i).toNat)
 case atStart=>exact ⟨0,rfl,by omega,HV.out,Same.refl _ _⟩
 case round =>
  obtain ⟨kk,rfl,hk,HSV,HSM⟩:=hrel
  obtain ⟨w5,rfl⟩:∃ w5,w5=wr:=⟨wr,rfl⟩
  by_cases hlt:kk<n
  ·obtain ⟨b,hb⟩:∃ b,ls[kk]?=some b:=⟨_,List.getElem?_eq_getElem (by rw [HN.out];exact hlt)⟩
   have hbo:=HO.out b (List.mem_of_getElem? hb)
   obtain ⟨ad,B,c,rfl,hR,hc,hc1,hc2,hby⟩:=(HY.out.same HSM.out.rst) kk b hb
   rw [hbo.1] at hc hc1
   have HBK:=Lib.hid hbo
   have HBY:Hid (∀ W',Below w5.heap.size w5 W'→Byt W' B b):=fun W' hb' j x hj=>by
    obtain ⟨c',e,_,h7⟩:=hby j x hj
    exact ⟨c',e,keepC hb' h7⟩
   have HTK:Hid (ls.take (kk+1)=ls.take kk++[b]):=take_snoc' hb
   have hki:(kk:Int)<n:=by omega
   have HLT:Hid ((ls.take kk).length=kk):=by unfold Hid;rw [List.length_take,HN.out];omega
   have HM:Hid ((logW v.r m v.us (ls.take kk)).done.length≤1000000):=by
    have h1:=logW_done v.r (ls.take kk) m v.us
    rw [HLT.out] at h1
    have h2:=HMX.out
    unfold Hid;omega
   have HS:=Lib.hid (fun W=>Log_any 0 0 v.n v.g v.fr ((v.us+kk:Nat):Int) HGG (by omega) W)
   rw [show blockV 2 v.g ((v.us+kk:Nat):Int)=((2+(v.us+kk):Nat):Int) by unfold blockV;rw [if_pos (by omega)];omega] at HS
   have HYI:Hid (i64 ((2+(v.us+kk):Nat):Int)):=by constructor <;> omega
   have wz:IntKind.i64.wrap ((v.us:Int)+kk)=((v.us+kk:Nat):Int):=by rw [IntWalk.i64_in _ (by omega)];omega
   have HC:=Lib.hid (fun (W':World) (hb':Below w5.heap.size w5 W')=>(HSV.out.at_.below hb').cs)
   have HR:=Lib.hid HSV.out.at_.r
   have HYE:Hid (2+(v.us+kk)=2+(v.us+kk)):=rfl
   clear hbo hb hby hR
   generalize hyg:2+(v.us+kk)=y at HS HYI HYE
   have HYG:=Lib.hid hyg
   clear hyg
   generalize hzg:v.us+kk=z at *
   have HZG:=Lib.hid hzg
   clear hzg
   go_upto_region 3 with fail
   refine wp_region_rgk (VNlo q hp v.n v.g v.us kk y z v.r v.fr B c) (fun _ W=>Below w5.heap.size w5 W) (fun _ w w'=>Below w.heap.size w w') (by kernel_rfl) (by kernel_rfl) (fun i j v w w' _ _ h hs=>by unfold VNlo at *;exact h) ((Below.refl _ _).drew) ?_
   simp only [RAll]
   refine ⟨?_,?_,?_,?_,?_,?_,?_,?_,?_,?_,?_,?_,?_,?_,?_,?_,?_,?_⟩
   ·refine RStepK.of rfl fun T W L hag hL hJ hLs hd=>?_
    have e0:T.getD 0 undef=_:=(agree_at hag 0 (by kernel_rfl)).trans rfl
    clear hag hd
    go_simp
    first | exact ⟨_,rfl,rfl⟩ | exact ⟨_,rfl,rfl,brefl _⟩ | exact ⟨_,rfl,rfl,hJ,brefl _⟩
   ·refine RStepK.of rfl fun T W L hag hL hJ hLs hd=>?_
    have d13:T.getD 13 undef=_:=hd ⟨0,.data⟩ (by simp) rfl _ rfl
    clear hag hd
    go_simp
    first | exact ⟨_,rfl,rfl⟩ | exact ⟨_,rfl,rfl,brefl _⟩ | exact ⟨_,rfl,rfl,hJ,brefl _⟩
   ·refine RStepK.of rfl fun T W L hag hL hJ hLs hd=>?_
    have d14:T.getD 14 undef=_:=hd ⟨1,.data⟩ (by simp) rfl _ rfl
    clear hag hd
    go_simp
    first | exact ⟨_,rfl,rfl⟩ | exact ⟨_,rfl,rfl,brefl _⟩ | exact ⟨_,rfl,rfl,hJ,brefl _⟩
   ·refine RStepK.of rfl fun T W L hag hL hJ hLs hd=>?_
    have d15:T.getD 15 undef=_:=hd ⟨2,.data⟩ (by simp) rfl _ rfl
    obtain ⟨z0,z1,z2,z3,z4,z5,z6,z7,z8,z9,z10,z11⟩:=HC.out W hJ
    clear hag hd
    go_simp
    first | exact ⟨_,rfl,rfl⟩ | exact ⟨_,rfl,rfl,brefl _⟩ | exact ⟨_,rfl,rfl,hJ,brefl _⟩
   ·refine RStepK.of rfl fun T W L hag hL hJ hLs hd=>?_
    have e0:T.getD 0 undef=_:=(agree_at hag 0 (by kernel_rfl)).trans rfl
    clear hag hd
    go_simp
    first | exact ⟨_,rfl,rfl⟩ | exact ⟨_,rfl,rfl,brefl _⟩ | exact ⟨_,rfl,rfl,hJ,brefl _⟩
   ·refine RStepK.of rfl fun T W L hag hL hJ hLs hd=>?_
    have d17:T.getD 17 undef=_:=hd ⟨4,.data⟩ (by simp) rfl _ rfl
    clear hag hd
    go_simp
    first | exact ⟨_,rfl,rfl⟩ | exact ⟨_,rfl,rfl,brefl _⟩ | exact ⟨_,rfl,rfl,hJ,brefl _⟩
   ·refine RStepK.of rfl fun T W L hag hL hJ hLs hd=>?_
    have d18:T.getD 18 undef=_:=hd ⟨5,.data⟩ (by simp) rfl _ rfl
    clear hag hd
    go_simp
    first | exact ⟨_,rfl,rfl⟩ | exact ⟨_,rfl,rfl,brefl _⟩ | exact ⟨_,rfl,rfl,hJ,brefl _⟩
   ·refine RStepK.of rfl fun T W L hag hL hJ hLs hd=>?_
    have d19:T.getD 19 undef=_:=hd ⟨6,.data⟩ (by simp) rfl _ rfl
    clear hag hd
    go_simp
    first | exact ⟨_,rfl,rfl⟩ | exact ⟨_,rfl,rfl,brefl _⟩ | exact ⟨_,rfl,rfl,hJ,brefl _⟩
   ·refine RStepK.of rfl fun T W L hag hL hJ hLs hd=>?_
    have d20:T.getD 20 undef=_:=hd ⟨7,.data⟩ (by simp) rfl _ rfl
    obtain ⟨z0,z1,z2,z3,z4,z5,z6,z7,z8,z9,z10,z11⟩:=HC.out W hJ
    clear hag hd
    go_simp
    first | exact ⟨_,rfl,rfl⟩ | exact ⟨_,rfl,rfl,brefl _⟩ | exact ⟨_,rfl,rfl,hJ,brefl _⟩
   ·refine RStepK.of rfl fun T W L hag hL hJ hLs hd=>?_
    have e0:T.getD 0 undef=_:=(agree_at hag 0 (by kernel_rfl)).trans rfl
    clear hag hd
    go_simp
    first | exact ⟨_,rfl,rfl⟩ | exact ⟨_,rfl,rfl,brefl _⟩ | exact ⟨_,rfl,rfl,hJ,brefl _⟩
   ·refine RStepK.of rfl fun T W L hag hL hJ hLs hd=>?_
    have d22:T.getD 22 undef=_:=hd ⟨9,.data⟩ (by simp) rfl _ rfl
    clear hag hd
    go_simp
    first | exact ⟨_,rfl,rfl⟩ | exact ⟨_,rfl,rfl,brefl _⟩ | exact ⟨_,rfl,rfl,hJ,brefl _⟩
   ·refine RStepK.of rfl fun T W L hag hL hJ hLs hd=>?_
    have d23:T.getD 23 undef=_:=hd ⟨10,.data⟩ (by simp) rfl _ rfl
    clear hag hd
    go_simp
    first | exact ⟨_,rfl,rfl⟩ | exact ⟨_,rfl,rfl,brefl _⟩ | exact ⟨_,rfl,rfl,hJ,brefl _⟩
   ·refine RStepK.of rfl fun T W L hag hL hJ hLs hd=>?_
    have d24:T.getD 24 undef=_:=hd ⟨11,.data⟩ (by simp) rfl _ rfl
    obtain ⟨z0,z1,z2,z3,z4,z5,z6,z7,z8,z9,z10,z11⟩:=HC.out W hJ
    clear hag hd
    go_simp
    first | exact ⟨_,rfl,rfl⟩ | exact ⟨_,rfl,rfl,brefl _⟩ | exact ⟨_,rfl,rfl,hJ,brefl _⟩
   ·refine RStepK.of rfl fun T W L hag hL hJ hLs hd=>?_
    have e4:T.getD 4 undef=_:=(agree_at hag 4 (by kernel_rfl)).trans rfl
    clear hag hd
    go_simp
    first | exact ⟨_,rfl,rfl⟩ | exact ⟨_,rfl,rfl,brefl _⟩ | exact ⟨_,rfl,rfl,hJ,brefl _⟩
   ·refine RStepK.of rfl fun T W L hag hL hJ hLs hd=>?_
    have d25:T.getD 25 undef=_:=hd ⟨12,.data⟩ (by simp) rfl _ rfl
    have d26:T.getD 26 undef=_:=hd ⟨13,.data⟩ (by simp) rfl _ rfl
    clear hag hd
    go_simp
    first | exact ⟨_,rfl,rfl⟩ | exact ⟨_,rfl,rfl,brefl _⟩ | exact ⟨_,rfl,rfl,hJ,brefl _⟩
   ·refine RStepK.of rfl fun T W L hag hL hJ hLs hd=>?_
    have d21:T.getD 21 undef=_:=hd ⟨8,.data⟩ (by simp) rfl _ rfl
    have d27:T.getD 27 undef=_:=hd ⟨14,.data⟩ (by simp) rfl _ rfl
    clear hag hd
    go_simp
    refine (HS.out W).mono ?_
    rintro e w' ⟨rfl,hb⟩
    exact ⟨_,rfl,rfl,keepB hJ hb,hb⟩
   ·refine RStepK.of rfl fun T W L hag hL hJ hLs hd=>?_
    have e5:T.getD 5 undef=_:=(agree_at hag 5 (by kernel_rfl)).trans rfl
    clear hag hd
    go_simp
    first | exact ⟨_,rfl,rfl⟩ | exact ⟨_,rfl,rfl,brefl _⟩ | exact ⟨_,rfl,rfl,hJ,brefl _⟩
   ·refine RLastK.of rfl fun T W L hag hLs hL hJ hd=>?_
    have d16:T.getD 16 undef=_:=hd 3 _ (by simp) rfl
    have d28:T.getD 28 undef=_:=hd 15 _ (by simp) rfl
    have d29:T.getD 29 undef=_:=hd 16 _ (by simp) rfl
    obtain ⟨f,hf,hT⟩:=agree_fn hag
    have d13:T.getD 13 undef=_:=hd 0 _ (by simp) rfl
    have h13:=(hf 13).trans d13
    have d14:T.getD 14 undef=_:=hd 1 _ (by simp) rfl
    have h14:=(hf 14).trans d14
    have d15:T.getD 15 undef=_:=hd 2 _ (by simp) rfl
    have h15:=(hf 15).trans d15
    have h16:=(hf 16).trans d16
    have d17:T.getD 17 undef=_:=hd 4 _ (by simp) rfl
    have h17:=(hf 17).trans d17
    have d18:T.getD 18 undef=_:=hd 5 _ (by simp) rfl
    have h18:=(hf 18).trans d18
    have d19:T.getD 19 undef=_:=hd 6 _ (by simp) rfl
    have h19:=(hf 19).trans d19
    have d20:T.getD 20 undef=_:=hd 7 _ (by simp) rfl
    have h20:=(hf 20).trans d20
    have d21:T.getD 21 undef=_:=hd 8 _ (by simp) rfl
    have h21:=(hf 21).trans d21
    have d22:T.getD 22 undef=_:=hd 9 _ (by simp) rfl
    have h22:=(hf 22).trans d22
    have d23:T.getD 23 undef=_:=hd 10 _ (by simp) rfl
    have h23:=(hf 23).trans d23
    have d24:T.getD 24 undef=_:=hd 11 _ (by simp) rfl
    have h24:=(hf 24).trans d24
    have d25:T.getD 25 undef=_:=hd 12 _ (by simp) rfl
    have h25:=(hf 25).trans d25
    have d26:T.getD 26 undef=_:=hd 13 _ (by simp) rfl
    have h26:=(hf 26).trans d26
    have d27:T.getD 27 undef=_:=hd 14 _ (by simp) rfl
    have h27:=(hf 27).trans d27
    have h28:=(hf 28).trans d28
    have h29:=(hf 29).trans d29
    have HJ:=Lib.hid hJ
    clear hag hd d13 d14 d15 d16 d17 d18 d19 d20 d21 d22 d23 d24 d25 d26 d27 d28 d29 hJ hf
    rw [hT]
    clear hT
    simp only [List.pop_toArray,List.dropLast_cons_cons,List.dropLast_singleton,List.filterMap_cons,List.filterMap_nil,List.foldl_cons,List.foldl_nil,List.setIfInBounds_toArray,List.set_cons_succ,List.set_cons_zero,h13,h14,h15,h16,h17,h18,h19,h20,h21,h22,h23,h24,h25,h26,h27,h28,h29]
    have hd:=HSV.out.below HJ.out
    go_simp
    refine (gwrite_any hd.ds v.r HR.out v.n v.g v.fr (y:Int) HYI.out B b c HBK.out (HBY.out W HJ.out) HM.out).mono ?_
    rintro e w' ⟨rfl,hd',hs⟩
    have hst:=hd.step hd' hs
    have HST:=Lib.hid hst
    have HSM3:=Lib.hid ((HSM.out.trans (HSV.out.same HJ.out)).trans hs)
    clear hd hd' hs hst
    go_wp2
    have key:logW v.r m v.us (ls.take (kk+1))=(logW v.r m v.us (ls.take kk)).doWrite v.r (y:Int) b:=by
     rw [HTK.out,logW_snoc,HLT.out,HZG.out,HYG.out]
    have HF:Hid (SV w0 w' P q (logW v.r m v.us (ls.take (kk+1))) hp rb v):=by rw [key];exact HST.out
    clear key
    go_roundw
    case rel=>exact ⟨kk+1,by go_num,by omega,HF.out,HSM3.out⟩
    case measure=>simp [intOf];omega
  ·obtain rfl:kk=n:=by omega
   have hki:¬ ((kk:Int)<kk):=by omega
   have hsv:=HSV.out
   rw [List.take_of_length_le (by rw [HN.out];exact Nat.le_refl _)] at hsv
   have h1:=hsv.setHd (i:=11) (u:=.int .i64 ((v.us+kk:Nat):Int)) (v':={ v with us:=v.us+kk }) rfl rfl { hsv.at_.toOk with us:=by show v.us+kk≤2000;omega }
   have h2:=h1.1.setHd (i:=10) (u:=.int .u32 ((v.sq+1:Nat):Int)) (v':={ v with us:=v.us+kk,sq:=v.sq+1 }) rfl rfl { h1.1.at_.toOk with sq:=by show v.sq+1<4294967296;omega }
   have HF:=Lib.hid h2.1
   have HFS:=Lib.hid ((HSM.out.rst.trans h1.2).trans h2.2)
   have z11:=hsv.at_.c11
   have y11:=hsv.at_.f 11
   have z10:=h1.1.at_.c10
   have y10:=h1.1.at_.f 10
   have wz:IntKind.i64.wrap ((v.us:Int)+kk)=((v.us+kk:Nat):Int):=by rw [IntWalk.i64_in _ (by omega)];omega
   have wq:IntKind.u32.wrap ((v.sq:Int)+1)=((v.sq+1:Nat):Int):=by rw [IntWalk.u32_in _ (by omega)];omega
   have z10':(w5.setCell ⟨hp,11,none⟩ (.int .i64 ((v.us+kk:Nat):Int))).cell? ⟨hp,10,none⟩=some (.int .u32 v.sq):=z10
   clear h1 h2 hsv z10
   generalize hzg:v.us+kk=z at *
   generalize hsg:v.sq+1=sq1 at *
   have HZG:=Lib.hid (And.intro hzg hsg)
   clear hzg hsg
   go_wp2
   go_end0
   rw [HZG.out.1,HZG.out.2]
   exact ⟨rfl,HF.out,HFS.out⟩
end Go.Proofs.YtamnpblijdgdaaaGreat
