/- For VolAll: contracts and facts, part 22. -/
import Derived.Test.YtamnpblijdgdaaaGreatV02
import Derived.Test.YtamnpblijdgdaaaGreatV21
namespace Go.Proofs.YtamnpblijdgdaaaGreat
open Go.ChangeShapes Go.WideShapes Go.ChangeAt Go.RowKit
set_option linter.unusedVariables false
set_option maxRecDepth 100000
theorem vtidy_any {w0 W:World} {P:Nat→Prop} {q:Nat} {m:DM} {hp rb:Nat} {v:VM} (h:SV w0 W P q m hp rb v) (hep:v.ep+1<4294967296) (hmax:m.done.length≤998999) :
 Calls Tryz.prog 17 #[.pointer (some ⟨hp,0,none⟩)] W fun e w'=>e=.returned (.tuple #[])∧SV w0 w' P q (homeM (m.doBarrier v.r) v) hp rb (homeV v)∧Same (Rst P hp rb) W w':=by
 have HV:=Lib.hid h
 have HM:=Lib.hid hmax
 clear h hmax
 go_enter Tryz.func17,Tryz.ntmps17
 go_wp2_with (with_reducible refine wpList_load_mid rfl 87 (.tmp 6) rfl hp 0 rfl (gndLs (some ⟨q,0,none⟩) v.r v.n v.g v.fr) _ HV.out.at_.rangeG Tryz.underlying87 rfl (by rw [show (gndLs (some ⟨q,0,none⟩) v.r v.n v.g v.fr).length=8 from rfl];exact size82) ?_)
 refine (gbarrier_any HV.out.ds v.r HV.out.at_.r v.n v.g v.fr (by have:=HM.out;omega)).mono ?_
 rintro e w1 ⟨rfl,hd,hs⟩
 have h1:=HV.out.step hd hs
 have hb:=done_doBarrier m v.r
 have HC:=Lib.hid (vgoHome_any h1 hep (by have:=HM.out;omega))
 have HS:=Lib.hid (hs.rst (hp:=hp) (rb:=rb))
 clear hd hs h1 hb
 go_wp2_with fail
 refine HC.out.mono ?_
 rintro e w2 ⟨rfl,h2,hs2⟩
 have HF:=Lib.hid h2
 have HFS:=Lib.hid (HS.out.trans hs2)
 clear h2 hs2 HC
 go_wp2
 go_end0
 exact ⟨rfl,HF.out,HFS.out⟩
theorem wp_scope2r {P:Program} {a:Act} {w:World} {Q:Exit→Act→World→Prop} {c r0 r1:Code} (J0 J1:Act→World→Prop) (μ:Act→World→Nat)
 (h0:findLabel c 0=some r0) (h1:findLabel c 1=some (.seq .skip r1))
 (first:(∀ a w,J1 a w→r1.wp P (jumps (fun l a w=>match l with | 0=>J0 a w | 1=>J1 a w | _=>False) Q) a w)→c.wp P (jumps (fun l a w=>match l with | 0=>J0 a w | 1=>J1 a w | _=>False) Q) a w)
 (pass1:∀ a w,J1 a w→r1.wp P (jumps (fun l a' w'=>match l with | 0=>J0 a' w' | 1=>J1 a' w'∧μ a' w'<μ a w | _=>False) Q) a w)
 (pass0:∀ a w,J0 a w→r0.wp P (jumps (fun _ _ _=>False) Q) a w):(Code.scope c).wp P Q a w:=by
 refine wp_scope_multi (fun l a w=>match l with | 0=>J0 a w | 1=>J1 a w | _=>False) (fun l a w=>match l with | 1=>μ a w+1 | _=>0) ?_ (first fun a w h=>?_) ?_
 ·intro l a w h
  match l,h with
  | 0,_=>exact ⟨_,h0⟩
  | 1,_=>exact ⟨_,h1⟩
 ·refine wp_mono (pass1 a w h) ?_
  intro e a' w' he
  cases e with
  | goto l'=>match l',he with
    | 0,he=>exact he
    | 1,he=>exact he.1
  | _=>exact he
 ·intro l rest hl a w hJ
  match l,hJ with
  | 0,hJ =>
    rw [h0] at hl;injection hl with hl;subst hl
    refine wp_mono (pass0 a w hJ) ?_
    intro e a' w' he
    cases e with
    | goto l'=>exact he.elim
    | _=>exact he
  | 1,hJ =>
    rw [h1] at hl;injection hl with hl;subst hl
    refine wp_seq (wp_skip (wp_mono (pass1 a w hJ) ?_))
    intro e a' w' he
    cases e with
    | goto l'=>match l',he with
      | 0,he=>exact ⟨he,Nat.succ_pos _⟩
      | 1,he=>exact ⟨he.1,Nat.succ_lt_succ he.2⟩
    | _=>exact he
theorem TxR.mono {W:World} {R R':Nat→Prop} {A:Option Addr} {ls:List (List Int)} (h:TxR W R A ls) (hR:∀ k,R k→R' k):TxR W R' A ls:=fun i b hi =>
 let ⟨a,B,d,e,h1,h2,h3,h4,h5⟩:=h i b hi;⟨a,B,d,e,hR _ h1,h2,h3,h4,fun j x hj=>let ⟨c,e2,h6,h7⟩:=h5 j x hj;⟨c,e2,hR _ h6,h7⟩⟩
def ChOk (v:VM) (l:List Wr):Prop:=MayL l∧hasAllV v l=true
instance (v:VM) (l:List Wr):Decidable (ChOk v l):=by unfold ChOk;infer_instance
def tidyM (m:DM) (v:VM):DM:=homeM (m.doBarrier v.r) v
def Tight (v:VM) (l:List Wr):Prop:=v.g-v.us<1+l.length
instance (v:VM) (l:List Wr):Decidable (Tight v l):=by unfold Tight;infer_instance
def putM (m:DM) (v:VM) (l:List Wr):DM:=logW v.r m v.us (putL 0 v.ep v.sq l)
def putV (v:VM) (l:List Wr):VM:={ v with B:=layB v.B l,us:=v.us+(1+l.length),sq:=v.sq+1 }
def chM (m:DM) (v:VM) (l:List Wr):DM:=if ChOk v l then (if Tight v l then putM (tidyM m v) (homeV v) l else putM m v l) else m
def chV (v:VM) (l:List Wr):VM:=if ChOk v l then (if Tight v l then putV (homeV v) l else putV v l) else v
theorem MayL.kinds {l:List Wr} (h:MayL l):KindsOk l:=fun x hx=>(h.2.1 x hx).1
theorem putL_blk (e s:Nat) {l:List Wr} (hm:MayL l) (hok:WrsOk l):∀ b∈putL 0 e s l,BlkOk b:=fun b hb=>by
 refine ⟨?_,putL_txOk e s (by omega) hm hok b hb⟩
 unfold putL at hb
 rcases List.mem_cons.1 hb with rfl | hb
 ·exact sumd_length (by rw [headR_length];have:=hm.1.2;omega)
 ·obtain ⟨x,hx,rfl⟩:=List.mem_map.1 hb
  exact sumd_length (by rw [bearB_length (hok x hx).len];exact Nat.le_refl _)
theorem homeM_done (m:DM) (v:VM):(homeM m v).done.length≤m.done.length+v.B.length+3:=by
 have h1:=homeW_done v.r v.g v.B m 0
 have h2:=done_doBarrier (homeW v.r v.g m 0 v.B) v.r
 have h3:=done_doWrite ((homeW v.r v.g m 0 v.B).doBarrier v.r) v.r (((v.ep+1)%2:Nat):Int) (anchorB 0 (v.ep+1))
 have h4:=done_doBarrier (((homeW v.r v.g m 0 v.B).doBarrier v.r).doWrite v.r (((v.ep+1)%2:Nat):Int) (anchorB 0 (v.ep+1))) v.r
 unfold homeM DM.doBegin
 omega
theorem tidyM_done (m:DM) (v:VM):(tidyM m v).done.length≤m.done.length+v.B.length+4:=by
 have h1:=homeM_done (m.doBarrier v.r) v
 have h2:=done_doBarrier m v.r
 unfold tidyM;omega
theorem homeV_ok {v:VM} (h:v.Ok) (hep:v.ep+1<4294967296):(homeV v).Ok :=
 { len:=by show (v.B.map unlog).length=v.n;rw [List.length_map];exact h.len
   ok:=fun x hx=>by
    obtain ⟨y,hy,rfl⟩:=List.mem_map.1 hx
    exact ⟨(h.ok y hy).k,(h.ok y hy).len,(h.ok y hy).b⟩
   n:=h.n,g:=h.g,r:=h.r,ep:=hep,sq:=by show (0:Nat)<4294967296;omega,us:=by show (0:Nat)≤2000;omega }
def VNch (hp base n d:Nat) (e s:Int) (A:Option Addr) (b:Bool) (ls:List (List Int)) (i:Nat) (v:Value) (w:World):Prop :=
 match i with
 | 0 | 1 | 2 | 5 | 6 | 9 | 10=>v=.pointer (some ⟨hp,0,none⟩)
 | 3=>v=.pointer (some ⟨hp,2,none⟩)
 | 4=>v=.int .u8 0
 | 7=>v=.pointer (some ⟨hp,9,none⟩)
 | 8=>v=.int .u32 (e:Int)
 | 11=>v=.pointer (some ⟨hp,10,none⟩)
 | 12=>v=.int .u32 (s:Int)
 | 13=>v=.slice A n d
 | 17=>v=.bool b
 | 14=>∃ u,v=.tuple #[u,.bool b]∧OwnTx w base u ls
 | 15=>∃ u,v=.tuple #[u,.bool b]∧OwnTx w base u ls
 | 16=>OwnTx w base v ls
 | 18=>OwnTx w base v ls
 | _=>True
def AtPut (w0 W:World) (P:Nat→Prop) (q:Nat) (m:DM) (hp rb:Nat) (v:VM) (l:List Wr) (A:Option Addr) (n d:Nat) (a':Act) (w':World):Prop :=
 ∃ mm vv,Hid (SV w0 w' P q mm hp rb vv)∧Hid (Same (Rst P hp rb) W w')∧Hid ((mm=m∧vv=v)∨(mm=tidyM m v∧vv=homeV v∧ChOk v l∧Tight v l))∧∃ u5 u6 u7 u8 u9 u10 u11 u12 u13 u14 u15 u16 u17 u18 u19 u20 u21 u22 u23 u24 u25 u26 u27 u28 u29 u30 u31 u32 u33 u34 u35 u36 u37 u38 u39 u40 u41 u42 u43 u44 u45 u46 u47 u48 u49 u50 u51 u52 u53 u54 u55 u56:Value,a'={ tmps:=#[.pointer (some ⟨hp,0,none⟩),.slice A n d,undef,undef,.int .i64 0,u5,u6,u7,u8,u9,u10,u11,u12,u13,u14,u15,u16,u17,u18,u19,u20,u21,u22,u23,u24,u25,u26,u27,u28,u29,u30,u31,u32,u33,u34,u35,u36,u37,u38,u39,u40,u41,u42,u43,u44,u45,u46,u47,u48,u49,u50,u51,u52,u53,u54,u55,u56],defers:=[] }
def AtRef (w0 W:World) (P:Nat→Prop) (q:Nat) (m:DM) (hp rb:Nat) (v:VM) (l:List Wr) (a':Act) (w':World):Prop :=
 Hid (SV w0 w' P q m hp rb v)∧Hid (Same (Rst P hp rb) W w')∧Hid (¬ ChOk v l)∧∃ u1 u2 u3 u4 u5 u6 u7 u8 u9 u10 u11 u12 u13 u14 u15 u16 u17 u18 u19 u20 u21 u22 u23 u24 u25 u26 u27 u28 u29 u30 u31 u32 u33 u34 u35 u36 u37 u38 u39 u40 u41 u42 u43 u44 u45 u46 u47 u48 u49 u50 u51 u52 u53 u54 u55 u56:Value,a'={ tmps:=#[.pointer (some ⟨hp,0,none⟩),u1,u2,u3,u4,u5,u6,u7,u8,u9,u10,u11,u12,u13,u14,u15,u16,u17,u18,u19,u20,u21,u22,u23,u24,u25,u26,u27,u28,u29,u30,u31,u32,u33,u34,u35,u36,u37,u38,u39,u40,u41,u42,u43,u44,u45,u46,u47,u48,u49,u50,u51,u52,u53,u54,u55,u56],defers:=[] }
def usAt (hp:Nat) (w:World):Nat:=match w.cell? ⟨hp,11,none⟩ with | some v=>(intOf v).toNat | none=>0
theorem usAt_of {W:World} {q hp rb:Nat} {v:VM} (h:VolAt W q hp rb v):usAt hp W=v.us:=by unfold usAt;rw [h.c11];simp [intOf]
set_option maxHeartbeats 1600000 in
theorem vchange_any {w0 W:World} {P:Nat→Prop} {q:Nat} {m:DM} {hp rb:Nat} {v:VM} (h:SV w0 W P q m hp rb v) (A:Option Addr) (l:List Wr) (n d:Nat) (hn:l.length=n) (hl:n≤d) (hd:d≤9223372036854775807) (hok:WrsOk l) (hy:WrsR W (Rst P hp rb) A l)
 (hus:v.us≤v.g) (hg13:13≤v.g) (hep:v.ep+1<4294967296) (hsq:v.sq+1<4294967296) (hmax:m.done.length≤998000) :
 Calls Tryz.prog 21 #[.pointer (some ⟨hp,0,none⟩),.slice A n d] W fun e w'=>e=.returned (.int .i64 (if ChOk v l then 0 else 1))∧SV w0 w' P q (chM m v l) hp rb (chV v l)∧Same (Rst P hp rb) W w':=by
 have HV:=Lib.hid h
 have HN:=Lib.hid hn
 have HO:=Lib.hid hok
 have HY:=Lib.hid hy
 have HMX:=Lib.hid hmax
 have HB:=Lib.hid (And.intro hus (And.intro hg13 (And.intro hep hsq)))
 clear h hn hok hy hmax hus hg13 hep hsq
 obtain ⟨WW,rfl⟩:∃ WW,WW=W:=⟨W,rfl⟩
 go_enter Tryz.func21,Tryz.ntmps21
 go_wp2
 refine wp_scope2r (AtRef w0 WW P q m hp rb v l) (AtPut w0 WW P q m hp rb v l A n d) (fun _ w'=>usAt hp w') rfl rfl ?_ ?_ ?_
 ·intro HF0
  have HF:=Lib.hid HF0
  clear HF0
  go_wp2
  go_step3
  rename_i hK
  exact hK _ _ (HF.out _ _ ⟨m,v,HV.out,Same.refl _ _,Or.inl ⟨rfl,rfl⟩,_,_,_,_,_,_,_,_,_,_,_,_,_,_,_,_,_,_,_,_,_,_,_,_,_,_,_,_,_,_,_,_,_,_,_,_,_,_,_,_,_,_,_,_,_,_,_,_,_,_,_,_,rfl⟩)
 ·rintro a' w5 ⟨mm,vv,HSV,HSM,HST,u5,u6,u7,u8,u9,u10,u11,u12,u13,u14,u15,u16,u17,u18,u19,u20,u21,u22,u23,u24,u25,u26,u27,u28,u29,u30,u31,u32,u33,u34,u35,u36,u37,u38,u39,u40,u41,u42,u43,u44,u45,u46,u47,u48,u49,u50,u51,u52,u53,u54,u55,u56,rfl⟩
  have HC:=Lib.hid (fun (W':World) (hb':Below w5.heap.size w5 W')=>(HSV.out.at_.below hb').cs)
  have HPUT:=Lib.hid (fun (W':World) (hb':Below w5.heap.size w5 W')=>put_any 0 vv.ep vv.sq A l n d W' (by omega) HSV.out.at_.ep HSV.out.at_.sq HN.out hl hd HO.out (((HY.out.same HSM.out).wrs).keep hb'))
  go_upto_region 4 with fail
  refine wp_region_rgk (VNch hp w5.heap.size n d vv.ep vv.sq A (decide (MayL l)) (putX 0 vv.ep vv.sq l)) (fun _ W=>Below w5.heap.size w5 W) (fun _ w w'=>Below w.heap.size w w') (by kernel_rfl) (by kernel_rfl) (fun i j v w w' _ _ h hs=>by revert h;unfold VNch;split <;> intro h <;> first | exact h | (obtain ⟨p,h1,h2⟩:=h;exact ⟨p,h1,h2.keep hs⟩) | exact OwnTx.keep h hs | trivial) ((Below.refl _ _).drew) ?_
  simp only [RAll]
  refine ⟨?_,?_,?_,?_,?_,?_,?_,?_,?_,?_,?_,?_,?_,?_,?_,?_,?_,?_,?_,?_⟩
  ·refine RStepK.of rfl fun T W L hag hL hJ hLs hd=>?_
   have e0:T.getD 0 undef=_:=(agree_at hag 0 (by kernel_rfl)).trans rfl
   clear hag hd
   go_simp
   first | exact ⟨_,rfl,rfl⟩ | exact ⟨_,rfl,rfl,brefl _⟩ | exact ⟨_,rfl,rfl,hJ,brefl _⟩
  ·refine RStepK.of rfl fun T W L hag hL hJ hLs hd=>?_
   have d10:T.getD 10 undef=_:=hd ⟨0,.data⟩ (by simp) rfl _ rfl
   clear hag hd
   go_simp
   first | exact ⟨_,rfl,rfl⟩ | exact ⟨_,rfl,rfl,brefl _⟩ | exact ⟨_,rfl,rfl,hJ,brefl _⟩
  ·refine RStepK.of rfl fun T W L hag hL hJ hLs hd=>?_
   have d11:T.getD 11 undef=_:=hd ⟨1,.data⟩ (by simp) rfl _ rfl
   clear hag hd
   go_simp
   first | exact ⟨_,rfl,rfl⟩ | exact ⟨_,rfl,rfl,brefl _⟩ | exact ⟨_,rfl,rfl,hJ,brefl _⟩
  ·refine RStepK.of rfl fun T W L hag hL hJ hLs hd=>?_
   have d12:T.getD 12 undef=_:=hd ⟨2,.data⟩ (by simp) rfl _ rfl
   clear hag hd
   go_simp
   first | exact ⟨_,rfl,rfl⟩ | exact ⟨_,rfl,rfl,brefl _⟩ | exact ⟨_,rfl,rfl,hJ,brefl _⟩
  ·refine RStepK.of rfl fun T W L hag hL hJ hLs hd=>?_
   have d13:T.getD 13 undef=_:=hd ⟨3,.data⟩ (by simp) rfl _ rfl
   obtain ⟨z0,z1,z2,z3,z4,z5,z6,z7,z8,z9,z10,z11⟩:=HC.out W hJ
   clear hag hd
   go_simp
   first | exact ⟨_,rfl,rfl⟩ | exact ⟨_,rfl,rfl,brefl _⟩ | exact ⟨_,rfl,rfl,hJ,brefl _⟩
  ·refine RStepK.of rfl fun T W L hag hL hJ hLs hd=>?_
   have e0:T.getD 0 undef=_:=(agree_at hag 0 (by kernel_rfl)).trans rfl
   clear hag hd
   go_simp
   first | exact ⟨_,rfl,rfl⟩ | exact ⟨_,rfl,rfl,brefl _⟩ | exact ⟨_,rfl,rfl,hJ,brefl _⟩
  ·refine RStepK.of rfl fun T W L hag hL hJ hLs hd=>?_
   have d15:T.getD 15 undef=_:=hd ⟨5,.data⟩ (by simp) rfl _ rfl
   clear hag hd
   go_simp
   first | exact ⟨_,rfl,rfl⟩ | exact ⟨_,rfl,rfl,brefl _⟩ | exact ⟨_,rfl,rfl,hJ,brefl _⟩
  ·refine RStepK.of rfl fun T W L hag hL hJ hLs hd=>?_
   have d16:T.getD 16 undef=_:=hd ⟨6,.data⟩ (by simp) rfl _ rfl
   clear hag hd
   go_simp
   first | exact ⟨_,rfl,rfl⟩ | exact ⟨_,rfl,rfl,brefl _⟩ | exact ⟨_,rfl,rfl,hJ,brefl _⟩
  ·refine RStepK.of rfl fun T W L hag hL hJ hLs hd=>?_
   have d17:T.getD 17 undef=_:=hd ⟨7,.data⟩ (by simp) rfl _ rfl
   obtain ⟨z0,z1,z2,z3,z4,z5,z6,z7,z8,z9,z10,z11⟩:=HC.out W hJ
   clear hag hd
   go_simp
   first | exact ⟨_,rfl,rfl⟩ | exact ⟨_,rfl,rfl,brefl _⟩ | exact ⟨_,rfl,rfl,hJ,brefl _⟩
  ·refine RStepK.of rfl fun T W L hag hL hJ hLs hd=>?_
   have e0:T.getD 0 undef=_:=(agree_at hag 0 (by kernel_rfl)).trans rfl
   clear hag hd
   go_simp
   first | exact ⟨_,rfl,rfl⟩ | exact ⟨_,rfl,rfl,brefl _⟩ | exact ⟨_,rfl,rfl,hJ,brefl _⟩
  ·refine RStepK.of rfl fun T W L hag hL hJ hLs hd=>?_
   have d19:T.getD 19 undef=_:=hd ⟨9,.data⟩ (by simp) rfl _ rfl
   clear hag hd
   go_simp
   first | exact ⟨_,rfl,rfl⟩ | exact ⟨_,rfl,rfl,brefl _⟩ | exact ⟨_,rfl,rfl,hJ,brefl _⟩
  ·refine RStepK.of rfl fun T W L hag hL hJ hLs hd=>?_
   have d20:T.getD 20 undef=_:=hd ⟨10,.data⟩ (by simp) rfl _ rfl
   clear hag hd
   go_simp
   first | exact ⟨_,rfl,rfl⟩ | exact ⟨_,rfl,rfl,brefl _⟩ | exact ⟨_,rfl,rfl,hJ,brefl _⟩
  ·refine RStepK.of rfl fun T W L hag hL hJ hLs hd=>?_
   have d21:T.getD 21 undef=_:=hd ⟨11,.data⟩ (by simp) rfl _ rfl
   obtain ⟨z0,z1,z2,z3,z4,z5,z6,z7,z8,z9,z10,z11⟩:=HC.out W hJ
   clear hag hd
   go_simp
   first | exact ⟨_,rfl,rfl⟩ | exact ⟨_,rfl,rfl,brefl _⟩ | exact ⟨_,rfl,rfl,hJ,brefl _⟩
  ·refine RStepK.of rfl fun T W L hag hL hJ hLs hd=>?_
   have e1:T.getD 1 undef=_:=(agree_at hag 1 (by kernel_rfl)).trans rfl
   clear hag hd
   go_simp
   first | exact ⟨_,rfl,rfl⟩ | exact ⟨_,rfl,rfl,brefl _⟩ | exact ⟨_,rfl,rfl,hJ,brefl _⟩
  ·refine RStepK.of rfl fun T W L hag hL hJ hLs hd=>?_
   have d14:T.getD 14 undef=_:=hd ⟨4,.data⟩ (by simp) rfl _ rfl
   have d18:T.getD 18 undef=_:=hd ⟨8,.data⟩ (by simp) rfl _ rfl
   have d22:T.getD 22 undef=_:=hd ⟨12,.data⟩ (by simp) rfl _ rfl
   have d23:T.getD 23 undef=_:=hd ⟨13,.data⟩ (by simp) rfl _ rfl
   clear hag hd
   go_simp
   refine (HPUT.out W hJ).mono ?_
   rintro e w' ⟨u,rfl,hu,hb⟩
   exact ⟨_,rfl,⟨_,rfl,hu.mono hJ.size⟩,keepB hJ hb,hb⟩
  ·refine RStepK.of rfl fun T W L hag hL hJ hLs hd=>?_
   have x24:=hd ⟨14,.data⟩ (by simp) rfl _ rfl
   obtain ⟨u,(hs:T.getD 24 undef=_),hp⟩:=x24
   clear hag hd
   go_simp
   exact ⟨_,rfl,⟨_,rfl,hp⟩,brefl _⟩
  ·refine RStepK.of rfl fun T W L hag hL hJ hLs hd=>?_
   have x9:=hd ⟨15,.data⟩ (by simp) rfl _ rfl
   obtain ⟨u,(hs:T.getD 9 undef=_),hp⟩:=x9
   clear hag hd
   go_simp
   exact ⟨_,rfl,hp,brefl _⟩
  ·refine RStepK.of rfl fun T W L hag hL hJ hLs hd=>?_
   have x9:=hd ⟨15,.data⟩ (by simp) rfl _ rfl
   obtain ⟨u,(hs:T.getD 9 undef=_),hp⟩:=x9
   clear hag hd
   go_simp
   first | exact ⟨_,rfl,rfl⟩ | exact ⟨_,rfl,rfl,brefl _⟩ | exact ⟨_,rfl,rfl,hJ,brefl _⟩
  ·refine RStepK.of rfl fun T W L hag hL hJ hLs hd=>?_
   have x25:=hd ⟨16,.data⟩ (by simp) rfl _ rfl
   have x25':OwnTx W w5.heap.size (T.getD 25 undef) (putX 0 vv.ep vv.sq l):=x25
   clear hag hd x25
   go_simp
   exact ⟨_,rfl,(by show OwnTx W w5.heap.size (T[25]?.getD undef) (putX 0 vv.ep vv.sq l);simpa using x25'),brefl _⟩
  ·refine RLastK.of rfl fun T W L hag hLs hL hJ hd=>?_
   have d26:T.getD 26 undef=_:=hd 17 _ (by simp) rfl
   obtain ⟨f,hf,hT⟩:=agree_fn hag
   have d10:T.getD 10 undef=_:=hd 0 _ (by simp) rfl
   have h10:=(hf 10).trans d10
   have d11:T.getD 11 undef=_:=hd 1 _ (by simp) rfl
   have h11:=(hf 11).trans d11
   have d12:T.getD 12 undef=_:=hd 2 _ (by simp) rfl
   have h12:=(hf 12).trans d12
   have d13:T.getD 13 undef=_:=hd 3 _ (by simp) rfl
   have h13:=(hf 13).trans d13
   have d14:T.getD 14 undef=_:=hd 4 _ (by simp) rfl
   have h14:=(hf 14).trans d14
   have d15:T.getD 15 undef=_:=hd 5 _ (by simp) rfl
   have h15:=(hf 15).trans d15
   have d16:T.getD 16 undef=_:=hd 6 _ (by simp) rfl
   have h16:=(hf 16).trans d16
   have d17:T.getD 17 undef=_:=hd 7 _ (by simp) rfl
   have h17:=(hf 17).trans d17
   have d18:T.getD 18 undef=_:=hd 8 _ (by simp) rfl
   have h18:=(hf 18).trans d18
   have d19:T.getD 19 undef=_:=hd 9 _ (by simp) rfl
   have h19:=(hf 19).trans d19
   have d20:T.getD 20 undef=_:=hd 10 _ (by simp) rfl
   have h20:=(hf 20).trans d20
   have d21:T.getD 21 undef=_:=hd 11 _ (by simp) rfl
   have h21:=(hf 21).trans d21
   have d22:T.getD 22 undef=_:=hd 12 _ (by simp) rfl
   have h22:=(hf 22).trans d22
   have d23:T.getD 23 undef=_:=hd 13 _ (by simp) rfl
   have h23:=(hf 23).trans d23
   have h26:=(hf 26).trans d26
   have HJ:=Lib.hid hJ
   have x5:OwnTx W w5.heap.size (T.getD 5 undef) (putX 0 vv.ep vv.sq l):=hd 18 _ (by simp) rfl
   obtain ⟨B,c,hv,hc1,hc2,htx⟩:=x5.txR
   have h5:=(hf 5).trans hv
   have HTX:=Lib.hid htx
   have HCC:=Lib.hid (And.intro hc1 hc2)
   clear x5 hv htx hc1 hc2
   clear hag hd d10 d11 d12 d13 d14 d15 d16 d17 d18 d19 d20 d21 d22 d23 d26 hJ hf
   rw [hT]
   clear hT
   simp only [List.pop_toArray,List.dropLast_cons_cons,List.dropLast_singleton,List.filterMap_cons,List.filterMap_nil,List.foldl_cons,List.foldl_nil,List.setIfInBounds_toArray,List.set_cons_succ,List.set_cons_zero,h10,h11,h12,h13,h14,h15,h16,h17,h18,h19,h20,h21,h22,h23,h26]
   simp only [h5]
   have hsv6:=HSV.out.grow HJ.out (Q:=fun k=>w5.heap.size≤k∧k<W.heap.size) (fun k hk=>hk)
   have HS6:=Lib.hid hsv6
   have HS6p:=Lib.hid (HSV.out.below HJ.out)
   have HM6:=Lib.hid (HSM.out.trans (Same.rst (HSV.out.same HJ.out)))
   have hlp:=HSV.out.ds.low _ HSV.out.ph
   have hlr:=HSV.out.ds.low _ HSV.out.pr
   have HLOW:=Lib.hid (And.intro hlp hlr)
   clear hsv6 hlp hlr HPUT HC
   by_cases hmay:MayL l
   ·have HMAY:=Lib.hid hmay
    have hcx:putX 0 vv.ep vv.sq l=putL 0 vv.ep vv.sq l:=putX_may hmay
    have hlen:(putX 0 vv.ep vv.sq l).length=1+n:=by rw [hcx,putL_length,HN.out]
    rw [hlen] at HCC ⊢
    rw [hcx] at HTX
    rw [decide_eq_true hmay]
    have hn12:n≤12:=by have:=hmay.1.2;rw [HN.out] at this;exact this
    have HHA:=Lib.hid (vhasAll_any HS6p.out.at_ A l n d HN.out hl hd HO.out ((HY.out.same HM6.out).wrs))
    clear hmay hcx hlen
    go_wp2_with fail
    refine HHA.out.mono ?_
    rintro e w' ⟨rfl,rfl⟩
    have hhv:hasAllV vv l=hasAllV v l:=by rcases HST.out with ⟨_,h2⟩ | ⟨_,h2,_⟩ <;> rw [h2] <;> rfl
    cases hq:hasAllV vv l
    ·have hno:¬ ChOk v l:=fun h=>by have:=h.2;rw [← hhv,hq] at this;cases this
     have hmv:mm=m∧vv=v:=by rcases HST.out with h1 | ⟨_,_,h1,_⟩;exact h1;exact absurd h1 hno
     have HNO:=Lib.hid hno
     have HR6:Hid (SV w0 W P q m hp rb v):=by rw [← hmv.1,← hmv.2];exact HS6p.out
     clear hno hmv hhv hq
     go_wp2
     go_step3
     exact (show AtRef _ _ _ _ _ _ _ _ _ _ _ from ⟨HR6.out,HM6.out,HNO.out,_,_,_,_,_,_,_,_,_,_,_,_,_,_,_,_,_,_,_,_,_,_,_,_,_,_,_,_,_,_,_,_,_,_,_,_,_,_,_,_,_,_,_,_,_,_,_,_,_,_,_,_,_,_,_,_,rfl⟩)
    ·have hok:ChOk v l:=⟨HMAY.out,by rw [← hhv];exact hq⟩
     have HOK:=Lib.hid hok
     have z6:=HS6p.out.at_.c6
     have hgv:vv.g=v.g:=by rcases HST.out with ⟨_,h2⟩ | ⟨_,h2,_⟩ <;> rw [h2] <;> rfl
     have hg13:=HB.out.2.1
     have hu1:vv.us≤vv.g:=by rcases HST.out with ⟨_,h2⟩ | ⟨_,h2,_⟩ <;> rw [h2];exact HB.out.1;exact Nat.zero_le _
     have d1:decide (vv.g<1+n)=false:=decide_eq_false (by omega)
     have HRM:=Lib.hid (vroom_any HS6p.out.at_ hu1)
     obtain ⟨n1,hn1⟩:∃ n1,n1=1+n:=⟨_,rfl⟩
     rw [← hn1] at d1 HCC ⊢
     have HN1:=Lib.hid hn1
     have HGV:=Lib.hid hgv
     clear hok hhv hq hgv HHA hn1
     go_wp2_with fail
     refine HRM.out.mono ?_
     rintro e W7 ⟨rfl,hb7⟩
     have HS7:=Lib.hid (HS6.out.below hb7)
     have HS7p:=Lib.hid (HS6p.out.below hb7)
     have HM7:=Lib.hid (HM6.out.trans (Same.rst (HS6p.out.same hb7)))
     have htx7:=HTX.out.same ((HS6.out.same hb7).mono fun k hk=>Or.inr hk)
     have HTX7:=Lib.hid htx7
     have hwy7:=(HY.out.same HM7.out).mono fun k hk=>(⟨Or.inl hk.1,hk.2⟩:Rst (fun k=>P k∨(w5.heap.size≤k∧k<W.heap.size)) hp rb k)
     have HWY7:=Lib.hid hwy7
     clear hb7 htx7 hwy7 z6 d1 HRM
     by_cases ht:vv.g-vv.us<n1
     ·have d2:decide (vv.g-vv.us<n1)=true:=decide_eq_true ht
      have hmv:mm=m∧vv=v:=by
       rcases HST.out with h1 | ⟨_,h2,_⟩
       ·exact h1
       ·have hu0:vv.us=0:=by rw [h2];rfl
        have h3:=HN1.out
        have h4:=HGV.out
        omega
      have htt:Tight v l:=by unfold Tight;rw [HN.out,← hmv.2,← HN1.out];exact ht
      have HTT:=Lib.hid htt
      have HMV:=Lib.hid hmv
      have HTD:=Lib.hid (vtidy_any HS7p.out (by rw [hmv.2];exact HB.out.2.2.1) (by rw [hmv.1];have:=HMX.out;omega))
      have HU0:Hid (0<vv.us):=by have h4:=HGV.out;have h5:=HN1.out;have h6:=HB.out.2.1;unfold Hid;omega
      clear hmv htt ht
      generalize vv.g-vv.us=rm at *
      go_wp2_with fail
      refine HTD.out.mono ?_
      rintro e W8 ⟨rfl,h8,hs8⟩
      have HS8:=Lib.hid h8
      have HM8:=Lib.hid (HM7.out.trans hs8)
      clear h8 hs8 HTD
      go_wp2
      go_step3
      refine (show AtPut w0 WW P q m hp rb v l A n d _ W8∧usAt hp W8<usAt hp w5 from ⟨⟨tidyM m v,homeV v,?_,HM8.out,Or.inr ⟨rfl,rfl,HOK.out,HTT.out⟩,_,_,_,_,_,_,_,_,_,_,_,_,_,_,_,_,_,_,_,_,_,_,_,_,_,_,_,_,_,_,_,_,_,_,_,_,_,_,_,_,_,_,_,_,_,_,_,_,_,_,_,_,rfl⟩,?_⟩)
      ·have h9:=HS8.out
       rw [HMV.out.1,HMV.out.2] at h9
       exact h9
      ·rw [usAt_of HS8.out.at_,usAt_of HSV.out.at_]
       exact HU0.out
     ·have d2:decide (vv.g-vv.us<n1)=false:=decide_eq_false ht
      have hq1:vv.sq+1<4294967296:=by
       rcases HST.out with ⟨_,h2⟩ | ⟨_,h2,_⟩ <;> rw [h2]
       ·exact HB.out.2.2.2
       ·show 0+1<4294967296;omega
      have hmd:mm.done.length+n1≤1000000:=by
       have h3:=HMX.out
       have h4:=tidyM_done m v
       have h5:=HV.out.at_.len
       have h6:=HV.out.at_.n
       have h7:=HN1.out
       rcases HST.out with ⟨h2,_⟩ | ⟨h2,_⟩ <;> rw [h2] <;> omega
      have htr:TxR W7 (Rst (fun k=>P k∨(w5.heap.size≤k∧k<W.heap.size)) hp rb) B (putL 0 vv.ep vv.sq l):=HTX7.out.mono fun k hk=>⟨Or.inr hk,by have:=HLOW.out.1;omega,by have:=HLOW.out.2;omega⟩
      have hlg:=vlog_any HS7.out B (putL 0 vv.ep vv.sq l) n1 c (by rw [putL_length,HN.out,HN1.out]) HCC.out.1 HCC.out.2 (putL_blk vv.ep vv.sq HMAY.out HO.out) htr (by have:=HB.out.1;omega) hq1 hmd
      have HLG:=Lib.hid hlg
      have HT0:Hid (¬ Tight vv l):=by unfold Hid Tight;rw [HN.out,← HN1.out];exact ht
      clear hq1 hmd htr hlg ht
      generalize vv.g-vv.us=rm at *
      go_wp2_with fail
      refine HLG.out.mono ?_
      rintro e W8 ⟨rfl,h8,hs8⟩
      have hlay:=vlay_any h8 A l n d HN.out hl hd HO.out HMAY.out.kinds (HWY7.out.same hs8)
      have HLAY:=Lib.hid hlay
      have HM8:=Lib.hid (HM7.out.trans (hs8.mono fun k hk=>⟨Or.inl hk.1,hk.2⟩))
      clear h8 hs8 hlay HLG
      go_wp2_with fail
      refine HLAY.out.mono ?_
      rintro e W9 ⟨rfl,h9,hs9⟩
      have HM9:=Lib.hid (HM8.out.trans (hs9.mono fun k hk=>⟨Or.inl hk.1,hk.2⟩))
      have hfin:SV w0 W9 P q (chM m v l) hp rb (chV v l):=by
       have h10:=h9.mono (P':=P) (fun k hk=>Or.inl hk) HSV.out.ph HSV.out.pr
       have h11:chM m v l=logW vv.r mm vv.us (putL 0 vv.ep vv.sq l)∧chV v l=putV vv l:=by
        unfold chM chV
        rw [if_pos HOK.out,if_pos HOK.out]
        rcases HST.out with ⟨h1,h2⟩ | ⟨h1,h2,h3,h4⟩
        ·rw [h2] at HT0
         rw [if_neg HT0.out,if_neg HT0.out,h1,h2];exact ⟨rfl,rfl⟩
        ·rw [if_pos h4,if_pos h4,h1,h2];exact ⟨rfl,rfl⟩
       rw [h11.1,h11.2]
       unfold putV
       rw [HN.out,← HN1.out]
       exact h10
      have HF:=Lib.hid hfin
      clear h9 hs9 hfin HLAY
      go_wp2
      simp only [jumps_ret]
      go_ret
      rw [if_pos HOK.out]
      exact ⟨rfl,HF.out,HM9.out⟩
   ·have hno:¬ ChOk v l:=fun h=>hmay h.1
    have hmv:mm=m∧vv=v:=by rcases HST.out with h1 | ⟨_,_,h1,_⟩;exact h1;exact absurd h1 hno
    have HNO:=Lib.hid hno
    have HR6:Hid (SV w0 W P q m hp rb v):=by rw [← hmv.1,← hmv.2];exact HS6p.out
    rw [decide_eq_false hmay]
    clear hno hmv hmay
    generalize (putX 0 vv.ep vv.sq l).length=n1 at *
    go_wp2
    go_step3
    exact (show AtRef _ _ _ _ _ _ _ _ _ _ _ from ⟨HR6.out,HM6.out,HNO.out,_,_,_,_,_,_,_,_,_,_,_,_,_,_,_,_,_,_,_,_,_,_,_,_,_,_,_,_,_,_,_,_,_,_,_,_,_,_,_,_,_,_,_,_,_,_,_,_,_,_,_,_,_,_,_,_,rfl⟩)
 ·rintro a' w5 ⟨HSV,HSM,HNO,u1,u2,u3,u4,u5,u6,u7,u8,u9,u10,u11,u12,u13,u14,u15,u16,u17,u18,u19,u20,u21,u22,u23,u24,u25,u26,u27,u28,u29,u30,u31,u32,u33,u34,u35,u36,u37,u38,u39,u40,u41,u42,u43,u44,u45,u46,u47,u48,u49,u50,u51,u52,u53,u54,u55,u56,rfl⟩
  go_wp2
  simp only [jumps_ret]
  go_ret
  have e1:chM m v l=m:=if_neg HNO.out
  have e2:chV v l=v:=if_neg HNO.out
  rw [e1,e2,if_neg HNO.out]
  exact ⟨rfl,HSV.out,HSM.out⟩
end Go.Proofs.YtamnpblijdgdaaaGreat
