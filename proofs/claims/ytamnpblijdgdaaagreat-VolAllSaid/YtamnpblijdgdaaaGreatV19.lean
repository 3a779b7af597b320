/- For VolAll: contracts and facts, part 19. -/
import Derived.BigQuiet
import Derived.Deep.DeepCutAuto
import Derived.Test.YtamnpblijdgdaaaGreatV18
namespace Go.Proofs.YtamnpblijdgdaaaGreat
open Go.ChangeShapes Go.WideShapes Go.ChangeAt Go.RowKit
set_option linter.unusedVariables false
set_option maxRecDepth 100000
structure HB where
 (k:Int) (bs:List Int) (lg:Bool)
structure HB.Ok (x:HB):Prop where
 k:0≤x.k∧x.k≤7
 len:x.bs.length=56
 b:AllB x.bs
def hbL (x:HB):List Value:=blkL x.k x.bs++[.bool x.lg]
theorem blkL_len {k:Int} {bs:List Int} (h:bs.length=56):(blkL k bs).length=57:=by unfold blkL;simp [Bs_length,h]
theorem hbL_len {x:HB} (h:x.bs.length=56):(hbL x).length=58:=by unfold hbL;simp [blkL_len h]
theorem hbL_one (x:HB):∀ v∈hbL x,v.oneCell'=true:=by
 intro v hv
 unfold hbL blkL at hv
 simp only [List.mem_append,List.mem_cons,List.not_mem_nil,or_false] at hv
 rcases hv with (rfl | hv) | rfl
 ·rfl
 ·exact Bs_one x.bs v hv
 ·rfl
def HBsOk (l:List HB):Prop:=∀ x∈l,x.Ok
theorem HBsOk.fits {l:List HB} (h:HBsOk l):Fits hbL 58 l:=fun x hx=>hbL_len (h x hx).len
theorem HBsOk.set {l:List HB} (h:HBsOk l) {i:Nat} {x:HB} (hx:x.Ok):HBsOk (l.set i x):=fun y hy=>by
 rcases List.mem_or_eq_of_mem_set hy with h1 | h1
 ·exact h y h1
 ·rw [h1];exact hx
structure VM where
 (r fr:Int) (n g:Nat) (B:List HB) (ep sq us:Nat)
def volC (q rb:Nat) (v:VM):Array Value:=#[.pointer (some ⟨q,0,none⟩),.int .i64 v.r,.int .u8 0,.int .i64 0,.int .i64 0,.int .i64 v.n,.int .i64 v.g,.int .i64 v.fr,.slice (some ⟨rb,0,none⟩) v.n v.n,.int .u32 v.ep,.int .u32 v.sq,.int .i64 v.us]
structure VM.Ok (v:VM):Prop where
 len:v.B.length=v.n
 ok:HBsOk v.B
 n:v.n≤200
 g:v.g≤1000
 r:i64 v.r
 ep:v.ep<4294967296
 sq:v.sq<4294967296
 us:v.us≤2000
structure VolAt (W:World) (q hp rb:Nat) (v:VM):Prop extends VM.Ok v where
 hd:W.heap[hp]?=some (.cells (volC q rb v) 103 (0,0))
 row:W.heap[rb]?=some (.cells (rowL hbL v.B).toArray 129 (0,0))
theorem VolAt.keep {W W':World} {q hp rb:Nat} {v:VM} (h:VolAt W q hp rb v) (h1:W'.heap[hp]?=W.heap[hp]?) (h2:W'.heap[rb]?=W.heap[rb]?):VolAt W' q hp rb v :=
 { h with hd:=h1.trans h.hd,row:=h2.trans h.row }
theorem VolAt.below {W W':World} {q hp rb:Nat} {v:VM} (h:VolAt W q hp rb v) (hb:Below W.heap.size W W'):VolAt W' q hp rb v:=h.keep (hb.block _ (room_lt h.hd)) (hb.block _ (room_lt h.row))
section
variable {W:World} {q hp rb:Nat} {v:VM}
theorem VolAt.c0 (h:VolAt W q hp rb v):W.cell? ⟨hp,0,none⟩=some (.pointer (some ⟨q,0,none⟩)):=(blk_cell h.hd 0).trans rfl
theorem VolAt.c1 (h:VolAt W q hp rb v):W.cell? ⟨hp,1,none⟩=some (.int .i64 v.r):=(blk_cell h.hd 1).trans rfl
theorem VolAt.c2 (h:VolAt W q hp rb v):W.cell? ⟨hp,2,none⟩=some (.int .u8 0):=(blk_cell h.hd 2).trans rfl
theorem VolAt.c3 (h:VolAt W q hp rb v):W.cell? ⟨hp,3,none⟩=some (.int .i64 0):=(blk_cell h.hd 3).trans rfl
theorem VolAt.c4 (h:VolAt W q hp rb v):W.cell? ⟨hp,4,none⟩=some (.int .i64 0):=(blk_cell h.hd 4).trans rfl
theorem VolAt.c5 (h:VolAt W q hp rb v):W.cell? ⟨hp,5,none⟩=some (.int .i64 v.n):=(blk_cell h.hd 5).trans rfl
theorem VolAt.c6 (h:VolAt W q hp rb v):W.cell? ⟨hp,6,none⟩=some (.int .i64 v.g):=(blk_cell h.hd 6).trans rfl
theorem VolAt.c7 (h:VolAt W q hp rb v):W.cell? ⟨hp,7,none⟩=some (.int .i64 v.fr):=(blk_cell h.hd 7).trans rfl
theorem VolAt.c8 (h:VolAt W q hp rb v):W.cell? ⟨hp,8,none⟩=some (.slice (some ⟨rb,0,none⟩) v.n v.n):=(blk_cell h.hd 8).trans rfl
theorem VolAt.c9 (h:VolAt W q hp rb v):W.cell? ⟨hp,9,none⟩=some (.int .u32 v.ep):=(blk_cell h.hd 9).trans rfl
theorem VolAt.c10 (h:VolAt W q hp rb v):W.cell? ⟨hp,10,none⟩=some (.int .u32 v.sq):=(blk_cell h.hd 10).trans rfl
theorem VolAt.c11 (h:VolAt W q hp rb v):W.cell? ⟨hp,11,none⟩=some (.int .i64 v.us):=(blk_cell h.hd 11).trans rfl
theorem VolAt.f (h:VolAt W q hp rb v) (i:Nat):W.frozen? ⟨hp,i,none⟩=false:=blk_free h.hd i
theorem VolAt.fr (h:VolAt W q hp rb v) (i:Nat):W.frozen? ⟨rb,i,none⟩=false:=blk_free h.row i
theorem VolAt.cell (h:VolAt W q hp rb v) {i:Nat} {x:HB} (hi:v.B[i]?=some x) {j:Nat} {u:Value} (hj:(hbL x)[j]?=some u):W.cell? ⟨rb,i*58+j,none⟩=some u:=by
 rw [blk_cell h.row,List.getElem?_toArray];exact rowL_at h.ok.fits hi hj
theorem VolAt.lg (h:VolAt W q hp rb v) {i:Nat} {x:HB} (hi:v.B[i]?=some x):W.cell? ⟨rb,i*58+57,none⟩=some (.bool x.lg):=h.cell hi (by
 unfold hbL
 rw [List.getElem?_append_right (by rw [blkL_len (h.ok x (List.mem_of_getElem? hi)).len];exact Nat.le_refl _),blkL_len (h.ok x (List.mem_of_getElem? hi)).len];rfl)
theorem VolAt.rangeB (h:VolAt W q hp rb v) {i:Nat} {x:HB} (hi:v.B[i]?=some x):W.rangeAt rb (i*58) (blkL x.k x.bs):=fun j u hj=>by
 refine h.cell hi ?_
 unfold hbL
 rw [List.getElem?_append_left (List.getElem?_eq_some_iff.1 hj).1];exact hj
theorem VolAt.there (h:VolAt W q hp rb v) {i:Nat} (hi:i<v.n) {o c:Nat} (hc:o+c≤58):W.there rb (i*58+o) c:=fun j hj=>by
 have hl:(rowL hbL v.B).length=v.n*58:=by rw [rowL_length h.ok.fits,h.len]
 have hb:i*58+o+j<v.n*58:=by
  have:(i+1)*58≤v.n*58:=Nat.mul_le_mul_right _ hi
  omega
 exact ⟨by rw [blk_cell h.row,List.getElem?_toArray,List.getElem?_eq_getElem (by omega)];rfl,h.fr _⟩
end
theorem vepoch_any {W:World} {q hp rb:Nat} {v:VM} (h:VolAt W q hp rb v):Calls Tryz.prog 23 #[.pointer (some ⟨hp,0,none⟩)] W fun e w'=>e=.returned (.int .u32 v.ep)∧W=w':=by
 have c9:=h.c9
 clear h
 go_enter Tryz.func23,Tryz.ntmps23
 go_wp2
 go_ret
 exact ⟨rfl,rfl⟩
theorem vblocks_any {W:World} {q hp rb:Nat} {v:VM} (h:VolAt W q hp rb v):Calls Tryz.prog 29 #[.pointer (some ⟨hp,0,none⟩)] W fun e w'=>e=.returned (.int .i64 v.n)∧W=w':=by
 have c8:=h.c8
 clear h
 go_enter Tryz.func29,Tryz.ntmps29
 go_wp2
 go_ret
 exact ⟨rfl,rfl⟩
theorem vroom_any {W:World} {q hp rb:Nat} {v:VM} (h:VolAt W q hp rb v) (hus:v.us≤v.g):Calls Tryz.prog 24 #[.pointer (some ⟨hp,0,none⟩)] W fun e w'=>e=.returned (.int .i64 ((v.g-v.us:Nat):Int))∧Below W.heap.size W w':=by
 have c6:∀ k,(W.drewN k).cell? ⟨hp,6,none⟩=_:=fun k=>(show W.cell? _=_ from h.c6)
 have c11:∀ k,(W.drewN k).cell? ⟨hp,11,none⟩=_:=fun k=>(show W.cell? _=_ from h.c11)
 have hg:=h.g
 have wz:IntKind.i64.wrap ((v.g:Int)-v.us)=((v.g-v.us:Nat):Int):=by rw [IntWalk.i64_in _ (by omega)];omega
 clear h
 generalize v.g-v.us=z at *
 generalize v.g=g at *
 generalize v.us=us at *
 go_enter Tryz.func24,Tryz.ntmps24
 go_wp2_with (go_quiet (fail))
 go_ret
 exact ⟨rfl,bdn (Below.refl _ _) _⟩
def hasV (v:VM) (t:Int):Bool:=decide (0≤t)&&decide (t<v.n)
theorem vhas_any {W:World} {q hp rb:Nat} {v:VM} (h:VolAt W q hp rb v) (t:Int) (ht:i64 t):Calls Tryz.prog 68 #[.pointer (some ⟨hp,0,none⟩),.int .i64 t] W fun e w'=>e=.returned (.bool (hasV v t))∧W=w':=by
 have HB:=Lib.hid (vblocks_any h)
 unfold hasV
 clear h
 generalize v.n=n at *
 by_cases h0:0≤t
 ·have hd:decide (0≤t)=true:=decide_eq_true h0
  go_enter Tryz.func68,Tryz.ntmps68
  go_wp2_with fail
  refine HB.out.mono ?_
  rintro e w' ⟨rfl,rfl⟩
  go_wp2
  go_ret
  exact ⟨by rw [hd];simp,rfl⟩
 ·have hd:decide (0≤t)=false:=decide_eq_false h0
  go_enter Tryz.func68,Tryz.ntmps68
  go_wp2
  go_ret
  exact ⟨rfl,rfl⟩
def getB (v:VM) (t:Int):HB:=if hasV v t then v.B.getD t.toNat ⟨0,zBs,false⟩ else ⟨0,zBs,false⟩
theorem getB_in {v:VM} {i:Nat} {x:HB} (hv:v.B.length=v.n) (h:v.B[i]?=some x):hasV v i=true∧getB v i=x:=by
 have hl:=(List.getElem?_eq_some_iff.1 h).1
 have hh:hasV v i=true:=by unfold hasV;simp;omega
 refine ⟨hh,?_⟩
 unfold getB
 rw [if_pos hh,Int.toNat_natCast,List.getD,h];rfl
theorem vget_any {W:World} {q hp rb:Nat} {v:VM} (h:VolAt W q hp rb v) (t:Int) (ht:i64 t):Calls Tryz.prog 28 #[.pointer (some ⟨hp,0,none⟩),.int .i64 t] W fun e w'=>e=.returned (.tuple #[.agg (blkA (getB v t).k (getB v t).bs),.bool (hasV v t)])∧Below W.heap.size W w':=by
 have hb:Below W.heap.size W (W.alloc (Obj.cells (blkA 0 zBs) 71)):=(Below.refl _ _).alloc (Nat.le_refl _) _
 have e0:=heap_alloc_new W (Obj.cells (blkA 0 zBs) 71)
 have hv:=Lib.hid (h.below hb)
 have HH:=Lib.hid (vhas_any hv.out t ht)
 clear h
 by_cases h1:hasV v t=true
 ·obtain ⟨i,rfl⟩:∃ i:Nat,t=(i:Int):=⟨t.toNat,by unfold hasV at h1;simp at h1;omega⟩
  have hin:i<v.n:=by unfold hasV at h1;simp at h1;omega
  obtain ⟨x,hx⟩:∃ x,v.B[i]?=some x:=⟨_,List.getElem?_eq_getElem (by rw [hv.out.len];exact hin)⟩
  rw [(getB_in hv.out.len hx).2]
  rw [h1] at HH ⊢
  have HX:=Lib.hid hx
  have H56:=Lib.hid (hv.out.ok x (List.mem_of_getElem? hx)).len
  have hii:(i:Int)<v.n:=by omega
  have HN:=hv.out.n
  clear hx h1 hin
  go_enter Tryz.func28,Tryz.ntmps28
  go_upto_region 1 with (refine wpList_allocB rfl rfl ?_)
  generalize hg:W.heap.size=g at *
  generalize W.alloc (Obj.cells (blkA 0 zBs) 71)=W1 at *
  have c8:=hv.out.c8
  generalize v.n=n at *
  go_wp2_with fail
  refine HH.out.mono ?_
  rintro e w' ⟨rfl,rfl⟩
  go_wp2_with (first | (with_reducible refine wpList_load_mid rfl 71 (.tmp 17) rfl rb (i*58) rfl (blkL x.k x.bs) _ (hv.out.rangeB HX.out) Tryz.underlying71 rfl (by rw [blkL_len H56.out];exact size24b) ?_) | (refine wpList_storeB rfl (.tmp 4) (.tmp 18) rfl g rfl x.k 0 x.bs zBs rfl H56.out zBs_len e0 ?_))
  refine bodyPost_ret (results_blk rfl _ _ g x.k x.bs rfl H56.out (setRow_blk e0)) rfl ?_
  exact ⟨rfl,by rw [hg];exact below_setRow hb (Nat.le_refl _) _⟩
 ·have h2:hasV v t=false:=by simpa using h1
  have hg0:getB v t=⟨0,zBs,false⟩:=by unfold getB;rw [if_neg h1]
  rw [hg0,h2]
  rw [h2] at HH
  clear h1 h2 hg0
  go_enter Tryz.func28,Tryz.ntmps28
  go_upto_region 1 with (refine wpList_allocB rfl rfl ?_)
  generalize hg:W.heap.size=g at *
  generalize W.alloc (Obj.cells (blkA 0 zBs) 71)=W1 at *
  go_wp2_with fail
  refine HH.out.mono ?_
  rintro e w' ⟨rfl,rfl⟩
  go_wp2_with (first | (refine wpList_buildB0 rfl rfl ?_) | (refine wpList_storeB rfl (.tmp 4) (.tmp 10) rfl g rfl 0 0 zBs zBs rfl zBs_len zBs_len e0 ?_))
  refine bodyPost_ret (results_blk rfl _ _ g 0 zBs rfl zBs_len (setRow_blk e0)) rfl ?_
  exact ⟨rfl,by rw [hg];exact below_setRow hb (Nat.le_refl _) _⟩
def hasAllV (v:VM) (l:List Wr):Bool:=l.all fun x=>hasV v x.t
theorem vhasAll_any {W:World} {q hp rb:Nat} {v:VM} (h:VolAt W q hp rb v) (A:Option Addr) (l:List Wr) (n d:Nat) (hn:l.length=n) (hl:n≤d) (hd:d≤9223372036854775807) (hok:WrsOk l) (hy:Wrs W A l) :
 Calls Tryz.prog 60 #[.pointer (some ⟨hp,0,none⟩),.slice A n d] W fun e w'=>e=.returned (.bool (hasAllV v l))∧W=w':=by
 have HV:=Lib.hid h
 have HN:=Lib.hid hn
 have HO:=Lib.hid hok
 have HY:=Lib.hid hy
 clear h hn hok hy
 go_enter Tryz.func60,Tryz.ntmps60
 go_wp2
 refine wp_scope1e (fun a' w'=>w'=W∧∃ k:Nat,k≤n∧Hid (hasAllV v l=hasAllV v (l.drop k))∧∃ u6 u7 u8 u9 u10 u11 u12 u13 u14 u15 u16 u17 u18 u19:Value,a'={ tmps:=#[.pointer (some ⟨hp,0,none⟩),.slice A n d,undef,undef,.bool false,.int .i64 k,u6,u7,u8,u9,u10,u11,u12,u13,u14,u15,u16,u17,u18,u19],defers:=[] })
  (fun a' _=>n-(intOf (a'.tmps.getD 5 undef)).toNat) rfl ?_ ?_
 ·intro HF
  go_wp2
  go_step3
  rename_i hK
  exact hK _ _ (HF _ _ ⟨rfl,0,by omega,rfl,_,_,_,_,_,_,_,_,_,_,_,_,_,_,rfl⟩)
 ·rintro a' w' ⟨rfl,k,hk,HE,u6,u7,u8,u9,u10,u11,u12,u13,u14,u15,u16,u17,u18,u19,rfl⟩
  by_cases hkn:k=n
  ·subst hkn
   have HA:Hid (hasAllV v l=true):=by unfold Hid;rw [HE.out,List.drop_of_length_le (by rw [HN.out];exact Nat.le_refl _)];rfl
   go_wp2
   simp only [Exit.jump]
   go_ret
   exact ⟨by rw [HA.out];rfl,rfl⟩
  ·have hkl:k<n:=by omega
   have hq:((k:Int)==n)=false:=by simp;omega
   have hki:(k:Int)<n:=by omega
   obtain ⟨x,hx⟩:∃ x,l[k]?=some x:=⟨_,List.getElem?_eq_getElem (by rw [HN.out];exact hkl)⟩
   obtain ⟨ad,rfl,hw⟩:=HY.out k x hx
   have c0:=hw.c0
   have ht:=(HO.out x (List.mem_of_getElem? hx)).t
   have HH:=Lib.hid (vhas_any HV.out x.t ht)
   have HD:Hid (hasAllV v (l.drop k)=(hasV v x.t&&hasAllV v (l.drop (k+1)))):=by
    unfold Hid hasAllV
    rw [List.drop_eq_getElem_cons (by rw [HN.out];exact hkl),(List.getElem?_eq_some_iff.1 hx).2];rfl
   clear hw hx ht
   generalize x.t=tt at *
   go_wp2_with fail
   refine HH.out.mono ?_
   rintro e w' ⟨rfl,rfl⟩
   cases hb:hasV v tt
   ·have HA:Hid (hasAllV v l=false):=by unfold Hid;rw [HE.out,HD.out,hb];rfl
    clear hb
    go_wp2
    simp only [Exit.jump]
    go_ret
    exact ⟨by rw [HA.out];rfl,rfl⟩
   ·have HA:Hid (hasAllV v l=hasAllV v (l.drop (k+1))):=by unfold Hid;rw [HE.out,HD.out,hb];rfl
    clear hb
    go_wp2
    go_step3
    refine ⟨rfl,⟨rfl,k+1,by omega,HA,_,_,_,_,_,_,_,_,_,_,_,_,_,_,rfl⟩,?_⟩
    simp [intOf];omega
structure SV (w0 W:World) (P:Nat→Prop) (q:Nat) (m:DM) (hp rb:Nat) (v:VM):Prop where
 ds:DS w0 W P q m
 at_:VolAt W q hp rb v
 ph:P hp
 pr:P rb
 lh:w0.heap.size≤hp
 lr:w0.heap.size≤rb
 ne:hp≠rb
def Rst (P:Nat→Prop) (hp rb:Nat):Nat→Prop:=fun k=>P k∧k≠hp∧k≠rb
theorem DS.own {w0 W W':World} {P G:Nat→Prop} {q:Nat} {m:DM} (h:DS w0 W P q m) (ht:Touch G W W') (hG:∀ k,G k→P k∧w0.heap.size≤k):DS w0 W' P q m:=by
 obtain ⟨F,h1,h2,h3⟩:=h.dev
 obtain ⟨O,L,g1,g2,g3⟩:=h1
 exact ⟨⟨F,Dev.touch ⟨O,L,g1,g2,g3⟩ ht (fun k hf hg=>h3 k (hG k hg).1 hf),h2,h3⟩,fun k hk=>Nat.lt_of_lt_of_le (h.low k hk) ht.size,h.bel.trans (ht.below h.bel.size fun k hk=>(hG k hk).2)⟩
section
variable {w0 W W':World} {P:Nat→Prop} {q:Nat} {m m':DM} {hp rb:Nat} {v v':VM}
theorem SV.step (h:SV w0 W P q m hp rb v) (hd:DS w0 W' P q m') (hs:Same P W W'):SV w0 W' P q m' hp rb v :=
 { h with ds:=hd,at_:=h.at_.keep (hs.blk _ h.ph) (hs.blk _ h.pr) }
theorem SV.own (h:SV w0 W P q m hp rb v) (ht:Touch (fun k=>k=hp∨k=rb) W W') (hv:VolAt W' q hp rb v'):SV w0 W' P q m hp rb v'∧Same (Rst P hp rb) W W' :=
 ⟨{ h with ds:=h.ds.own ht (fun k hk=>by rcases hk with rfl | rfl;exact ⟨h.ph,h.lh⟩;exact ⟨h.pr,h.lr⟩),at_:=hv },
   ⟨fun k hk=>ht.block k (h.ds.low k hk.1) (fun hg=>by rcases hg with rfl | rfl;exact hk.2.1 rfl;exact hk.2.2 rfl),ht.size⟩⟩
theorem SV.below (h:SV w0 W P q m hp rb v) (hb:Below W.heap.size W W'):SV w0 W' P q m hp rb v :=
 h.step (h.ds.below hb fun k hk=>Or.inl hk) (h.ds.same hb)
theorem SV.same (h:SV w0 W P q m hp rb v) (hb:Below W.heap.size W W'):Same P W W':=h.ds.same hb
theorem SV.grow (h:SV w0 W P q m hp rb v) (hb:Below W.heap.size W W') {Q:Nat→Prop} (hQ:∀ k,Q k→W.heap.size≤k∧k<W'.heap.size):SV w0 W' (fun k=>P k∨Q k) q m hp rb v :=
 { h with ds:=h.ds.below hb (fun k hk=>hk.imp id (hQ k)),at_:=h.at_.below hb,ph:=Or.inl h.ph,pr:=Or.inl h.pr }
theorem SV.mono (h:SV w0 W P q m hp rb v) {P':Nat→Prop} (hP:∀ k,P' k→P k) (h1:P' hp) (h2:P' rb):SV w0 W P' q m hp rb v :=
 { h with ds:=h.ds.mono hP,ph:=h1,pr:=h2 }
theorem Same.rst {P:Nat→Prop} (h:Same P W W'):Same (Rst P hp rb) W W':=h.mono fun k hk=>hk.1
end
theorem VolAt.setH {W:World} {q hp rb:Nat} {v:VM} (h:VolAt W q hp rb v) (hne:hp≠rb) {i:Nat} {x y:HB} (hi:v.B[i]?=some x) (hy:y.Ok):VolAt (W.setCells rb (i*58) (hbL y)) q hp rb { v with B:=v.B.set i y }:=by
 have hx:=h.ok x (List.mem_of_getElem? hi)
 have hl:(rowL hbL v.B).length=v.n*58:=by rw [rowL_length h.ok.fits,h.len]
 have hlt:=(List.getElem?_eq_some_iff.1 hi).1
 have hmul:(i+1)*58≤v.n*58:=Nat.mul_le_mul_right _ (by rw [← h.len];exact hlt)
 refine { h with len:=by rw [List.length_set];exact h.len,ok:=h.ok.set hy,hd:=?_,row:=?_ }
 ·rw [heap_setCells_other hne];exact h.hd
 ·rw [heap_setCells (hbL y) (i*58) _ W h.row (by rw [List.size_toArray,hl,hbL_len hy.len];omega)]
  have:=rowL_splice (k:=i) (x:=x) (y:=y) (j:=0) (cs:=hbL y) h.ok.fits hi (by rw [hbL_len hy.len];omega) (by rw [splice_whole _ _ (by rw [hbL_len hx.len,hbL_len hy.len])])
  rw [Nat.add_zero] at this
  rw [List.toList_toArray,this]
theorem SV.setH {w0 W:World} {P:Nat→Prop} {q:Nat} {m:DM} {hp rb:Nat} {v:VM} (h:SV w0 W P q m hp rb v) {i:Nat} {x y:HB} (hi:v.B[i]?=some x) (hy:y.Ok) :
 SV w0 (W.setCells rb (i*58) (hbL y)) P q m hp rb { v with B:=v.B.set i y }∧Same (Rst P hp rb) W (W.setCells rb (i*58) (hbL y)) :=
 h.own ((Touch.refl _ _).setCells (F:=fun k=>k=hp∨k=rb) (Or.inr rfl) _ _) (h.at_.setH h.ne hi hy)
def WrsR (W:World) (R:Nat→Prop) (A:Option Addr) (l:List Wr):Prop:=∀ i x,l[i]?=some x→∃ a,A=some a∧WrAt W (a.add (i*58)) x∧R a.block
theorem WrsR.wrs {W:World} {R:Nat→Prop} {A:Option Addr} {l:List Wr} (h:WrsR W R A l):Wrs W A l:=fun i x hi=>let ⟨a,e,h1,_⟩:=h i x hi;⟨a,e,h1⟩
theorem WrsR.same {W W':World} {R:Nat→Prop} {A:Option Addr} {l:List Wr} (h:WrsR W R A l) (hs:Same R W W'):WrsR W' R A l:=fun i x hi=>by
 obtain ⟨a,e,h1,h2⟩:=h i x hi
 refine ⟨a,e,fun j v hj=>?_,h2⟩
 have h3:=h1 j v hj
 rw [World.cell?_of_block (hs.blk _ (by rw [block_of_add',block_of_add'];exact h2))]
 exact h3
theorem WrsR.mono {W:World} {R R':Nat→Prop} {A:Option Addr} {l:List Wr} (h:WrsR W R A l) (hR:∀ k,R k→R' k):WrsR W R' A l:=fun i x hi=>let ⟨a,e,h1,h2⟩:=h i x hi;⟨a,e,h1,hR _ h2⟩
def layB (B:List HB):List Wr→List HB
 | []=>B
 | x :: l=>layB (if 0≤x.t∧x.t<B.length then B.set x.t.toNat ⟨x.k,x.bs,true⟩ else B) l
theorem layB_append (B:List HB):∀ l m,layB B (l++m)=layB (layB B l) m:=by
 intro l
 induction l generalizing B with
 | nil=>intro m;rfl
 | cons x l ih=>intro m;exact ih _ m
theorem layB_length:∀ (l:List Wr) (B:List HB),(layB B l).length=B.length
 | [],_=>rfl
 | x :: l,B=>by
   show (layB _ l).length=_
   rw [layB_length l]
   split
   ·simp
   ·rfl
def KindsOk (l:List Wr):Prop:=∀ x∈l,0≤x.k∧x.k≤7
theorem layB_ok:∀ {l:List Wr} {B:List HB},WrsOk l→KindsOk l→HBsOk B→HBsOk (layB B l)
 | [],_,_,_,h=>h
 | x :: l,B,hw,hk,h=>by
   refine layB_ok (l:=l) (fun y hy=>hw y (by simp [hy])) (fun y hy=>hk y (by simp [hy])) ?_
   have hx:=hw x (by simp)
   split
   ·exact h.set ⟨hk x (by simp),hx.len,hx.b⟩
   ·exact h
theorem info95:(Tryz.prog.info? 129).map (fun i=>(i.zero,i.size,i.bytes))=some (some (.agg (hbL ⟨0,zBs,false⟩).toArray),58,72):=by kernel_rfl
theorem size95:(Tryz.prog.info? 129).map (·.size)=some 58:=by kernel_rfl
theorem built95 (k:Int) (bs:List Int) (b:Bool) (hb:bs.length=56):Tryz.prog.built 129 [(0,.agg (blkA k bs)),(1,.bool b)]=some (hbL ⟨k,bs,b⟩).toArray:=by
 have hS:Tryz.prog.underlying 129=some (.struct (Tryz.prog.fieldsOf 129)):=by kernel_rfl
 obtain ⟨i0,hi,hz0,hz1,hz2⟩:=info_parts info95
 have hpl:(Tryz.prog.fieldsOf 129).toList.mapM (fun f=>(Tryz.prog.info? f.type).map fun i=>(f.offset,i.size))=some [(0,57),(57,1)]:=by kernel_rfl
 have hzl:(hbL ⟨0,zBs,false⟩).length=58:=hbL_len zBs_len
 have hl:(blkL k bs).length=57:=blkL_len hb
 have hs1:splice (hbL ⟨0,zBs,false⟩) 0 (blkL k bs)=blkL k bs++[.bool false]:=by
  unfold splice hbL
  rw [hl,List.drop_append,List.drop_of_length_le (by rw [blkL_len zBs_len];omega),blkL_len zBs_len]
  simp
 have hs2:splice (blkL k bs++[Value.bool false]) 57 [.bool b]=hbL ⟨k,bs,b⟩:=by
  unfold splice hbL
  rw [List.take_append,hl,List.take_of_length_le (by omega),List.drop_of_length_le (by simp [hl])]
  simp
 unfold Program.built
 rw [hi,hS]
 dsimp only
 rw [hz0,hpl]
 dsimp only
 rw [fill_cons (off:=0) (size:=57) rfl (by show (blkA k bs).size=57;exact blkA_size hb) (by show 0+57≤(hbL ⟨0,zBs,false⟩).toArray.size;rw [List.size_toArray,hzl];decide)]
 rw [fill_cons (off:=57) (size:=1) rfl rfl (by
  simp only [List.size_toArray]
  show 57+1≤(splice (hbL ⟨0,zBs,false⟩).toArray.toList 0 (blkA k bs).toList).length
  rw [blkA_list,List.toList_toArray,hs1];simp [hl])]
 unfold Instr.fill
 congr 1
 show (splice (splice (hbL ⟨0,zBs,false⟩).toArray.toList 0 (blkA k bs).toList).toArray.toList 57 [Value.bool b]).toArray=_
 rw [blkA_list,List.toList_toArray,hs1,hs2]
def VNla (hp rb n g5 t:Nat) (k:Int) (bs:List Int) (i:Nat) (v:Value) (w:World):Prop :=
 match i with
 | 0 | 1=>v=.pointer (some ⟨hp,0,none⟩)
 | 2=>v=.pointer (some ⟨hp,8,none⟩)
 | 3=>v=.slice (some ⟨rb,0,none⟩) n n
 | 4=>v=.pointer (some ⟨g5,0,none⟩)
 | 5=>v=.int .i64 (t:Int)
 | 6=>v=.pointer (some ⟨g5,1,none⟩)
 | 7=>v=.agg (blkA k bs)
 | 8=>v=.agg (hbL ⟨k,bs,true⟩).toArray
 | 9=>v=.pointer (some ⟨rb,t*58,none⟩)
 | _=>True
set_option maxHeartbeats 6400000 in
theorem vlay_any {w0 W:World} {P:Nat→Prop} {q:Nat} {m:DM} {hp rb:Nat} {v:VM} (h:SV w0 W P q m hp rb v) (A:Option Addr) (l:List Wr) (n d:Nat) (hn:l.length=n) (hl:n≤d) (hd:d≤9223372036854775807) (hok:WrsOk l) (hk:KindsOk l) (hy:WrsR W (Rst P hp rb) A l) :
 Calls Tryz.prog 62 #[.pointer (some ⟨hp,0,none⟩),.slice A n d] W fun e w'=>e=.returned (.tuple #[])∧SV w0 w' P q m hp rb { v with B:=layB v.B l }∧Same (Rst P hp rb) W w':=by
 have HV:=Lib.hid h
 have HN:=Lib.hid hn
 have HO:=Lib.hid hok
 have HK:=Lib.hid hk
 have HY:=Lib.hid hy
 clear h hn hok hy hk
 go_enter Tryz.func62,Tryz.ntmps62
 go_wp2
 go_loopw [8] (fun i wr=>∃ k:Nat,i=.int .i64 k∧k≤n∧Hid (SV w0 wr P q m hp rb { v with B:=layB v.B (l.take k) })∧Hid (Same (Rst P hp rb) W wr)) (fun i _=>n-(intOf i).toNat)
 case atStart=>exact ⟨0,rfl,by omega,HV.out,Same.refl _ _⟩
 case round =>
  obtain ⟨kk,rfl,hk,HSV,HSM⟩:=hrel
  obtain ⟨w5,rfl⟩:∃ w5,w5=wr:=⟨wr,rfl⟩
  by_cases hlt:kk<n
  ·obtain ⟨x,hx⟩:∃ x,l[kk]?=some x:=⟨_,List.getElem?_eq_getElem (by rw [HN.out];exact hlt)⟩
   obtain ⟨ad,rfl,hat,hR⟩:=(HY.out.same HSM.out) kk x hx
   have HAT:=Lib.hid hat
   have hxo:=HO.out x (List.mem_of_getElem? hx)
   have HXO:=Lib.hid hxo
   have H56:=Lib.hid hxo.len
   have HXK:=Lib.hid (HK.out x (List.mem_of_getElem? hx))
   have HTK:Hid (l.take (kk+1)=l.take kk++[x]):=take_snoc' hx
   have hki:(kk:Int)<n:=by omega
   clear hat hxo hx hR
   obtain ⟨v5,hv5⟩:∃ v5:VM,v5={ v with B:=layB v.B (l.take kk) }:=⟨_,rfl⟩
   rw [← hv5] at HSV
   have HV5:=Lib.hid hv5
   clear hv5
   go_upto_region 3 with (first
    | (refine wpList_loadWp rfl (.tmp 10) rfl (ad.add (kk*58)) rfl x H56.out HAT.out ?_)
    | (refine wpList_allocW rfl rfl ?_)
    | (refine wpList_storeW rfl (.tmp 5) (.tmp 11) rfl w5.heap.size rfl x zW rfl H56.out zW_len (heap_alloc_new w5 _) ?_))
   have hnew:=new_wr w5 x
   have hbn:=new_wr_below w5 x
   have hs2:=HSV.out.below hbn
   have HS2:=Lib.hid hs2
   have HSM2:Hid (Same (Rst P hp rb) W ((w5.alloc (.cells (wrA zW) 73)).setRow w5.heap.size (wrA x))):=HSM.out.trans (Same.rst (HSV.out.same hbn))
   clear hs2 hbn
   generalize (w5.alloc (.cells (wrA zW) 73)).setRow w5.heap.size (wrA x)=W2 at *
   generalize w5.heap.size=g5 at *
   have c0:W2.cell? ⟨g5,0,none⟩=_:=(wrAt_blk hnew).c0
   have HH:=Lib.hid (vhas_any HS2.out.at_ x.t HXO.out.t)
   have HNW:=Lib.hid hnew
   clear hnew HAT
   go_wp2_with fail
   refine HH.out.mono ?_
   rintro e w' ⟨rfl,rfl⟩
   by_cases hh:hasV v5 x.t=true
   ·obtain ⟨t,ht⟩:∃ t:Nat,x.t=(t:Int):=⟨x.t.toNat,by unfold hasV at hh;simp at hh;omega⟩
    have hin:t<v5.n:=by unfold hasV at hh;rw [ht] at hh;simp at hh;omega
    obtain ⟨y,hy⟩:∃ y,v5.B[t]?=some y:=⟨_,List.getElem?_eq_getElem (by rw [HS2.out.at_.len];exact hin)⟩
    have HYB:=Lib.hid hy
    rw [hh]
    have HT:=Lib.hid ht
    have hn2:=HS2.out.at_.n
    have HN2:Hid (v5.n≤200):=hn2
    have hti:(t:Int)<v5.n:=by omega
    rw [ht] at c0
    clear hh hy hn2 HH
    obtain ⟨nn,hnn⟩:∃ nn,nn=v5.n:=⟨_,rfl⟩
    have HC8:Hid (∀ W',Below W2.heap.size W2 W'→W'.cell? ⟨hp,8,none⟩=some (.slice (some ⟨rb,0,none⟩) nn nn)):=fun W' hb=>by rw [hnn];exact (HS2.out.at_.below hb).c8
    have HC0:Hid (∀ W',Below W2.heap.size W2 W'→W'.cell? ⟨g5,0,none⟩=some (.int .i64 t)):=fun W' hb=>keepC hb c0
    have HRB:Hid (∀ W',Below W2.heap.size W2 W'→W'.rangeAt g5 1 (blkL x.k x.bs)):=fun W' hb j u hj=>by
     have hw:=wrAt_blk (kb hb HNW.out)
     have:=hw (1+j) u (by
      show (Value.int .i64 x.t :: blkL x.k x.bs)[1+j]?=some u
      rw [Nat.add_comm 1 j,List.getElem?_cons_succ];exact hj)
     rw [add_at] at this
     exact this
    have HTH:Hid (∀ W',Below W2.heap.size W2 W'→W'.there rb (t*58) 58):=fun W' hb=>(HS2.out.at_.below hb).there (i:=t) (o:=0) (c:=58) hin (by omega)
    have hti':(t:Int)<nn:=by rw [hnn];exact hti
    have HNN:=Lib.hid hnn
    have hnn2:nn≤200:=by rw [hnn];exact HN2.out
    clear hnn c0 hin hti
    go_upto_region 4 with fail
    refine wp_region_rgk (VNla hp rb nn g5 t x.k x.bs) (fun _ W=>Below W2.heap.size W2 W) (fun _ w w'=>Below w.heap.size w w') (by kernel_rfl) (by kernel_rfl) (fun i j v w w' _ _ h hs=>by unfold VNla at *;exact h) ((Below.refl _ _).drew) ?_
    simp only [RAll]
    refine ⟨?_,?_,?_,?_,?_,?_,?_,?_,?_,?_,?_⟩
    ·refine RStepK.of rfl fun T W L hag hL hJ hLs hd=>?_
     have e0:T.getD 0 undef=_:=(agree_at hag 0 (by kernel_rfl)).trans rfl
     clear hag hd
     go_simp
     first | exact ⟨_,rfl,rfl⟩ | exact ⟨_,rfl,rfl,brefl _⟩ | exact ⟨_,rfl,rfl,hJ,brefl _⟩
    ·refine RStepK.of rfl fun T W L hag hL hJ hLs hd=>?_
     have d16:T.getD 16 undef=_:=hd ⟨0,.data⟩ (by simp) rfl _ rfl
     clear hag hd
     go_simp
     first | exact ⟨_,rfl,rfl⟩ | exact ⟨_,rfl,rfl,brefl _⟩ | exact ⟨_,rfl,rfl,hJ,brefl _⟩
    ·refine RStepK.of rfl fun T W L hag hL hJ hLs hd=>?_
     have d17:T.getD 17 undef=_:=hd ⟨1,.data⟩ (by simp) rfl _ rfl
     clear hag hd
     go_simp
     first | exact ⟨_,rfl,rfl⟩ | exact ⟨_,rfl,rfl,brefl _⟩ | exact ⟨_,rfl,rfl,hJ,brefl _⟩
    ·refine RStepK.of rfl fun T W L hag hL hJ hLs hd=>?_
     have d18:T.getD 18 undef=_:=hd ⟨2,.data⟩ (by simp) rfl _ rfl
     have z8:=HC8.out W hJ
     have y0:=HC0.out W hJ
     clear hag hd
     go_simp
     first | exact ⟨_,rfl,rfl⟩ | exact ⟨_,rfl,rfl,brefl _⟩ | exact ⟨_,rfl,rfl,hJ,brefl _⟩
    ·refine RStepK.of rfl fun T W L hag hL hJ hLs hd=>?_
     have e5:T.getD 5 undef=_:=(agree_at hag 5 (by kernel_rfl)).trans rfl
     clear hag hd
     go_simp
     first | exact ⟨_,rfl,rfl⟩ | exact ⟨_,rfl,rfl,brefl _⟩ | exact ⟨_,rfl,rfl,hJ,brefl _⟩
    ·refine RStepK.of rfl fun T W L hag hL hJ hLs hd=>?_
     have d20:T.getD 20 undef=_:=hd ⟨4,.data⟩ (by simp) rfl _ rfl
     have z8:=HC8.out W hJ
     have y0:=HC0.out W hJ
     clear hag hd
     go_simp
     first | exact ⟨_,rfl,rfl⟩ | exact ⟨_,rfl,rfl,brefl _⟩ | exact ⟨_,rfl,rfl,hJ,brefl _⟩
    ·refine RStepK.of rfl fun T W L hag hL hJ hLs hd=>?_
     have e5:T.getD 5 undef=_:=(agree_at hag 5 (by kernel_rfl)).trans rfl
     clear hag hd
     go_simp
     first | exact ⟨_,rfl,rfl⟩ | exact ⟨_,rfl,rfl,brefl _⟩ | exact ⟨_,rfl,rfl,hJ,brefl _⟩
    ·refine RStepK.of rfl fun T W L hag hL hJ hLs hd=>?_
     have d22:T.getD 22 undef=_:=hd ⟨6,.data⟩ (by simp) rfl _ rfl
     clear hag
     refine wp_load_mid 71 (.tmp 22) rfl g5 1 d22 (blkL x.k x.bs) _ (HRB.out W hJ) Tryz.underlying71 rfl (by rw [blkL_len H56.out];exact size24b) ?_
     exact ⟨_,rfl,rfl,hJ,brefl _⟩
    ·refine RStepK.of rfl fun T W L hag hL hJ hLs hd=>?_
     have d23:T.getD 23 undef=_:=hd ⟨7,.data⟩ (by simp) rfl _ rfl
     have ev23:(⟨T,[]⟩:Act).eval (.tmp 23)=.agg (blkA x.k x.bs):=d23
     clear hag hd
     have hb:=run_build (P:=Tryz.prog) W 129 #[(0,.agg (blkA x.k x.bs)),(1,.bool true)] _ (built95 x.k x.bs true H56.out)
     refine wp_run (v:=.agg (hbL ⟨x.k,x.bs,true⟩).toArray) (w':=W) ?_ ⟨_,rfl,rfl,hJ,brefl _⟩
     unfold execOp
     have evc:(⟨T,[]⟩:Act).eval (.const (.bool true))=.bool true:=rfl
     simp only [List.map_toArray,List.map_cons,List.map_nil,ev23,evc,Sem.run_bind,hb,Result.andThen_ok,Sem.run_pure]
    ·refine RStepK.of rfl fun T W L hag hL hJ hLs hd=>?_
     have d19:T.getD 19 undef=_:=hd ⟨3,.data⟩ (by simp) rfl _ rfl
     have d21:T.getD 21 undef=_:=hd ⟨5,.data⟩ (by simp) rfl _ rfl
     clear hag hd
     go_simp
     first | exact ⟨_,rfl,rfl⟩ | exact ⟨_,rfl,rfl,brefl _⟩ | exact ⟨_,rfl,rfl,hJ,brefl _⟩
    ·refine RLastK.of rfl fun T W L hag hLs hL hJ hd=>?_
     have d25:T.getD 25 undef=_:=hd 9 _ (by simp) rfl
     have d24:T.getD 24 undef=_:=hd 8 _ (by simp) rfl
     obtain ⟨f,hf,hT⟩:=agree_fn hag
     have d16:T.getD 16 undef=_:=hd 0 _ (by simp) rfl
     have h16:=(hf 16).trans d16
     have d17:T.getD 17 undef=_:=hd 1 _ (by simp) rfl
     have h17:=(hf 17).trans d17
     have d18:T.getD 18 undef=_:=hd 2 _ (by simp) rfl
     have h18:=(hf 18).trans d18
     have d19:T.getD 19 undef=_:=hd 3 _ (by simp) rfl
     have h19:=(hf 19).trans d19
     have d20:T.getD 20 undef=_:=hd 4 _ (by simp) rfl
     have h20:=(hf 20).trans d20
     have d21:T.getD 21 undef=_:=hd 5 _ (by simp) rfl
     have h21:=(hf 21).trans d21
     have d22:T.getD 22 undef=_:=hd 6 _ (by simp) rfl
     have h22:=(hf 22).trans d22
     have d23:T.getD 23 undef=_:=hd 7 _ (by simp) rfl
     have h23:=(hf 23).trans d23
     have h24:=(hf 24).trans d24
     have h25:=(hf 25).trans d25
     have HJ:=Lib.hid hJ
     clear hag hd d16 d17 d18 d19 d20 d21 d22 d23 d24 d25 hJ hf
     rw [hT]
     clear hT
     simp only [List.pop_toArray,List.dropLast_cons_cons,List.dropLast_singleton,List.filterMap_cons,List.filterMap_nil,List.foldl_cons,List.foldl_nil,List.setIfInBounds_toArray,List.set_cons_succ,List.set_cons_zero,h16,h17,h18,h19,h20,h21,h22,h23,h24,h25]
     have hth:=HTH.out W HJ.out
     refine wp_store_mid 129 (.tmp 25) (.tmp 24) rfl rb (t*58) _ rfl rfl (by rw [List.size_toArray,hbL_len H56.out];exact hth) (by rw [List.size_toArray,hbL_len H56.out];exact size95) (all_oneCell_toArray (hbL_one _)) ?_
     rw [List.toList_toArray]
     have hst:=(HS2.out.below HJ.out).setH (y:=⟨x.k,x.bs,true⟩) HYB.out ⟨HXK.out,H56.out,HXO.out.b⟩
     have hsm:=(HSM2.out.trans (Same.rst (HS2.out.same HJ.out))).trans hst.2
     have key:({ v5 with B:=v5.B.set t ⟨x.k,x.bs,true⟩ }:VM)={ v with B:=layB v.B (l.take (kk+1)) }:=by
      have hl5:=HS2.out.at_.len
      have hin5:=(List.getElem?_eq_some_iff.1 HYB.out).1
      rw [HTK.out,layB_append]
      have hB:layB v.B (l.take kk)=v5.B:=by rw [HV5.out]
      rw [hB]
      show _=({ v with B:=(if 0≤x.t∧x.t<v5.B.length then v5.B.set x.t.toNat ⟨x.k,x.bs,true⟩ else v5.B) }:VM)
      rw [HT.out,if_pos ⟨by omega,by omega⟩,Int.toNat_natCast,HV5.out]
     rw [key] at hst
     have HST:=Lib.hid hst.1
     have HSM3:=Lib.hid hsm
     clear hst hsm key hth HJ
     generalize W.setCells rb (t*58) (hbL ⟨x.k,x.bs,true⟩)=W3 at *
     simp only [Act.put]
     go_wp2
     go_roundw
     case rel=>exact ⟨kk+1,by go_num,by omega,HST.out,HSM3.out⟩
     case measure=>simp [intOf];omega
   ·have h2:hasV v5 x.t=false:=by simpa using hh
    rw [h2]
    have key:v5={ v with B:=layB v.B (l.take (kk+1)) }:=by
     have hl5:=HS2.out.at_.len
     rw [HTK.out,layB_append]
     have hB:layB v.B (l.take kk)=v5.B:=by rw [HV5.out]
     rw [hB]
     show _=({ v with B:=(if 0≤x.t∧x.t<v5.B.length then v5.B.set x.t.toNat ⟨x.k,x.bs,true⟩ else v5.B) }:VM)
     rw [if_neg (fun h=>by unfold hasV at h2;simp at h2;have:=h2 h.1;omega),HV5.out]
    have HST:Hid (SV w0 W2 P q m hp rb { v with B:=layB v.B (l.take (kk+1)) }):=by rw [← key];exact HS2.out
    clear key h2 hh HS2 HH
    go_wp2
    go_roundw
    case rel=>exact ⟨kk+1,by go_num,by omega,HST.out,HSM2.out⟩
    case measure=>simp [intOf];omega
  ·obtain rfl:kk=n:=by omega
   have hki:¬ ((kk:Int)<kk):=by omega
   have hsv:=HSV.out
   rw [List.take_of_length_le (by rw [HN.out];exact Nat.le_refl _)] at hsv
   have HF:=Lib.hid hsv
   clear hsv
   go_wp2
   go_end0
   exact ⟨rfl,HF.out,HSM.out⟩
end Go.Proofs.YtamnpblijdgdaaaGreat
