/- For VolAll: contracts and facts, part 18. -/
import Derived.Deep.MidRow
import Derived.Laws.CopyOwn
import Derived.Test.YtamnpblijdgdaaaGreatV02
import Derived.Test.YtamnpblijdgdaaaGreatV15
import Derived.Test.YtamnpblijdgdaaaGreatV17
namespace Go.Proofs.YtamnpblijdgdaaaGreat
open Go.ChangeShapes Go.WideShapes Go.ChangeAt Go.RowKit
set_option linter.unusedVariables false
set_option maxRecDepth 100000
def VNop (d:Option Addr) (gb n g a y:Nat) (r fr:Int) (b:List Int) (i:Nat) (v:Value) (w:World):Prop :=
 match i with
 | 0=>v=.pointer (some ⟨gb,0,none⟩)
 | 1=>v=.pointer d
 | 2=>v=.pointer (some ⟨gb,1,none⟩)
 | 3=>v=.int .i64 r
 | 4=>v=.pointer (some ⟨gb,3,none⟩)
 | 5=>v=shQ 0 0 n g fr
 | 6=>v=.int .i64 (a:Int)
 | 7=>v=.int .i64 (y:Int)
 | 11=>v=.bool true
 | 8=>∃ p,v=.tuple #[.slice (some ⟨p,0,none⟩) 64 64,.bool true]∧w.heap[p]?=some (.cells (Bs b).toArray 125 (0,0))
 | 9=>∃ p,v=.tuple #[.slice (some ⟨p,0,none⟩) 64 64,.bool true]∧w.heap[p]?=some (.cells (Bs b).toArray 125 (0,0))
 | 10=>∃ p,v=.slice (some ⟨p,0,none⟩) 64 64∧w.heap[p]?=some (.cells (Bs b).toArray 125 (0,0))
 | 12=>∃ p,v=.slice (some ⟨p,0,none⟩) 64 64∧w.heap[p]?=some (.cells (Bs b).toArray 125 (0,0))
 | _=>True
set_option maxHeartbeats 3200000 in
theorem gopen_any {W:World} {d:Option Addr} {r:Int} {row:Int→Option (List Int)} (h:Rd W d r row) (n g:Nat) (fr:Int) (hn:n≤200) (hg:g≤1000) (a:Nat) (ha:a<n) (b:List Int) (hrow:row ((2+g+a:Nat):Int)=some b) (hB:BlkOk b) :
 Calls Tryz.prog 87 #[gndA d r n g fr,.int .i64 a] W fun e w'=>e=.returned (.tuple #[.agg (openA 0 a b),.bool (decide (Opens 0 a b))])∧Below W.heap.size W w':=by
 have HS:=Lib.hid (fun W=>Home_any 0 0 n g fr a (by omega) hg (by omega) W)
 rw [show blockV (2+g) n a=((2+g+a:Nat):Int) by unfold blockV;rw [if_pos (by omega)];omega] at HS
 have HY:Hid (i64 ((2+g+a:Nat):Int)):=by constructor <;> omega
 have H0:=Lib.hid h
 have HQ:=Lib.hid hrow
 have HBB:=Lib.hid hB
 have hao:∃ k bs,openA 0 a b=blkA k bs∧bs.length=56:=by
  unfold openA
  split
  ·exact ⟨_,_,rfl,opBs_len hB.1⟩
  ·exact ⟨_,_,rfl,zBs_len⟩
 obtain ⟨k,bs,hk,h56⟩:=hao
 have HK:=Lib.hid hk
 have H56:=Lib.hid h56
 rw [hk]
 unfold gndA
 clear h hrow hB hk h56
 generalize 2+g+a=y at *
 go_enter Tryz.func87,Tryz.ntmps87
 go_upto_region 1 with (refine wpList_allocB rfl rfl ?_)
 obtain ⟨e0,e1,hb⟩:=alloc2 W (Obj.cells (gndC d r n g fr) 87) (Obj.cells (blkA 0 zBs) 71)
 have hz:(W.alloc (Obj.cells (gndC d r n g fr) 87)).heap.size=W.heap.size+1:=by simp
 generalize hgb:W.heap.size=gb at *
 generalize (W.alloc (Obj.cells (gndC d r n g fr) 87)).alloc (Obj.cells (blkA 0 zBs) 71)=W1 at *
 have HB:Hid (Below W.heap.size W W1):=by rw [hgb];exact hb
 have HGE:Hid (W.heap.size≤gb+1):=by rw [hgb];unfold Hid;omega
 have HR:Hid (∀ W',Below W1.heap.size W1 W'→∀ i,i64 i→_):=fun W' hW' i hi=>(H0.out.keep (by rw [hgb];exact hb)) W' hW' i hi
 have HG:Hid (∀ W',Below W1.heap.size W1 W'→W'.heap[gb]?=some (.cells (gndC d r n g fr) 87 (0,0))):=fun W' h=>kb h e0
 have HE1:=Lib.hid e1
 clear e0 hb H0 e1
 refine wp_region_rgk (VNop d gb n g a y r fr b) (fun _ W=>Below W1.heap.size W1 W) (fun _ w w'=>Below w.heap.size w w') (by kernel_rfl) (by kernel_rfl) (fun i j v w w' _ _ h hs=>by revert h;unfold VNop;split <;> intro h <;> first | exact h | (obtain ⟨p,h1,h2⟩:=h;exact ⟨p,h1,kb hs h2⟩) | trivial) ((Below.refl _ _).drew) ?_
 simp only [RAll]
 refine ⟨?_,?_,?_,?_,?_,?_,?_,?_,?_,?_,?_,?_,?_,?_⟩
 ·refine RStepK.of rfl fun T W L hag hL hJ hLs hd=>?_
  have e2:T.getD 2 undef=_:=(agree_at hag 2 (by kernel_rfl)).trans rfl
  clear hag hd
  go_simp
  first | exact ⟨_,rfl,rfl⟩ | exact ⟨_,rfl,rfl,brefl _⟩ | exact ⟨_,rfl,rfl,hJ,brefl _⟩
 ·refine RStepK.of rfl fun T W L hag hL hJ hLs hd=>?_
  have d9:T.getD 9 undef=_:=hd ⟨0,.data⟩ (by simp) rfl _ rfl
  obtain ⟨z0,z1,z2,z3,z4,z5,z6,z7⟩:=gnd_cells (HG.out W hJ)
  clear hag hd
  go_simp
  first | exact ⟨_,rfl,rfl⟩ | exact ⟨_,rfl,rfl,brefl _⟩ | exact ⟨_,rfl,rfl,hJ,brefl _⟩
 ·refine RStepK.of rfl fun T W L hag hL hJ hLs hd=>?_
  have e2:T.getD 2 undef=_:=(agree_at hag 2 (by kernel_rfl)).trans rfl
  clear hag hd
  go_simp
  first | exact ⟨_,rfl,rfl⟩ | exact ⟨_,rfl,rfl,brefl _⟩ | exact ⟨_,rfl,rfl,hJ,brefl _⟩
 ·refine RStepK.of rfl fun T W L hag hL hJ hLs hd=>?_
  have d11:T.getD 11 undef=_:=hd ⟨2,.data⟩ (by simp) rfl _ rfl
  obtain ⟨z0,z1,z2,z3,z4,z5,z6,z7⟩:=gnd_cells (HG.out W hJ)
  clear hag hd
  go_simp
  first | exact ⟨_,rfl,rfl⟩ | exact ⟨_,rfl,rfl,brefl _⟩ | exact ⟨_,rfl,rfl,hJ,brefl _⟩
 ·refine RStepK.of rfl fun T W L hag hL hJ hLs hd=>?_
  have e2:T.getD 2 undef=_:=(agree_at hag 2 (by kernel_rfl)).trans rfl
  clear hag hd
  go_simp
  first | exact ⟨_,rfl,rfl⟩ | exact ⟨_,rfl,rfl,brefl _⟩ | exact ⟨_,rfl,rfl,hJ,brefl _⟩
 ·refine RStepK.of rfl fun T W L hag hL hJ hLs hd=>?_
  have d13:T.getD 13 undef=_:=hd ⟨4,.data⟩ (by simp) rfl _ rfl
  obtain ⟨z0,z1,z2,z3,z4,z5,z6,z7⟩:=gnd_cells (HG.out W hJ)
  clear hag hd
  go_simp
  first | exact ⟨_,rfl,rfl⟩ | exact ⟨_,rfl,rfl,brefl _⟩ | exact ⟨_,rfl,rfl,hJ,brefl _⟩
 ·refine RStepK.of rfl fun T W L hag hL hJ hLs hd=>?_
  have e1:T.getD 1 undef=_:=(agree_at hag 1 (by kernel_rfl)).trans rfl
  clear hag hd
  go_simp
  first | exact ⟨_,rfl,rfl⟩ | exact ⟨_,rfl,rfl,brefl _⟩ | exact ⟨_,rfl,rfl,hJ,brefl _⟩
 ·refine RStepK.of rfl fun T W L hag hL hJ hLs hd=>?_
  have d14:T.getD 14 undef=_:=hd ⟨5,.data⟩ (by simp) rfl _ rfl
  have d15:T.getD 15 undef=_:=hd ⟨6,.data⟩ (by simp) rfl _ rfl
  clear hag hd
  go_simp
  refine (HS.out W).mono ?_
  rintro e w' ⟨rfl,hb⟩
  exact ⟨_,rfl,rfl,keepB hJ hb,hb⟩
 ·refine RStepK.of rfl fun T W L hag hL hJ hLs hd=>?_
  have d10:T.getD 10 undef=_:=hd ⟨1,.data⟩ (by simp) rfl _ rfl
  have d12:T.getD 12 undef=_:=hd ⟨3,.data⟩ (by simp) rfl _ rfl
  have d16:T.getD 16 undef=_:=hd ⟨7,.data⟩ (by simp) rfl _ rfl
  clear hag hd
  go_simp
  refine (HR.out W hJ y HY.out).mono ?_
  rintro e w' ⟨⟨v,rfl,ha⟩,hb⟩
  refine ⟨_,rfl,?_,keepB hJ hb,hb⟩
  rcases ha with ⟨h1,_⟩ | ⟨p,b',h1,_,rfl,_,h3⟩
  ·rw [HQ.out] at h1;cases h1
  ·rw [HQ.out] at h1;injection h1 with h1;subst h1;exact ⟨_,rfl,h3⟩
 ·refine RStepK.of rfl fun T W L hag hL hJ hLs hd=>?_
  have x17:=hd ⟨8,.data⟩ (by simp) rfl _ rfl
  obtain ⟨p,(hs:T.getD 17 undef=_),hp⟩:=x17
  clear hag hd
  go_simp
  exact ⟨_,rfl,⟨_,rfl,hp⟩,brefl _⟩
 ·refine RStepK.of rfl fun T W L hag hL hJ hLs hd=>?_
  have x8:=hd ⟨9,.data⟩ (by simp) rfl _ rfl
  obtain ⟨p,(hs:T.getD 8 undef=_),hp⟩:=x8
  clear hag hd
  go_simp
  exact ⟨_,rfl,⟨_,rfl,hp⟩,brefl _⟩
 ·refine RStepK.of rfl fun T W L hag hL hJ hLs hd=>?_
  have x8:=hd ⟨9,.data⟩ (by simp) rfl _ rfl
  obtain ⟨p,(hs:T.getD 8 undef=_),hp⟩:=x8
  clear hag hd
  go_simp
  first | exact ⟨_,rfl,rfl⟩ | exact ⟨_,rfl,rfl,brefl _⟩ | exact ⟨_,rfl,rfl,hJ,brefl _⟩
 ·refine RStepK.of rfl fun T W L hag hL hJ hLs hd=>?_
  have x18:=hd ⟨10,.data⟩ (by simp) rfl _ rfl
  obtain ⟨p,(hs:T.getD 18 undef=_),hp⟩:=x18
  clear hag hd
  go_simp
  exact ⟨_,rfl,⟨_,rfl,hp⟩,brefl _⟩
 ·refine RLastK.of rfl fun T W L hag hLs hL hJ hd=>?_
  have d19:T.getD 19 undef=_:=hd 11 _ (by simp) rfl
  obtain ⟨f,hf,hT⟩:=agree_fn hag
  have d9:T.getD 9 undef=_:=hd 0 _ (by simp) rfl
  have h9:=(hf 9).trans d9
  have d10:T.getD 10 undef=_:=hd 1 _ (by simp) rfl
  have h10:=(hf 10).trans d10
  have d11:T.getD 11 undef=_:=hd 2 _ (by simp) rfl
  have h11:=(hf 11).trans d11
  have d12:T.getD 12 undef=_:=hd 3 _ (by simp) rfl
  have h12:=(hf 12).trans d12
  have d13:T.getD 13 undef=_:=hd 4 _ (by simp) rfl
  have h13:=(hf 13).trans d13
  have d14:T.getD 14 undef=_:=hd 5 _ (by simp) rfl
  have h14:=(hf 14).trans d14
  have d15:T.getD 15 undef=_:=hd 6 _ (by simp) rfl
  have h15:=(hf 15).trans d15
  have d16:T.getD 16 undef=_:=hd 7 _ (by simp) rfl
  have h16:=(hf 16).trans d16
  have h19:=(hf 19).trans d19
  have HJ:=Lib.hid hJ
  have x6:=hd 12 _ (by simp) rfl
  obtain ⟨p,(hp6:T.getD 6 undef=_),hp⟩:=x6
  have h6:=(hf 6).trans hp6
  have HP:=Lib.hid hp
  clear hp6 hp
  clear hag hd d9 d10 d11 d12 d13 d14 d15 d16 d19 hJ hf
  rw [hT]
  clear hT
  simp only [List.pop_toArray,List.dropLast_cons_cons,List.dropLast_singleton,List.filterMap_cons,List.filterMap_nil,List.foldl_cons,List.foldl_nil,List.setIfInBounds_toArray,List.set_cons_succ,List.set_cons_zero,h9,h10,h11,h12,h13,h14,h15,h16,h19]
  simp only [h6]
  have hg5:=HG.out W HJ.out
  have HE2:=Lib.hid (kb HJ.out HE1.out)
  have HY1:=Lib.hid (byt_blk (bs:=b) HP.out (by simp))
  have HB5:=Lib.hid (keepB HB.out HJ.out)
  obtain ⟨z0,z1,z2,z3,z4,z5,z6,z7⟩:=gnd_cells hg5
  clear hg5 HG HP HJ HS HR HQ
  have ho:=open_any 0 a (some ⟨p,0,none⟩) b 64 W (by omega) (by constructor <;> omega) (by rw [HBB.out.1];omega) (by omega) HBB.out.2 HY1.out
  rw [HK.out,HBB.out.1] at ho
  have HO:=Lib.hid ho
  clear ho
  go_wp2_with fail
  refine HO.out.mono ?_
  rintro e W6 ⟨rfl,hb6⟩
  have HE6:=Lib.hid (kb hb6 HE2.out)
  have HB6:=Lib.hid (keepB HB5.out hb6)
  clear hb6 z0 z1 z2 z3 z4 z5 z6 z7
  go_wp2_with (refine wpList_storeB rfl (.tmp 4) (.tmp 25) rfl (gb+1) rfl k 0 bs zBs rfl H56.out zBs_len HE6.out ?_)
  refine bodyPost_ret (results_blk rfl _ _ (gb+1) k bs rfl H56.out (setRow_blk HE6.out)) rfl ?_
  exact ⟨rfl,below_setRow HB6.out HGE.out _⟩
structure LogO (W:World) (base:Nat) (v:Value) (vs:List Value) (ls:List (List Int)):Prop where
 row:RowAt W (fun k=>base≤k) 48 1 v ls.length vs
 blk:∀ (i:Nat) (b:List Int),ls[i]?=some b→∃ p,vs[i]?=some (.slice (some ⟨p,0,none⟩) 64 64)∧W.heap[p]?=some (.cells (Bs b).toArray 125 (0,0))∧base≤p
theorem LogO.below {W W':World} {base:Nat} {v:Value} {vs:List Value} {ls:List (List Int)} (h:LogO W base v vs ls) (hb:Below W.heap.size W W'):LogO W' base v vs ls :=
 ⟨h.row.below hb,fun i b hi=>let ⟨p,h1,h2,h3⟩:=h.blk i b hi;⟨p,h1,kb hb h2,h3⟩⟩
theorem blk_types_ne:(48:TypeId)≠125:=by decide
theorem LogO.push {W w3:World} {base:Nat} {v v':Value} {vs:List Value} {ls:List (List Int)} {b:List Int} {p:Nat} {o:Obj} (h:LogO W base v vs ls) (hbase:base≤W.heap.size) (hp:W.heap[p]?=some (.cells (Bs b).toArray 125 (0,0))) (hbp:base≤p)
 (h3:RowAt w3 (fun k=>(fun k=>base≤k) k∨(W.alloc o).heap.size≤k) 48 1 v' (ls.length+1) (vs++[.slice (some ⟨p,0,none⟩) 64 64])) (hg:(W.alloc o).grownBy w3 v.ownBlock):LogO w3 base v' (vs++[.slice (some ⟨p,0,none⟩) 64 64]) (ls++[b]):=by
 have kp:∀ {x:Nat} {c:List Int},W.heap[x]?=some (.cells (Bs c).toArray 125 (0,0))→w3.heap[x]?=some (.cells (Bs c).toArray 125 (0,0)):=fun {x c} hx=>by
  have hl:=room_lt hx
  rw [hg.block x (by simp;omega) (fun e=>?_),Below.heap_alloc W _ x hl]
  ·exact hx
  ·rcases h.row.1.2 with ⟨h0,_⟩ | ⟨g,cap,cur,h0,_,q1,_⟩
   ·rw [h0] at e;cases e
   ·rw [h0] at e
    simp [Value.ownBlock] at e
    subst e
    rw [q1] at hx
    injection hx with hx;injection hx with _ hx
    exact absurd hx blk_types_ne
 have hl:=h.row.len
 refine ⟨?_,fun i c hi=>?_⟩
 ·rw [List.length_append]
  exact h3.owner fun x _ hx=>by
   rcases hx with hx | hx
   ·exact hx
   ·simp at hx;omega
 ·by_cases hlt:i<ls.length
  ·rw [List.getElem?_append_left hlt] at hi
   obtain ⟨p',h1,h2,h4⟩:=h.blk i c hi
   exact ⟨p',by rw [List.getElem?_append_left (by omega)];exact h1,kp h2,h4⟩
  ·rw [List.getElem?_append_right (by omega)] at hi
   have h0:i-ls.length=0:=by
    rcases Nat.eq_zero_or_pos (i-ls.length) with h0 | h0
    ·exact h0
    ·rw [List.getElem?_eq_none (by simp;omega)] at hi;cases hi
   rw [h0] at hi
   injection hi with hi;subst hi
   exact ⟨p,by rw [List.getElem?_append_right (by omega),show i-vs.length=0 by omega];rfl,kp hp,hbp⟩
theorem LogO.mono {W:World} {base b2:Nat} {v:Value} {vs:List Value} {ls:List (List Int)} (h:LogO W base v vs ls) (hb:b2≤base):LogO W b2 v vs ls:=⟨h.row.owner fun g _ hg=>Nat.le_trans hb hg,fun i b hi=>let ⟨p,h1,h2,h3⟩:=h.blk i b hi;⟨p,h1,h2,Nat.le_trans hb h3⟩⟩
def VNlg (d:Option Addr) (gb n g k y bb:Nat) (r fr:Int) (b:List Int) (i:Nat) (v:Value) (w:World):Prop :=
 match i with
 | 0=>v=.pointer (some ⟨gb,0,none⟩)
 | 1=>v=.pointer d
 | 2=>v=.pointer (some ⟨gb,1,none⟩)
 | 3=>v=.int .i64 r
 | 4=>v=.pointer (some ⟨gb,3,none⟩)
 | 5=>v=shQ 0 0 n g fr
 | 6=>v=.int .i64 (k:Int)
 | 7=>v=.int .i64 (y:Int)
 | 11=>v=.bool true
 | 8=>∃ p,v=.tuple #[.slice (some ⟨p,0,none⟩) 64 64,.bool true]∧w.heap[p]?=some (.cells (Bs b).toArray 125 (0,0))∧bb≤p
 | 9=>∃ p,v=.tuple #[.slice (some ⟨p,0,none⟩) 64 64,.bool true]∧w.heap[p]?=some (.cells (Bs b).toArray 125 (0,0))∧bb≤p
 | 10=>∃ p,v=.slice (some ⟨p,0,none⟩) 64 64∧w.heap[p]?=some (.cells (Bs b).toArray 125 (0,0))∧bb≤p
 | 12=>∃ p,v=.slice (some ⟨p,0,none⟩) 64 64∧w.heap[p]?=some (.cells (Bs b).toArray 125 (0,0))∧bb≤p
 | _=>True
set_option maxHeartbeats 6400000 in
theorem glog_any {W:World} {d:Option Addr} {r:Int} {row:Int→Option (List Int)} (h:Rd W d r row) (n g:Nat) (fr:Int) (hg:g≤1000) (L:List (List Int)) (hL:L.length=g) (hrow:∀ i b,L[i]?=some b→row ((2+i:Nat):Int)=some b) :
 Calls Tryz.prog 85 #[gndA d r n g fr] W fun e w'=>(∃ v vs,e=.returned v∧LogO w' W.heap.size v vs L)∧Below W.heap.size W w':=by
 have H0:=Lib.hid h
 have HRW:=Lib.hid hrow
 have HL:=Lib.hid hL
 unfold gndA
 clear h hrow hL
 go_enter Tryz.func85,Tryz.ntmps85
 go_upto_region 1 with fail
 have e0:=heap_alloc_new W (Obj.cells (gndC d r n g fr) 87)
 have hb:Below W.heap.size W (W.alloc (Obj.cells (gndC d r n g fr) 87)):=(Below.refl _ _).alloc (Nat.le_refl _) _
 generalize hgb:W.heap.size=gb at *
 generalize W.alloc (Obj.cells (gndC d r n g fr) 87)=W1 at *
 have HB:Hid (Below W.heap.size W W1):=by rw [hgb];exact hb
 have HG:Hid (∀ W',Below W1.heap.size W1 W'→W'.heap[gb]?=some (.cells (gndC d r n g fr) 87 (0,0))):=fun W' h=>kb h e0
 have hzg:=(gnd_cells e0).2.2.2.2.2.2.1
 clear e0 hb
 go_wp2
 clear hzg
 go_loopw [3,10] (fun v i wr=>∃ (k:Nat) (vs:List Value),i=.int .i64 k∧k≤g∧Hid (LogO wr W1.heap.size v vs (L.take k))∧Below W1.heap.size W1 wr) (fun _ i _=>g-(intOf i).toNat)
 case atStart=>exact ⟨0,[],rfl,by omega,⟨RowAt.nil _ _ _ _,fun i b hi=>by simp at hi⟩,Below.refl _ _⟩
 case round =>
  obtain ⟨k,vs,rfl,hk,HLO,hbel⟩:=hrel
  obtain ⟨w5,rfl⟩:∃ w5,w5=wr:=⟨wr,rfl⟩
  have HB5:=Lib.hid (keepB HB.out hbel)
  have HG5:=Lib.hid (HG.out w5 hbel)
  have HBE:=Lib.hid hbel
  by_cases hlt:k<g
  ·obtain ⟨b,hb⟩:∃ b,L[k]?=some b:=⟨_,List.getElem?_eq_getElem (by rw [HL.out];exact hlt)⟩
   have hq:=HRW.out k b hb
   have HLB:=Lib.hid hb
   have hlen:(L.take k).length=k:=by rw [List.length_take,HL.out];omega
   have hrw:=HLO.out.row
   rw [hlen] at hrw
   obtain ⟨A5,c5,hv5,_,_⟩:=hrw.val
   rename_i v5
   subst hv5
   have HTX:=Lib.hid hrw
   obtain ⟨i0,hi0,hz0,hz1,hz2⟩:=info_parts infoBytes
   have HI:=Lib.hid (And.intro hi0 (And.intro hz0 (And.intro hz1 hz2)))
   have HS:=Lib.hid (fun W=>Log_any 0 0 n g fr k hg (by omega) W)
   rw [show blockV 2 g k=((2+k:Nat):Int) by unfold blockV;rw [if_pos (by omega)];omega] at HS
   have HY:Hid (i64 ((2+k:Nat):Int)):=by constructor <;> omega
   have hki:(k:Int)<g:=by omega
   have HR:Hid (∀ W',Below w5.heap.size w5 W'→∀ i,i64 i→_):=fun W' hW' i hi=>(H0.out.keep HB5.out) W' hW' i hi
   have HG:Hid (∀ W',Below w5.heap.size w5 W'→W'.heap[gb]?=some (.cells (gndC d r n g fr) 87 (0,0))):=fun W' h=>kb h HG5.out
   have HQ:=Lib.hid hq
   have HTK:Hid (L.take (k+1)=L.take k++[b]):=take_snoc' hb
   have HLN:=Lib.hid hlen
   clear hlen hb hq hrw hbel hi0 hz0 hz1 hz2
   generalize 2+k=y at *
   go_upto_region 5 with fail
   refine wp_region_rgk (VNlg d gb n g k y w5.heap.size r fr b) (fun _ W=>Below w5.heap.size w5 W) (fun _ w w'=>Below w.heap.size w w') (by kernel_rfl) (by kernel_rfl) (fun i j v w w' _ _ h hs=>by revert h;unfold VNlg;split <;> intro h <;> first | exact h | (obtain ⟨p,h1,h2,h3⟩:=h;exact ⟨p,h1,kb hs h2,h3⟩) | trivial) ((Below.refl _ _).drew) ?_
   simp only [RAll]
   refine ⟨?_,?_,?_,?_,?_,?_,?_,?_,?_,?_,?_,?_,?_,?_⟩
   ·refine RStepK.of rfl fun T W L hag hL hJ hLs hd=>?_
    have e1:T.getD 1 undef=_:=(agree_at hag 1 (by kernel_rfl)).trans rfl
    clear hag hd
    go_simp
    first | exact ⟨_,rfl,rfl⟩ | exact ⟨_,rfl,rfl,brefl _⟩ | exact ⟨_,rfl,rfl,hJ,brefl _⟩
   ·refine RStepK.of rfl fun T W L hag hL hJ hLs hd=>?_
    have d14:T.getD 14 undef=_:=hd ⟨0,.data⟩ (by simp) rfl _ rfl
    obtain ⟨z0,z1,z2,z3,z4,z5,z6,z7⟩:=gnd_cells (HG.out W hJ)
    clear hag hd
    go_simp
    first | exact ⟨_,rfl,rfl⟩ | exact ⟨_,rfl,rfl,brefl _⟩ | exact ⟨_,rfl,rfl,hJ,brefl _⟩
   ·refine RStepK.of rfl fun T W L hag hL hJ hLs hd=>?_
    have e1:T.getD 1 undef=_:=(agree_at hag 1 (by kernel_rfl)).trans rfl
    clear hag hd
    go_simp
    first | exact ⟨_,rfl,rfl⟩ | exact ⟨_,rfl,rfl,brefl _⟩ | exact ⟨_,rfl,rfl,hJ,brefl _⟩
   ·refine RStepK.of rfl fun T W L hag hL hJ hLs hd=>?_
    have d16:T.getD 16 undef=_:=hd ⟨2,.data⟩ (by simp) rfl _ rfl
    obtain ⟨z0,z1,z2,z3,z4,z5,z6,z7⟩:=gnd_cells (HG.out W hJ)
    clear hag hd
    go_simp
    first | exact ⟨_,rfl,rfl⟩ | exact ⟨_,rfl,rfl,brefl _⟩ | exact ⟨_,rfl,rfl,hJ,brefl _⟩
   ·refine RStepK.of rfl fun T W L hag hL hJ hLs hd=>?_
    have e1:T.getD 1 undef=_:=(agree_at hag 1 (by kernel_rfl)).trans rfl
    clear hag hd
    go_simp
    first | exact ⟨_,rfl,rfl⟩ | exact ⟨_,rfl,rfl,brefl _⟩ | exact ⟨_,rfl,rfl,hJ,brefl _⟩
   ·refine RStepK.of rfl fun T W L hag hL hJ hLs hd=>?_
    have d18:T.getD 18 undef=_:=hd ⟨4,.data⟩ (by simp) rfl _ rfl
    obtain ⟨z0,z1,z2,z3,z4,z5,z6,z7⟩:=gnd_cells (HG.out W hJ)
    clear hag hd
    go_simp
    first | exact ⟨_,rfl,rfl⟩ | exact ⟨_,rfl,rfl,brefl _⟩ | exact ⟨_,rfl,rfl,hJ,brefl _⟩
   ·refine RStepK.of rfl fun T W L hag hL hJ hLs hd=>?_
    have e4:T.getD 4 undef=_:=(agree_at hag 4 (by kernel_rfl)).trans rfl
    clear hag hd
    go_simp
    first | exact ⟨_,rfl,rfl⟩ | exact ⟨_,rfl,rfl,brefl _⟩ | exact ⟨_,rfl,rfl,hJ,brefl _⟩
   ·refine RStepK.of rfl fun T W L hag hL hJ hLs hd=>?_
    have d19:T.getD 19 undef=_:=hd ⟨5,.data⟩ (by simp) rfl _ rfl
    have d20:T.getD 20 undef=_:=hd ⟨6,.data⟩ (by simp) rfl _ rfl
    clear hag hd
    go_simp
    refine (HS.out W).mono ?_
    rintro e w' ⟨rfl,hb⟩
    exact ⟨_,rfl,rfl,keepB hJ hb,hb⟩
   ·refine RStepK.of rfl fun T W L hag hL hJ hLs hd=>?_
    have d15:T.getD 15 undef=_:=hd ⟨1,.data⟩ (by simp) rfl _ rfl
    have d17:T.getD 17 undef=_:=hd ⟨3,.data⟩ (by simp) rfl _ rfl
    have d21:T.getD 21 undef=_:=hd ⟨7,.data⟩ (by simp) rfl _ rfl
    clear hag hd
    go_simp
    refine (HR.out W hJ y HY.out).mono ?_
    rintro e w' ⟨⟨v,rfl,ha⟩,hb⟩
    refine ⟨_,rfl,?_,keepB hJ hb,hb⟩
    rcases ha with ⟨h1,_⟩ | ⟨p,b',h1,_,rfl,h2,h3⟩
    ·rw [HQ.out] at h1;cases h1
    ·rw [HQ.out] at h1;injection h1 with h1;subst h1;exact ⟨_,rfl,h3,Nat.le_trans hJ.size h2⟩
   ·refine RStepK.of rfl fun T W L hag hL hJ hLs hd=>?_
    have x22:=hd ⟨8,.data⟩ (by simp) rfl _ rfl
    obtain ⟨p,(hs:T.getD 22 undef=_),hp⟩:=x22
    clear hag hd
    go_simp
    exact ⟨_,rfl,⟨_,rfl,hp⟩,brefl _⟩
   ·refine RStepK.of rfl fun T W L hag hL hJ hLs hd=>?_
    have x13:=hd ⟨9,.data⟩ (by simp) rfl _ rfl
    obtain ⟨p,(hs:T.getD 13 undef=_),hp⟩:=x13
    clear hag hd
    go_simp
    exact ⟨_,rfl,⟨_,rfl,hp⟩,brefl _⟩
   ·refine RStepK.of rfl fun T W L hag hL hJ hLs hd=>?_
    have x13:=hd ⟨9,.data⟩ (by simp) rfl _ rfl
    obtain ⟨p,(hs:T.getD 13 undef=_),hp⟩:=x13
    clear hag hd
    go_simp
    first | exact ⟨_,rfl,rfl⟩ | exact ⟨_,rfl,rfl,brefl _⟩ | exact ⟨_,rfl,rfl,hJ,brefl _⟩
   ·refine RStepK.of rfl fun T W L hag hL hJ hLs hd=>?_
    have x23:=hd ⟨10,.data⟩ (by simp) rfl _ rfl
    obtain ⟨p,(hs:T.getD 23 undef=_),hp⟩:=x23
    clear hag hd
    go_simp
    exact ⟨_,rfl,⟨_,rfl,hp⟩,brefl _⟩
   ·refine RLastK.of rfl fun T W L hag hLs hL hJ hd=>?_
    have d24:T.getD 24 undef=_:=hd 11 _ (by simp) rfl
    obtain ⟨f,hf,hT⟩:=agree_fn hag
    have d14:T.getD 14 undef=_:=hd 0 _ (by simp) rfl
    have h14:=(hf 14).trans d14
    have d15:T.getD 15 undef=_:=hd 1 _ (by simp) rfl
    have h15:=(hf 15).trans d15
    have d16:T.getD 16 undef=_:=hd 2 _ (by simp) rfl
    have h16:=(hf 16).trans d16
    have d17:T.getD 17 undef=_:=hd 3 _ (by simp) rfl
    have h17:=(hf 17).trans d17
    have d18:T.getD 18 undef=_:=hd 4 _ (by simp) rfl
    have h18:=(hf 18).trans d18
    have d19:T.getD 19 undef=_:=hd 5 _ (by simp) rfl
    have h19:=(hf 19).trans d19
    have d20:T.getD 20 undef=_:=hd 6 _ (by simp) rfl
    have h20:=(hf 20).trans d20
    have d21:T.getD 21 undef=_:=hd 7 _ (by simp) rfl
    have h21:=(hf 21).trans d21
    have h24:=(hf 24).trans d24
    have HJ:=Lib.hid hJ
    have x5:=hd 12 _ (by simp) rfl
    obtain ⟨p,(hp6:T.getD 5 undef=_),hp⟩:=x5
    have h5:=(hf 5).trans hp6
    have HP:=Lib.hid hp
    clear hp6 hp
    clear hag hd d14 d15 d16 d17 d18 d19 d20 d21 d24 hJ hf
    rw [hT]
    clear hT
    simp only [List.pop_toArray,List.dropLast_cons_cons,List.dropLast_singleton,List.filterMap_cons,List.filterMap_nil,List.foldl_cons,List.foldl_nil,List.setIfInBounds_toArray,List.set_cons_succ,List.set_cons_zero,h14,h15,h16,h17,h18,h19,h20,h21,h24]
    simp only [h5]
    have HB6:=Lib.hid (keepB HB5.out HJ.out)
    have HBE6:=Lib.hid (keepB HBE.out HJ.out)
    have HT6:=Lib.hid (HTX.out.below HJ.out)
    have HLO6:=Lib.hid (HLO.out.below HJ.out)
    have HSZ6:=Lib.hid HBE6.out.size
    clear HG5 HJ HS HR HQ HTX HG
    go_wp2_with (at_builtin;refine wpList_push_of rfl (.tmp 27) (.tmp 29) 52 rfl 48 i0 _ 1 24 Tryz.underlying52 HI.out.1 HI.out.2.1 HI.out.2.2.1 HI.out.2.2.2 rfl (by decide) (.slice A5 k c5) k vs rfl _ (HT6.out.below ((Below.refl _ _).alloc (Nat.le_refl _) _)) ⟨W.heap.size,0,none⟩ 1 1 [.slice (some ⟨p,0,none⟩) 64 64] rfl rfl (World.news_of_block (heap_alloc_new W _)) (fun u hu=>by rw [List.mem_singleton.1 hu];rfl) (by simp only [maxLen];omega) (by omega) ?_;intro v' w3 hrow3 hgr3 _;have HR3:=Lib.hid hrow3;have HG3:=Lib.hid hgr3;clear hrow3 hgr3)
    go_roundw
    case rel =>
     refine ⟨k+1,vs++[.slice (some ⟨p,0,none⟩) 64 64],by go_num,by omega,?_,?_⟩
     ·rw [HTK.out]
      exact LogO.push (o:=.cells #[.slice (some ⟨p,0,none⟩) 64 64] 48) HLO6.out HSZ6.out HP.out.1 (Nat.le_trans HBE.out.size HP.out.2) (by rw [HLN.out];exact HR3.out) HG3.out
     ·exact (HBE6.out.alloc HSZ6.out _).grown HG3.out (by have:=HSZ6.out;simp;omega) (fun y hy=>HT6.out.2 y hy)
    case measure=>simp [intOf];omega
  ·obtain rfl:k=g:=by omega
   have hki:¬ ((k:Int)<k):=by omega
   have hs1:=HB.out.size
   have hlo:=HLO.out
   rw [List.take_of_length_le (by rw [HL.out];omega)] at hlo
   have HF:=Lib.hid (hlo.mono hs1)
   clear hbel hlo hs1
   go_wp2
   go_ret
   rw [← hgb]
   exact ⟨⟨_,rfl,_,HF.out⟩,HB5.out⟩
section
variable {α:Type}
def rowL (enc:α→List Value):List α→List Value
 | []=>[]
 | x :: l=>enc x++rowL enc l
def Fits (enc:α→List Value) (sz:Nat) (l:List α):Prop:=∀ x∈l,(enc x).length=sz
theorem Fits.tl {enc:α→List Value} {sz:Nat} {x:α} {l:List α} (h:Fits enc sz (x :: l)):Fits enc sz l:=fun y hy=>h y (by simp [hy])
theorem Fits.hd {enc:α→List Value} {sz:Nat} {x:α} {l:List α} (h:Fits enc sz (x :: l)):(enc x).length=sz:=h x (by simp)
theorem rowL_length {enc:α→List Value} {sz:Nat}:∀ {l:List α},Fits enc sz l→(rowL enc l).length=l.length*sz
 | [],_=>by simp [rowL]
 | x :: l,h=>by
   show (enc x++rowL enc l).length=(l.length+1)*sz
   rw [List.length_append,h.hd,rowL_length h.tl,Nat.add_mul];omega
theorem rowL_at {enc:α→List Value} {sz:Nat}:∀ {l:List α},Fits enc sz l→∀ {i:Nat} {x:α},l[i]?=some x→∀ {j:Nat} {v:Value},(enc x)[j]?=some v→(rowL enc l)[i*sz+j]?=some v
 | [],_,i,x,h,_,_,_=>by cases h
 | y :: l,hl,0,x,h,j,v,hj=>by
   injection h with h;subst h
   show (enc y++rowL enc l)[0*sz+j]?=some v
   rw [Nat.zero_mul,Nat.zero_add,List.getElem?_append_left (List.getElem?_eq_some_iff.1 hj).1];exact hj
 | y :: l,hl,i+1,x,h,j,v,hj=>by
   have h1:=rowL_at (l:=l) hl.tl (i:=i) h hj
   show (enc y++rowL enc l)[(i+1)*sz+j]?=some v
   rw [List.getElem?_append_right (by rw [hl.hd,Nat.add_mul];omega),hl.hd,show (i+1)*sz+j-sz=i*sz+j by rw [Nat.add_mul];omega]
   exact h1
theorem rowL_set {enc:α→List Value} {sz:Nat}:∀ {l:List α},Fits enc sz l→∀ {k:Nat} {x y:α} {j:Nat} {v:Value},l[k]?=some x→j<sz→enc y=(enc x).set j v→(rowL enc l).set (k*sz+j) v=rowL enc (l.set k y)
 | [],_,k,x,_,_,_,h,_,_=>by cases h
 | z :: l,hl,0,x,y,j,v,h,hj,he=>by
   injection h with h;subst h
   show (enc z++rowL enc l).set (0*sz+j) v=enc y++rowL enc l
   rw [Nat.zero_mul,Nat.zero_add,List.set_append_left _ _ (by rw [hl.hd];exact hj),he]
 | z :: l,hl,k+1,x,y,j,v,h,hj,he=>by
   show (enc z++rowL enc l).set ((k+1)*sz+j) v=enc z++rowL enc (l.set k y)
   rw [List.set_append_right _ _ (by rw [hl.hd,Nat.add_mul];omega),hl.hd,show (k+1)*sz+j-sz=k*sz+j by rw [Nat.add_mul];omega,rowL_set hl.tl h hj he]
theorem rowL_splice {enc:α→List Value} {sz:Nat}:∀ {l:List α},Fits enc sz l→∀ {k:Nat} {x y:α} {j:Nat} {cs:List Value},l[k]?=some x→j+cs.length≤sz→enc y=splice (enc x) j cs→splice (rowL enc l) (k*sz+j) cs=rowL enc (l.set k y)
 | [],_,k,x,_,_,_,h,_,_=>by cases h
 | z :: l,hl,0,x,y,j,cs,h,hj,he=>by
   injection h with h;subst h
   show splice (enc z++rowL enc l) (0*sz+j) cs=enc y++rowL enc l
   rw [Nat.zero_mul,Nat.zero_add,he]
   unfold splice
   have:=hl.hd
   rw [List.take_append_of_le_length (by omega),List.drop_append_of_le_length (by omega)]
   simp
 | z :: l,hl,k+1,x,y,j,cs,h,hj,he=>by
   show splice (enc z++rowL enc l) ((k+1)*sz+j) cs=enc z++rowL enc (l.set k y)
   rw [← rowL_splice hl.tl h hj he]
   have e:=hl.hd
   unfold splice
   rw [show (k+1)*sz+j=(enc z).length+(k*sz+j) by rw [e,Nat.add_mul];omega,List.take_length_add_append,Nat.add_assoc,List.drop_length_add_append]
   simp
end
theorem splice_whole {α:Type} (L cs:List α) (h:L.length=cs.length):splice L 0 cs=cs:=by
 unfold splice;simp [h.symm]
theorem heap_setCells {g:Nat} {t:TypeId}:∀ (cs:List Value) (o:Nat) (C:Array Value) (W:World),W.heap[g]?=some (.cells C t (0,0))→o+cs.length≤C.size→(W.setCells g o cs).heap[g]?=some (.cells (splice C.toList o cs).toArray t (0,0))
 | [],o,C,W,h,_=>by
   show W.heap[g]?=_
   rw [h];unfold splice;simp
 | v :: r,o,C,W,h,hl=>by
   show ((W.setCell ⟨g,o,none⟩ v).setCells g (o+1) r).heap[g]?=_
   simp only [List.length_cons] at hl
   rw [heap_setCells r (o+1) _ _ (heap_setCell_same' h v) (by simp;omega),Array.toList_setIfInBounds]
   congr 3
   unfold splice
   rw [List.take_add_one,List.take_set_of_le (by omega),List.getElem?_set_self (by simp;omega),List.drop_set_of_lt (by omega)]
   simp [show o+1+r.length=o+(r.length+1) by omega]
theorem heap_setCells_other {g k:Nat} (hk:k≠g):∀ (cs:List Value) (o:Nat) (W:World),(W.setCells g o cs).heap[k]?=W.heap[k]?
 | [],_,_=>rfl
 | v :: r,o,W=>by
   show ((W.setCell ⟨g,o,none⟩ v).setCells g (o+1) r).heap[k]?=_
   rw [heap_setCells_other hk r,heap_setCell_other _ _ _ _ hk]
section
variable {W:World} {base e sz n g cap:Nat} {xs:List Value}
end
end Go.Proofs.YtamnpblijdgdaaaGreat
