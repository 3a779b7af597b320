/- For VolAll: contracts and facts, part 34. -/
import Derived.Test.YtamnpblijdgdaaaGreatV33
namespace Go.Proofs.YtamnpblijdgdaaaGreat
open Go.ChangeShapes Go.WideShapes Go.ChangeAt Go.RowKit
set_option linter.unusedVariables false
set_option maxRecDepth 100000
section
variable {w0 W W':World} {P:Nat→Prop} {q:Nat} {m:DM}
theorem RS.seen (h:RS w0 W P q m) {r:Nat} {row:List (List Int)} (hr:m.now[r]?=some row) :
 ∃ A c B d,W.cell? ⟨q,1,none⟩=some (.slice (some ⟨A,0,none⟩) m.now.length c)∧W.cell? ⟨A,r,none⟩=some (.slice B row.length d):=by
 obtain ⟨F,⟨O,L,hR,_,_⟩,_⟩:=h.dev
 obtain ⟨g,cap,u,hL1,_,_,hcu,_,hru⟩:=hR.row (t:=1) (by omega) (G1_at (m:=refOf m) hr)
 rw [G1_len] at hL1
 have hc1:=hR.cell 1 (by omega)
 rw [hL1] at hc1
 obtain ⟨B,d,rfl,_,_⟩:=hru.val
 rw [List.length_map] at hcu
 exact ⟨g,cap,B,d,hc1,hcu⟩
end
def VMk1 (q R r c K d n g z A:Nat) (fr:Int) (B:Option Addr) (i:Nat) (v:Value) (w:World):Prop :=
 match i with
 | 0 | 8 | 9 | 16 | 17=>v=.pointer (some ⟨q,0,none⟩)
 | 1 | 2 | 4 | 5 | 6 | 13 | 14 | 15 | 26=>v=.bool false
 | 3 | 7 | 20=>v=.int .i64 (r:Int)
 | 10 | 18=>v=.pointer (some ⟨q,1,none⟩)
 | 11 | 19=>v=.slice (some ⟨A,0,none⟩) R c
 | 12=>v=.int .i64 (R:Int)
 | 21=>v=.pointer (some ⟨A,r,none⟩)
 | 22=>v=.slice B K d
 | 23=>v=.int .i64 (K:Int)
 | 24=>v=shQ 0 0 n g fr
 | 25=>v=.int .i64 (z:Int)
 | _=>True
set_option maxHeartbeats 12800000 in
theorem rmake_any {w0 W:World} {P:Nat→Prop} {q:Nat} {m:DM} (h:RS w0 W P q m) (r:Nat) (hr:r≤1000) {row:List (List Int)} (hrow:m.now[r]?=some row) (n g:Nat) (fr:Int) (hn:n≤199) (hg:g≤1000) (hlen:2+g+n≤row.length) (hmax:m.done.length+n≤99000) :
 Calls Tryz.prog 12 #[.pointer (some ⟨q,0,none⟩),.int .i64 r,shQ 0 0 n g fr] W fun e w'=>e=.returned (.bool true)∧RS w0 w' P q (makeM m r n g)∧Same P W w':=by
 have HD:=Lib.hid h
 have HR:Hid (i64 (r:Int)):=by constructor <;> omega
 have HNG:=Lib.hid (And.intro hn hg)
 have HMX:=Lib.hid hmax
 have hb1:=(Below.refl W.heap.size W).alloc (Nat.le_refl _) (Obj.cells #[.int .i64 0,.int .i64 0,.int .i64 n,.int .i64 g,.int .i64 fr] 28)
 have e5:=heap_alloc_new W (Obj.cells #[.int .i64 0,.int .i64 0,.int .i64 n,.int .i64 g,.int .i64 fr] 28)
 obtain ⟨A,c,B,d,hs1,hs2⟩:=h.seen hrow
 have hrn:r<m.now.length:=(List.getElem?_eq_some_iff.1 hrow).1
 obtain ⟨R,hR⟩:∃ R,R=m.now.length:=⟨_,rfl⟩
 obtain ⟨K,hK⟩:∃ K,K=row.length:=⟨_,rfl⟩
 obtain ⟨z,hz⟩:∃ z,z=2+g+n:=⟨_,rfl⟩
 have HSZ:=Lib.hid (fun W=>(by have:=sizeOf_any 0 0 n g fr (by omega) hg W;rw [← hz] at this;exact this:Calls Tryz.prog 10 #[shQ 0 0 n g fr] W fun e w'=>e=.returned (.int .i64 (z:Int))∧Below W.heap.size W w'))
 rw [← hR] at hs1 hrn
 rw [← hK] at hs2
 have HPL:Hid (∀ w,Calls Tryz.prog 38 #[.agg #[.int .i64 0,.int .i64 0]] w fun e w'=>e=.returned (.tuple #[.int .u8 0,.bool true])∧Below w.heap.size w w'):=fun w=>refPut_yes 0 0 w (by omega) (by omega)
 have hcs:∀ W',Below W.heap.size W W'→W'.cell? ⟨q,1,none⟩=some (.slice (some ⟨A,0,none⟩) R c)∧W'.cell? ⟨A,r,none⟩=some (.slice B K d):=fun W' hb=>⟨keepC hb hs1,keepC hb hs2⟩
 have j1:decide ((r:Int)<0)=false:=by simp
 have j2:decide ((R:Int)≤r)=false:=by simp;omega
 have j3:decide ((K:Int)<z)=false:=by simp;omega
 have j4:decide (R≤r)=false:=by simp;omega
 have j5:decide (K<z)=false:=by simp;omega
 have hri:(r:Int)<R:=by omega
 have hlt5:=room_lt e5
 have HS1:=Lib.hid (h.below hb1 (P':=fun k=>P k∨k=W.heap.size) fun k hk=>by
  rcases hk with hk | rfl
  ·exact Or.inl hk
  ·exact Or.inr ⟨Nat.le_refl _,hlt5⟩)
 have HM1:=Lib.hid (h.same hb1)
 have HC0:Hid (∀ W',Below (W.alloc (Obj.cells #[.int .i64 0,.int .i64 0,.int .i64 n,.int .i64 g,.int .i64 fr] 28)).heap.size (W.alloc (Obj.cells #[.int .i64 0,.int .i64 0,.int .i64 n,.int .i64 g,.int .i64 fr] 28)) W'→W'.cell? ⟨q,1,none⟩=some (.slice (some ⟨A,0,none⟩) R c)∧W'.cell? ⟨A,r,none⟩=some (.slice B K d)):=fun W' hb=>hcs W' (keepB hb1 hb)
 clear h hmax hb1 hs1 hs2 hcs hlt5 hrow hR hK hlen hz
 unfold shQ makeM
 go_enter Tryz.func12,Tryz.ntmps12
 go_upto_region 1 with fail
 obtain ⟨w1,hw1⟩:∃ w1,w1=W.alloc (Obj.cells #[.int .i64 0,.int .i64 0,.int .i64 n,.int .i64 g,.int .i64 fr] 28):=⟨_,rfl⟩
 rw [← hw1] at e5 HS1 HM1 HC0 ⊢
 clear hw1
 generalize W.heap.size=g5 at *
 have HE1:=Lib.hid e5
 have HC:Hid (∀ W',Below w1.heap.size w1 W'→W'.cell? ⟨q,1,none⟩=some (.slice (some ⟨A,0,none⟩) R c)∧W'.cell? ⟨A,r,none⟩=some (.slice B K d)∧W'.cell? ⟨g5,0,none⟩=some (.int .i64 0)∧W'.cell? ⟨g5,1,none⟩=some (.int .i64 0)∧W'.cell? ⟨g5,2,none⟩=some (.int .i64 n)∧W'.cell? ⟨g5,3,none⟩=some (.int .i64 g)∧W'.cell? ⟨g5,4,none⟩=some (.int .i64 fr)):=fun W' hb=>by
  have he:=kb hb HE1.out
  exact ⟨(HC0.out W' hb).1,(HC0.out W' hb).2,(blk_cell he 0).trans rfl,(blk_cell he 1).trans rfl,(blk_cell he 2).trans rfl,(blk_cell he 3).trans rfl,(blk_cell he 4).trans rfl⟩
 clear e5 HC0
 refine wp_region_rgk (VMk1 q R r c K d n g z A fr B) (fun _ W=>Below w1.heap.size w1 W) (fun _ w w'=>Below w.heap.size w w') (by kernel_rfl) (by kernel_rfl) (fun i j v w w' _ _ h hs=>by unfold VMk1 at *;exact h) ((Below.refl _ _).drew) ?_
 simp only [RAll]
 refine ⟨?_,?_,?_,?_,?_,?_,?_,?_,?_,?_,?_,?_,?_,?_,?_,?_,?_,?_,?_,?_,?_,?_,?_,?_,?_,?_,?_,?_⟩
 ·refine RStepK.of rfl fun T W L hag hL hJ hLs hd=>?_
  have e0:T.getD 0 undef=_:=(agree_at hag 0 (by kernel_rfl)).trans rfl
  clear hag hd
  go_simp
  first | exact ⟨_,rfl,rfl⟩ | exact ⟨_,rfl,rfl,brefl _⟩ | exact ⟨_,rfl,rfl,hJ,brefl _⟩
 ·refine RStepK.of rfl fun T W L hag hL hJ hLs hd=>?_
  have d13:T.getD 13 undef=_:=hd ⟨0,.data⟩ (by simp) rfl _ rfl
  clear hag hd
  go_simp
  first | exact ⟨_,rfl,rfl⟩ | exact ⟨_,rfl,rfl,brefl _⟩ | exact ⟨_,rfl,rfl,hJ,brefl _⟩
 ·refine RStepK.of rfl fun T W L hag hL hJ hLs hd=>?_
  have d14:T.getD 14 undef=_:=hd ⟨1,.data⟩ (by simp) rfl _ rfl
  clear hag hd
  go_simp
  first | exact ⟨_,rfl,rfl⟩ | exact ⟨_,rfl,rfl,brefl _⟩ | exact ⟨_,rfl,rfl,hJ,brefl _⟩
 ·refine RStepK.want rfl rfl rfl (by kernel_rfl) (fun v w h=>h) fun T W L hag hL hJ hLs hd=>?_
  have e1:T.getD 1 undef=_:=(agree_at hag 1 (by kernel_rfl)).trans rfl
  clear hag hd
  go_simp
  first | exact ⟨_,rfl,rfl⟩ | exact ⟨_,rfl,rfl,brefl _⟩ | exact ⟨_,rfl,rfl,hJ,brefl _⟩
 ·refine RStepK.want rfl rfl rfl (by kernel_rfl) (fun v w h=>h) fun T W L hag hL hJ hLs hd=>?_
  have d16:T.getD 16 undef=_:=hd ⟨3,.data⟩ (by simp) rfl _ rfl
  clear hag hd
  go_simp
  first | exact ⟨_,rfl,rfl⟩ | exact ⟨_,rfl,rfl,brefl _⟩ | exact ⟨_,rfl,rfl,hJ,brefl _⟩
 ·refine RStepK.of rfl fun T W L hag hL hJ hLs hd=>?_
  have d15:T.getD 15 undef=_:=hd ⟨2,.data⟩ (by simp) rfl _ rfl
  have d17:T.getD 17 undef=_:=hd ⟨4,.data⟩ (by simp) rfl _ rfl
  clear hag hd
  go_simp
  first | exact ⟨_,rfl,rfl⟩ | exact ⟨_,rfl,rfl,brefl _⟩ | exact ⟨_,rfl,rfl,hJ,brefl _⟩
 ·refine RStepK.of rfl fun T W L hag hL hJ hLs hd=>?_
  have d18:T.getD 18 undef=_:=hd ⟨5,.data⟩ (by simp) rfl _ rfl
  clear hag hd
  go_simp
  first | exact ⟨_,rfl,rfl⟩ | exact ⟨_,rfl,rfl,brefl _⟩ | exact ⟨_,rfl,rfl,hJ,brefl _⟩
 ·refine RStepK.want rfl rfl rfl (by kernel_rfl) (fun v w h=>h) fun T W L hag hL hJ hLs hd=>?_
  have e1:T.getD 1 undef=_:=(agree_at hag 1 (by kernel_rfl)).trans rfl
  clear hag hd
  go_simp
  first | exact ⟨_,rfl,rfl⟩ | exact ⟨_,rfl,rfl,brefl _⟩ | exact ⟨_,rfl,rfl,hJ,brefl _⟩
 ·refine RStepK.want rfl rfl rfl (by kernel_rfl) (fun v w h=>h) fun T W L hag hL hJ hLs hd=>?_
  have e0:T.getD 0 undef=_:=(agree_at hag 0 (by kernel_rfl)).trans rfl
  clear hag hd
  go_simp
  first | exact ⟨_,rfl,rfl⟩ | exact ⟨_,rfl,rfl,brefl _⟩ | exact ⟨_,rfl,rfl,hJ,brefl _⟩
 ·refine RStepK.want rfl rfl rfl (by kernel_rfl) (fun v w h=>h) fun T W L hag hL hJ hLs hd=>?_
  have d21:T.getD 21 undef=_:=hd ⟨8,.data⟩ (by simp) rfl _ rfl
  clear hag hd
  go_simp
  first | exact ⟨_,rfl,rfl⟩ | exact ⟨_,rfl,rfl,brefl _⟩ | exact ⟨_,rfl,rfl,hJ,brefl _⟩
 ·refine RStepK.want rfl rfl rfl (by kernel_rfl) (fun v w h=>h) fun T W L hag hL hJ hLs hd=>?_
  have d22:T.getD 22 undef=_:=hd ⟨9,.data⟩ (by simp) rfl _ rfl
  clear hag hd
  go_simp
  first | exact ⟨_,rfl,rfl⟩ | exact ⟨_,rfl,rfl,brefl _⟩ | exact ⟨_,rfl,rfl,hJ,brefl _⟩
 ·refine RStepK.want rfl rfl rfl (by kernel_rfl) (fun v w h=>h) fun T W L hag hL hJ hLs hd=>?_
  have d23:T.getD 23 undef=_:=hd ⟨10,.data⟩ (by simp) rfl _ rfl
  obtain ⟨z1,zr,y0,y1,y2,y3,y4⟩:=HC.out W hJ
  clear hag hd
  go_simp
  first | exact ⟨_,rfl,rfl⟩ | exact ⟨_,rfl,rfl,brefl _⟩ | exact ⟨_,rfl,rfl,hJ,brefl _⟩
 ·refine RStepK.want rfl rfl rfl (by kernel_rfl) (fun v w h=>h) fun T W L hag hL hJ hLs hd=>?_
  have d24:T.getD 24 undef=_:=hd ⟨11,.data⟩ (by simp) rfl _ rfl
  clear hag hd
  go_simp
  first | exact ⟨_,rfl,rfl⟩ | exact ⟨_,rfl,rfl,brefl _⟩ | exact ⟨_,rfl,rfl,hJ,brefl _⟩
 ·refine RStepK.want rfl rfl rfl (by kernel_rfl) (fun v w h=>h) fun T W L hag hL hJ hLs hd=>?_
  have d20:T.getD 20 undef=_:=hd ⟨7,.data⟩ (by simp) rfl _ rfl
  have d25:T.getD 25 undef=_:=hd ⟨12,.data⟩ (by simp) rfl _ rfl
  clear hag hd
  go_simp
  first | exact ⟨_,rfl,rfl⟩ | exact ⟨_,rfl,rfl,brefl _⟩ | exact ⟨_,rfl,rfl,hJ,brefl _⟩
 ·refine RStepK.of rfl fun T W L hag hL hJ hLs hd=>?_
  have d19:T.getD 19 undef=_:=hd ⟨6,.data⟩ (by simp) rfl _ rfl
  have d26:T.getD 26 undef=_:=hd ⟨13,.data⟩ (by simp) rfl _ rfl
  clear hag hd
  go_simp
  first | exact ⟨_,rfl,rfl⟩ | exact ⟨_,rfl,rfl,brefl _⟩ | exact ⟨_,rfl,rfl,hJ,brefl _⟩
 ·refine RStepK.of rfl fun T W L hag hL hJ hLs hd=>?_
  have d27:T.getD 27 undef=_:=hd ⟨14,.data⟩ (by simp) rfl _ rfl
  clear hag hd
  go_simp
  first | exact ⟨_,rfl,rfl⟩ | exact ⟨_,rfl,rfl,brefl _⟩ | exact ⟨_,rfl,rfl,hJ,brefl _⟩
 ·refine RStepK.want rfl rfl rfl (by kernel_rfl) (fun v w h=>h) fun T W L hag hL hJ hLs hd=>?_
  have e0:T.getD 0 undef=_:=(agree_at hag 0 (by kernel_rfl)).trans rfl
  clear hag hd
  go_simp
  first | exact ⟨_,rfl,rfl⟩ | exact ⟨_,rfl,rfl,brefl _⟩ | exact ⟨_,rfl,rfl,hJ,brefl _⟩
 ·refine RStepK.want rfl rfl rfl (by kernel_rfl) (fun v w h=>h) fun T W L hag hL hJ hLs hd=>?_
  have d29:T.getD 29 undef=_:=hd ⟨16,.data⟩ (by simp) rfl _ rfl
  clear hag hd
  go_simp
  first | exact ⟨_,rfl,rfl⟩ | exact ⟨_,rfl,rfl,brefl _⟩ | exact ⟨_,rfl,rfl,hJ,brefl _⟩
 ·refine RStepK.want rfl rfl rfl (by kernel_rfl) (fun v w h=>h) fun T W L hag hL hJ hLs hd=>?_
  have d30:T.getD 30 undef=_:=hd ⟨17,.data⟩ (by simp) rfl _ rfl
  clear hag hd
  go_simp
  first | exact ⟨_,rfl,rfl⟩ | exact ⟨_,rfl,rfl,brefl _⟩ | exact ⟨_,rfl,rfl,hJ,brefl _⟩
 ·refine RStepK.want rfl rfl rfl (by kernel_rfl) (fun v w h=>h) fun T W L hag hL hJ hLs hd=>?_
  have d31:T.getD 31 undef=_:=hd ⟨18,.data⟩ (by simp) rfl _ rfl
  obtain ⟨z1,zr,y0,y1,y2,y3,y4⟩:=HC.out W hJ
  clear hag hd
  go_simp
  first | exact ⟨_,rfl,rfl⟩ | exact ⟨_,rfl,rfl,brefl _⟩ | exact ⟨_,rfl,rfl,hJ,brefl _⟩
 ·refine RStepK.want rfl rfl rfl (by kernel_rfl) (fun v w h=>h) fun T W L hag hL hJ hLs hd=>?_
  have e1:T.getD 1 undef=_:=(agree_at hag 1 (by kernel_rfl)).trans rfl
  clear hag hd
  go_simp
  first | exact ⟨_,rfl,rfl⟩ | exact ⟨_,rfl,rfl,brefl _⟩ | exact ⟨_,rfl,rfl,hJ,brefl _⟩
 ·refine RStepK.want rfl rfl rfl (by kernel_rfl) (fun v w h=>h) fun T W L hag hL hJ hLs hd=>?_
  have d32:T.getD 32 undef=_:=hd ⟨19,.data⟩ (by simp) rfl _ rfl
  have d33:T.getD 33 undef=_:=hd ⟨20,.data⟩ (by simp) rfl _ rfl
  clear hag hd
  go_simp
  first | exact ⟨_,rfl,rfl⟩ | exact ⟨_,rfl,rfl,brefl _⟩ | exact ⟨_,rfl,rfl,hJ,brefl _⟩
 ·refine RStepK.want rfl rfl rfl (by kernel_rfl) (fun v w h=>h) fun T W L hag hL hJ hLs hd=>?_
  have d34:T.getD 34 undef=_:=hd ⟨21,.data⟩ (by simp) rfl _ rfl
  obtain ⟨z1,zr,y0,y1,y2,y3,y4⟩:=HC.out W hJ
  clear hag hd
  go_simp
  first | exact ⟨_,rfl,rfl⟩ | exact ⟨_,rfl,rfl,brefl _⟩ | exact ⟨_,rfl,rfl,hJ,brefl _⟩
 ·refine RStepK.want rfl rfl rfl (by kernel_rfl) (fun v w h=>h) fun T W L hag hL hJ hLs hd=>?_
  have d35:T.getD 35 undef=_:=hd ⟨22,.data⟩ (by simp) rfl _ rfl
  clear hag hd
  go_simp
  first | exact ⟨_,rfl,rfl⟩ | exact ⟨_,rfl,rfl,brefl _⟩ | exact ⟨_,rfl,rfl,hJ,brefl _⟩
 ·refine RStepK.want rfl rfl rfl (by kernel_rfl) (fun v w h=>h) fun T W L hag hL hJ hLs hd=>?_
  have e5:T.getD 5 undef=_:=(agree_at hag 5 (by kernel_rfl)).trans rfl
  obtain ⟨z1,zr,y0,y1,y2,y3,y4⟩:=HC.out W hJ
  clear hag hd
  go_simp
  first | exact ⟨_,rfl,rfl⟩ | exact ⟨_,rfl,rfl,brefl _⟩ | exact ⟨_,rfl,rfl,hJ,brefl _⟩
 ·refine RStepK.want rfl rfl rfl (by kernel_rfl) (fun v w h=>h) fun T W L hag hL hJ hLs hd=>?_
  have d37:T.getD 37 undef=_:=hd ⟨24,.data⟩ (by simp) rfl _ rfl
  clear hag hd
  go_simp
  refine (HSZ.out W).mono ?_
  rintro e w' ⟨rfl,hb⟩
  exact ⟨_,rfl,rfl,keepB hJ hb,hb⟩
 ·refine RStepK.want rfl rfl rfl (by kernel_rfl) (fun v w h=>h) fun T W L hag hL hJ hLs hd=>?_
  have d36:T.getD 36 undef=_:=hd ⟨23,.data⟩ (by simp) rfl _ rfl
  have d38:T.getD 38 undef=_:=hd ⟨25,.data⟩ (by simp) rfl _ rfl
  clear hag hd
  go_simp
  first | exact ⟨_,rfl,rfl⟩ | exact ⟨_,rfl,rfl,brefl _⟩ | exact ⟨_,rfl,rfl,hJ,brefl _⟩
 ·refine RLastK.of rfl fun T W L hag hLs hL hJ hd=>?_
  have d28:T.getD 28 undef=_:=hd 15 _ (by simp) rfl
  have d39:T.getD 39 undef=_:=hd 26 _ (by simp) rfl
  obtain ⟨f,hf,hT⟩:=agree_fn hag
  have d13:T.getD 13 undef=_:=hd 0 _ (by simp) rfl
  have h13:=(hf 13).trans d13
  have d14:T.getD 14 undef=_:=hd 1 _ (by simp) rfl
  have h14:=(hf 14).trans d14
  have d15:T.getD 15 undef=_:=hd 2 _ (by simp) rfl
  have h15:=(hf 15).trans d15
  have d16:T.getD 16 undef=_:=hd 3 _ (by simp) rfl
  have h16:=(hf 16).trans d16
  have d17:T.getD 17 undef=_:=hd 4 _ (by simp) rfl
  have h17:=(hf 17).trans d17
  have d18:T.getD 18 undef=_:=hd 5 _ (by simp) rfl
  have h18:=(hf 18).trans d18
  have d19:T.getD 19 undef=_:=hd 6 _ (by simp) rfl
  have h19:=(hf 19).trans d19
  have d20:T.getD 20 undef=_:=hd 7 _ (by simp) rfl
  have h20:=(hf 20).trans d20
  have d21:T.getD 21 undef=_:=hd 8 _ (by simp) rfl
  have h21:=(hf 21).trans d21
  have d22:T.getD 22 undef=_:=hd 9 _ (by simp) rfl
  have h22:=(hf 22).trans d22
  have d23:T.getD 23 undef=_:=hd 10 _ (by simp) rfl
  have h23:=(hf 23).trans d23
  have d24:T.getD 24 undef=_:=hd 11 _ (by simp) rfl
  have h24:=(hf 24).trans d24
  have d25:T.getD 25 undef=_:=hd 12 _ (by simp) rfl
  have h25:=(hf 25).trans d25
  have d26:T.getD 26 undef=_:=hd 13 _ (by simp) rfl
  have h26:=(hf 26).trans d26
  have d27:T.getD 27 undef=_:=hd 14 _ (by simp) rfl
  have h27:=(hf 27).trans d27
  have h28:=(hf 28).trans d28
  have d29:T.getD 29 undef=_:=hd 16 _ (by simp) rfl
  have h29:=(hf 29).trans d29
  have d30:T.getD 30 undef=_:=hd 17 _ (by simp) rfl
  have h30:=(hf 30).trans d30
  have d31:T.getD 31 undef=_:=hd 18 _ (by simp) rfl
  have h31:=(hf 31).trans d31
  have d32:T.getD 32 undef=_:=hd 19 _ (by simp) rfl
  have h32:=(hf 32).trans d32
  have d33:T.getD 33 undef=_:=hd 20 _ (by simp) rfl
  have h33:=(hf 33).trans d33
  have d34:T.getD 34 undef=_:=hd 21 _ (by simp) rfl
  have h34:=(hf 34).trans d34
  have d35:T.getD 35 undef=_:=hd 22 _ (by simp) rfl
  have h35:=(hf 35).trans d35
  have d36:T.getD 36 undef=_:=hd 23 _ (by simp) rfl
  have h36:=(hf 36).trans d36
  have d37:T.getD 37 undef=_:=hd 24 _ (by simp) rfl
  have h37:=(hf 37).trans d37
  have d38:T.getD 38 undef=_:=hd 25 _ (by simp) rfl
  have h38:=(hf 38).trans d38
  have h39:=(hf 39).trans d39
  have HJ:=Lib.hid hJ
  clear hag hd d13 d14 d15 d16 d17 d18 d19 d20 d21 d22 d23 d24 d25 d26 d27 d28 d29 d30 d31 d32 d33 d34 d35 d36 d37 d38 d39 hJ hf
  rw [hT]
  clear hT
  simp only [List.pop_toArray,List.dropLast_cons_cons,List.dropLast_singleton,List.filterMap_cons,List.filterMap_nil,List.foldl_cons,List.foldl_nil,List.setIfInBounds_toArray,List.set_cons_succ,List.set_cons_zero,h13,h14,h15,h16,h17,h18,h19,h20,h21,h22,h23,h24,h25,h26,h27,h28,h29,h30,h31,h32,h33,h34,h35,h36,h37,h38,h39]
  obtain ⟨w2,rfl⟩:∃ w2,w2=W:=⟨W,rfl⟩
  have hs2:=HS1.out.below HJ.out (P':=fun k=>P k∨k=g5) fun k hk=>Or.inl hk
  have HS2:=Lib.hid hs2
  have HM2:=Lib.hid ((HM1.out.trans ((HS1.out.same HJ.out).mono fun k hk=>Or.inl hk)))
  have HE2:=Lib.hid (kb HJ.out HE1.out)
  clear hs2 HS1 HM1 HE1 HC HJ
  have y0:w2.cell? ⟨g5,0,none⟩=some (.int .i64 0):=(blk_cell HE2.out 0).trans rfl
  have y1:w2.cell? ⟨g5,1,none⟩=some (.int .i64 0):=(blk_cell HE2.out 1).trans rfl
  go_wp2_with fail
  refine (HPL.out _).mono ?_
  rintro e w3 ⟨rfl,hb3⟩
  have HS3:=Lib.hid (HS2.out.below hb3 (P':=fun k=>P k∨k=g5) fun k hk=>Or.inl hk)
  have HM3:=Lib.hid (HM2.out.trans ((HS2.out.same hb3).mono fun k hk=>Or.inl hk))
  have HE3:=Lib.hid (kb hb3 HE2.out)
  clear HS2 HM2 HE2 hb3 y0 y1 HPL HSZ
  have y2:w3.cell? ⟨g5,2,none⟩=some (.int .i64 n):=(blk_cell HE3.out 2).trans rfl
  go_wp2_with fail
  clear y2
  go_loopw [9] (fun i wr=>∃ k:Nat,i=.int .i64 k∧k≤n∧Hid (RS w0 wr (fun k=>P k∨k=g5) q (firstW r g m k))∧Hid (Same (fun k=>P k∨k=g5) w3 wr)) (fun i _=>n-(intOf i).toNat)
  case atStart=>exact ⟨0,rfl,by omega,HS3.out,Same.refl _ _⟩
  case round =>
   clear HS3
   obtain ⟨kk,rfl,hk,HS5,HSM⟩:=hrel
   obtain ⟨w5,rfl⟩:∃ w5,w5=wr:=⟨wr,rfl⟩
   have HE5:=Lib.hid ((HSM.out.blk g5 (Or.inr rfl)).trans HE3.out)
   have y2:w5.cell? ⟨g5,2,none⟩=some (.int .i64 n):=(blk_cell HE5.out 2).trans rfl
   by_cases hlt:kk<n
   ·have hki:(kk:Int)<n:=by omega
    have HM:Hid ((firstW r g m kk).done.length≤100000):=by
     have h1:=firstW_done r g m kk
     have h2:=HMX.out
     unfold Hid;omega
    have hn1:=heap_alloc_new w5 (Obj.cells (blkA 0 zBs) 71)
    go_upto_region 8 with (first | (refine wpList_buildB0 rfl rfl ?_) | (refine wpList_allocB rfl rfl ?_) | (refine wpList_storeB rfl (.tmp 10) (.tmp 53) rfl w5.heap.size rfl 0 0 zBs zBs rfl zBs_len zBs_len hn1 ?_))
    have e1:=setRow_blk (D:=blkA 0 zBs) hn1
    have hb:=below_setRow ((Below.refl w5.heap.size w5).alloc (Nat.le_refl _) (Obj.cells (blkA 0 zBs) 71)) (Nat.le_refl _) (blkA 0 zBs)
    have hlt6:=room_lt e1
    have HG5:Hid (g5<w5.heap.size):=HS5.out.low g5 (Or.inr rfl)
    have hp5:∀ k,P k→k<w5.heap.size:=fun k hk=>HS5.out.low k (Or.inl hk)
    have HS6:=Lib.hid (HS5.out.below hb (P':=fun k=>(P k∨k=g5)∨k=w5.heap.size) fun k hk=>by
     rcases hk with hk | rfl
     ·exact Or.inl hk
     ·exact Or.inr ⟨Nat.le_refl _,hlt6⟩)
    have HM6:=Lib.hid (HSM.out.trans (HS5.out.same hb))
    have HE6:=Lib.hid (kb hb HE5.out)
    have hw0:w0.heap.size≤w5.heap.size:=HS5.out.bel.size
    have HNE:Hid (∀ k,(P k∨k=g5)→k≠w5.heap.size):=fun k hk=>by
     have:=HS5.out.low k hk;omega
    clear hn1 hb hlt6 HS5 hp5 y2 HE5
    generalize (w5.alloc (Obj.cells (blkA 0 zBs) 71)).setRow w5.heap.size (blkA 0 zBs)=w6 at *
    generalize w5.heap.size=bb at *
    have HW0:=Lib.hid hw0
    clear hw0
    go_upto_if 55 with fail
    go_cut [] (fun wx=>Hid (RS w0 wx (fun k=>(P k∨k=g5)∨k=bb) q (firstW r g m kk))∧Hid (Same (fun k=>P k∨k=g5) w3 wx)∧Hid (wx.heap[bb]?=some (.cells (blkA (firstK kk) (firstB kk)) 71 (0,0))))
    case first =>
     by_cases hk0:kk=0
     ·have i1:((kk:Int)==0)=true:=by simp;omega
      have c0:w6.cell? ⟨bb,0,none⟩=some (.int .i64 0):=(blk_cell e1 0).trans rfl
      have f0:w6.frozen? ⟨bb,0,none⟩=false:=blk_free e1 0
      have e2:=heap_setCell_same' e1 (i:=0) (.int .i64 7)
      rw [blkA_set0] at e2
      have c4:(w6.setCell ⟨bb,0,none⟩ (.int .i64 7)).cell? ⟨bb,4,none⟩=some (.int .u8 0):=(blk_cell e2 4).trans rfl
      have f4:(w6.setCell ⟨bb,0,none⟩ (.int .i64 7)).frozen? ⟨bb,4,none⟩=false:=blk_free e2 4
      have e4:=heap_setCell_same' e2 (i:=4) (.int .u8 1)
      rw [show (blkA 7 zBs).setIfInBounds 4 (.int .u8 1)=blkA 7 (zBs.set 3 1) from rfl] at e4
      have ht:Touch (fun k=>k=bb) w6 ((w6.setCell ⟨bb,0,none⟩ (.int .i64 7)).setCell ⟨bb,4,none⟩ (.int .u8 1)):=((Touch.refl (fun k=>k=bb) _).setCell (p:=⟨bb,0,none⟩) rfl _).setCell (p:=⟨bb,4,none⟩) rfl _
      have HS7:=Lib.hid (HS6.out.own ht fun k hk=>by subst hk;exact ⟨Or.inr rfl,HW0.out⟩)
      have HM7:Hid (Same (fun k=>P k∨k=g5) w3 ((w6.setCell ⟨bb,0,none⟩ (.int .i64 7)).setCell ⟨bb,4,none⟩ (.int .u8 1))):=HM6.out.trans ⟨fun k hk=>ht.block k (HS6.out.low k (Or.inl hk)) (HNE.out k hk),ht.size⟩
      have HE7:=Lib.hid e4
      clear e1 e2 e4 ht HS6 HM6
      go_wp2_with fail
      go_meet
      case rel =>
       refine ⟨HS7.out,HM7.out,?_⟩
       rw [hk0]
       exact HE7.out
     ·have i1:((kk:Int)==0)=false:=by simp;omega
      have HE7:=Lib.hid e1
      clear e1
      go_wp2_with fail
      go_meet
      case rel =>
       refine ⟨HS6.out,HM6.out,?_⟩
       unfold firstK firstB
       rw [if_neg hk0,if_neg hk0]
       exact HE7.out
    case rest =>
     obtain ⟨w7,rfl⟩:∃ w7,w7=wc:=⟨wc,rfl⟩
     obtain ⟨HS7,HM7,HE7⟩:=hcut
     clear HS6 HM6 HE6 e1
     have HSE:=Lib.hid (rseal_yes 0 (firstK kk) kk (blkA (firstK kk) (firstB kk)) (firstB kk) w7 (by omega) (firstK_ok kk) (by omega) (blkA_list _ _) (firstB_len kk) (firstB_ok kk))
     go_wp2_with (refine wpList_loadB rfl (.tmp 10) rfl bb rfl (firstK kk) (firstB kk) (firstB_len kk) HE7.out ?_)
     refine HSE.out.mono ?_
     rintro e w8 ⟨v',rfl,ho,hb8⟩
     obtain ⟨AA,dd,rfl,_,_,hby⟩:=own_bytP ho (sealB_length (firstB_len kk))
     have HBY:Hid (BytP w8 (fun k=>(P k∨k=g5)∨(w7.heap.size≤k∧k<w8.heap.size)) AA (sealB 0 (firstK kk) kk (firstB kk))):=hby.mono fun k hk=>Or.inr hk
     have HS8:=Lib.hid (HS7.out.below hb8 (P':=fun k=>(P k∨k=g5)∨(w7.heap.size≤k∧k<w8.heap.size)) fun k hk=>hk.imp Or.inl id)
     have HM8:=Lib.hid (HM7.out.trans ((HS7.out.same hb8).mono fun k hk=>Or.inl hk))
     have he8:=(HM8.out.blk g5 (Or.inr rfl)).trans HE3.out
     have y0:w8.cell? ⟨g5,0,none⟩=some (.int .i64 0):=(blk_cell he8 0).trans rfl
     have y1:w8.cell? ⟨g5,1,none⟩=some (.int .i64 0):=(blk_cell he8 1).trans rfl
     have y2:w8.cell? ⟨g5,2,none⟩=some (.int .i64 n):=(blk_cell he8 2).trans rfl
     have y3:w8.cell? ⟨g5,3,none⟩=some (.int .i64 g):=(blk_cell he8 3).trans rfl
     have y4:w8.cell? ⟨g5,4,none⟩=some (.int .i64 fr):=(blk_cell he8 4).trans rfl
     have HHO:=Lib.hid (rhome_any n g fr kk HNG.out.2 (by omega) w8)
     unfold shQ at HHO
     have HY:Hid (i64 ((2+g+kk:Nat):Int)):=by have:=HNG.out;constructor <;> omega
     have HBK:=Lib.hid (sealB_blk kk (firstK_ok kk) (firstB_len kk) (firstB_ok kk))
     have HM9:Hid (firstW r g m (kk+1)=(firstW r g m kk).doWrite r ((2+g+kk:Nat):Int) (sealB 0 (firstK kk) kk (firstB kk))):=rfl
     clear ho hby he8 HSE HS7 HM7 hb8
     obtain ⟨y,hy⟩:∃ y,2+g+kk=y:=⟨_,rfl⟩
     rw [hy] at HHO HY HM9
     clear hy
     go_wp2_with fail
     refine HHO.out.mono ?_
     rintro e w9 ⟨rfl,hb9⟩
     have HS9:=Lib.hid (HS8.out.below hb9 (P':=fun k=>(P k∨k=g5)∨(w7.heap.size≤k∧k<w8.heap.size)) fun k hk=>Or.inl hk)
     have HM99:=Lib.hid (HM8.out.trans ((HS8.out.same hb9).mono fun k hk=>Or.inl hk))
     have HBY9:=Lib.hid (HBY.out.keep hb9)
     clear hb9 HS8 HM8 HBY HHO y0 y1 y2 y3 y4
     have hwr:=HS9.out.write r y HR.out HY.out AA _ dd HBK.out.2 HBY9.out (by rw [HBK.out.1];omega) HM.out
     rw [HBK.out.1] at hwr
     have HWR:=Lib.hid hwr
     clear hwr
     go_wp2_with fail
     refine HWR.out.mono ?_
     rintro e w' ⟨rfl,hd',hs⟩
     have HF1:Hid (RS w0 w' (fun k=>P k∨k=g5) q (firstW r g m (kk+1))):=by rw [HM9.out];exact hd'.mono fun k hk=>Or.inl hk
     have HF2:=Lib.hid (HM99.out.trans (hs.mono fun k hk=>Or.inl hk))
     clear hd' hs HWR HS9 HBY9
     go_wp2
     go_roundw
     case rel=>exact ⟨kk+1,by go_num,by omega,HF1.out,HF2.out⟩
     case measure=>simp [intOf];omega
   ·obtain rfl:n=kk:=by omega
    have hki:¬ ((n:Int)<n):=by omega
    have h1:=firstW_done r g m n
    have h2:=HMX.out
    obtain ⟨mm,hmm⟩:∃ mm,mm=firstW r g m n:=⟨_,rfl⟩
    rw [← hmm] at h1 HS5
    have h3:=done_doBarrier mm r
    have HMa:Hid (mm.done.length≤100000):=by unfold Hid;omega
    have HMb:Hid ((mm.doBarrier r).done.length≤100000):=by unfold Hid;omega
    have HMc:Hid (((mm.doBarrier r).doWrite r 1 (anchorB 0 1)).done.length≤100000):=by have:=done_doWrite (mm.doBarrier r) r 1 (anchorB 0 1);unfold Hid;omega
    have HMM:=Lib.hid hmm
    clear h1 h2 h3 hmm
    have HBA:=Lib.hid (HS5.out.barrier r HR.out HMa.out)
    go_wp2_with fail
    refine HBA.out.mono ?_
    rintro e w6 ⟨rfl,hd6,hs6⟩
    have HS6:=Lib.hid hd6
    have HM6:=Lib.hid (HSM.out.trans hs6)
    clear hd6 hs6 HBA HS5 HSM y2 HE5
    have HAN:=Lib.hid (ranchor_any 0 1 w6 (by omega) (by omega))
    go_wp2_with fail
    refine HAN.out.mono ?_
    rintro e w7 ⟨v',rfl,ho,hb7⟩
    obtain ⟨AA,dd,rfl,_,_,hby⟩:=own_bytP ho (anchorB_length 0 1)
    have HBY:Hid (BytP w7 (fun k=>(P k∨k=g5)∨(w6.heap.size≤k∧k<w7.heap.size)) AA (anchorB 0 1)):=hby.mono fun k hk=>Or.inr hk
    have HS7:=Lib.hid (HS6.out.below hb7 (P':=fun k=>(P k∨k=g5)∨(w6.heap.size≤k∧k<w7.heap.size)) fun k hk=>hk)
    have HM7:=Lib.hid (HM6.out.trans (HS6.out.same hb7))
    clear ho hby HS6 HM6 HAN hb7
    have hwr:=HS7.out.write r 1 HR.out (by constructor <;> omega) AA _ dd (anchorB_allB 1 (by omega)) HBY.out (by rw [anchorB_length];omega) HMb.out
    rw [anchorB_length] at hwr
    have HWR:=Lib.hid hwr
    clear hwr
    go_wp2_with fail
    refine HWR.out.mono ?_
    rintro e w8 ⟨rfl,hd8,hs8⟩
    have HS8:=Lib.hid hd8
    have HM8:=Lib.hid (HM7.out.trans (hs8.mono fun k hk=>Or.inl hk))
    clear hd8 hs8 HWR HS7 HM7 HBY
    have HBA:=Lib.hid (HS8.out.barrier r HR.out HMc.out)
    go_wp2_with fail
    refine HBA.out.mono ?_
    rintro e w9 ⟨rfl,hd9,hs9⟩
    have HF1:=Lib.hid (hd9.mono (P':=P) fun k hk=>Or.inl (Or.inl hk))
    have HF2:=Lib.hid ((HM3.out.trans (HM8.out.mono fun k hk=>Or.inl hk)).trans (hs9.mono fun k hk=>Or.inl (Or.inl hk)))
    clear hd9 hs9 HBA HS8 HM8
    go_wp2
    go_ret
    refine ⟨rfl,?_,HF2.out⟩
    have:=HF1.out
    rw [HMM.out] at this
    exact this
end Go.Proofs.YtamnpblijdgdaaaGreat
