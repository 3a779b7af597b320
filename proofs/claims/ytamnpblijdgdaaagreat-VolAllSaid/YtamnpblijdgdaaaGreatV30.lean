/- For VolAll: contracts and facts, part 30. -/
import Derived.Deep.DeepCutAuto
import Derived.StillTailTactics
import Derived.Test.YtamnpblijdgdaaaGreatV29
namespace Go.Proofs.YtamnpblijdgdaaaGreat
open Go.ChangeShapes Go.WideShapes Go.ChangeAt Go.RowKit
set_option linter.unusedVariables false
set_option maxRecDepth 100000
def VSy (hp hd:Nat) (r:Int) (i:Nat) (v:Value) (w:World):Prop :=
 match i with
 | 0 | 1 | 2 | 4 | 5=>v=.pointer (some ⟨hp,0,none⟩)
 | 3=>v=.pointer (some ⟨hd,0,none⟩)
 | 6=>v=.pointer (some ⟨hp,1,none⟩)
 | 7=>v=.int .i64 r
 | _=>True
theorem rvsync_any {w0 W:World} {Q:Nat→Prop} {hd:Nat} {m:DM} {hp rb mb cap cm:Nat} {v:VM} (h:RSV w0 W Q hd m hp rb mb cap cm v) (hmax:m.done.length≤100000) :
 Calls Tryz.prog 16 #[.pointer (some ⟨hp,0,none⟩)] W fun e w'=>e=.returned (.tuple #[])∧RSV w0 w' Q hd (m.doBarrier v.r) hp rb mb cap cm v∧Same Q W w':=by
 have HSV:=Lib.hid h
 have HM:=Lib.hid hmax
 have HR:Hid (i64 v.r):=h.at_.ok.r
 have HC:=Lib.hid (fun (W':World) (hb':Below W.heap.size W W')=>(HSV.out.below hb').at_.cs)
 clear h hmax
 go_enter Tryz.func16,Tryz.ntmps16
 obtain ⟨w5,rfl⟩:∃ w5,w5=W:=⟨W,rfl⟩
 go_upto_region 0 with fail
 refine wp_region_rgk (VSy hp hd v.r) (fun _ W=>Below w5.heap.size w5 W) (fun _ w w'=>Below w.heap.size w w') (by kernel_rfl) (by kernel_rfl) (fun i j v w w' _ _ h hs=>by unfold VSy at *;exact h) ((Below.refl _ _).drew) ?_
 simp only [RAll]
 refine ⟨?_,?_,?_,?_,?_,?_,?_,?_,?_⟩
 ·refine RStepK.of rfl fun T W L hag hL hJ hLs hd=>?_
  have e0:T.getD 0 undef=_:=(agree_at hag 0 (by kernel_rfl)).trans rfl
  clear hag hd
  go_simp
  first | exact ⟨_,rfl,rfl⟩ | exact ⟨_,rfl,rfl,brefl _⟩ | exact ⟨_,rfl,rfl,hJ,brefl _⟩
 ·refine RStepK.of rfl fun T W L hag hL hJ hLs hd=>?_
  have d2:T.getD 2 undef=_:=hd ⟨0,.data⟩ (by simp) rfl _ rfl
  clear hag hd
  go_simp
  first | exact ⟨_,rfl,rfl⟩ | exact ⟨_,rfl,rfl,brefl _⟩ | exact ⟨_,rfl,rfl,hJ,brefl _⟩
 ·refine RStepK.of rfl fun T W L hag hL hJ hLs hd=>?_
  have d3:T.getD 3 undef=_:=hd ⟨1,.data⟩ (by simp) rfl _ rfl
  clear hag hd
  go_simp
  first | exact ⟨_,rfl,rfl⟩ | exact ⟨_,rfl,rfl,brefl _⟩ | exact ⟨_,rfl,rfl,hJ,brefl _⟩
 ·refine RStepK.of rfl fun T W L hag hL hJ hLs hd=>?_
  have d4:T.getD 4 undef=_:=hd ⟨2,.data⟩ (by simp) rfl _ rfl
  obtain ⟨z0,z1,z2,z3,z4,z5,z6,z7,z8,z9,z10,z11,z12⟩:=HC.out W hJ
  clear hag hd
  go_simp
  first | exact ⟨_,rfl,rfl⟩ | exact ⟨_,rfl,rfl,brefl _⟩ | exact ⟨_,rfl,rfl,hJ,brefl _⟩
 ·refine RStepK.of rfl fun T W L hag hL hJ hLs hd=>?_
  have e0:T.getD 0 undef=_:=(agree_at hag 0 (by kernel_rfl)).trans rfl
  clear hag hd
  go_simp
  first | exact ⟨_,rfl,rfl⟩ | exact ⟨_,rfl,rfl,brefl _⟩ | exact ⟨_,rfl,rfl,hJ,brefl _⟩
 ·refine RStepK.of rfl fun T W L hag hL hJ hLs hd=>?_
  have d6:T.getD 6 undef=_:=hd ⟨4,.data⟩ (by simp) rfl _ rfl
  clear hag hd
  go_simp
  first | exact ⟨_,rfl,rfl⟩ | exact ⟨_,rfl,rfl,brefl _⟩ | exact ⟨_,rfl,rfl,hJ,brefl _⟩
 ·refine RStepK.of rfl fun T W L hag hL hJ hLs hd=>?_
  have d7:T.getD 7 undef=_:=hd ⟨5,.data⟩ (by simp) rfl _ rfl
  clear hag hd
  go_simp
  first | exact ⟨_,rfl,rfl⟩ | exact ⟨_,rfl,rfl,brefl _⟩ | exact ⟨_,rfl,rfl,hJ,brefl _⟩
 ·refine RStepK.of rfl fun T W L hag hL hJ hLs hd=>?_
  have d8:T.getD 8 undef=_:=hd ⟨6,.data⟩ (by simp) rfl _ rfl
  obtain ⟨z0,z1,z2,z3,z4,z5,z6,z7,z8,z9,z10,z11,z12⟩:=HC.out W hJ
  clear hag hd
  go_simp
  first | exact ⟨_,rfl,rfl⟩ | exact ⟨_,rfl,rfl,brefl _⟩ | exact ⟨_,rfl,rfl,hJ,brefl _⟩
 ·refine RLastK.of rfl fun T W L hag hLs hL hJ hd=>?_
  have d5:T.getD 5 undef=_:=hd 3 _ (by simp) rfl
  have d9:T.getD 9 undef=_:=hd 7 _ (by simp) rfl
  obtain ⟨f,hf,hT⟩:=agree_fn hag
  have d2:T.getD 2 undef=_:=hd 0 _ (by simp) rfl
  have h2:=(hf 2).trans d2
  have d3:T.getD 3 undef=_:=hd 1 _ (by simp) rfl
  have h3:=(hf 3).trans d3
  have d4:T.getD 4 undef=_:=hd 2 _ (by simp) rfl
  have h4:=(hf 4).trans d4
  have h5:=(hf 5).trans d5
  have d6:T.getD 6 undef=_:=hd 4 _ (by simp) rfl
  have h6:=(hf 6).trans d6
  have d7:T.getD 7 undef=_:=hd 5 _ (by simp) rfl
  have h7:=(hf 7).trans d7
  have d8:T.getD 8 undef=_:=hd 6 _ (by simp) rfl
  have h8:=(hf 8).trans d8
  have h9:=(hf 9).trans d9
  have HJ:=Lib.hid hJ
  clear hag hd d2 d3 d4 d5 d6 d7 d8 d9 hJ hf
  rw [hT]
  clear hT
  simp only [List.pop_toArray,List.dropLast_cons_cons,List.dropLast_singleton,List.filterMap_cons,List.filterMap_nil,List.foldl_cons,List.foldl_nil,List.setIfInBounds_toArray,List.set_cons_succ,List.set_cons_zero,h2,h3,h4,h5,h6,h7,h8,h9]
  have hq:=HSV.out.below HJ.out
  go_simp
  refine (hq.barrier v.r HR.out HM.out).mono ?_
  rintro e w' ⟨rfl,hs,hm⟩
  have HS2:=Lib.hid hs
  have HM2:=Lib.hid ((HSV.out.same HJ.out).trans hm)
  clear hq hs hm HJ
  go_wp2
  go_end0
  exact ⟨rfl,HS2.out,HM2.out⟩
theorem rvroom_any {w0 W:World} {Q:Nat→Prop} {hd:Nat} {m:DM} {hp rb mb cap cm:Nat} {v:VM} (h:RSV w0 W Q hd m hp rb mb cap cm v) (hus:v.us≤v.g) :
 Calls Tryz.prog 25 #[.pointer (some ⟨hp,0,none⟩)] W fun e w'=>e=.returned (.int .i64 ((v.g-v.us:Nat):Int))∧Below W.heap.size W w':=by
 have c5:∀ k,(W.drewN k).cell? ⟨hp,5,none⟩=_:=fun k=>(show W.cell? _=_ from h.at_.cs.2.2.2.2.2.1)
 have c10:∀ k,(W.drewN k).cell? ⟨hp,10,none⟩=_:=fun k=>(show W.cell? _=_ from h.at_.cs.2.2.2.2.2.2.2.2.2.2.1)
 have hg:=h.at_.ok.g
 have wz:IntKind.i64.wrap ((v.g:Int)-v.us)=((v.g-v.us:Nat):Int):=by rw [IntWalk.i64_in _ (by omega)];omega
 clear h
 generalize v.g-v.us=z at *
 generalize v.g=g at *
 generalize v.us=us at *
 go_enter Tryz.func25,Tryz.ntmps25
 go_wp2_with (go_quiet (fail))
 go_ret
 exact ⟨rfl,bdn (Below.refl _ _) _⟩
theorem rhome_any (n g:Nat) (fr:Int) (i:Nat) (hg:g≤1000) (hi:i≤100000) (w:World) :
 Calls Tryz.prog 41 #[shQ 0 0 n g fr,.int .i64 i] w fun e w'=>e=.returned (.int .i64 ((2+g+i:Nat):Int))∧Below w.heap.size w w':=by
 have e1:IntKind.i64.wrap (2+(g:Int))=((2+g:Nat):Int):=by rw [IntWalk.i64_in _ (by omega)];omega
 have e2:IntKind.i64.wrap (((2+g:Nat):Int)+i)=((2+g+i:Nat):Int):=by rw [IntWalk.i64_in _ (by omega)];omega
 generalize 2+g+i=y at *
 generalize 2+g=x at *
 unfold shQ
 have hb:Below w.heap.size w (w.alloc (Obj.cells #[.int .i64 0,.int .i64 0,.int .i64 n,.int .i64 g,.int .i64 fr] 28)):=(Below.refl _ _).alloc (Nat.le_refl _) _
 have HB:=Lib.hid hb
 obtain ⟨z0,z1,z2,z3,z4⟩:=sh_cells (n:=n) (g:=g) (f:=fr) (heap_alloc_new w (Obj.cells #[.int .i64 0,.int .i64 0,.int .i64 n,.int .i64 g,.int .i64 fr] 28))
 clear hb
 go_enter Tryz.func41,Tryz.ntmps41
 go_wp2
 go_ret
 exact ⟨rfl,HB.out⟩
theorem rlog_any (n g:Nat) (fr:Int) (i:Nat) (hi:i≤100000) (w:World) :
 Calls Tryz.prog 50 #[shQ 0 0 n g fr,.int .i64 i] w fun e w'=>e=.returned (.int .i64 ((2+i:Nat):Int))∧Below w.heap.size w w':=by
 have e1:IntKind.i64.wrap (2+(i:Int))=((2+i:Nat):Int):=by rw [IntWalk.i64_in _ (by omega)];omega
 generalize 2+i=x at *
 unfold shQ
 have hb:Below w.heap.size w (w.alloc (Obj.cells #[.int .i64 0,.int .i64 0,.int .i64 n,.int .i64 g,.int .i64 fr] 28)):=(Below.refl _ _).alloc (Nat.le_refl _) _
 have HB:=Lib.hid hb
 obtain ⟨z0,z1,z2,z3,z4⟩:=sh_cells (n:=n) (g:=g) (f:=fr) (heap_alloc_new w (Obj.cells #[.int .i64 0,.int .i64 0,.int .i64 n,.int .i64 g,.int .i64 fr] 28))
 clear hb
 go_enter Tryz.func50,Tryz.ntmps50
 go_wp2
 go_ret
 exact ⟨rfl,HB.out⟩
end Go.Proofs.YtamnpblijdgdaaaGreat
