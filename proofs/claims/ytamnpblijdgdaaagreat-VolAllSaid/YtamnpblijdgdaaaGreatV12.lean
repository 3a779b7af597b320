/- For VolAll: contracts and facts, part 12. -/
import Derived.WalkKit
import Derived.Deep.QuietTactic
import Derived.BigQuiet
import Derived.StillTail
import Derived.Deep.DeepCutAuto
import Derived.Laws.FloatArith
import Derived.Laws.Cover3
import Derived.Test.YtamnpblijdgdaaaGreatRows
import Derived.ProofKit
import Derived.OpenShut
import Derived.Outline
import Derived.WalkLawsBesides
import Derived.Laws.Bits64b
import Derived.Deep.RegionHeld3
import Derived.Lib.Hide
import Derived.Test.YtamnpblijdgdaaaGreatV01
import Derived.Test.YtamnpblijdgdaaaGreatV02
import Derived.Test.YtamnpblijdgdaaaGreatV04
import Derived.Test.YtamnpblijdgdaaaGreatV10
import Derived.Test.YtamnpblijdgdaaaGreatV11
namespace Go.Proofs.YtamnpblijdgdaaaGreat
open Go.ChangeShapes Go.WideShapes Go.ChangeAt Go.RowKit
set_option linter.unusedVariables false
def BytF (w:World) (F:Nat→Prop) (A:Option Addr) (bs:List Int):Prop:=∀ W,Touch F w W→Byt W A bs
theorem RefStep.refl {w:World} {F:Nat→Prop} {hp:Nat} {G:Nat→RTab} {l:Int} (h:Ref w F hp G l):RefStep w w F hp G l:=⟨F,h,Touch.refl _ _,fun k hk=>Or.inl hk⟩
section
variable {W:World} {F:Nat→Prop} {hp:Nat} {m:DM}
theorem refstep_of {O:Nat→RRole} {L:Nat→Value} {w':World} {O':Nat→RRole} {G:Nat→RTab} {l:Int} (h2:∀ k,F k↔O k≠RRole.none) (n1:RAt w' O' hp L G l) (n2:∀ k,O' k≠.none→k<w'.heap.size) (n3:∀ k,O' k≠.none→O k≠.none∨W.heap.size≤k) (n4:Touch (fun k=>O k≠.none) W w'):RefStep W w' F hp G l :=
 ⟨fun k=>O' k≠.none,⟨O',L,n1,fun k=>Iff.rfl,n2⟩,n4.mono' (fun x hx=>(h2 x).2 hx),fun k hk=>(n3 k hk).imp (h2 k).2 id⟩
theorem rwrite_any (h:Ref W F hp (refOf m).G (refOf m).left) (hm:m.Ok) (hrel:RelOk m) (r i:Int) (hr:i64 r) (hi:i64 i) (A:Option Addr) (bs:List Int) (c:Nat) (hB:AllB bs) (hy:BytF W F A bs) (hl:bs.length≤1000000) (hmax:m.done.length≤100000) :
 Calls Tryz.prog 40 #[.pointer (some ⟨hp,0,none⟩),.int .i64 r,.int .i64 i,.slice A bs.length c] W fun e w'=>e=.returned (.bool (okWrite m r i bs))∧RefStep W w' F hp (refOf (m.doWrite r i bs)).G (refOf (m.doWrite r i bs)).left:=by
 obtain ⟨O,L,h1,h2,h3⟩:=h
 have hO:∀ k,O k≠.none→k<W.heap.size:=fun k hk=>h3 k ((h2 k).2 hk)
 have hok:=hrel.ok hm
 have href:RefStep W W F hp (refOf m).G (refOf m).left:=RefStep.refl ⟨O,L,h1,h2,h3⟩
 cases hb:okWrite m r i bs
 ·have hd:m.doWrite r i bs=m:=by
   unfold DM.doWrite
   rw [if_neg]
   rintro ⟨g1,g2,g3⟩
   unfold okWrite at hb
   rw [g1,g2] at hb
   cases hb
  rw [hd]
  refine (rwrite_no h1 r i hr hi hok A bs.length c (by rw [is_has];exact hb) hl).mono ?_
  rintro e w' ⟨rfl,rfl⟩
  exact ⟨rfl,href⟩
 ·unfold okWrite at hb
  obtain ⟨g1,g2⟩:hasB m r i=true∧bs.length=64:=by simpa using hb
  rw [g2]
  cases hst:stopped m
  ·have hd:m.doWrite r i bs=m.write r.toNat i.toNat bs:=by unfold DM.doWrite;rw [if_pos ⟨g1,g2,hst⟩]
   rw [hd]
   obtain ⟨rn,j,row,rfl,rfl,hrow,hj⟩:=hasB_row g1
   rw [Int.toNat_natCast,Int.toNat_natCast]
   have hrl:=(List.getElem?_eq_some_iff.1 hrow).1
   rw [ref_write hm bs hrl (by have:=(hm.rows _ _ hrow).1;omega) hst]
   refine (rwrite_yes h1 hO rn j hok A c bs ⟨g2,hB⟩ (fun W' hW=>hy W' (hW.mono' fun x hx=>(h2 x).2 hx)) hrow hj (by intro e;rw [left_zero,hst] at e;cases e) ?_).mono ?_
   ·have e1:(refOf m).wait.getD rn []=down m rn:=by rw [List.getD];unfold refOf;rw [range_map_at _ hrl];rfl
    have e2:(refOf m).traces.getD rn []=traceL m rn:=by rw [List.getD];unfold refOf;rw [range_map_at _ hrl];rfl
    rw [e1,e2]
    exact ⟨Nat.le_trans (down_len m rn) hmax,Nat.le_trans (tr_len m rn) hmax⟩
   ·rintro e w' ⟨rfl,O',n1,n2,n3,n4⟩
    exact ⟨rfl,refstep_of h2 n1 n2 n3 n4⟩
  ·have hd:m.doWrite r i bs=m:=by unfold DM.doWrite;rw [if_neg];rintro ⟨_,_,g3⟩;rw [hst] at g3;cases g3
   rw [hd]
   refine (rwrite_stopped h1 r i hr hi hok A c (by rw [is_has];exact g1) ((left_zero m).2 hst)).mono ?_
   rintro e w' ⟨rfl,rfl⟩
   exact ⟨rfl,href⟩
theorem rbar_any (h:Ref W F hp (refOf m).G (refOf m).left) (hm:m.Ok) (hrel:RelOk m) (r:Int) (hr:i64 r) (hmax:m.done.length≤100000) :
 Calls Tryz.prog 42 #[.pointer (some ⟨hp,0,none⟩),.int .i64 r] W fun e w'=>e=.returned (.bool (hasR m r))∧RefStep W w' F hp (refOf (m.doBarrier r)).G (refOf (m.doBarrier r)).left:=by
 obtain ⟨O,L,h1,h2,h3⟩:=h
 have hO:∀ k,O k≠.none→k<W.heap.size:=fun k hk=>h3 k ((h2 k).2 hk)
 have hok:=hrel.ok hm
 have href:RefStep W W F hp (refOf m).G (refOf m).left:=RefStep.refl ⟨O,L,h1,h2,h3⟩
 have hR:(refOf m).hasR r=hasR m r:=rfl
 cases hb:hasR m r
 ·have hd:m.doBarrier r=m:=by unfold DM.doBarrier;rw [hb,if_neg (by simp)]
  rw [hd]
  refine (rbar_no h1 r hr hok (hR.trans hb)).mono ?_
  rintro e w' ⟨rfl,rfl⟩
  exact ⟨rfl,href⟩
 ·cases hst:stopped m
  ·have hd:m.doBarrier r=m.barrier r.toNat:=by unfold DM.doBarrier;rw [if_pos ⟨hb,hst⟩]
   rw [hd]
   have hb':=hb
   unfold hasR at hb'
   simp only [Bool.and_eq_true,decide_eq_true_eq] at hb'
   obtain ⟨rn,rfl⟩:∃ n:Nat,r=(n:Int):=⟨r.toNat,by omega⟩
   have hrl:rn<m.now.length:=by omega
   rw [Int.toNat_natCast,ref_barrier hm hrel.told hrl]
   refine (rbar_yes h1 hO rn hok hrl (by intro e;rw [left_zero,hst] at e;cases e) ?_).mono ?_
   ·have e2:(refOf m).traces.getD rn []=traceL m rn:=by rw [List.getD];unfold refOf;rw [range_map_at _ hrl];rfl
    rw [e2]
    exact Nat.le_trans (tr_len m rn) hmax
   ·rintro e w' ⟨rfl,O',n1,n2,n3,n4⟩
    exact ⟨rfl,refstep_of h2 n1 n2 n3 n4⟩
  ·have hd:m.doBarrier r=m:=by unfold DM.doBarrier;rw [if_neg];rintro ⟨_,g3⟩;rw [hst] at g3;cases g3
   rw [hd]
   refine (rbar_stopped h1 r hr hok (hR.trans hb) ((left_zero m).2 hst)).mono ?_
   rintro e w' ⟨rfl,rfl⟩
   exact ⟨rfl,href⟩
theorem rcrash_any2 (h:Ref W F hp (refOf m).G (refOf m).left) (hm:m.Ok) (hrel:RelOk m) (A:Option Addr) (ks:List (List Int)) (c:Nat) (hks:TxtsF W F A ks) (hkl:ks.length≤1000000) (hmax:m.done.length≤100000) :
 Calls Tryz.prog 20 #[.pointer (some ⟨hp,0,none⟩),.slice A ks.length c] W fun e w'=>e=.returned (.tuple #[])∧RefStep W w' F hp (refOf (m.crash ks)).G (refOf (m.crash ks)).left:=by
 obtain ⟨O,L,h1,h2,h3⟩:=h
 have hO:∀ k,O k≠.none→k<W.heap.size:=fun k hk=>h3 k ((h2 k).2 hk)
 have hok:=hrel.ok hm
 rw [ref_crash hm hrel.told]
 refine (rcrash_any h1 hO hok A ks c (fun i bs hi=>?_) hkl (fun r row hrow=>?_)).mono ?_
 ·obtain ⟨a,A',c',e1,e2,e3⟩:=hks i bs hi
  exact ⟨a,A',c',e1,fun W' hW=>e2 W' (hW.mono' fun x hx=>(h2 x).2 hx),e3⟩
 ·have hr':((List.range m.now.length).map (down m))[r]?=some row:=hrow
  have hlt:r<m.now.length:=by have:=(List.getElem?_eq_some_iff.1 hr').1;simpa using this
  rw [range_map_at _ hlt] at hr'
  injection hr' with hr';subst hr'
  have:=down_len m r
  omega
 ·rintro e w' ⟨rfl,O',n1,n2,n3,n4⟩
  exact ⟨rfl,refstep_of h2 n1 n2 n3 n4⟩
end
end Go.Proofs.YtamnpblijdgdaaaGreat
namespace Go.Proofs.YtamnpblijdgdaaaGreat
open Go.RowKit
def Later (W:World):Type:={ g:World // Below W.heap.size W g }
instance {W:World}:Nonempty (Later W):=⟨⟨W,Below.refl _ _⟩⟩
def Later.w {W:World} (g:Later W):World:=g.1
theorem Later.below {W:World} (g:Later W):Below W.heap.size W g.w:=g.2
theorem wp_region_later {P:Program} {id:Nat} {Q:Exit→Act→World→Prop} {a:Act} {w:World} {l:List Oper} (hm:P.follows .mixedOrders=true) (hB:Region.lexB .any l.toArray=true)
 (h:wpQuiet P l.toArray (fun w'=>∃ n:Later w,w'=n.w) (fun a'=>∀ w',(∃ n:Later w,w'=n.w)→Q .normal a' w') l a):(Code.region id l.toArray true).wp P Q a w :=
 wp_region_quiet (C:=fun w'=>∃ n:Later w,w'=n.w) hm hB ⟨⟨w.drew,(Below.refl _ _).drew⟩,rfl⟩ (by simpa using h)
theorem quiet_later {P:Program} {f:FuncId} {args:Array Value} {W:World} {n:Later W} {v:Value}
 (h:Calls P f args n.w fun e w'=>e=.returned v∧Below n.w.heap.size n.w w'):Calls P f args n.w fun e w''=>e=.returned v∧∃ m:Later W,w''=m.w :=
 h.mono fun _ w' ⟨he,hb⟩=>⟨he,⟨w',n.below.trans (hb.mono n.below.size)⟩,rfl⟩
theorem quiet_later_same {P:Program} {f:FuncId} {args:Array Value} {W:World} {n:Later W} {v:Value}
 (h:Calls P f args n.w fun e w'=>e=.returned v∧n.w=w'):Calls P f args n.w fun e w''=>e=.returned v∧∃ m:Later W,w''=m.w :=
 h.mono fun _ _ ⟨he,hb⟩=>⟨he,n,hb.symm⟩
theorem Later.keep {W:World} (g:Later W) {b o:Nat} {v:Value} (h:W.cell? ⟨b,o,none⟩=some v):g.w.cell? ⟨b,o,none⟩=some v:=by
 rw [g.below.cell (World.block_lt_of_cell? W _ h)];exact h
section
variable {P:Program} {ops:Array Oper} {md:Region.Mode} {C:World→Prop}
end
end Go.Proofs.YtamnpblijdgdaaaGreat
namespace Go.Proofs.YtamnpblijdgdaaaGreat
open Go.ChangeShapes Go.WideShapes Go.ChangeAt Go.RowKit
open Fx
set_option linter.unusedVariables false
set_option maxRecDepth 100000
theorem fb_two:fb 2=4611686018427387904:=by rw [fb_eq 2 (by omega)];decide
def areaC (a n:Nat):Value:=.complex .f64 (fb a) (fb n)
theorem areaC_an:areaC 0 2=.complex .f64 0 4611686018427387904:=by unfold areaC;rw [fb_zero,fb_two]
theorem end_any (a n:Nat) (h:a+n≤100000) (w:World) :
 Calls Tryz.prog 31 #[areaC a n] w fun e w'=>e=.returned (.float .f64 (fb (a+n)))∧w=w':=by
 have s:=fun w:World=>run_float_arith (P:=Tryz.prog) w .add 82 .f64 _ _ _ (add_fb a n (by omega))
 unfold areaC
 generalize a+n=m at *
 go_enter Tryz.func31,Tryz.ntmps31
 go_wp2
 go_ret
 exact ⟨rfl,rfl⟩
theorem behind_any (a n b:Nat) (h:a+n≤100000) (w:World) :
 Calls Tryz.prog 71 #[areaC a n,.int .i64 b] w fun e w'=>e=.returned (areaC (a+n) b)∧w=w':=by
 have H:=Lib.hid (end_any a n h)
 go_enter Tryz.func71,Tryz.ntmps71
 go_wp2_with fail
 refine (H.out _).mono ?_;rintro e w' ⟨rfl,rfl⟩
 go_wp2_with fail
 go_ret
 exact ⟨rfl,rfl⟩
def blockV (a n:Nat) (i:Int):Int:=if 0≤i∧i<n then a+i else -1
theorem block_any (a n:Nat) (i:Int) (h:a+n≤100000) (hi : -9223372036854775808≤i∧i≤100000) (w:World) :
 Calls Tryz.prog 103 #[areaC a n,.int .i64 i] w fun e w'=>e=.returned (.int .i64 (blockV a n i))∧w=w':=by
 unfold areaC
 by_cases h0:i<0
 ·have e:blockV a n i = -1:=by unfold blockV;rw [if_neg (by omega)]
  rw [e]
  clear e
  go_enter Tryz.func103,Tryz.ntmps103
  go_wp2
  go_ret
  exact ⟨rfl,rfl⟩
 ·obtain ⟨k,rfl⟩:∃ k:Nat,i=(k:Int):=⟨i.toNat,by omega⟩
  have g:(FloatKind.f64.format.order (floatOfInt .f64 (k:Int)) (fb n)==some .gt||FloatKind.f64.format.order (floatOfInt .f64 (k:Int)) (fb n)==some .eq)=decide (n≤k):=ge_fb k n (by omega) (by omega)
  have v:=fun w:World=>run_convert_float_int w 82 3 .f64 .i64 _ _ (P:=Tryz.prog) (by kernel_rfl) Tryz.underlying3 (int_fb64 a (by omega))
  by_cases h1:n≤k
  ·have e:blockV a n k = -1:=by unfold blockV;rw [if_neg (by omega)]
   rw [e]
   rw [decide_eq_true h1] at g
   clear e
   go_enter Tryz.func103,Tryz.ntmps103
   go_wp2
   go_ret
   exact ⟨rfl,rfl⟩
  ·have e:blockV a n k=a+k:=by unfold blockV;rw [if_pos (by omega)]
   rw [e]
   rw [decide_eq_false h1] at g
   clear e
   go_enter Tryz.func103,Tryz.ntmps103
   go_wp2
   go_ret
   exact ⟨ret_int (by first | rfl | omega),rfl⟩
def shQ (l c:Int) (b g:Nat) (f:Int):Value:=.agg #[.int .i64 l,.int .i64 c,.int .i64 b,.int .i64 g,.int .i64 f]
theorem log_any (l c:Int) (b g:Nat) (f:Int) (w:World) :
 Calls Tryz.prog 72 #[shQ l c b g f] w fun e w'=>e=.returned (areaC 2 g)∧Below w.heap.size w w':=by
 have H:=Lib.hid (behind_any 0 2 g (by omega))
 rw [areaC_an] at H
 unfold shQ
 go_enter Tryz.func72,Tryz.ntmps72
 go_wp2_with fail
 refine (H.out _).mono ?_;rintro e w' ⟨rfl,rfl⟩
 go_wp2_with fail
 go_ret
 exact ⟨rfl,(Below.refl _ _).alloc (Nat.le_refl _) _⟩
theorem homes_any (l c:Int) (b g:Nat) (f:Int) (hg:g≤1000) (w:World) :
 Calls Tryz.prog 32 #[shQ l c b g f] w fun e w'=>e=.returned (areaC (2+g) b)∧Below w.heap.size w w':=by
 have H:=Lib.hid (behind_any 2 g b (by omega))
 have HL:=Lib.hid (log_any l c b g f)
 unfold shQ at HL ⊢
 go_enter Tryz.func32,Tryz.ntmps32
 go_upto_region 1 with fail
 obtain ⟨W,hW⟩:∃ W,W=w.alloc (Obj.cells #[.int .i64 l,.int .i64 c,.int .i64 b,.int .i64 g,.int .i64 f] 28):=⟨_,rfl⟩
 rw [← hW]
 have z0:W.cell? ⟨w.heap.size,0,none⟩=some (.int .i64 l):=by rw [hW];simp [go_sem]
 have z1:W.cell? ⟨w.heap.size,1,none⟩=some (.int .i64 c):=by rw [hW];simp [go_sem]
 have z2:W.cell? ⟨w.heap.size,2,none⟩=some (.int .i64 b):=by rw [hW];simp [go_sem]
 have z3:W.cell? ⟨w.heap.size,3,none⟩=some (.int .i64 g):=by rw [hW];simp [go_sem]
 have z4:W.cell? ⟨w.heap.size,4,none⟩=some (.int .i64 f):=by rw [hW];simp [go_sem]
 have hBW:Below w.heap.size w W:=by rw [hW];exact (Below.refl _ _).alloc (Nat.le_refl _) _
 clear hW
 have hsz:w.heap.size≤W.heap.size:=hBW.size
 have HB:=Lib.hid hBW
 clear hBW
 generalize w.heap.size=r at z0 z1 z2 z3 z4 ⊢
 have k0:∀ g:Later W,g.w.cell? _=_:=fun g=>g.keep z0
 have k1:∀ g:Later W,g.w.cell? _=_:=fun g=>g.keep z1
 have k2:∀ g:Later W,g.w.cell? _=_:=fun g=>g.keep z2
 have k3:∀ g:Later W,g.w.cell? _=_:=fun g=>g.keep z3
 have k4:∀ g:Later W,g.w.cell? _=_:=fun g=>g.keep z4
 clear z0 z1 z2 z3 z4
 refine wp_region_later (by kernel_rfl) (by kernel_rfl) ?_
 repeat (go_big_quiet_step ((first | (go_at_call 72;exact quiet_later (HL.out _)) | (go_at_call 71;exact quiet_later_same (H.out _)))))
 refine wpQuiet_nil ?_
 intro _ hw'
 obtain ⟨nq,hw''⟩:=hw'
 subst hw''
 have hBW2:=Lib.hid (HB.out.trans (nq.below.mono hsz))
 clear k0 k1 k2 k3 k4
 generalize Later.w nq=V at *
 clear nq
 go_wp2
 go_ret
 exact ⟨rfl,hBW2.out⟩
theorem size_any (l c:Int) (b g:Nat) (f:Int) (hb:b≤1000) (hg:g≤1000) (w:World) :
 Calls Tryz.prog 8 #[shQ l c b g f] w fun e w'=>e=.returned (.int .i64 ((2+g+b:Nat):Int))∧Below w.heap.size w w':=by
 have H:=Lib.hid (homes_any l c b g f hg)
 have HE:=Lib.hid (end_any (2+g) b (by omega))
 have v:=fun w:World=>run_convert_float_int w 82 3 .f64 .i64 _ _ (P:=Tryz.prog) (by kernel_rfl) Tryz.underlying3 (int_fb64 (2+g+b) (by omega))
 generalize 2+g+b=m at *
 unfold shQ at H ⊢
 go_enter Tryz.func8,Tryz.ntmps8
 go_wp2_with fail
 refine (H.out _).mono ?_;rintro e w' ⟨rfl,hB⟩
 have hB2:=((Below.refl w.heap.size w).alloc (Nat.le_refl _) _).trans (hB.mono (by simp))
 have HB:=Lib.hid hB2
 clear hB hB2
 go_wp2_with fail
 refine (HE.out _).mono ?_;rintro e w' ⟨rfl,rfl⟩
 go_wp2_with fail
 go_ret
 exact ⟨rfl,HB.out⟩
theorem Log_any (l c:Int) (b g:Nat) (f i:Int) (hg:g≤1000) (hi : -9223372036854775808≤i∧i≤100000) (w:World) :
 Calls Tryz.prog 94 #[shQ l c b g f,.int .i64 i] w fun e w'=>e=.returned (.int .i64 (blockV 2 g i))∧Below w.heap.size w w':=by
 have H:=Lib.hid (log_any l c b g f)
 have HE:=Lib.hid (block_any 2 g i (by omega) hi)
 generalize blockV 2 g i=m at *
 unfold shQ at H ⊢
 go_enter Tryz.func94,Tryz.ntmps94
 go_wp2_with fail
 refine (H.out _).mono ?_;rintro e w' ⟨rfl,hB⟩
 have hB2:=((Below.refl w.heap.size w).alloc (Nat.le_refl _) _).trans (hB.mono (by simp))
 have HB:=Lib.hid hB2
 clear hB hB2
 go_wp2_with fail
 refine (HE.out _).mono ?_;rintro e w' ⟨rfl,rfl⟩
 go_wp2_with fail
 go_ret
 exact ⟨rfl,HB.out⟩
theorem Home_any (l c:Int) (b g:Nat) (f i:Int) (hb:b≤1000) (hg:g≤1000) (hi : -9223372036854775808≤i∧i≤100000) (w:World) :
 Calls Tryz.prog 77 #[shQ l c b g f,.int .i64 i] w fun e w'=>e=.returned (.int .i64 (blockV (2+g) b i))∧Below w.heap.size w w':=by
 have H:=Lib.hid (homes_any l c b g f hg)
 have HE:=Lib.hid (block_any (2+g) b i (by omega) hi)
 generalize blockV (2+g) b i=m at *
 unfold shQ at H ⊢
 go_enter Tryz.func77,Tryz.ntmps77
 go_wp2_with fail
 refine (H.out _).mono ?_;rintro e w' ⟨rfl,hB⟩
 have hB2:=((Below.refl w.heap.size w).alloc (Nat.le_refl _) _).trans (hB.mono (by simp))
 have HB:=Lib.hid hB2
 clear hB hB2
 go_wp2_with fail
 refine (HE.out _).mono ?_;rintro e w' ⟨rfl,rfl⟩
 go_wp2_with fail
 go_ret
 exact ⟨rfl,HB.out⟩
theorem aranchor_any (x:Int) (h0:0≤x) (w:World) :
 Calls Tryz.prog 78 #[.int .u32 x] w fun e w'=>e=.returned (.int .i64 (x%2))∧w=w':=by
 have HE:=fun w=>block_any 0 2 (x%2) (by omega) (by omega) w
 rw [areaC_an,show blockV 0 2 (x%2)=x%2 by unfold blockV;rw [if_pos (by omega)];omega] at HE
 have u:=IntWalk.u32_in (x%2) (by omega)
 have e:x.tmod 2=x%2:=Int.tmod_eq_emod_of_nonneg h0
 have HE':=Lib.hid HE
 clear HE
 go_enter Tryz.func78,Tryz.ntmps78
 go_wp2_with fail
 refine (HE'.out _).mono ?_;rintro e w' ⟨rfl,rfl⟩
 go_wp2_with fail
 go_ret
 exact ⟨rfl,rfl⟩
theorem sizeOf_any (l c:Int) (b g:Nat) (f:Int) (hb:b≤1000) (hg:g≤1000) (w:World) :
 Calls Tryz.prog 10 #[shQ l c b g f] w fun e w'=>e=.returned (.int .i64 ((2+g+b:Nat):Int))∧Below w.heap.size w w':=by
 have u1:IntKind.i64.wrap (2+(g:Int))=2+(g:Int):=IntWalk.i64_in _ (by omega)
 have u2:IntKind.i64.wrap (2+(g:Int)+b)=2+(g:Int)+b:=IntWalk.i64_in _ (by omega)
 unfold shQ
 go_enter Tryz.func10,Tryz.ntmps10
 go_wp2
 go_ret
 exact ⟨ret_int (by omega),(Below.refl _ _).alloc (Nat.le_refl _) _⟩
end Go.Proofs.YtamnpblijdgdaaaGreat
namespace Go.Proofs.YtamnpblijdgdaaaGreat.Fl
open Go
set_option maxRecDepth 20000
abbrev F (n:Int):Nat:=floatOfInt .f64 n
theorem cut_even_bounds (neg:Bool) (n drop:Nat) :
 n/2 ^ (min drop (n.log2+2))≤Ieee.Toward.even.cut neg n drop∧Ieee.Toward.even.cut neg n drop≤n/2 ^ (min drop (n.log2+2))+1:=by
 unfold Ieee.Toward.cut
 simp only [Nat.one_shiftLeft]
 constructor
 ·omega
 ·have:∀ b:Bool,b.toNat≤1:=by decide
  have:=this (decide (2 ^ (min drop (n.log2+2))<2*(n%2 ^ (min drop (n.log2+2))))||(2 ^ (min drop (n.log2+2))==2*(n%2 ^ (min drop (n.log2+2)))&&n/2 ^ (min drop (n.log2+2))%2==1))
  omega
theorem log2_lt {n k:Nat} (h0:n≠0) (h:n<2 ^ k):n.log2<k:=(Nat.log2_lt h0).2 h
theorem le_log2 {n k:Nat} (h:2 ^ k≤n):k≤n.log2:=by
 have h0:n≠0:=by have:=Nat.two_pow_pos k;omega
 exact (Nat.le_log2 h0).2 h
theorem rung_bounds (m:Nat) (h0:1≤m) (h:m≤2 ^ 63) :
 ∃ r,(∀ neg,Ieee.double.nearest neg m 0=Ieee.double.word neg r)∧(m.log2+1023)*2 ^ 52≤r∧r≤(m.log2+1024)*2 ^ 52:=by
 have hm:m≠0:=by omega
 have hL:m.log2<64:=log2_lt hm (by omega)
 have hlo:2 ^ m.log2≤m:=Nat.log2_self_le hm
 have hhi:m<2 ^ (m.log2+1):=Nat.lt_log2_self
 generalize hg:m.log2=L at *
 have key:∀ neg,Ieee.double.nearest neg m 0=Ieee.double.word neg (min ((L+1022)*2 ^ 52+Ieee.Toward.even.cut neg (m <<< (52-L)) (L-52)) Ieee.double.infRung):=by
  intro neg
  unfold Ieee.Format.nearest
  rw [if_neg hm,hg]
  have hl:(max ((0:Int)+(L:Int)-(Ieee.double.fractionBits:Nat)) Ieee.double.leastPlace)=(L:Int)-52:=by
   have:Ieee.double.leastPlace = -1074:=by decide
   have h2:(Ieee.double.fractionBits:Int)=52:=rfl
   rw [this,h2];omega
  simp only [hl]
  have a1:((L:Int)-52-Ieee.double.leastPlace).toNat=L+1022:=by
   have:Ieee.double.leastPlace = -1074:=by decide
   rw [this];omega
  have a2:((0:Int)-((L:Int)-52)).toNat=52-L:=by omega
  have a3:(((L:Int)-52)-0).toNat=L-52:=by omega
  have a4:Ieee.double.binade=2 ^ 52:=rfl
  rw [a1,a2,a3,a4]
 have hneg:∀ n d neg,Ieee.Toward.even.cut neg n d=Ieee.Toward.even.cut false n d:=fun n d neg=>rfl
 have hkept:2 ^ 52≤Ieee.Toward.even.cut false (m <<< (52-L)) (L-52)∧Ieee.Toward.even.cut false (m <<< (52-L)) (L-52)≤2 ^ 53:=by
  by_cases hc:L≤52
  ·have hd:L-52=0:=by omega
   rw [hd]
   have e:Ieee.Toward.even.cut false (m <<< (52-L)) 0=m <<< (52-L):=by
    unfold Ieee.Toward.cut
    simp [Nat.mod_one]
   rw [e,Nat.shiftLeft_eq]
   have p1:2 ^ L*2 ^ (52-L)=2 ^ 52:=by rw [← Nat.pow_add];congr 1;omega
   have p2:2 ^ (L+1)*2 ^ (52-L)=2 ^ 53:=by rw [← Nat.pow_add];congr 1;omega
   have q1:=Nat.mul_le_mul_right (2 ^ (52-L)) hlo
   have q2:=Nat.mul_le_mul_right (2 ^ (52-L)) (Nat.le_of_lt hhi)
   omega
  ·have hd:52-L=0:=by omega
   rw [hd,Nat.shiftLeft_zero]
   obtain ⟨b1,b2⟩:=cut_even_bounds false m (L-52)
   have hmin:min (L-52) (m.log2+2)=L-52:=by omega
   rw [hmin] at b1 b2
   have p1:2 ^ 52*2 ^ (L-52)=2 ^ L:=by rw [← Nat.pow_add];congr 1;omega
   have p2:2 ^ 53*2 ^ (L-52)=2 ^ (L+1):=by rw [← Nat.pow_add];congr 1;omega
   have q1:2 ^ 52≤m/2 ^ (L-52):=(Nat.le_div_iff_mul_le (Nat.two_pow_pos _)).2 (by omega)
   have q2:m/2 ^ (L-52)<2 ^ 53:=(Nat.div_lt_iff_lt_mul (Nat.two_pow_pos _)).2 (by omega)
   omega
 refine ⟨(L+1022)*2 ^ 52+Ieee.Toward.even.cut false (m <<< (52-L)) (L-52),?_,?_,?_⟩
 ·intro neg
  rw [key neg,hneg _ _ neg]
  congr 1
  have:Ieee.double.infRung=2047*2 ^ 52:=by decide
  rw [this]
  have:(L+1022)*2 ^ 52≤(63+1022)*2 ^ 52:=Nat.mul_le_mul_right _ (by omega)
  omega
 ·have:=hkept.1;omega
 ·have:=hkept.2;omega
theorem read_word (neg:Bool) (r:Nat) (h1:2 ^ 52≤r) (h2:r<2047*2 ^ 52) :
 Ieee.double.read (Ieee.double.word neg r)=.number neg (2 ^ 52+r%2 ^ 52) (-1074+(r/2 ^ 52-1:Nat)):=by
 unfold Ieee.Format.read Ieee.Format.word
 have s:Ieee.double.signWeight=2 ^ 63:=rfl
 have b:Ieee.double.binade=2 ^ 52:=rfl
 have i:Ieee.double.infRung=2047*2 ^ 52:=by decide
 have l:Ieee.double.leastPlace = -1074:=by decide
 rw [s,b,i,l]
 have e1:(if neg=true then 2 ^ 63+r else r)%2 ^ 63=r:=by split <;> omega
 have e2:((if neg=true then 2 ^ 63+r else r)/2 ^ 63%2==1)=neg:=by
  cases neg
  ·simp;omega
  ·simp;omega
 simp only [e1,e2]
 rw [if_neg (by omega),if_pos h2]
theorem F_pos (n:Int) (h:1≤n) (h2:n≤2 ^ 63):∃ r,F n=r∧(n.toNat.log2+1023)*2 ^ 52≤r∧r≤(n.toNat.log2+1024)*2 ^ 52:=by
 obtain ⟨r,hr,h3,h4⟩:=rung_bounds n.toNat (by omega) (by omega)
 refine ⟨r,?_,h3,h4⟩
 have:F n=Ieee.double.nearest (decide (n<0)) n.natAbs 0:=rfl
 rw [this,show n.natAbs=n.toNat by omega,hr,show decide (n<0)=false by simp;omega]
 rfl
theorem F_neg (n:Int) (h:n<0) (h2 : -2 ^ 63≤n):∃ r,F n=Ieee.double.word true r∧2 ^ 52≤r∧r<2047*2 ^ 52:=by
 obtain ⟨r,hr,h3,h4⟩:=rung_bounds n.natAbs (by omega) (by omega)
 have hL:n.natAbs.log2<64:=log2_lt (by omega) (by omega)
 refine ⟨r,?_,by omega,by omega⟩
 have:F n=Ieee.double.nearest (decide (n<0)) n.natAbs 0:=rfl
 rw [this,hr,show decide (n<0)=true by simp;omega]
theorem order_neg (n:Int) (h:n<0) (h2 : -2 ^ 63≤n) (y m:Nat) (p:Int) (hy:Ieee.double.read y=.number false m p) :
 FloatKind.f64.format.order (F n) y=some .lt:=by
 obtain ⟨r,e,h3,h4⟩:=F_neg n h h2
 show Ieee.double.order (F n) y=_
 unfold Ieee.Format.order
 rw [e,read_word true r h3 h4,hy]
 simp only [Ieee.Datum.order,Option.some.injEq]
 generalize hb:min (-1074+((r/2 ^ 52-1:Nat):Int)) p=base
 have:compare (Ieee.signed true (2 ^ 52+r%2 ^ 52) (-1074+((r/2 ^ 52-1:Nat):Int)-base).toNat) (Ieee.signed false m (p-base).toNat)=.lt:=by
  rw [Int.compare_eq_lt]
  unfold Ieee.signed
  simp only [if_true,Nat.shiftLeft_eq]
  have:0<(2 ^ 52+r%2 ^ 52)*2 ^ (-1074+((r/2 ^ 52-1:Nat):Int)-base).toNat:=Nat.mul_pos (by omega) (Nat.two_pow_pos _)
  simp only [Bool.false_eq_true,if_false]
  omega
 exact this
theorem order_big (n:Int) (h:16≤n) (h2:n≤2 ^ 63) (y:Nat) (m:Nat) (p:Int) (hy:Ieee.double.read y=.number false m p) (hm:m<2 ^ 53) (hp:p ≤ -49) :
 FloatKind.f64.format.order (F n) y=some .gt:=by
 obtain ⟨r,e,h3,h4⟩:=F_pos n (by omega) h2
 have hL:n.toNat.log2<64:=log2_lt (by omega) (by omega)
 have hL4:4≤n.toNat.log2:=le_log2 (by omega)
 show Ieee.double.order (F n) y=_
 unfold Ieee.Format.order
 have ew:r=Ieee.double.word false r:=rfl
 rw [e,ew,read_word false r (by omega) (by omega),hy]
 simp only [Ieee.Datum.order,Option.some.injEq]
 have hq:n.toNat.log2+1023≤r/2 ^ 52:=(Nat.le_div_iff_mul_le (by omega)).2 h3
 generalize hplace:(-1074+((r/2 ^ 52-1:Nat):Int))=place at *
 have hplace2:p+1≤place:=by omega
 have hb:min place p=p:=by omega
 rw [hb]
 have:compare (Ieee.signed false (2 ^ 52+r%2 ^ 52) (place-p).toNat) (Ieee.signed false m (p-p).toNat)=.gt:=by
  rw [Int.compare_eq_gt]
  unfold Ieee.signed
  simp only [Bool.false_eq_true,if_false,Nat.shiftLeft_eq]
  have e1:(p-p).toNat=0:=by omega
  rw [e1]
  have e2:2 ^ 1≤2 ^ (place-p).toNat:=Nat.pow_le_pow_right (by omega) (by omega)
  have e3:=Nat.mul_le_mul (show 2 ^ 52≤2 ^ 52+r%2 ^ 52 by omega) e2
  omega
 exact this
theorem small_int:∀ i:Fin 80,floatToIntVal .f64 (F (i.val:Int)) .i64=some (i.val:Int)∧floatToIntVal .f64 (F (i.val:Int)) .u64=some (i.val:Int)∧floatToIntVal .f64 (F (i.val:Int)) .u8=some (i.val:Int):=by decide +kernel
theorem small_mul:∀ i:Fin 5,FloatKind.f64.format.mul (F (i.val:Int)) (F 16)=some (F ((i.val:Int)*16)):=by decide +kernel
theorem small_add:∀ i:Fin 5,∀ j:Fin 16,FloatKind.f64.format.add (F ((i.val:Int)*16)) (F (j.val:Int))=some (F ((i.val:Int)*16+j.val)):=by decide +kernel
theorem small_ge0:∀ i:Fin 80,(FloatKind.f64.format.order (F (i.val:Int)) 0==some .gt||FloatKind.f64.format.order (F (i.val:Int)) 0==some .eq)=true:=by decide +kernel
theorem small_le3:∀ i:Fin 80,(FloatKind.f64.format.order (F (i.val:Int)) 4613937818241073152==some .lt||FloatKind.f64.format.order (F (i.val:Int)) 4613937818241073152==some .eq)=decide (i.val≤3):=by decide +kernel
theorem small_le15:∀ i:Fin 80,(FloatKind.f64.format.order (F (i.val:Int)) 4624633867356078080==some .lt||FloatKind.f64.format.order (F (i.val:Int)) 4624633867356078080==some .eq)=decide (i.val≤15):=by decide +kernel
theorem ge0_f (n:Int) (h:n<0) (h2 : -2 ^ 63≤n):(FloatKind.f64.format.order (F n) 0==some .gt||FloatKind.f64.format.order (F n) 0==some .eq)=false:=by
 rw [order_neg n h h2 0 0 (-1074) (by decide +kernel)];rfl
theorem ge0_t (n:Int) (h:0≤n) (h2:n≤2 ^ 63):(FloatKind.f64.format.order (F n) 0==some .gt||FloatKind.f64.format.order (F n) 0==some .eq)=true:=by
 by_cases hs:n<16
 ·have:=small_ge0 ⟨n.toNat,by omega⟩
  rwa [show ((n.toNat:Nat):Int)=n by omega] at this
 ·rw [order_big n (by omega) h2 0 0 (-1074) (by decide +kernel) (by omega) (by omega)];rfl
theorem le3_t (n:Int) (h:0≤n) (h3:n≤3):(FloatKind.f64.format.order (F n) 4613937818241073152==some .lt||FloatKind.f64.format.order (F n) 4613937818241073152==some .eq)=true:=by
 have:=small_le3 ⟨n.toNat,by omega⟩
 simp only [show ((n.toNat:Nat):Int)=n by omega] at this
 rw [this];simp;omega
theorem le15_t (n:Int) (h:0≤n) (h3:n≤15):(FloatKind.f64.format.order (F n) 4624633867356078080==some .lt||FloatKind.f64.format.order (F n) 4624633867356078080==some .eq)=true:=by
 have:=small_le15 ⟨n.toNat,by omega⟩
 simp only [show ((n.toNat:Nat):Int)=n by omega] at this
 rw [this];simp;omega
theorem int_small (i:Int) (h:0≤i∧i<80):floatToIntVal .f64 (F i) .i64=some i∧floatToIntVal .f64 (F i) .u64=some i∧floatToIntVal .f64 (F i) .u8=some i:=by
 have:=small_int ⟨i.toNat,by omega⟩
 simp only [show ((i.toNat:Nat):Int)=i by omega] at this
 exact this
theorem mul_nat (i:Nat) (h:i<5):FloatKind.f64.format.mul (F i) (F 16)=some (F (i*16)):=small_mul ⟨i,h⟩
theorem add_nat (i j:Nat) (h:i<5) (h2:j<16):FloatKind.f64.format.add (F (i*16)) (F j)=some (F (i*16+j)):=small_add ⟨i,h⟩ ⟨j,h2⟩
theorem ci64 {P:Program} (s d:TypeId) (hs:(P.underlying s).isSome=true) (hd:P.underlying d=some (.int .i64)) (i:Nat) (h:i<80) (w:World) :
 (convert s d (.float .f64 (F i))).run P w=.ok (.int .i64 i) w:=run_convert_float_int w s d .f64 .i64 _ _ hs hd (int_small i (by omega)).1
theorem cu8 {P:Program} (s d:TypeId) (hs:(P.underlying s).isSome=true) (hd:P.underlying d=some (.int .u8)) (i:Nat) (h:i<80) (w:World) :
 (convert s d (.float .f64 (F i))).run P w=.ok (.int .u8 i) w:=run_convert_float_int w s d .f64 .u8 _ _ hs hd (int_small i (by omega)).2.2
end Go.Proofs.YtamnpblijdgdaaaGreat.Fl
namespace Go.Proofs.YtamnpblijdgdaaaGreat
open Go.ChangeShapes Go.WideShapes Go.ChangeAt Go.RowKit
open Fl
theorem toNumber_any (l c:Int) (w:World) :
 Calls Tryz.prog 96 #[.agg #[.int .i64 l,.int .i64 c]] w fun e w'=>e=.returned (.complex .f64 (F l) (F c))∧Below w.heap.size w w':=by
 go_enter Tryz.func96,Tryz.ntmps96
 go_wp2
 go_ret
 exact ⟨rfl,(Below.refl _ _).alloc (Nat.le_refl _) _⟩
theorem within_yes (l c:Nat) (w:World) (h:l≤3) (h':c≤15) :
 Calls Tryz.prog 97 #[.complex .f64 (F l) (F c)] w fun e w'=>e=.returned (.bool true)∧w=w':=by
 have h1:=ge0_t l (by omega) (by omega)
 have h2:=le3_t l (by omega) (by omega)
 have h3:=ge0_t c (by omega) (by omega)
 have h4:=le15_t c (by omega) (by omega)
 go_enter Tryz.func97,Tryz.ntmps97
 go_wp2
 go_ret
 exact ⟨rfl,rfl⟩
set_option linter.unusedVariables false
theorem Put_yes (l c:Nat) (w:World) (h:l≤3) (h':c≤15) :
 Calls Tryz.prog 73 #[.agg #[.int .i64 l,.int .i64 c]] w fun e w'=>e=.returned (.tuple #[.int .u8 ((l*16+c:Nat):Int),.bool true])∧Below w.heap.size w w':=by
 have m:∀ w:World,(binOp .mul 82 (.float .f64 (F l)) (.float .f64 4625196817309499392)).run Tryz.prog w=.ok (.float .f64 (F (l*16))) w:=fun w=>run_float_arith w .mul 82 .f64 _ _ _ (mul_nat l (by omega))
 have a:∀ w:World,(binOp .add 82 (.float .f64 (F (l*16))) (.float .f64 (F c))).run Tryz.prog w=.ok (.float .f64 (F (l*16+c))) w:=fun w=>run_float_arith w .add 82 .f64 _ _ _ (add_nat l c (by omega) (by omega))
 have k2:∀ w:World,(convert 82 5 (.float .f64 (F (l*16+c)))).run Tryz.prog w=.ok (.int .u8 (l*16+c)) w:=fun w=>cu8 (P:=Tryz.prog) 82 5 (by kernel_rfl) (by kernel_rfl) (l*16+c) (by omega) w
 go_enter Tryz.func73,Tryz.ntmps73
 go_wp2_with (first | (go_at_call 96;refine (toNumber_any _ _ _).mono ?_;rintro e w' ⟨rfl,hb⟩) | (go_at_call 97;refine (within_yes _ _ _ (by omega) (by omega)).mono ?_;rintro e w' ⟨rfl,rfl⟩))
 go_ret2
 exact ⟨by simp,((Below.refl _ _).alloc (Nat.le_refl _) _).trans (hb.mono (by simp))⟩
theorem refMay_yes (l c:Nat) (w:World) (h:l≤3) (h':c≤15) :
 Calls Tryz.prog 80 #[.agg #[.int .i64 l,.int .i64 c]] w fun e w'=>e=.returned (.bool true)∧Below w.heap.size w w':=by
 have d:decide ((c:Int)≤15)=true:=by simp;omega
 go_enter Tryz.func80,Tryz.ntmps80
 go_wp2_with fail
 go_ret
 exact ⟨rfl,(Below.refl _ _).alloc (Nat.le_refl _) _⟩
theorem refPut_yes (l c:Nat) (w:World) (h:l≤3) (h':c≤15) :
 Calls Tryz.prog 38 #[.agg #[.int .i64 l,.int .i64 c]] w fun e w'=>e=.returned (.tuple #[.int .u8 (16*(l:Int)+c),.bool true])∧Below w.heap.size w w':=by
 go_enter Tryz.func38,Tryz.ntmps38
 go_wp2_with fail
 refine (refMay_yes _ _ _ h h').mono ?_;rintro e w' ⟨rfl,hb⟩
 have k0:=keep hb (b:=w.heap.size) (o:=0) (v:=.int .i64 l) (by simp [go_sem])
 have k1:=keep hb (b:=w.heap.size) (o:=1) (v:=.int .i64 c) (by simp [go_sem])
 have hb':=((Below.refl w.heap.size w).alloc (Nat.le_refl _) _).trans (hb.mono (by simp))
 clear hb
 go_wp2_with fail
 go_ret2
 exact ⟨rfl,hb'⟩
end Go.Proofs.YtamnpblijdgdaaaGreat
