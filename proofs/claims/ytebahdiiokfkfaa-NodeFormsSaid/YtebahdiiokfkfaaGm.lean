/- Contract: the reference's TakeNode. -/
import Derived.Test.YtebahdiiokfkfaaGl
import Derived.Test.YtebahdiiokfkfaaGj
namespace Go.Proofs.Ytebahdiiokfkfaa
open Go.ChangeShapes Go.WideShapes Go.ChangeAt Go.RowKit
set_option linter.unusedVariables false
theorem numseg_any (g : Nat) (k : Int) (bs : List Int) (h56 : bs.length = 56) (hB : AllB bs) (o m n d : Nat) (w : World) (hg : w.heap[g]? = some (.cells (blkA k bs) 28 (0, 0))) (hn : m = n) (ho : o + m ≤ 56) (hm : m ≤ 4) :
    Calls Try.prog 19 #[.slice (some ⟨g, 1 + o, none⟩) n d] w fun e w' => e = .returned (.int .u64 (numV (seg bs o m))) ∧ w = w' :=
  rnum_any _ (seg bs o m) n d w (by rw [seg_len h56 ho]; exact hn) (by omega) (seg_allB hB _ _) (byt_seg hg o m)
theorem run_slice_body (g : Nat) {m : Nat} (h : m ≤ 35) (w : World) : (Instr.slice 37 (.slice (some ⟨g, 1, none⟩) 56 56) (some (.int .i64 21)) (some (.int .i64 (21 + (m : Int)))) none).run Try.prog w = .ok (.slice (some ⟨g, 22, none⟩) m 35) w := by
  have z3 := Try.sizeOf5
  have e2 : Try.prog.elem 37 = 5 := by kernel_rfl
  have e3 : Try.prog.underlying 37 = some (.slice (Try.prog.elem 37)) := by kernel_rfl
  rw [run_slice_lh w 37 _ 56 56 e3 .i64 .i64 21 (21 + (m : Int)) (by omega) (by omega) (by omega), e2]
  have hm : (21 + (m : Int)).toNat = 21 + m := by omega
  simp [z3, sliced, add_off, hm]
/-- Where TakeNode stands: the block, the result, the node that is made. -/
structure TR (w : World) (p q : Nat) (k : Int) (bs : List Int) (m : Nd) (W : World) : Prop where
  hq : p + 1 < q
  bel : Below p w W
  blk : W.heap[p]? = some (.cells (blkA k bs) 28 (0, 0))
  res : NdAt W (p + 1) nd0
  nd : NdAt W q m
section
variable {w W W' : World} {p q : Nat} {k : Int} {bs : List Int} {m : Nd}
theorem TR.sz (h : TR w p q k bs m W) : q < W.heap.size := room_lt h.nd
theorem TR.below (h : TR w p q k bs m W) (hb : Below W.heap.size W W') : TR w p q k bs m W' :=
  ⟨h.hq, h.bel.trans (hb.mono (by have := h.sz; have := h.hq; omega)), kb hb h.blk, h.res.below hb, h.nd.below hb⟩
theorem TR.setC (h : TR w p q k bs m W) (i : Nat) (v : Value) (m2 : Nd) (he : (ndA m).setIfInBounds i v = ndA m2) : TR w p q k bs m2 (W.setCell ⟨q, i, none⟩ v) := by
  have hq := h.hq
  refine ⟨hq, h.bel.setCell (show p ≤ q by omega) _, by rw [heap_setCell_other W _ _ _ (show p ≠ q by omega)]; exact h.blk, by unfold NdAt; rw [heap_setCell_other W _ _ _ (show p + 1 ≠ q by omega)]; exact h.res, ?_⟩
  unfold NdAt; rw [heap_setCell_same' h.nd, he]
theorem TR.setT (h : TR w p q k bs m W) (t : List Int) : TR w p q k bs { m with t := t } (W.setCell ⟨q, 8, none⟩ (.string (strOfNums t))) := h.setC 8 _ _ rfl
end
/-- .. ahead of that. -/
structure TR0 (w : World) (p : Nat) (k : Int) (bs : List Int) (W : World) : Prop where
  bel : Below p w W
  blk : W.heap[p]? = some (.cells (blkA k bs) 28 (0, 0))
  res : NdAt W (p + 1) nd0
theorem TR0.made {w W : World} {p : Nat} {k : Int} {bs : List Int} {m : Nd} (h : TR0 w p k bs W) : TR w p W.heap.size k bs m ((W.alloc (.cells (ndA nd0) 25)).setRow W.heap.size (ndA m)) := by
  have hsz : p + 1 < W.heap.size := room_lt h.res
  exact ⟨hsz, below_setRow (h.bel.alloc (by omega) _) (by omega) _, by rw [setRow_other _ _ _ _ (by omega)]; exact kb (bel1 _) h.blk, (h.res.alloc _).other _ (by omega), (NdAt.new W nd0).set m⟩

def VTR (p : Nat) (bs : List Int) (W0 : World) (i : Nat) (v : Value) (W : World) : Prop :=
  match i with
  | 0 | 4 | 8 => v = .slice (some ⟨p, 1, none⟩) 56 56
  | 1 => v = .slice (some ⟨p, 1, none⟩) 4 56
  | 2 => v = .int .u64 (numV (seg bs 0 4))
  | 3 => v = .int .u32 (numV (seg bs 0 4))
  | 5 => v = .slice (some ⟨p, 5, none⟩) 2 52
  | 6 => v = .int .u64 (numV (seg bs 4 2))
  | 7 => v = .int .i64 (numV (seg bs 4 2))
  | 9 => v = .slice (some ⟨p, 7, none⟩) 4 50
  | 10 => v = .int .u64 (numV (seg bs 6 4))
  | 11 => v = .int .i64 (numV (seg bs 6 4))
  | 12 => v = .agg (ndA (rdJ bs 0))
  | 13 => v = .pointer (some ⟨W0.heap.size, 0, none⟩)
  | _ => True
set_option maxRecDepth 100000 in
set_option maxHeartbeats 6400000 in
theorem rtake_any (k : Int) (bs : List Int) (w : World) (hk : i64 k) (h56 : bs.length = 56) (hB : AllB bs) : Calls Try.prog 10 #[.agg (blkA k bs)] w fun e w' => e = .returned (.tuple #[.agg (ndA (takeN k bs)), .bool (decide (Taken k bs))]) ∧ Below w.heap.size w w' := by
  have hok := rdT_ok h56 hB
  have H56 := Lib.hid h56
  have HBB := Lib.hid hB
  have HT := Lib.hid (fun o m n d W hg hn h2 h3 => numseg_any w.heap.size k bs h56 hB o m n d W hg hn h2 h3)
  have HN2 := Lib.hid (fun o ho => numV2_lt (o := o) h56 hB ho)
  have HN4 := Lib.hid (fun o ho => numV4_lt (o := o) h56 hB ho)
  have wc0 : IntKind.u32.wrap (numV (seg bs 0 4) : Int) = numV (seg bs 0 4) := IntWalk.u32_in _ (by have := HN4.out 0 (by omega); omega)
  have wc1 : IntKind.i64.wrap (numV (seg bs 4 2) : Int) = numV (seg bs 4 2) := IntWalk.i64_in _ (by have := HN2.out 4 (by omega); omega)
  have wc2 : IntKind.i64.wrap (numV (seg bs 6 4) : Int) = numV (seg bs 6 4) := IntWalk.i64_in _ (by have := HN4.out 6 (by omega); omega)
  have hy := getD_byte hB 20
  obtain ⟨yn, hyn⟩ : ∃ yn : Nat, bs.getD 20 0 = (yn : Int) := ⟨(bs.getD 20 0).toNat, by omega⟩
  have hx20 : bs[20]? = some (yn : Int) := by
    rw [← hyn, List.getD, List.getElem?_eq_getElem (by omega)]; rfl
  have HC20 : Hid (∀ W : World, W.heap[w.heap.size]? = some (.cells (blkA k bs) 28 (0, 0)) → W.cell? ⟨w.heap.size, 21, none⟩ = some (.int .u8 yn)) := fun W h => by
    rw [blk_cell h, ← Array.getElem?_toList, blkA_list]; exact Bs_at (i := 20) hx20
  have HTS : Hid (rdT bs = { rdJ bs 5 with t := seg bs 21 yn }) := by unfold Hid rdT; rw [hyn]; rfl
  have HTD : Hid (Taken k bs ↔ ((yn : Int) ≤ 32 ∧ MayN k (rdT bs) ∧ pad (bytesN (rdT bs)) = bs)) := by unfold Hid Taken; rw [hyn]
  have hyl : yn < 256 := by omega
  have wy : IntKind.i64.wrap (yn : Int) = yn := IntWalk.i64_in _ (by omega)
  have wy2 : IntKind.i64.wrap (21 + (yn : Int)) = 21 + (yn : Int) := IntWalk.i64_in _ (by omega)
  have HTL : Hid (yn ≤ 35 → (rdT bs).t.length = yn) := fun h => by rw [HTS.out]; exact seg_len H56.out (by omega)
  have HPUT := Lib.hid (fun (h : yn ≤ 35) w => rput_any k (rdT bs) w hok (by rw [HTL.out h]; omega))
  clear hk hy hyn hx20
  have HY : Hid (Taken k bs → takeN k bs = rdT bs) := fun h => by unfold takeN; rw [if_pos h]
  have HNO : Hid (¬ Taken k bs → takeN k bs = nd0) := fun h => by unfold takeN; rw [if_neg h]
  have HTR : Hid (TR0 w w.heap.size k bs ((w.alloc (Obj.cells (blkA k bs) 28)).alloc (Obj.cells (ndA nd0) 25))) := by
    have s1 : (w.alloc (Obj.cells (blkA k bs) 28)).heap.size = w.heap.size + 1 := size_alloc' _ _
    have B1 := bel1 (w := w) (Obj.cells (blkA k bs) 28)
    have H1 := NdAt.new (w.alloc (Obj.cells (blkA k bs) 28)) nd0
    rw [s1] at H1
    exact ⟨B1.alloc B1.size _, kb (bel1 _) (heap_alloc_new w _), H1⟩
  go_enter Try.func10, Try.ntmps10
  go_upto_region 2 with (refine wpList_allocN rfl rfl ?_; try simp only [size_alloc'])
  generalize (w.alloc (Obj.cells (blkA k bs) 28)).alloc (Obj.cells (ndA nd0) 25) = W at *
  generalize hp : w.heap.size = p at *
  go_cut [5] (fun s wx => ∃ q, s = .pointer (some ⟨q, 0, none⟩) ∧ TR w p q k bs (rdJ bs 0) wx)
  case first =>
    have hblk : W.drew.heap[p]? = some (.cells (blkA k bs) 28 (0, 0)) := HTR.out.blk
    have hJ0 : JTN W.drew false W.drew := rfl
    have HTR0 : Hid (TR0 w p k bs W.drew) := ⟨HTR.out.bel.drew, HTR.out.blk, HTR.out.res⟩
    refine wp_region_rgk (VTR p bs W.drew) (fun L W2 => JTN W.drew (L 13) W2) (fun _ _ _ => True) (by kernel_rfl) (by kernel_rfl) (fun i j v' w' w'' _ _ hv _ => hv) hJ0 ?_
    clear hJ0 HTR
    generalize W.drew = W0 at *
    simp only [RAll]
    refine ⟨?_, ?_, ?_, ?_, ?_, ?_, ?_, ?_, ?_, ?_, ?_, ?_, ?_, ?_, ?_⟩
    · refine RStepK.of rfl fun T W L hag hL hJ hLs hd => ?_   -- 0: 11 := Op.move (Operand.tmp 4)
      have e4 : T.getD 4 undef = _ := (agree_at hag 4 (by kernel_rfl)).trans rfl
      clear hag hd
      go_simp
      exact ⟨_, rfl, rfl⟩
    · refine RStepK.of rfl fun T W L hag hL hJ hLs hd => ?_   -- 1: 12 := Op.slice 37 (Operand.tmp 11) none (some (Operand.const (Valu
      have d11 : T.getD 11 undef = _ := hd ⟨0, .data⟩ (by simp) rfl _ rfl
      clear hag hd
      go_simp
      exact ⟨_, rfl, rfl⟩
    · refine RStepK.of rfl fun T W L hag hL hJ hLs hd => ?_   -- 2: 13 := Op.call { callee := Callee.value (Operand.func 19), args := 
      have d12 : T.getD 12 undef = _ := hd ⟨1, .data⟩ (by simp) rfl _ rfl
      clear hag hd
      go_simp
      refine (HT.out 0 4 4 56 W (hJ.blk hblk) rfl (by omega) (by omega)).mono ?_
      rintro en w' ⟨rfl, rfl⟩
      exact ⟨_, rfl, rfl, hJ⟩
    · refine RStepK.of rfl fun T W L hag hL hJ hLs hd => ?_   -- 3: 14 := Op.convert 45 22 (Operand.tmp 13)
      have d13 : T.getD 13 undef = _ := hd ⟨2, .data⟩ (by simp) rfl _ rfl
      have fct0 := wc0
      clear hag hd
      go_simp
      exact ⟨_, rfl, rfl⟩
    · refine RStepK.of rfl fun T W L hag hL hJ hLs hd => ?_   -- 4: 15 := Op.move (Operand.tmp 4)
      have e4 : T.getD 4 undef = _ := (agree_at hag 4 (by kernel_rfl)).trans rfl
      clear hag hd
      go_simp
      exact ⟨_, rfl, rfl⟩
    · refine RStepK.of rfl fun T W L hag hL hJ hLs hd => ?_   -- 5: 16 := Op.slice 37 (Operand.tmp 15) (some (Operand.const (Value.int
      have d15 : T.getD 15 undef = _ := hd ⟨4, .data⟩ (by simp) rfl _ rfl
      clear hag hd
      go_simp
      exact ⟨_, rfl, rfl⟩
    · refine RStepK.of rfl fun T W L hag hL hJ hLs hd => ?_   -- 6: 17 := Op.call { callee := Callee.value (Operand.func 19), args := 
      have d16 : T.getD 16 undef = _ := hd ⟨5, .data⟩ (by simp) rfl _ rfl
      clear hag hd
      go_simp
      refine (HT.out 4 2 2 52 W (hJ.blk hblk) rfl (by omega) (by omega)).mono ?_
      rintro en w' ⟨rfl, rfl⟩
      exact ⟨_, rfl, rfl, hJ⟩
    · refine RStepK.of rfl fun T W L hag hL hJ hLs hd => ?_   -- 7: 18 := Op.convert 45 3 (Operand.tmp 17)
      have d17 : T.getD 17 undef = _ := hd ⟨6, .data⟩ (by simp) rfl _ rfl
      have fct0 := wc1
      clear hag hd
      go_simp
      exact ⟨_, rfl, rfl⟩
    · refine RStepK.of rfl fun T W L hag hL hJ hLs hd => ?_   -- 8: 19 := Op.move (Operand.tmp 4)
      have e4 : T.getD 4 undef = _ := (agree_at hag 4 (by kernel_rfl)).trans rfl
      clear hag hd
      go_simp
      exact ⟨_, rfl, rfl⟩
    · refine RStepK.of rfl fun T W L hag hL hJ hLs hd => ?_   -- 9: 20 := Op.slice 37 (Operand.tmp 19) (some (Operand.const (Value.int
      have d19 : T.getD 19 undef = _ := hd ⟨8, .data⟩ (by simp) rfl _ rfl
      clear hag hd
      go_simp
      exact ⟨_, rfl, rfl⟩
    · refine RStepK.of rfl fun T W L hag hL hJ hLs hd => ?_   -- 10: 21 := Op.call { callee := Callee.value (Operand.func 19), args := 
      have d20 : T.getD 20 undef = _ := hd ⟨9, .data⟩ (by simp) rfl _ rfl
      clear hag hd
      go_simp
      refine (HT.out 6 4 4 50 W (hJ.blk hblk) rfl (by omega) (by omega)).mono ?_
      rintro en w' ⟨rfl, rfl⟩
      exact ⟨_, rfl, rfl, hJ⟩
    · refine RStepK.of rfl fun T W L hag hL hJ hLs hd => ?_   -- 11: 22 := Op.convert 45 3 (Operand.tmp 21)
      have d21 : T.getD 21 undef = _ := hd ⟨10, .data⟩ (by simp) rfl _ rfl
      have fct0 := wc2
      clear hag hd
      go_simp
      exact ⟨_, rfl, rfl⟩
    · refine RStepK.of rfl fun T W L hag hL hJ hLs hd => ?_   -- 12: 23 := Op.build 25 #[(0, Operand.tmp 14), (1, Operand.tmp 18), (2, 
      have d14 : T.getD 14 undef = _ := hd ⟨3, .data⟩ (by simp) rfl _ rfl
      have d18 : T.getD 18 undef = _ := hd ⟨7, .data⟩ (by simp) rfl _ rfl
      have d22 : T.getD 22 undef = _ := hd ⟨11, .data⟩ (by simp) rfl _ rfl
      clear hag hd
      have hbu := fun W => run_build (P := Try.prog) W 25 #[(0, .int .u32 (numV (seg bs 0 4))), (1, .int .i64 (numV (seg bs 4 2))), (2, .int .i64 (numV (seg bs 6 4)))] _ (builtN3 _ _ _)
      simp only [Array.getD_eq_getD_getElem?] at d14 d18 d22
      go_simp
      exact ⟨_, rfl, rfl⟩
    · refine RStepK.of rfl fun T W L hag hL hJ hLs hd => ?_   -- 13: 5 := Op.alloc 25
      have hJ0 : W = W0 := by have h := hJ; unfold JTN at h; rw [show L 13 = false from hL] at h; exact h
      subst hJ0
      clear hag hd
      refine wp_allocN rfl ?_
      exact ⟨_, rfl, rfl, rfl, trivial⟩
    · refine RLastK.of rfl fun T W L hag hLs hL hJ hd => ?_   -- 14: None := Op.store 25 (Operand.tmp 5) (Operand.tmp 23)
      have d5 : T.getD 5 undef = _ := hd 13 _ (by simp) rfl
      have d23 : T.getD 23 undef = _ := hd 12 _ (by simp) rfl
      obtain ⟨f, hf, hT⟩ := agree_fn hag
      have h5 := (hf 5).trans d5
      have h23 := (hf 23).trans d23
      have HJ := Lib.hid hJ
      clear hag hd d5 d23 hJ hf
      rw [hT]
      clear hT
      simp only [List.pop_toArray, List.dropLast_cons_cons, List.dropLast_singleton, List.filterMap_cons, List.filterMap_nil, List.foldl_cons, List.foldl_nil, List.setIfInBounds_toArray, List.set_cons_succ, List.set_cons_zero, h5, h23]
      have hJ0 : W = W0.alloc (.cells (ndA nd0) 25) := by have h := HJ.out; unfold JTN at h; rw [show L 13 = true from hLs 13 (by decide)] at h; exact h
      subst hJ0
      have HN0 := NdAt.new W0 nd0
      refine wp_storeN (.tmp 5) (.tmp 23) rfl W0.heap.size rfl (rdJ bs 0) nd0 rfl HN0 ?_
      rename_i hJc hKc
      go_wp2_with fail
      refine hJc _ _ ?_
      repeat apply Exists.intro
      exact ⟨⟨_, rfl, HTR0.out.made⟩, rfl⟩
  case rest =>
    obtain ⟨q, rfl, htr⟩ := hcut
    have HT0 := Lib.hid htr
    clear htr HTR wc0 wc1 wc2
    go_wp2_with fail
    go_loopw [6] (fun i wr => ∃ j : Nat, j ≤ 4 ∧ i = .int .i64 j ∧ Hid (TR w p q k bs (rdJ bs j) wr)) (fun i _ => (4 - intOf i).toNat)
    case atStart => exact ⟨0, by omega, rfl, HT0⟩
    case round =>
      obtain ⟨j, hj, rfl, HTj⟩ := hrel
      clear HT0
      have h4 : j = 0 ∨ j = 1 ∨ j = 2 ∨ j = 3 ∨ j = 4 := by omega
      rcases h4 with rfl | rfl | rfl | rfl | rfl
      · have hv := HN2.out 10 (by omega)
        have wn1 : IntKind.i64.wrap (numV (seg bs 10 2) : Int) = numV (seg bs 10 2) := IntWalk.i64_in _ (by omega)
        have wn2 : IntKind.i64.wrap ((numV (seg bs 10 2) : Int) - 1) = (numV (seg bs 10 2) : Int) - 1 := IntWalk.i64_in _ (by omega)
        have c0 : wr.cell? ⟨q, 3, none⟩ = some (.int .i64 0) := (HTj.out.nd.cell 3).trans rfl
        have f0 : wr.frozen? ⟨q, 3, none⟩ = false := blk_free HTj.out.nd 3
        have HTn : Hid (TR w p q k bs (rdJ bs 1) (wr.setCell ⟨q, 3, none⟩ (.int .i64 ((numV (seg bs 10 2) : Int) - 1)))) := HTj.out.setC 3 _ _ rfl
        go_wp2_with fail
        refine (HT.out 10 2 2 46 wr HTj.out.blk rfl (by omega) (by omega)).mono ?_; rintro e w2 ⟨rfl, rfl⟩
        go_wp2_with fail
        go_roundw
        case rel => exact ⟨1, by omega, rfl, HTn⟩
        case measure => simp [intOf]
      · have hv := HN2.out 12 (by omega)
        have wn1 : IntKind.i64.wrap (numV (seg bs 12 2) : Int) = numV (seg bs 12 2) := IntWalk.i64_in _ (by omega)
        have wn2 : IntKind.i64.wrap ((numV (seg bs 12 2) : Int) - 1) = (numV (seg bs 12 2) : Int) - 1 := IntWalk.i64_in _ (by omega)
        have c0 : wr.cell? ⟨q, 4, none⟩ = some (.int .i64 0) := (HTj.out.nd.cell 4).trans rfl
        have f0 : wr.frozen? ⟨q, 4, none⟩ = false := blk_free HTj.out.nd 4
        have HTn : Hid (TR w p q k bs (rdJ bs 2) (wr.setCell ⟨q, 4, none⟩ (.int .i64 ((numV (seg bs 12 2) : Int) - 1)))) := HTj.out.setC 4 _ _ rfl
        go_wp2_with fail
        refine (HT.out 12 2 2 44 wr HTj.out.blk rfl (by omega) (by omega)).mono ?_; rintro e w2 ⟨rfl, rfl⟩
        go_wp2_with fail
        go_roundw
        case rel => exact ⟨2, by omega, rfl, HTn⟩
        case measure => simp [intOf]
      · have hv := HN2.out 14 (by omega)
        have wn1 : IntKind.i64.wrap (numV (seg bs 14 2) : Int) = numV (seg bs 14 2) := IntWalk.i64_in _ (by omega)
        have wn2 : IntKind.i64.wrap ((numV (seg bs 14 2) : Int) - 1) = (numV (seg bs 14 2) : Int) - 1 := IntWalk.i64_in _ (by omega)
        have c0 : wr.cell? ⟨q, 5, none⟩ = some (.int .i64 0) := (HTj.out.nd.cell 5).trans rfl
        have f0 : wr.frozen? ⟨q, 5, none⟩ = false := blk_free HTj.out.nd 5
        have HTn : Hid (TR w p q k bs (rdJ bs 3) (wr.setCell ⟨q, 5, none⟩ (.int .i64 ((numV (seg bs 14 2) : Int) - 1)))) := HTj.out.setC 5 _ _ rfl
        go_wp2_with fail
        refine (HT.out 14 2 2 42 wr HTj.out.blk rfl (by omega) (by omega)).mono ?_; rintro e w2 ⟨rfl, rfl⟩
        go_wp2_with fail
        go_roundw
        case rel => exact ⟨3, by omega, rfl, HTn⟩
        case measure => simp [intOf]
      · have hv := HN2.out 16 (by omega)
        have wn1 : IntKind.i64.wrap (numV (seg bs 16 2) : Int) = numV (seg bs 16 2) := IntWalk.i64_in _ (by omega)
        have wn2 : IntKind.i64.wrap ((numV (seg bs 16 2) : Int) - 1) = (numV (seg bs 16 2) : Int) - 1 := IntWalk.i64_in _ (by omega)
        have c0 : wr.cell? ⟨q, 6, none⟩ = some (.int .i64 0) := (HTj.out.nd.cell 6).trans rfl
        have f0 : wr.frozen? ⟨q, 6, none⟩ = false := blk_free HTj.out.nd 6
        have HTn : Hid (TR w p q k bs (rdJ bs 4) (wr.setCell ⟨q, 6, none⟩ (.int .i64 ((numV (seg bs 16 2) : Int) - 1)))) := HTj.out.setC 6 _ _ rfl
        go_wp2_with fail
        refine (HT.out 16 2 2 40 wr HTj.out.blk rfl (by omega) (by omega)).mono ?_; rintro e w2 ⟨rfl, rfl⟩
        go_wp2_with fail
        go_roundw
        case rel => exact ⟨4, by omega, rfl, HTn⟩
        case measure => simp [intOf]
      · have hv := HN2.out 18 (by omega)
        have wn1 : IntKind.i64.wrap (numV (seg bs 18 2) : Int) = numV (seg bs 18 2) := IntWalk.i64_in _ (by omega)
        have wn2 : IntKind.i64.wrap ((numV (seg bs 18 2) : Int) - 1) = (numV (seg bs 18 2) : Int) - 1 := IntWalk.i64_in _ (by omega)
        have c0 : wr.cell? ⟨q, 7, none⟩ = some (.int .i64 0) := (HTj.out.nd.cell 7).trans rfl
        have f0 : wr.frozen? ⟨q, 7, none⟩ = false := blk_free HTj.out.nd 7
        have HTn : Hid (TR w p q k bs (rdJ bs 5) (wr.setCell ⟨q, 7, none⟩ (.int .i64 ((numV (seg bs 18 2) : Int) - 1)))) := HTj.out.setC 7 _ _ rfl
        go_wp2_with fail
        refine (HT.out 18 2 2 38 wr HTj.out.blk rfl (by omega) (by omega)).mono ?_; rintro e w2 ⟨rfl, rfl⟩
        go_upto_region 8 with fail
        clear HTj hv wn1 wn2 c0 f0
        generalize wr.setCell ⟨q, 7, none⟩ (.int .i64 ((numV (seg bs 18 2) : Int) - 1)) = w3 at *
        have c20 := HC20.out w3 HTn.out.blk
        by_cases h35 : 35 < yn
        · have hq := h35
          have hno : ¬ Taken k bs := fun h => by have := (HTD.out.1 h).1; omega
          have HE := Lib.hid (HNO.out hno)
          have HD := Lib.hid (decide_eq_false hno)
          clear hno
          go_wp2_with (first
            | (refine wpList_buildN0 rfl rfl ?_)
            | (refine wpList_storeN rfl (.tmp 2) (.tmp 53) rfl (p + 1) rfl nd0 nd0 rfl HTn.out.res ?_))
          refine bodyPost_ret (results_ndu rfl _ _ (p + 1) nd0 rfl (HTn.out.res.set _)) rfl ?_
          exact ⟨by rw [HE.out, HD.out]; rfl, by first | exact below_setRow HTn.out.bel (by omega) _ | (rw [hp]; exact below_setRow HTn.out.bel (by omega) _)⟩
        have hsl := fun W => run_slice_body p (m := yn) (by omega) W
        have hcv := conv_any (c := 35) (byt_seg HTn.out.blk 21 yn) (show (seg bs 21 yn).length = yn from seg_len H56.out (by omega))
        change (convert 37 9 (.slice (some ⟨p, 22, none⟩) yn 35)).run Try.prog w3 = .ok (.string (strOfNums (seg bs 21 yn))) w3 at hcv
        have c8 := HTn.out.nd.cells.2.2.2.2
        have f8 : w3.frozen? ⟨q, 8, none⟩ = false := blk_free HTn.out.nd 8
        have HTs := Lib.hid (HTn.out.setT (seg bs 21 yn))
        rw [← HTS.out] at HTs
        have HPU := Lib.hid (HPUT.out (by omega))
        go_upto_region 11 with fail
        clear HTn hsl hcv c8 f8 c20 HPUT HTL
        generalize w3.setCell ⟨q, 8, none⟩ (.string (strOfNums (seg bs 21 yn))) = w4 at *
        have ck : w4.cell? ⟨p, 0, none⟩ = some (.int .i64 k) := blk_kind HTs.out.blk (blkA_list _ _)
        go_wp2_with (refine wpList_loadN rfl (.tmp 5) rfl q rfl (rdT bs) HTs.out.nd ?_)
        refine (HPU.out _).mono ?_; rintro e w5 ⟨rfl, hb5⟩
        have HT5 := Lib.hid (HTs.out.below hb5)
        clear hb5 HTs ck
        have HL : Hid ((putBs k (rdT bs)).length = 56) := putBs_len
        have HLB : Hid (AllB (putBs k (rdT bs))) := putBs_allB hok.t
        have HTK : Hid (Taken k bs ↔ (yn ≤ 32 ∧ MayN k (rdT bs) ∧ (putK k (rdT bs) = k ∧ putBs k (rdT bs) = bs))) := HTD.out.trans (by
          constructor
          · rintro ⟨h1, h2, h3⟩; exact ⟨by omega, h2, by unfold putK; rw [if_pos h2], by unfold putBs; rw [if_pos h2]; exact h3⟩
          · rintro ⟨h1, h2, h3, h4⟩; refine ⟨by omega, h2, ?_⟩; unfold putBs at h4; rw [if_pos h2] at h4; exact h4)
        have HTM : Hid (MayN k (rdT bs) → yn ≤ 32) := fun h => by
          have h1 := h.tl; rw [HTS.out] at h1
          have h2 : (seg bs 21 yn).length = yn := seg_len H56.out (by omega)
          show yn ≤ 32; rw [← h2]; exact h1
        clear HTD HPU
        generalize putK k (rdT bs) = pk at *
        generalize putBs k (rdT bs) = pb at *
        have HX5 := Lib.hid (HT5.out.below (below_setRow (bel1 (w := w5) (Obj.cells (blkA 0 zBs) 28)) (Nat.le_refl _) (blkA pk pb)))
        have HM5 := heap_alloc_new w5 (Obj.cells (blkA 0 zBs) 28)
        have HM6 := Lib.hid (setRow_blk (D := blkA pk pb) HM5)
        go_upto_region 12 with (first
          | (refine wpList_allocB rfl rfl ?_)
          | (refine wpList_storeB rfl (.tmp 7) (.tmp 68) rfl w5.heap.size rfl pk 0 pb zBs rfl HL.out zBs_len HM5 ?_))
        clear HM5 HT5
        generalize (w5.alloc (Obj.cells (blkA 0 zBs) 28)).setRow w5.heap.size (blkA pk pb) = w6 at *
        generalize w5.heap.size = r at *
        by_cases hm : MayN k (rdT bs)
        · rw [decide_eq_true hm]
          by_cases hc : pk = k ∧ pb = bs
          · have HQ : Hid ((!(decide (pk = k ∧ pb = bs))) = false) := by unfold Hid; simp [hc]
            have htk := HTK.out.2 ⟨HTM.out hm, hm, hc⟩
            have HE := Lib.hid (HY.out htk)
            have HD := Lib.hid (decide_eq_true htk)
            clear htk hc hm
            go_wp2_with (first
              | (refine wpList_loadBw (by rfl) (.tmp 7) rfl r rfl pk pb HL.out HM6.out ?_)
              | (refine wpList_loadBw (by rfl) (.tmp 1) rfl p rfl k bs H56.out HX5.out.blk ?_)
              | (refine wpList_neqBw (by rfl) (.tmp 73) (.tmp 74) _ rfl pk k pb bs rfl rfl HL.out H56.out HLB.out HBB.out ?_; rw [HQ.out])
              | (refine wpList_buildN0 rfl rfl ?_)
              | (refine wpList_storeN rfl (.tmp 2) (.tmp 77) rfl (p + 1) rfl nd0 nd0 rfl HX5.out.res ?_)
              | (refine wpList_loadN rfl (.tmp 5) rfl q rfl (rdT bs) HX5.out.nd ?_)
              | (refine wpList_storeN rfl (.tmp 2) (.tmp 78) rfl (p + 1) rfl (rdT bs) nd0 rfl HX5.out.res ?_))
            refine bodyPost_ret (results_ndu rfl _ _ (p + 1) (rdT bs) rfl (HX5.out.res.set _)) rfl ?_
            exact ⟨by rw [HE.out, HD.out]; rfl, by first | exact below_setRow HX5.out.bel (by omega) _ | (rw [hp]; exact below_setRow HX5.out.bel (by omega) _)⟩
          · have HQ : Hid ((!(decide (pk = k ∧ pb = bs))) = true) := by unfold Hid; simp [hc]
            have hno : ¬ Taken k bs := fun h => hc (HTK.out.1 h).2.2
            have HE := Lib.hid (HNO.out hno)
            have HD := Lib.hid (decide_eq_false hno)
            clear hno
            clear hc hm
            go_wp2_with (first
              | (refine wpList_loadBw (by rfl) (.tmp 7) rfl r rfl pk pb HL.out HM6.out ?_)
              | (refine wpList_loadBw (by rfl) (.tmp 1) rfl p rfl k bs H56.out HX5.out.blk ?_)
              | (refine wpList_neqBw (by rfl) (.tmp 73) (.tmp 74) _ rfl pk k pb bs rfl rfl HL.out H56.out HLB.out HBB.out ?_; rw [HQ.out])
              | (refine wpList_buildN0 rfl rfl ?_)
              | (refine wpList_storeN rfl (.tmp 2) (.tmp 77) rfl (p + 1) rfl nd0 nd0 rfl HX5.out.res ?_)
              | (refine wpList_loadN rfl (.tmp 5) rfl q rfl (rdT bs) HX5.out.nd ?_)
              | (refine wpList_storeN rfl (.tmp 2) (.tmp 78) rfl (p + 1) rfl (rdT bs) nd0 rfl HX5.out.res ?_))
            refine bodyPost_ret (results_ndu rfl _ _ (p + 1) nd0 rfl (HX5.out.res.set _)) rfl ?_
            exact ⟨by rw [HE.out, HD.out]; rfl, by first | exact below_setRow HX5.out.bel (by omega) _ | (rw [hp]; exact below_setRow HX5.out.bel (by omega) _)⟩
        · rw [decide_eq_false hm]
          have hno : ¬ Taken k bs := fun h => hm (HTK.out.1 h).2.1
          have HE := Lib.hid (HNO.out hno)
          have HD := Lib.hid (decide_eq_false hno)
          clear hno
          clear hm
          have HQ : Hid (True) := trivial
          go_wp2_with (first
            | (refine wpList_loadBw (by rfl) (.tmp 7) rfl r rfl pk pb HL.out HM6.out ?_)
            | (refine wpList_loadBw (by rfl) (.tmp 1) rfl p rfl k bs H56.out HX5.out.blk ?_)
            | (refine wpList_neqBw (by rfl) (.tmp 73) (.tmp 74) _ rfl pk k pb bs rfl rfl HL.out H56.out HLB.out HBB.out ?_; rw [HQ.out])
            | (refine wpList_buildN0 rfl rfl ?_)
            | (refine wpList_storeN rfl (.tmp 2) (.tmp 77) rfl (p + 1) rfl nd0 nd0 rfl HX5.out.res ?_)
            | (refine wpList_loadN rfl (.tmp 5) rfl q rfl (rdT bs) HX5.out.nd ?_)
            | (refine wpList_storeN rfl (.tmp 2) (.tmp 78) rfl (p + 1) rfl (rdT bs) nd0 rfl HX5.out.res ?_))
          refine bodyPost_ret (results_ndu rfl _ _ (p + 1) nd0 rfl (HX5.out.res.set _)) rfl ?_
          exact ⟨by rw [HE.out, HD.out]; rfl, by first | exact below_setRow HX5.out.bel (by omega) _ | (rw [hp]; exact below_setRow HX5.out.bel (by omega) _)⟩
end Go.Proofs.Ytebahdiiokfkfaa
