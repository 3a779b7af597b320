/- The law IndexForms answers true and leaves its arguments alone. No condition. -/
import Derived.Test.YthkohckofodmnaaRows
import Derived.Test.YthkohckofodmnaaIm
import Derived.WalkKit
import Derived.ProofKit
import Derived.OpenShut
namespace Go.Proofs.Ythkohckofodmnaa.indexForms
open Go.ChangeShapes Go.WideShapes Go.ChangeAt Go.RowKit Go.Joins
set_option linter.unusedVariables false
theorem own : ownKnob Try.prog.godebug = none := by kernel_rfl
theorem laidOut : laidOutB Try.prog = true := by kernel_rfl
set_option maxRecDepth 100000 in
set_option maxHeartbeats 6400000 in
theorem walk  (w : World)  :
    Calls Try.prog 6 #[] w fun e w' => e = .returned (.bool true) ∧ Below w.heap.size w w' := by
  go_enter Try.func6, Try.ntmps6
  go_wp2_with fail
  refine (begun_any _).mono ?_
  rintro e W1 ⟨rfl, hb1⟩
  have s1 : (W1.alloc (.cells (Is offL).toArray 3)).heap.size = W1.heap.size + 1 := size_alloc' _ _
  have s2 : ((W1.alloc (.cells (Is offL).toArray 3)).alloc (.cells (Is nsL).toArray 3)).heap.size = W1.heap.size + 1 + 1 := by rw [size_alloc', s1]
  have a1 := heap_alloc_new W1 (.cells (Is offL).toArray 3)
  have a2 := heap_alloc_new (W1.alloc (.cells (Is offL).toArray 3)) (.cells (Is nsL).toArray 3)
  rw [s1] at a2
  have a3 := heap_alloc_new ((W1.alloc (.cells (Is offL).toArray 3)).alloc (.cells (Is nsL).toArray 3)) (.cells (Is manyL).toArray 3)
  rw [s2] at a3
  have HJ0 : Hid (JF w w.heap.size W1.heap.size (W1.heap.size + 1) (W1.heap.size + 1 + 1) (((W1.alloc (.cells (Is offL).toArray 3)).alloc (.cells (Is nsL).toArray 3)).alloc (.cells (Is manyL).toArray 3))) := by
    have b1 := keepB hb1 (bel1 (.cells (Is offL).toArray 3))
    have b2 := keepB b1 (bel1 (.cells (Is nsL).toArray 3))
    have b3 := keepB b2 (bel1 (.cells (Is manyL).toArray 3))
    exact ⟨b3, b3.size, kb (bel1 _) (kb (bel1 _) a1), kb (bel1 _) a2, a3⟩
  clear a1 a2 a3 s1 s2 hb1
  have HO : Hid (Is offL = [.int .i64 0, .int .i64 0, .int .i64 55, .int .i64 56, .int .i64 1119, .int .i64 1120, .int .i64 1119, .int .i64 (-1), .int .i64 0, .int .i64 3, .int .i64 100]) := rfl
  have HN : Hid (Is nsL = [.int .i64 0, .int .i64 56, .int .i64 2, .int .i64 56, .int .i64 1, .int .i64 0, .int .i64 2, .int .i64 1, .int .i64 (-1), .int .i64 1120, .int .i64 57]) := rfl
  have HM : Hid (Is manyL = [.int .i64 0, .int .i64 1, .int .i64 2, .int .i64 1, .int .i64 1, .int .i64 0, .int .i64 0, .int .i64 0, .int .i64 0, .int .i64 0, .int .i64 2]) := rfl
  rw [HO.out, HN.out, HM.out] at HJ0
  go_upto_region 5 with fail
  generalize ((W1.alloc _).alloc _).alloc _ = W2 at *
  generalize hg1 : W1.heap.size = g1 at *
  generalize hg2 : g1 + 1 = g2 at *
  generalize hg3 : g2 + 1 = g3 at *
  clear hg1 hg2 hg3 HO HN HM
  go_wp2_with fail
  go_loopw [4] (fun i wr => ∃ j : Nat, j ≤ 11 ∧ i = .int .i64 j ∧ Hid (JF w w.heap.size g1 g2 g3 wr)) (fun i _ => (11 - intOf i).toNat)
  case atStart => exact ⟨0, by omega, rfl, HJ0⟩
  case round =>
    obtain ⟨j, hj, rfl, HJ1⟩ := hrel
    obtain ⟨wk, rfl⟩ : ∃ wk, wk = wr := ⟨wr, rfl⟩
    clear HJ0
    by_cases hlt : j < 11
    · obtain ⟨o, n, m, ho, hn, hm, hl, hob, hnb⟩ := forms_at j hlt
      have HPC := Lib.hid (fun W => pieces_any o n W (by omega) (by omega))
      rw [hl] at HPC
      generalize pcM o n = P at *
      clear hob hnb
      go_upto_region 8 with fail
      have hJ1 : JF w w.heap.size g1 g2 g3 wk.drew := ⟨HJ1.out.bel.drew, HJ1.out.sz, HJ1.out.r1, HJ1.out.r2, HJ1.out.r3⟩
      refine wp_region_rgk (VF8 g1 g2 g3 j o n m) (fun _ W => JF w w.heap.size g1 g2 g3 W) (fun _ w w' => w.grownBy w' none) (by kernel_rfl) (by kernel_rfl) (fun i j v' w' w'' hij hind h hg => h) hJ1 ?_
      have srefl : ∀ (W : World), W.grownBy W none := fun W => World.grownBy.refl _ _
      clear hJ1 HJ1
      simp only [RAll]
      refine ⟨?_, ?_, ?_, ?_, ?_, ?_, ?_, ?_, ?_, ?_, ?_, ?_, ?_, ?_, ?_⟩
      · refine RStepK.of rfl fun T W L hag hL hJ hLs hd => ?_   -- 0: 28 := Op.move (Operand.tmp 1)
        have e1 : T.getD 1 undef = _ := (agree_at hag 1 (by kernel_rfl)).trans rfl
        clear hag hd
        go_simp
        exact ⟨_, rfl, rfl⟩
      · refine RStepK.of rfl fun T W L hag hL hJ hLs hd => ?_   -- 1: 29 := Op.move (Operand.tmp 4)
        have e4 : T.getD 4 undef = _ := (agree_at hag 4 (by kernel_rfl)).trans rfl
        clear hag hd
        go_simp
        exact ⟨_, rfl, rfl⟩
      · refine RStepK.of rfl fun T W L hag hL hJ hLs hd => ?_   -- 2: 30 := Op.indexAddr 22 (Operand.tmp 28) (Operand.tmp 29)
        have d28 : T.getD 28 undef = _ := hd ⟨0, .data⟩ (by simp) rfl _ rfl
        have d29 : T.getD 29 undef = _ := hd ⟨1, .data⟩ (by simp) rfl _ rfl
        clear hag hd
        go_simp
        exact ⟨_, rfl, rfl⟩
      · refine RStepK.of rfl fun T W L hag hL hJ hLs hd => ?_   -- 3: 31 := Op.load 3 (Operand.tmp 30)
        have d30 : T.getD 30 undef = _ := hd ⟨2, .data⟩ (by simp) rfl _ rfl
        have fct0 := (show W.cell? ⟨g1, j, none⟩ = some (.int .i64 o) from (blk_cell hJ.r1 j).trans ho)
        clear hag hd
        go_simp
        exact ⟨_, rfl, rfl⟩
      · refine RStepK.of rfl fun T W L hag hL hJ hLs hd => ?_   -- 4: 32 := Op.move (Operand.tmp 2)
        have e2 : T.getD 2 undef = _ := (agree_at hag 2 (by kernel_rfl)).trans rfl
        clear hag hd
        go_simp
        exact ⟨_, rfl, rfl⟩
      · refine RStepK.of rfl fun T W L hag hL hJ hLs hd => ?_   -- 5: 33 := Op.move (Operand.tmp 4)
        have e4 : T.getD 4 undef = _ := (agree_at hag 4 (by kernel_rfl)).trans rfl
        clear hag hd
        go_simp
        exact ⟨_, rfl, rfl⟩
      · refine RStepK.of rfl fun T W L hag hL hJ hLs hd => ?_   -- 6: 34 := Op.indexAddr 22 (Operand.tmp 32) (Operand.tmp 33)
        have d32 : T.getD 32 undef = _ := hd ⟨4, .data⟩ (by simp) rfl _ rfl
        have d33 : T.getD 33 undef = _ := hd ⟨5, .data⟩ (by simp) rfl _ rfl
        clear hag hd
        go_simp
        exact ⟨_, rfl, rfl⟩
      · refine RStepK.of rfl fun T W L hag hL hJ hLs hd => ?_   -- 7: 35 := Op.load 3 (Operand.tmp 34)
        have d34 : T.getD 34 undef = _ := hd ⟨6, .data⟩ (by simp) rfl _ rfl
        have fct0 := (show W.cell? ⟨g2, j, none⟩ = some (.int .i64 n) from (blk_cell hJ.r2 j).trans hn)
        clear hag hd
        go_simp
        exact ⟨_, rfl, rfl⟩
      · refine RStepK.of rfl fun T W L hag hL hJ hLs hd => ?_   -- 8: 36 := Op.call { callee := Callee.value (Operand.func 14), args := 
        have d31 : T.getD 31 undef = _ := hd ⟨3, .data⟩ (by simp) rfl _ rfl
        have d35 : T.getD 35 undef = _ := hd ⟨7, .data⟩ (by simp) rfl _ rfl
        clear hag hd
        go_simp
        refine (HPC.out W).mono ?_
        rintro en w' ⟨u, rfl, ho, hb⟩
        obtain ⟨A, c, rfl⟩ := own_val2 ho
        exact ⟨_, rfl, ⟨A, c, rfl⟩, hJ.next hb, growN hb⟩
      · refine RStepK.of rfl fun T W L hag hL hJ hLs hd => ?_   -- 9: 37 := Op.call { callee := Callee.builtin Builtin.len, args := #[Op
        have x36 : ∃ A c, (T.getD 36 undef) = .slice A m c := hd ⟨8, .data⟩ (by simp) rfl _ rfl
        obtain ⟨A, c, (e36 : T.getD 36 undef = _)⟩ := x36
        clear hag hd
        go_simp
        exact ⟨_, rfl, rfl⟩
      · refine RStepK.of rfl fun T W L hag hL hJ hLs hd => ?_   -- 10: 38 := Op.move (Operand.tmp 3)
        have e3 : T.getD 3 undef = _ := (agree_at hag 3 (by kernel_rfl)).trans rfl
        clear hag hd
        go_simp
        exact ⟨_, rfl, rfl⟩
      · refine RStepK.of rfl fun T W L hag hL hJ hLs hd => ?_   -- 11: 39 := Op.move (Operand.tmp 4)
        have e4 : T.getD 4 undef = _ := (agree_at hag 4 (by kernel_rfl)).trans rfl
        clear hag hd
        go_simp
        exact ⟨_, rfl, rfl⟩
      · refine RStepK.of rfl fun T W L hag hL hJ hLs hd => ?_   -- 12: 40 := Op.indexAddr 22 (Operand.tmp 38) (Operand.tmp 39)
        have d38 : T.getD 38 undef = _ := hd ⟨10, .data⟩ (by simp) rfl _ rfl
        have d39 : T.getD 39 undef = _ := hd ⟨11, .data⟩ (by simp) rfl _ rfl
        clear hag hd
        go_simp
        exact ⟨_, rfl, rfl⟩
      · refine RStepK.of rfl fun T W L hag hL hJ hLs hd => ?_   -- 13: 41 := Op.load 3 (Operand.tmp 40)
        have d40 : T.getD 40 undef = _ := hd ⟨12, .data⟩ (by simp) rfl _ rfl
        have fct0 := (show W.cell? ⟨g3, j, none⟩ = some (.int .i64 m) from (blk_cell hJ.r3 j).trans hm)
        clear hag hd
        go_simp
        exact ⟨_, rfl, rfl⟩
      · refine RLastK.of rfl fun T W L hag hLs hL hJ hd => ?_   -- 14: 42 := Op.binOp BinOp.neq 3 (Operand.tmp 37) (Operand.tmp 41) 3
        have d37 : T.getD 37 undef = _ := hd 9 _ (by simp) rfl
        have d41 : T.getD 41 undef = _ := hd 13 _ (by simp) rfl
        obtain ⟨f, hf, hT⟩ := agree_fn hag
        have h37 := (hf 37).trans d37
        have h41 := (hf 41).trans d41
        have HJ := Lib.hid hJ
        clear hag hd d37 d41 hJ hf
        rw [hT]
        clear hT
        simp only [List.pop_toArray, List.dropLast_cons_cons, List.dropLast_singleton, List.filterMap_cons, List.filterMap_nil, List.foldl_cons, List.foldl_nil, List.setIfInBounds_toArray, List.set_cons_succ, List.set_cons_zero, h37, h41]
        go_wp2_with fail
        go_roundw
        case rel => exact ⟨j + 1, by omega, by go_num, HJ⟩
        case measure => simp [intOf]; omega
    · obtain rfl : j = 11 := by omega
      have HB3 := Lib.hid HJ1.out.bel
      clear HJ1
      have HQ4 := Lib.hid (heap_alloc_new wk (.cells (Is z16).toArray 3))
      have HB4 := Lib.hid (keepB HB3.out (bel1 (.cells (Is z16).toArray 3)))
      have hq0 : w.heap.size ≤ wk.heap.size := HB3.out.size
      go_upto_region 11 with (refine wpList_make16 rfl rfl ?_)
      clear HB3
      generalize wk.alloc (.cells (Is z16).toArray 3) = W4 at *
      generalize wk.heap.size = q5 at *
      have HPZ := Lib.hid (fun W h => ixput_any (some ⟨q5, 0, none⟩) z16 16 16 W rfl h)
      rw [ixV_no up_zero] at HPZ
      go_wp2_with fail
      refine (HPZ.out _ (nts_is HQ4.out)).mono ?_; rintro e W5 ⟨rfl, hb5⟩
      have HQ5 := Lib.hid (kb hb5 HQ4.out)
      have HB5 := Lib.hid (keepB HB4.out hb5)
      clear hb5 HQ4 HB4 HPZ
      have hx6 := heap_alloc_new W5 (.cells (blkA 0 zBs) 25)
      have HGW6 : Hid (((W5.alloc (.cells (blkA 0 zBs) 25)).setRow W5.heap.size (blkA 0 zBs)).heap[W5.heap.size]? = some (.cells (blkA 0 zBs) 25 (0, 0))) := setRow_blk hx6
      have hbx6 : Below W5.heap.size W5 ((W5.alloc (.cells (blkA 0 zBs) 25)).setRow W5.heap.size (blkA 0 zBs)) := below_setRow (bel1 _) (Nat.le_refl _) _
      have HQ6 := Lib.hid (kb hbx6 HQ5.out)
      have HB6 := Lib.hid (keepB HB5.out hbx6)
      go_upto_region 12 with (first
        | (refine wpList_allocB rfl rfl ?_)
        | (refine wpList_storeB rfl (.tmp 6) (.tmp 47) rfl W5.heap.size rfl 0 0 zBs zBs rfl zBs_len zBs_len hx6 ?_))
      clear hx6 hbx6 HQ5 HB5
      generalize (W5.alloc (.cells (blkA 0 zBs) 25)).setRow W5.heap.size (blkA 0 zBs) = W6 at *
      clear HGW6
      go_wp2_with fail
      go_loopw [8] (fun i wr => ∃ j : Nat, j ≤ 16 ∧ i = .int .i64 j ∧ Hid (wr.heap[q5]? = some (.cells (Is (upL j)).toArray 3 (0, 0))) ∧ Hid (Below w.heap.size w wr)) (fun i _ => (16 - intOf i).toNat)
      case atStart => exact ⟨0, by omega, rfl, HQ6, HB6⟩
      case round =>
        obtain ⟨j, hj3, rfl, HQ, HB⟩ := hrel
        clear HQ6 HB6
        by_cases hlt2 : j < 16
        · have c1 : wr.cell? ⟨q5, j, none⟩ = some (.int .i64 0) := by
            rw [blk_cell HQ.out, List.getElem?_toArray]
            have h := upL_at j hlt2
            rw [if_neg (by omega)] at h
            exact Is_at h
          have f1 : wr.frozen? ⟨q5, j, none⟩ = false := blk_free HQ.out _
          have HQ3 : Hid ((wr.setCell ⟨q5, j, none⟩ (.int .i64 ((j : Int) + 1))).heap[q5]? = some (.cells (Is (upL (j + 1))).toArray 3 (0, 0))) := by
            unfold Hid; rw [heap_setCell_same' HQ.out, Is_set, upL_set hlt2]
          have HB3 := Lib.hid (HB.out.setCell (p := ⟨q5, j, none⟩) hq0 (.int .i64 ((j : Int) + 1)))
          go_wp2_with fail
          go_roundw
          case rel => exact ⟨j + 1, by omega, by go_num, HQ3.out, HB3.out⟩
          case measure => simp [intOf]; omega
        · obtain rfl : j = 16 := by omega
          have HPU := Lib.hid (fun W h => ixput_any (some ⟨q5, 0, none⟩) (upL 16) 16 16 W (upL_length 16) h)
          rw [ixV_yes up_may] at HPU
          change Hid (∀ W : World, Nts W (some ⟨q5, 0, none⟩) (upL 16) → Calls Try.prog 10 #[.slice (some ⟨q5, 0, none⟩) 16 16] W fun e w' => e = .returned (.tuple #[.agg (blkA 5 upB), .bool true]) ∧ Below W.heap.size W w') at HPU
          go_wp2_with fail
          refine (HPU.out _ (nts_is HQ.out)).mono ?_; rintro e W7 ⟨rfl, hb7⟩
          have HQ7 := Lib.hid (kb hb7 HQ.out)
          have HB7 := Lib.hid (keepB HB.out hb7)
          have hq7 := room_lt HQ7.out
          have hw7 : w.heap.size ≤ W7.heap.size := HB7.out.size
          clear hb7 HQ HB HPU
          have hx8 := heap_alloc_new W7 (.cells (blkA 0 zBs) 25)
          have HGW8 : Hid (((W7.alloc (.cells (blkA 0 zBs) 25)).setRow W7.heap.size (blkA 5 upB)).heap[W7.heap.size]? = some (.cells (blkA 5 upB) 25 (0, 0))) := setRow_blk hx8
          have hbx8 : Below W7.heap.size W7 ((W7.alloc (.cells (blkA 0 zBs) 25)).setRow W7.heap.size (blkA 5 upB)) := below_setRow (bel1 _) (Nat.le_refl _) _
          have HQ8 := Lib.hid (kb hbx8 HQ7.out)
          have HB8 := Lib.hid (keepB HB7.out hbx8)
          go_upto_region 17 with (first
            | (refine wpList_allocB rfl rfl ?_)
            | (refine wpList_storeB rfl (.tmp 9) (.tmp 63) rfl W7.heap.size rfl 5 0 upB zBs rfl upB_len zBs_len hx8 ?_))
          clear hx8 hbx8 HQ7 HB7
          generalize (W7.alloc (.cells (blkA 0 zBs) 25)).setRow W7.heap.size (blkA 5 upB) = W8 at *
          generalize W7.heap.size = q9 at *
          have c15 : W8.cell? ⟨q5, 15, none⟩ = some (.int .i64 16) := by
            rw [blk_cell HQ8.out, List.getElem?_toArray]
            exact Is_at (by rw [upL_at 16 (by omega)]; rfl)
          have f15 : W8.frozen? ⟨q5, 15, none⟩ = false := blk_free HQ8.out _
          have HQ9 : Hid ((W8.setCell ⟨q5, 15, none⟩ (.int .i64 3)).heap[q5]? = some (.cells (Is upT).toArray 3 (0, 0))) := by
            unfold Hid; rw [heap_setCell_same' HQ8.out, Is_set]; rfl
          have HG9 : Hid ((W8.setCell ⟨q5, 15, none⟩ (.int .i64 3)).heap[q9]? = some (.cells (blkA 5 upB) 25 (0, 0))) := by
            unfold Hid; rw [heap_setCell_other _ _ _ _ (show q9 ≠ q5 by omega)]; exact HGW8.out
          have HB9 := Lib.hid (HB8.out.setCell (p := ⟨q5, 15, none⟩) hq0 (.int .i64 3))
          go_upto_region 18 with fail
          clear c15 f15 HQ8 HGW8 HB8
          generalize W8.setCell ⟨q5, 15, none⟩ (.int .i64 3) = W9 at *
          have HPT := Lib.hid (fun W h => ixput_any (some ⟨q5, 0, none⟩) upT 16 16 W rfl h)
          rw [ixV_no upT_may] at HPT
          go_wp2_with fail
          refine (HPT.out _ (nts_is HQ9.out)).mono ?_; rintro e W10 ⟨rfl, hb10⟩
          have HQ10 := Lib.hid (kb hb10 HQ9.out)
          have HG10 := Lib.hid (kb hb10 HG9.out)
          have HB10 := Lib.hid (keepB HB9.out hb10)
          clear hb10 HQ9 HG9 HB9 HPT
          have hx11 := heap_alloc_new W10 (.cells (blkA 0 zBs) 25)
          have HGW11 : Hid (((W10.alloc (.cells (blkA 0 zBs) 25)).setRow W10.heap.size (blkA 0 zBs)).heap[W10.heap.size]? = some (.cells (blkA 0 zBs) 25 (0, 0))) := setRow_blk hx11
          have hbx11 : Below W10.heap.size W10 ((W10.alloc (.cells (blkA 0 zBs) 25)).setRow W10.heap.size (blkA 0 zBs)) := below_setRow (bel1 _) (Nat.le_refl _) _
          have HQ11 := Lib.hid (kb hbx11 HQ10.out)
          have HG11 := Lib.hid (kb hbx11 HG10.out)
          have HB11 := Lib.hid (keepB HB10.out hbx11)
          go_upto_region 19 with (first
            | (refine wpList_allocB rfl rfl ?_)
            | (refine wpList_storeB rfl (.tmp 11) (.tmp 70) rfl W10.heap.size rfl 0 0 zBs zBs rfl zBs_len zBs_len hx11 ?_))
          clear hx11 hbx11 HQ10 HG10 HB10
          generalize (W10.alloc (.cells (blkA 0 zBs) 25)).setRow W10.heap.size (blkA 0 zBs) = W11 at *
          clear HGW11
          have HPQ := Lib.hid (fun W h => ixput_any (some ⟨q5, 0, none⟩) (upT.take 15) 15 16 W rfl h)
          rw [ixV_no upC_may] at HPQ
          go_wp2_with fail
          refine (HPQ.out _ (Nts_take15 HQ11.out)).mono ?_; rintro e W12 ⟨rfl, hb12⟩
          have HG12 := Lib.hid (kb hb12 HG11.out)
          have HB12 := Lib.hid (keepB HB11.out hb12)
          clear hb12 HQ11 HG11 HB11 HPQ
          have hx13 := heap_alloc_new W12 (.cells (blkA 0 zBs) 25)
          have HGW13 : Hid (((W12.alloc (.cells (blkA 0 zBs) 25)).setRow W12.heap.size (blkA 0 zBs)).heap[W12.heap.size]? = some (.cells (blkA 0 zBs) 25 (0, 0))) := setRow_blk hx13
          have hbx13 : Below W12.heap.size W12 ((W12.alloc (.cells (blkA 0 zBs) 25)).setRow W12.heap.size (blkA 0 zBs)) := below_setRow (bel1 _) (Nat.le_refl _) _
          have HG13 := Lib.hid (kb hbx13 HG12.out)
          have HB13 := Lib.hid (keepB HB12.out hbx13)
          go_upto_region 20 with (first
            | (refine wpList_allocB rfl rfl ?_)
            | (refine wpList_storeB rfl (.tmp 13) (.tmp 76) rfl W12.heap.size rfl 0 0 zBs zBs rfl zBs_len zBs_len hx13 ?_))
          clear hx13 hbx13 HG12 HB12
          generalize (W12.alloc (.cells (blkA 0 zBs) 25)).setRow W12.heap.size (blkA 0 zBs) = W13 at *
          clear HGW13
          have c33 : ∃ u, W13.cell? ⟨q9, 33, none⟩ = some u := ⟨_, (blk_cell HG13.out 33).trans (Array.getElem?_eq_getElem (by rw [blkA_size upB_len]; omega))⟩
          obtain ⟨u33, h33⟩ := c33
          have f33 : W13.frozen? ⟨q9, 33, none⟩ = false := blk_free HG13.out _
          have HG14 : Hid ((W13.setCell ⟨q9, 33, none⟩ (.int .u8 1)).heap[q9]? = some (.cells (blkA 5 upX) 25 (0, 0))) := by
            unfold Hid; rw [heap_setCell_same' HG13.out, show (33 : Nat) = 1 + 32 from rfl, blkA_setB]; rfl
          have HB14 := Lib.hid (HB13.out.setCell (p := ⟨q9, 33, none⟩) hw7 (.int .u8 1))
          go_upto_region 21 with fail
          clear h33 f33 HG13 HB13
          generalize W13.setCell ⟨q9, 33, none⟩ (.int .u8 1) = W14 at *
          have HTX := Lib.hid (fun W => ixtake_any 5 upX W upX_len upX_allB)
          rw [upX_tk] at HTX
          go_wp2_with (refine wpList_loadB rfl (.tmp 9) rfl q9 rfl 5 upX upX_len HG14.out ?_)
          refine (HTX.out _).mono ?_; rintro e W15 ⟨v15, rfl, _, hb15⟩
          have HG15 := Lib.hid (kb hb15 HG14.out)
          have HB15 := Lib.hid (keepB HB14.out hb15)
          clear hb15 HG14 HB14 HTX
          have k1 : W15.cell? ⟨q9, 1, none⟩ = some (.int .u8 0) := by
            rw [blk_cell HG15.out]; show (blkL 5 upX).toArray[1]? = _
            rw [List.getElem?_toArray]; exact Bs_at upX_1
          have k2 : W15.cell? ⟨q9, 2, none⟩ = some (.int .u8 2) := by
            rw [blk_cell HG15.out]; show (blkL 5 upX).toArray[2]? = _
            rw [List.getElem?_toArray]; exact Bs_at upX_2
          have k32 : W15.cell? ⟨q9, 32, none⟩ = some (.int .u8 17) := by
            rw [blk_cell HG15.out]; show (blkL 5 upX).toArray[32]? = _
            rw [List.getElem?_toArray]; exact Bs_at upX_32
          go_wp2_with fail
          go_ret
          exact ⟨rfl, HB15.out⟩

set_option maxRecDepth 100000 in
theorem lifted (os : Os) (started : os.Started) (H : Type) (enc : TypeId × Value → H) :
    ReturnsInHanded {} Try.checked os 6 .any (Rows.indexFormsSpec.pre6 enc Try.prog Try.f6 Rows.indexFormsRow.domain false) (Rows.indexFormsSpec.post enc Try.prog Try.f6 false true false false) := by
  refine returnsInHanded_of_change (C := Try.checked) own started (by kernel_rfl) Try.func6
    (ChangeSpec.witness6 (enc := enc) (C := Try.checked) false ⟨#[], #[], []⟩ 8 (by kernel_rfl) (by kernel_rfl) (by kernel_rfl) (by kernel_rfl)) ?_
  intro W base args ds gs before hval0 hW hcnd _
  have hW' := hW
  obtain ⟨p, q, hA0, hV, rfl, hfz, hnd⟩ := hW
  have hA : DataW.TrodAll enc Try.prog W 0 (fun _ => true) true Try.f6.params.toList args.toList ds p := hA0
  rw [Try.params6] at hA
  obtain ⟨rfl, rfl, rfl⟩ := trodAll_none hA
  obtain ⟨rfl, rfl⟩ := trodVars_none hV
  clear hA0 hval0
  simp only [List.append_nil] at hW'
  refine (walk W).mono fun e W' ⟨he, bel⟩ => ?_
  subst he
  exact ⟨_, rfl, _, _, _, [], _, [], hW', (trodAll_cons_mk (shut_bool Try.underlying4 _) trodAll_mk0), rfl, rfl, bel.frame _, fun h => by cases h⟩

theorem over : Rows.indexFormsRow.holds Try.pinned (OpenSpec.ofChange Rows.indexFormsSpec) :=
  OpenClaim.holds_of_wide 6 Try.f6 rfl rfl rfl rfl rfl rfl rfl ⟨rfl, rfl, rfl, rfl, rfl⟩ rfl rfl rfl rfl rfl (by kernel_rfl) Try.func6 (by kernel_rfl)
    (of_decide_eq_true (by kernel_rfl)) (by unfold Func.isWrapper; first | (rw [if_pos (by decide +kernel)]; kernel_rfl) | (rw [if_neg (by decide +kernel)]; exact ⟨rfl, rfl⟩))
    (fun os started H enc _ => lifted os started H enc)

theorem proved : Rows.IndexFormsSaid :=
  over
#print axioms proved
end Go.Proofs.Ythkohckofodmnaa.indexForms
