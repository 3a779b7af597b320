/- Contract: the law's opening test. -/
import Derived.Test.YtincamgdaienlaaBg
namespace Go.Proofs.Ytincamgdaienlaa
open Go.ChangeShapes Go.WideShapes Go.ChangeAt Go.RowKit
set_option linter.unusedVariables false
theorem zBs_allB : AllB zBs := fun x hx => by unfold zBs at hx; rw [List.eq_of_mem_replicate hx]; omega
theorem set_allB {bs : List Int} (h : AllB bs) (i : Nat) {y : Int} (hy : 0 ≤ y ∧ y < 256) : AllB (bs.set i y) := fun x hx => by
  rcases List.mem_or_eq_of_mem_set hx with h1 | rfl
  · exact h x h1
  · exact hy
theorem loadAt_blk (w : World) (g : Nat) (k : Int) (bs : List Int) (h56 : bs.length = 56) (hg : w.heap[g]? = some (.cells (blkA k bs) 24 (0, 0))) :
    (Instr.loadAt 24 (.pointer (some ⟨g, 0, none⟩))).run Try.prog w = .ok (.agg (blkA k bs)) w := by
  simp only [Instr.loadAt, Instr.sureAddr, Sem.run_bind, Sem.run_pure, Result.andThen_ok]
  exact run_loadVar_row w g _ _ _ _ _ hg Try.underlying24 rfl (by rw [blkA_size h56]; exact size24b)
section
variable {ops : Array Oper} {rest : List Oper} {o : Oper} {a : Act} {w : World} {Q : Exit → Act → World → Prop}
theorem wpList_loadBw (hw : Region.wanted o (yielded ops a.tmps) = true) (x : Operand) (ho : o.op = .load 24 x) (g : Nat) (hx : a.eval x = .pointer (some ⟨g, 0, none⟩)) (k : Int) (bs : List Int) (h56 : bs.length = 56) (hg : w.heap[g]? = some (.cells (blkA k bs) 24 (0, 0)))
    (h : wpList Try.prog ops Q rest (a.put o.dst (.agg (blkA k bs))) w) : wpList Try.prog ops Q (o :: rest) a w :=
  BigFrame.wpList_want hw fun _ hK => wp_load_row 24 x ho g hx _ _ _ _ hg Try.underlying24 rfl (by rw [blkA_size h56]; exact size24b) (hK _ _ h)
theorem guard24 : Try.prog.eqGuardType Try.prog.depth 24 = false := by kernel_rfl
theorem wpList_eqlBw (hw : Region.wanted o (yielded ops a.tmps) = true) (x y : Operand) (t : TypeId) (ho : o.op = .binOp .eql 24 x y t) (k j : Int) (bs cs : List Int) (hx : a.eval x = .agg (blkA k bs)) (hy : a.eval y = .agg (blkA j cs)) (hb : bs.length = 56) (hc : cs.length = 56) (hB : AllB bs) (hC : AllB cs)
    (h : wpList Try.prog ops Q rest (a.put o.dst (.bool (decide (k = j ∧ bs = cs)))) w) : wpList Try.prog ops Q (o :: rest) a w :=
  BigFrame.wpList_want hw fun _ hK => by
    have hg := run_eqGuard_agg (P := Try.prog) w .eql 24 x y (blkA k bs) (blkA j cs) guard24
    have hr := run_eql_struct (P := Try.prog) w 24 (blkA k bs) (blkA j cs)
    rw [eql24 k j bs cs hb hc hB hC w] at hr
    unfold Oper.wp execOp
    simp only [ho, hx, hy, Sem.run_bind, hg, hr, Result.andThen_ok]
    exact hK _ _ h
end
set_option maxRecDepth 100000 in
set_option maxHeartbeats 3200000 in
theorem begun6_any (w : World) : Calls Try.prog 6 #[] w fun e w' => e = .returned (.bool true) ∧ Below w.heap.size w w' := by
  have hm0 := heap_alloc_new w (Obj.cells (blkA 0 zBs) 24)
  have hbel0 : Below w.heap.size w (w.alloc (Obj.cells (blkA 0 zBs) 24)) := (Below.refl _ _).alloc (Nat.le_refl _) _
  have HM1 := Lib.hid (setRow_blk (D := blkA 4 zBs) hm0)
  have HBL1 := Lib.hid (below_setRow hbel0 (Nat.le_refl w.heap.size) (blkA 4 zBs))
  have HM0 := Lib.hid hm0
  clear hm0 hbel0
  go_enter Try.func6, Try.ntmps6
  go_upto_region 2 with (first
    | (refine wpList_allocB rfl rfl ?_)
    | (refine wpList_buildBk rfl (.const (.int .i64 4)) 4 rfl rfl ?_)
    | (refine wpList_storeB rfl (.tmp 1) (.tmp 8) rfl w.heap.size rfl 4 0 zBs zBs rfl zBs_len zBs_len HM0.out ?_))
  clear HM0
  generalize (w.alloc (Obj.cells (blkA 0 zBs) 24)).setRow w.heap.size (blkA 4 zBs) = W1 at *
  have c0 : W1.cell? ⟨w.heap.size, 1, none⟩ = some (.int .u8 0) := by rw [blk_cell HM1.out]; rfl
  have f0 : W1.frozen? ⟨w.heap.size, 1, none⟩ = false := blk_free HM1.out 1
  have HM2 : Hid ((W1.setCell ⟨w.heap.size, 1, none⟩ (.int .u8 5)).heap[w.heap.size]? = some (.cells (blkA 4 (zBs.set 0 5)) 24 (0, 0))) := by
    unfold Hid; rw [heap_setCell_same' HM1.out]; exact congrArg some (congrArg (fun a => Obj.cells a _ _) (blkA_setB 4 zBs 0 5))
  have HBL2 : Hid (Below w.heap.size w (W1.setCell ⟨w.heap.size, 1, none⟩ (.int .u8 5))) := HBL1.out.setCell (Nat.le_refl _) _
  go_upto_region 3 with fail
  clear HM1 HBL1 c0 f0
  have hb56 : (zBs.set 0 5).length = 56 := by rw [List.length_set, zBs_len]
  have hbB : AllB (zBs.set 0 5) := set_allB zBs_allB 0 (by omega)
  generalize W1.setCell ⟨w.heap.size, 1, none⟩ (.int .u8 5) = W2 at *
  generalize zBs.set 0 5 = bs at *
  have H56 := Lib.hid hb56
  have HB := Lib.hid hbB
  clear hb56 hbB
  go_wp2_with (first
    | (refine wpList_loadB rfl (.tmp 1) rfl w.heap.size rfl 4 bs H56.out HM2.out ?_))
  refine (seal_yes 3 4 7 _ bs W2 (by omega) (by omega) (by omega) (blkA_list _ _) H56.out HB.out).mono ?_
  rintro e W3 ⟨v3, rfl, own3, hb3⟩
  have HSL := Lib.hid (sealB_length (l := 3) (k := 4) (t := 7) H56.out)
  have HSB := Lib.hid (sealB_allB (l := 3) (k := 4) (t := 7) (by omega) (by omega) HB.out)
  obtain ⟨A3, d3, rfl, hle3, hd3, hy3⟩ := byt_own own3 HSL.out
  have hyes : Opens 3 ((7 : Nat) : Int) (sealB 3 4 7 bs) := (opens_iff H56.out (by omega) (by omega) (by omega)).2 ⟨rfl, rfl⟩
  have hno : ¬ Opens 3 ((8 : Nat) : Int) (sealB 3 4 7 bs) := fun h => by have := ((opens_iff H56.out (by omega) (by omega) (by omega)).1 h).2; omega
  have hA1 : openA 3 ((7 : Nat) : Int) (sealB 3 4 7 bs) = blkA 4 bs := by unfold openA; rw [if_pos hyes, opK_seal, opBs_seal H56.out]
  have hA2 : openA 3 ((8 : Nat) : Int) (sealB 3 4 7 bs) = blkA 0 zBs := by unfold openA; rw [if_neg hno]
  have HO1 := Lib.hid (fun W (hW : Below W2.heap.size W2 W) (hy : Byt W A3 (sealB 3 4 7 bs)) => open_any 3 ((7 : Nat) : Int) A3 (sealB 3 4 7 bs) d3 W (by omega) (by constructor <;> omega) hle3 hd3 HSB.out hy)
  have HO2 := Lib.hid (fun W (hW : Below W2.heap.size W2 W) (hy : Byt W A3 (sealB 3 4 7 bs)) => open_any 3 ((8 : Nat) : Int) A3 (sealB 3 4 7 bs) d3 W (by omega) (by constructor <;> omega) hle3 hd3 HSB.out hy)
  rw [hA1, decide_eq_true hyes, HSL.out] at HO1
  rw [hA2, decide_eq_false hno, HSL.out] at HO2
  rw [HSL.out]
  have HY3 := Lib.hid hy3
  have HB3 := Lib.hid hb3
  have HM3 : Hid (W3.heap[w.heap.size]? = some (.cells (blkA 4 bs) 24 (0, 0))) := by
    unfold Hid; rw [hb3.block _ (room_lt HM2.out)]; exact HM2.out
  have HBL3 := Lib.hid (keepB HBL2.out hb3)
  clear own3 hy3 hb3 hyes hno hA1 hA2
  go_wp2_with fail
  refine (HO1.out W3 HB3.out HY3.out).mono ?_
  rintro e W4 ⟨rfl, hb4⟩
  have HM4 : Hid (W4.heap[w.heap.size]? = some (.cells (blkA 4 bs) 24 (0, 0))) := by
    unfold Hid; rw [hb4.block _ (room_lt HM3.out)]; exact HM3.out
  have HBL4 := Lib.hid (keepB HBL3.out hb4)
  have HY4 := Lib.hid (HY3.out.keep hb4)
  have HB4 := Lib.hid (HB3.out.trans (hb4.mono HB3.out.size))
  have HZ4 := Lib.hid (heap_alloc_new W4 (Obj.cells (blkA 0 zBs) 24))
  clear hb4 HM3 HBL3 HB3
  have hlt4 := room_lt HM4.out
  have HM5 : Hid (((W4.alloc (Obj.cells (blkA 0 zBs) 24)).setRow W4.heap.size (blkA 4 bs)).heap[w.heap.size]? = some (.cells (blkA 4 bs) 24 (0, 0))) := by
    unfold Hid; rw [setRow_other _ _ _ _ (by omega), heap_alloc_old W4 _ hlt4]; exact HM4.out
  have HN5 := Lib.hid (setRow_blk (D := blkA 4 bs) HZ4.out)
  have bel5 : Below W4.heap.size W4 ((W4.alloc (Obj.cells (blkA 0 zBs) 24)).setRow W4.heap.size (blkA 4 bs)) := below_setRow ((Below.refl _ _).alloc (Nat.le_refl _) _) (Nat.le_refl _) _
  have HBL5 := Lib.hid (keepB HBL4.out bel5)
  have HY5 := Lib.hid (HY4.out.keep bel5)
  have HB5 := Lib.hid (HB4.out.trans (bel5.mono HB4.out.size))
  go_upto_region 5 with (first
    | (refine wpList_allocB rfl rfl ?_)
    | (refine wpList_storeB rfl (.tmp 4) (.tmp 19) rfl W4.heap.size rfl 4 0 bs zBs rfl H56.out zBs_len HZ4.out ?_))
  clear HZ4 HM4 bel5 HBL4 HY4 HB4
  have hg4 := room_lt HN5.out
  generalize (W4.alloc (Obj.cells (blkA 0 zBs) 24)).setRow W4.heap.size (blkA 4 bs) = W5 at *
  generalize W4.heap.size = g4 at *
  go_wp2_with fail
  refine (HO2.out W5 HB5.out HY5.out).mono ?_
  rintro e W6 ⟨rfl, hb6⟩
  have HM6 : Hid (W6.heap[w.heap.size]? = some (.cells (blkA 4 bs) 24 (0, 0))) := by
    unfold Hid; rw [hb6.block _ (room_lt HM5.out)]; exact HM5.out
  have HN6 : Hid (W6.heap[g4]? = some (.cells (blkA 4 bs) 24 (0, 0))) := by
    unfold Hid; rw [hb6.block _ hg4]; exact HN5.out
  have HBL6 := Lib.hid (keepB HBL5.out hb6)
  have HY6 := Lib.hid (HY5.out.keep hb6)
  have HZ6 := Lib.hid (heap_alloc_new W6 (Obj.cells (blkA 0 zBs) 24))
  clear hb6 HM5 HN5 HBL5 HY5 HB5
  have hlt6 := room_lt HM6.out
  have hlt6' := room_lt HN6.out
  have bel7 : Below W6.heap.size W6 ((W6.alloc (Obj.cells (blkA 0 zBs) 24)).setRow W6.heap.size (blkA 0 zBs)) := below_setRow ((Below.refl _ _).alloc (Nat.le_refl _) _) (Nat.le_refl _) _
  have HM7 := Lib.hid (show ((W6.alloc (Obj.cells (blkA 0 zBs) 24)).setRow W6.heap.size (blkA 0 zBs)).heap[w.heap.size]? = _ from (bel7.block _ hlt6).trans HM6.out)
  have HN7 := Lib.hid (show ((W6.alloc (Obj.cells (blkA 0 zBs) 24)).setRow W6.heap.size (blkA 0 zBs)).heap[g4]? = _ from (bel7.block _ hlt6').trans HN6.out)
  have HBL7 := Lib.hid (keepB HBL6.out bel7)
  have HY7 := Lib.hid (HY6.out.keep bel7)
  go_upto_region 6 with (first
    | (refine wpList_allocB rfl rfl ?_)
    | (refine wpList_storeB rfl (.tmp 6) (.tmp 24) rfl W6.heap.size rfl 0 0 zBs zBs rfl zBs_len zBs_len HZ6.out ?_))
  clear HZ6 HM6 HN6 bel7 HBL6 HY6
  generalize (W6.alloc (Obj.cells (blkA 0 zBs) 24)).setRow W6.heap.size (blkA 0 zBs) = W7 at *
  obtain ⟨ad, rfl, q0⟩ := HY7.out 0 4 rfl
  obtain ⟨ad', e1, q1⟩ := HY7.out 1 3 rfl
  injection e1 with e1; subst e1
  obtain ⟨ad', e1, q3⟩ := HY7.out 3 7 rfl
  injection e1 with e1; subst e1
  have ea : ad.add 0 = ad := by unfold Addr.add; simp
  rw [ea] at q0
  rw [add_sum ad 0] at q1
  rw [add_sum ad 2] at q3
  clear ea
  go_wp2_with (first
    | (refine wpList_loadBw (by rfl) (.tmp 4) rfl g4 rfl 4 bs H56.out HN7.out ?_)
    | (refine wpList_loadBw (by rfl) (.tmp 1) rfl w.heap.size rfl 4 bs H56.out HM7.out ?_)
    | (refine wpList_eqlBw (by rfl) (.tmp 54) (.tmp 55) _ rfl 4 4 bs bs rfl rfl H56.out H56.out HB.out HB.out ?_))
  go_ret
  exact ⟨rfl, HBL7.out⟩
end Go.Proofs.Ytincamgdaienlaa
