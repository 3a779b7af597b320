/- Contracts: node.toNumber, toPlace, toPlaces, noPlaces; the reference's mayAt; slices.Contains of ints. -/
import Derived.Test.YtebahdiiokfkfaaGa
namespace Go.Proofs.Ytebahdiiokfkfaa
open Go.ChangeShapes Go.WideShapes Go.ChangeAt Go.RowKit
set_option linter.unusedVariables false
theorem tonum_any (x : Int) (w : World) (hx : -1 ≤ x ∧ x < 200) : Calls Try.prog 15 #[.int .i64 x] w fun e w' => e = .returned (.int .u32 (x + 1)) ∧ w = w' := by
  have h1 : IntKind.i64.wrap (x - -1) = x + 1 := IntWalk.i64_in _ (by omega)
  have h2 : IntKind.u32.wrap (x + 1) = x + 1 := IntWalk.u32_in _ (by omega)
  go_enter Try.func15, Try.ntmps15
  go_wp2
  go_ret
  exact ⟨rfl, rfl⟩
theorem toplace_any (x : Int) (w : World) (hx : 0 ≤ x ∧ x < 4294967296) : Calls Try.prog 26 #[.int .u32 x] w fun e w' => e = .returned (.int .i64 (x - 1)) ∧ w = w' := by
  have h1 : IntKind.i64.wrap (x + -1) = x - 1 := IntWalk.i64_in _ (by omega)
  have h2 : IntKind.i64.wrap x = x := IntWalk.i64_in _ (by omega)
  go_enter Try.func26, Try.ntmps26
  go_wp2
  go_ret
  exact ⟨rfl, rfl⟩
theorem mayat_any (x : Int) (w : World) : Calls Try.prog 23 #[.int .i64 x] w fun e w' => e = .returned (.bool (decide (1 ≤ x ∧ x < 200))) ∧ w = w' := by
  by_cases h1 : 1 ≤ x
  · have h3 : decide (1 ≤ x ∧ x < 200) = decide (x < 200) := by simp [h1]
    rw [h3]
    go_enter Try.func23, Try.ntmps23
    go_wp2
    go_ret
    exact ⟨rfl, rfl⟩
  · have h3 : decide (1 ≤ x ∧ x < 200) = false := by simp [h1]
    rw [h3]
    go_enter Try.func23, Try.ntmps23
    go_wp2
    go_ret
    exact ⟨rfl, rfl⟩
theorem info3 : (Try.prog.info? 3).map (·.size) = some 1 := by kernel_rfl
theorem size5 : (Try.prog.info? 41).map (·.size) = some 5 := by kernel_rfl
def z5 : Array Value := #[.int .i64 0, .int .i64 0, .int .i64 0, .int .i64 0, .int .i64 0]
theorem wpList_copy5 {ops : Array Oper} {rest : List Oper} {o : Oper} {a : Act} {w : World} {Q : Exit → Act → World → Prop} (hgd : o.guard = none) (s x : Operand) (ho : o.op = .call { callee := .builtin .copy, args := #[s, x], argTypes := #[39, 39] })
    (g p : Nat) (n : Nd) (hs : a.eval s = .slice (some ⟨g, 0, none⟩) 5 5) (hg : w.heap[g]? = some (.cells z5 41 (0, 0))) (hx : a.eval x = .slice (some ⟨p, 3, none⟩) 4 4) (hp : NdAt w p n)
    (h : wpList Try.prog ops Q rest (a.put o.dst (goInt 4)) (w.setRow g #[.int .i64 n.a, .int .i64 n.b, .int .i64 n.c, .int .i64 n.d, .int .i64 0])) : wpList Try.prog ops Q (o :: rest) a w :=
  wpList_plain hgd fun _ hK => by
    have hr := run_copy_row (P := Try.prog) w 39 39 o.type 3 g 0 5 5 ⟨p, 3, none⟩ 4 4 z5 41 [.int .i64 n.a, .int .i64 n.b, .int .i64 n.c, .int .i64 n.d] Try.underlying39 info3 hg rfl
      (fun j v hj => by
        rw [add_off, hp.cell]
        have hlt := (List.getElem?_eq_some_iff.1 hj).1
        simp only [List.length_cons, List.length_nil] at hlt
        match j, hlt, hj with
        | 0, _, hj => exact hj
        | 1, _, hj => exact hj
        | 2, _, hj => exact hj
        | 3, _, hj => exact hj) (show 0 + 4 ≤ 5 by omega) (fun v hv => by
        simp only [List.mem_cons, List.not_mem_nil, or_false] at hv
        rcases hv with rfl | rfl | rfl | rfl <;> rfl)
    unfold Oper.wp execOp
    simp only [ho, resolve, invoke, builtin, Sem.run_bind, Sem.run_pure, Result.andThen_ok, List.map_toArray, List.map_cons, List.map_nil, hs, hx, hr]
    exact hK _ _ h
theorem plA_one (n : Nd) : (plA n).all (·.oneCell') = true := by unfold plA; simp [Value.oneCell']
def p4A (n : Nd) : Array Value := #[.int .i64 n.a, .int .i64 n.b, .int .i64 n.c, .int .i64 n.d, .int .i64 0]
theorem toplaces_any (n : Nd) (w : World) : Calls Try.prog 14 #[.agg (ndA n)] w fun e w' => e = .returned (.agg (plA n)) ∧ Below w.heap.size w w' := by
  have HN0 := NdAt.new w n
  have s1 : (w.alloc (Obj.cells (ndA n) 25)).heap.size = w.heap.size + 1 := size_alloc' _ _
  have B1 := bel1 (w := w) (Obj.cells (ndA n) 25)
  have HN1 := HN0.alloc (Obj.cells z5 41)
  have H1 := heap_alloc_new (w.alloc (Obj.cells (ndA n) 25)) (Obj.cells z5 41)
  have B2 := B1.alloc B1.size (Obj.cells z5 41)
  have s2 : ((w.alloc (Obj.cells (ndA n) 25)).alloc (Obj.cells z5 41)).heap.size = w.heap.size + 1 + 1 := by rw [size_alloc', s1]
  have HN2 := HN1.alloc (Obj.cells z5 41)
  have H2 := heap_alloc_new ((w.alloc (Obj.cells (ndA n) 25)).alloc (Obj.cells z5 41)) (Obj.cells z5 41)
  have H1' := kb (bel1 (Obj.cells z5 41)) H1
  have B3 := B2.alloc B2.size (Obj.cells z5 41)
  rw [s1] at H1'
  rw [s2] at H2
  have HN := Lib.hid HN2
  have HA := Lib.hid H1'
  have HC := Lib.hid H2
  have HB := Lib.hid B3
  clear HN0 HN1 HN2 H1 H1' H2 B1 B2 B3 s1 s2
  go_enter Try.func14, Try.ntmps14
  go_upto_region 2 with fail
  unfold z5 at HN HA HC HB
  generalize ((w.alloc (Obj.cells (ndA n) 25)).alloc _).alloc _ = W at *
  go_still_tail 3, (by kernel_rfl)
  change wpList _ _ _ _ _ W.drew
  have HN' : Hid (NdAt W.drew w.heap.size n) := HN
  have HA' : Hid (W.drew.heap[w.heap.size + 1]? = some (.cells z5 41 (0, 0))) := HA
  have HC' : Hid (W.drew.heap[w.heap.size + 1 + 1]? = some (.cells z5 41 (0, 0))) := HC
  have HB' : Hid (Below w.heap.size w W.drew) := HB.out.drew
  clear HN HA HC HB
  generalize W.drew = W1 at *
  have HC2 := Lib.hid (setRow_blk (D := p4A n) HC'.out)
  have HA2 : Hid ((W1.setRow (w.heap.size + 1 + 1) (p4A n)).heap[w.heap.size + 1]? = some (.cells z5 41 (0, 0))) := by
    unfold Hid; rw [setRow_other W1 _ _ _ (by omega)]; exact HA'.out
  have HN2 := Lib.hid (HN'.out.other (q := w.heap.size + 1 + 1) (p4A n) (by omega))
  have HB2 := Lib.hid (below_setRow HB'.out (show w.heap.size ≤ w.heap.size + 1 + 1 by omega) (p4A n))
  refine wpList_copy5 rfl (.tmp 4) (.tmp 6) rfl (w.heap.size + 1 + 1) w.heap.size n rfl HC'.out rfl HN'.out ?_
  change wpList _ _ _ _ _ (W1.setRow (w.heap.size + 1 + 1) (p4A n))
  clear HN' HA' HC' HB'
  generalize W1.setRow (w.heap.size + 1 + 1) (p4A n) = W2 at *
  have c4 : W2.cell? ⟨w.heap.size, 7, none⟩ = some (.int .i64 n.x) := HN2.out.cell 7
  have d4 : W2.cell? ⟨w.heap.size + 1 + 1, 4, none⟩ = some (.int .i64 0) := (blk_cell HC2.out 4).trans rfl
  have f4 : W2.frozen? ⟨w.heap.size + 1 + 1, 4, none⟩ = false := blk_free HC2.out 4
  have HC3 : Hid ((W2.setCell ⟨w.heap.size + 1 + 1, 4, none⟩ (.int .i64 n.x)).heap[w.heap.size + 1 + 1]? = some (.cells (plA n) 41 (0, 0))) := heap_setCell_same' HC2.out _
  have HA3 : Hid ((W2.setCell ⟨w.heap.size + 1 + 1, 4, none⟩ (.int .i64 n.x)).heap[w.heap.size + 1]? = some (.cells z5 41 (0, 0))) := by
    unfold Hid; rw [heap_setCell_other W2 _ _ _ (show w.heap.size + 1 ≠ w.heap.size + 1 + 1 by omega)]; exact HA2.out
  have HB3 : Hid (Below w.heap.size w (W2.setCell ⟨w.heap.size + 1 + 1, 4, none⟩ (.int .i64 n.x))) := HB2.out.setCell (show w.heap.size ≤ w.heap.size + 1 + 1 by omega) _
  go_upto_region 4 with fail
  generalize W2.setCell ⟨w.heap.size + 1 + 1, 4, none⟩ (.int .i64 n.x) = W3 at *
  go_wp2_with (first
    | (refine wpList_load_row rfl 41 (.tmp 3) rfl (w.heap.size + 1 + 1) rfl _ _ _ _ HC3.out Try.underlying41 rfl size5 ?_)
    | (refine wpList_store_row rfl 41 (.tmp 2) (.tmp 11) rfl (w.heap.size + 1) (plA n) rfl rfl _ _ HA3.out size5 rfl (plA_one n) ?_))
  refine bodyPost_ret (results_cell_row rfl _ _ (w.heap.size + 1) _ _ _ _ rfl (setRow_blk (D := plA n) HA3.out) Try.underlying41 rfl size5) rfl ?_
  exact ⟨rfl, below_setRow HB3.out (by omega) _⟩
theorem noplaces_any (w : World) : Calls Try.prog 22 #[] w fun e w' => e = .returned (.agg #[.int .i64 (-1), .int .i64 (-1), .int .i64 (-1), .int .i64 (-1), .int .i64 (-1)]) ∧ Below w.heap.size w w' := by
  have H1 := heap_alloc_new w (Obj.cells z5 41)
  have B1 := bel1 (w := w) (Obj.cells z5 41)
  have H2 := heap_alloc_new (w.alloc (Obj.cells z5 41)) (Obj.cells z5 41)
  have H1' := kb (bel1 (Obj.cells z5 41)) H1
  have B2 := B1.alloc B1.size (Obj.cells z5 41)
  rw [size_alloc'] at H2
  have HA := Lib.hid H1'
  have hC := H2
  have hB := B2
  clear H1 B1 H2 H1' B2
  go_enter Try.func22, Try.ntmps22
  go_upto_region 2 with fail
  unfold z5 at HA hC hB
  generalize (w.alloc _).alloc _ = W at *
  go_wp2_with fail
  go_loopw [2, 3] (fun _ i wr => ∃ (k : Nat), i = .int .i64 k ∧ k ≤ 5 ∧ wr.heap[w.heap.size + 1]? = some (.cells ((List.replicate k (Value.int .i64 (-1))) ++ (List.replicate (5 - k) (Value.int .i64 0))).toArray 41 (0, 0)) ∧ wr.heap[w.heap.size]? = some (.cells z5 41 (0, 0)) ∧ Below w.heap.size w wr) (fun _ i _ => (5 - intOf i).toNat)
  case atStart => exact ⟨0, rfl, by omega, hC, HA.out, hB⟩
  case round =>
    obtain ⟨k, rfl, hk, hc, ha, hb⟩ := hrel
    have HC := Lib.hid hc
    have HA := Lib.hid ha
    have HB := Lib.hid hb
    clear hc ha hb
    by_cases hlt : k < 5
    · have c0 : wr.cell? ⟨w.heap.size + 1, k, none⟩ = some (.int .i64 0) := (blk_cell HC.out k).trans (by
        match k, hlt with
        | 0, _ => rfl
        | 1, _ => rfl
        | 2, _ => rfl
        | 3, _ => rfl
        | 4, _ => rfl)
      have f0 : wr.frozen? ⟨w.heap.size + 1, k, none⟩ = false := blk_free HC.out k
      go_wp2
      go_roundw
      case rel =>
        refine ⟨k + 1, by go_num, by omega, ?_, by rw [heap_setCell_other wr _ _ _ (show w.heap.size ≠ w.heap.size + 1 by omega)]; exact HA.out, HB.out.setCell (show w.heap.size ≤ w.heap.size + 1 by omega) _⟩
        rw [heap_setCell_same' HC.out]
        congr 2
        match k, hlt with
        | 0, _ => rfl
        | 1, _ => rfl
        | 2, _ => rfl
        | 3, _ => rfl
        | 4, _ => rfl
      case measure => simp [intOf]; omega
    · obtain rfl : k = 5 := by omega
      have HC2 : Hid (wr.heap[w.heap.size + 1]? = some (.cells #[.int .i64 (-1), .int .i64 (-1), .int .i64 (-1), .int .i64 (-1), .int .i64 (-1)] 41 (0, 0))) := HC
      clear HC
      go_wp2_with (first
        | (refine wpList_load_row rfl 41 (.tmp 1) rfl (w.heap.size + 1) rfl _ _ _ _ HC2.out Try.underlying41 rfl size5 ?_)
        | (refine wpList_store_row rfl 41 (.tmp 0) (.tmp 9) rfl w.heap.size #[.int .i64 (-1), .int .i64 (-1), .int .i64 (-1), .int .i64 (-1), .int .i64 (-1)] rfl rfl _ _ HA.out size5 rfl (plA_one ⟨0, 0, 0, -1, -1, -1, -1, -1, []⟩) ?_))
      refine bodyPost_ret (results_cell_row rfl _ _ w.heap.size _ _ _ _ rfl (setRow_blk (D := #[.int .i64 (-1), .int .i64 (-1), .int .i64 (-1), .int .i64 (-1), .int .i64 (-1)]) HA.out) Try.underlying41 rfl size5) rfl ?_
      exact ⟨rfl, below_setRow HB.out (Nat.le_refl _) _⟩
end Go.Proofs.Ytebahdiiokfkfaa
