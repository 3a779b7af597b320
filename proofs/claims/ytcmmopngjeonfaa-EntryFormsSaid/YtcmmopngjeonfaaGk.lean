/- Contract: the reference's body. -/
import Derived.Test.YtcmmopngjeonfaaGg
import Derived.Test.YtcmmopngjeonfaaGe
namespace Go.Proofs.Ytcmmopngjeonfaa
open Go.ChangeShapes Go.WideShapes Go.ChangeAt Go.RowKit
set_option linter.unusedVariables false
set_option maxRecDepth 100000 in
set_option maxHeartbeats 3200000 in
theorem body_any (k : Int) (A : Option Addr) (xs : List Int) (n d : Nat) (w : World) (hn : xs.length = n) (hl : n ≤ 56) (hy : Byt w A xs) :
    Calls Try.prog 20 #[.int .i64 k, .slice A n d] w fun e w' => e = .returned (.agg (blkA k (pad xs))) ∧ Below w.heap.size w w' := by
  have HN := Lib.hid hn
  have HY := Lib.hid hy
  have HP0 : Hid ((((w.alloc (Obj.cells (blkA 0 zBs) 29)).alloc (Obj.cells (blkA 0 zBs) 29)).heap[w.heap.size + 1]? = some (.cells (blkA 0 zBs) 29 (0, 0))) ∧ (((w.alloc (Obj.cells (blkA 0 zBs) 29)).alloc (Obj.cells (blkA 0 zBs) 29)).heap[w.heap.size]? = some (.cells (blkA 0 zBs) 29 (0, 0)))) := by
    have s1 : (w.alloc (Obj.cells (blkA 0 zBs) 29)).heap.size = w.heap.size + 1 := size_alloc' _ _
    have H1 := heap_alloc_new (w.alloc (Obj.cells (blkA 0 zBs) 29)) (Obj.cells (blkA 0 zBs) 29)
    rw [s1] at H1
    exact ⟨H1, kb (bel1 _) (heap_alloc_new w _)⟩
  have HB0 : Hid (Below w.heap.size w ((w.alloc (Obj.cells (blkA 0 zBs) 29)).alloc (Obj.cells (blkA 0 zBs) 29))) := by
    have B1 := bel1 (w := w) (Obj.cells (blkA 0 zBs) 29)
    exact B1.alloc B1.size _
  have HX0 : Hid ((((w.alloc (Obj.cells (blkA 0 zBs) 29)).alloc (Obj.cells (blkA 0 zBs) 29)).setRow (w.heap.size + 1) (blkA k zBs)).heap[w.heap.size + 1]? = some (.cells (blkA k (pad [])) 29 (0, 0))) := setRow_blk HP0.out.1
  have HR0 : Hid ((((w.alloc (Obj.cells (blkA 0 zBs) 29)).alloc (Obj.cells (blkA 0 zBs) 29)).setRow (w.heap.size + 1) (blkA k zBs)).heap[w.heap.size]? = some (.cells (blkA 0 zBs) 29 (0, 0))) := by
    unfold Hid; rw [setRow_other _ _ _ _ (by omega)]; exact HP0.out.2
  have HB1 := Lib.hid (below_setRow HB0.out (show w.heap.size ≤ w.heap.size + 1 by omega) (blkA k zBs))
  clear hn hy HB0
  go_enter Try.func20, Try.ntmps20
  go_upto_region 2 with (first
    | (refine wpList_allocB rfl rfl ?_; try simp only [size_alloc'])
    | (refine wpList_buildBk rfl (.tmp 7) k rfl rfl ?_)
    | (refine wpList_storeB rfl (.tmp 5) (.tmp 8) rfl (w.heap.size + 1) rfl k 0 zBs zBs rfl zBs_len zBs_len HP0.out.1 ?_))
  clear HP0
  generalize ((w.alloc (Obj.cells (blkA 0 zBs) 29)).alloc (Obj.cells (blkA 0 zBs) 29)).setRow (w.heap.size + 1) (blkA k zBs) = W at *
  go_wp2_with fail
  go_loopw [6] (fun i wr => ∃ j : Nat, j ≤ n ∧ i = .int .i64 j ∧ Hid (wr.heap[w.heap.size + 1]? = some (.cells (blkA k (pad (xs.take j))) 29 (0, 0))) ∧ Hid (wr.heap[w.heap.size]? = some (.cells (blkA 0 zBs) 29 (0, 0))) ∧ Hid (Below w.heap.size w wr)) (fun i _ => (n - intOf i).toNat)
  case atStart => exact ⟨0, by omega, rfl, by rw [List.take_zero]; exact HX0, HR0, HB1⟩
  case round =>
    obtain ⟨j, hj, rfl, HX, HR, HB⟩ := hrel
    clear HX0 HR0 HB1
    have hLt : (xs.take j).length = j := by rw [List.length_take, HN.out]; omega
    have HLT := Lib.hid hLt
    clear hLt
    by_cases hlt : j < n
    · obtain ⟨x, hx⟩ : ∃ x, xs[j]? = some x := ⟨_, List.getElem?_eq_getElem (by rw [HN.out]; exact hlt)⟩
      obtain ⟨ad, rfl, hc⟩ := HY.out j x hx
      have hc0 := keepC HB.out hc
      have HT : Hid ((pad (xs.take j)).set j x = pad (xs.take (j + 1))) := by
        have h := pad_set (ys := xs.take j) (y := x) (by rw [HLT.out]; omega)
        rw [HLT.out] at h
        unfold Hid; rw [h, take_snoc' hx]
      have cx : ∃ u, wr.cell? ⟨w.heap.size + 1, 1 + j, none⟩ = some u := by
        have hp := pad_len (ys := xs.take j) (by rw [HLT.out]; omega)
        exact ⟨_, (blk_cell HX.out _).trans (Array.getElem?_eq_getElem (by rw [blkA_size hp]; omega))⟩
      obtain ⟨u, cu⟩ := cx
      have fu : wr.frozen? ⟨w.heap.size + 1, 1 + j, none⟩ = false := blk_free HX.out _
      have hj56 : j < 56 := by omega
      clear hx hc
      go_wp2_with fail
      go_roundw
      case rel =>
        refine ⟨j + 1, by omega, by go_num, ?_, ?_, HB.out.setCell (show w.heap.size ≤ w.heap.size + 1 by omega) _⟩
        · unfold Hid; rw [heap_setCell_same' HX.out, blkA_setB, HT.out]
        · unfold Hid; rw [heap_setCell_other wr _ _ _ (show w.heap.size ≠ w.heap.size + 1 by omega)]; exact HR.out
      case measure => simp [intOf]; omega
    · obtain rfl : j = n := by omega
      have e : xs.take j = xs := List.take_of_length_le (by rw [HN.out]; omega)
      rw [e] at HX
      have HL := Lib.hid (pad_len (ys := xs) (by rw [HN.out]; omega))
      go_wp2_with (first
        | (refine wpList_loadB rfl (.tmp 5) rfl (w.heap.size + 1) rfl k (pad xs) HL.out HX.out ?_)
        | (refine wpList_storeB rfl (.tmp 4) (.tmp 26) rfl w.heap.size rfl k 0 (pad xs) zBs rfl HL.out zBs_len HR.out ?_))
      refine bodyPost_ret (results_blk1 rfl _ _ w.heap.size k (pad xs) rfl HL.out (setRow_blk HR.out)) rfl ?_
      exact ⟨rfl, below_setRow HB.out (Nat.le_refl _) _⟩
end Go.Proofs.Ytcmmopngjeonfaa
