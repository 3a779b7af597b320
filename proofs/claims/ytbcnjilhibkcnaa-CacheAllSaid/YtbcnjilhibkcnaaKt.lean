/- Contract: begun. -/
import Derived.Test.YtbcnjilhibkcnaaKr
namespace Go.Proofs.Ytbcnjilhibkcnaa
open Go.ChangeShapes Go.WideShapes Go.ChangeAt Go.RowKit
set_option linter.unusedVariables false
def y2 : Wr := ⟨2, 0, zBs⟩
theorem y2_ok : y2.Ok := ⟨by constructor <;> (unfold y2; simp only; omega), by constructor <;> (unfold y2; simp only; omega), zBs_len, zBs_allB⟩
theorem new_bk_below (w : World) (k : Int) (bs : List Int) : Below w.heap.size w ((w.alloc (.cells (blkA 0 zBs) 32)).setRow w.heap.size (blkA k bs)) :=
  below_setRow ((Below.refl _ _).alloc (Nat.le_refl _) _) (Nat.le_refl _) _
theorem new_bk (w : World) (k : Int) (bs : List Int) : ((w.alloc (.cells (blkA 0 zBs) 32)).setRow w.heap.size (blkA k bs)).heap[w.heap.size]? = some (.cells (blkA k bs) 32 (0, 0)) :=
  setRow_heap _ _ _ _ _ _ (heap_alloc_new w _)
set_option maxRecDepth 100000 in
set_option maxHeartbeats 4000000 in
theorem begun8_any (w : World) : Calls Try.prog 7 #[] w fun e w' => e = .returned (.bool true) ∧ Below w.heap.size w w' := by
  have hz := zW_len
  have hzb := zBs_len
  have hzB := zBs_allB
  have hyb : yb.bs.length = 56 := zBs_len
  have et1 : toldE (outM 0 [] yb.t) = .tuple #[.agg (wrA zW), .bool false] := rfl
  have eL1 : putM 0 [] yb true = [(yb, true)] := rfl
  have et2 : toldE (outM 0 [(yb, true)] y2.t) = .tuple #[.agg (wrA yb), .bool true] := rfl
  have eL2 : putM 0 [(yb, true)] y2 false = [(y2, false)] := rfl
  have ea1 : ansM [(y2, false)] 1 = .tuple #[.agg (blkA 0 zBs), .bool false] := rfl
  have eL3 : getM [(y2, false)] 1 = [(y2, false)] := rfl
  have ea2 : ansM [(y2, false)] 2 = .tuple #[.agg (blkA 0 zBs), .bool true] := rfl
  have HB : Hid (Below w.heap.size w w) := Below.refl _ _
  go_enter Try.func7, Try.ntmps7
  go_wp2_with fail
  refine (new_s 1 (by constructor <;> omega) w w.heap.size (Nat.le_refl _)).mono ?_
  rintro e W1 ⟨g, R1, rfl, h1, hlo1, hb1⟩
  have H1 : Hid (St w.heap.size W1 g 0 [] R1) := h1
  have HB1 := Lib.hid hb1
  clear h1 hb1 HB hlo1
  go_wp2_with (first
    | (refine wpList_buildBk rfl (.const (.int .i64 4)) 4 rfl rfl ?_))
  refine (put_s H1.out HB1.out.size yb yb_ok true).mono ?_
  rintro e W2 ⟨R2, rfl, h2, hl2⟩
  rw [eL1] at h2
  rw [et1]
  have H3 := Lib.hid (h2.below (new_wr_below W2 zW))
  have HB3 := Lib.hid (keepB (hl2.below HB1.out HB1.out.size H1.out.lo) (new_wr_below W2 zW))
  have HA3 := Lib.hid (new_wr W2 zW)
  have HZ2 := Lib.hid (heap_alloc_new W2 (.cells (wrA zW) 36))
  have HN3 : Hid (¬ R2 W2.heap.size) := fun e => by have := h2.hi _ e; omega
  clear h2 hl2 H1 HB1
  go_upto_region 5 with (first
    | (refine wpList_allocW rfl rfl ?_)
    | (refine wpList_storeW rfl (.tmp 2) (.tmp 17) rfl W2.heap.size rfl zW zW rfl hz hz HZ2.out ?_))
  clear HZ2
  generalize (W2.alloc (.cells (wrA zW) 36)).setRow W2.heap.size (wrA zW) = W3 at *
  generalize W2.heap.size = g2 at *
  go_wp2_with (first
    | (refine wpList_buildB0 rfl rfl ?_))
  refine (put_s H3.out HB3.out.size y2 y2_ok false).mono ?_
  rintro e W4 ⟨R4, rfl, h4, hl4⟩
  rw [eL2] at h4
  rw [et2]
  obtain ⟨ha4, hn4⟩ := hl4.heap HA3.out HN3.out
  have H5 := Lib.hid (h4.below (new_wr_below W4 yb))
  have HB5 := Lib.hid (keepB (hl4.below HB3.out HB3.out.size H3.out.lo) (new_wr_below W4 yb))
  have HA5 := Lib.hid (kb (new_wr_below W4 yb) ha4)
  have HNA5 := Lib.hid hn4
  have HW5 := Lib.hid (new_wr W4 yb)
  have HZ4 := Lib.hid (heap_alloc_new W4 (.cells (wrA zW) 36))
  have HN5 : Hid (¬ R4 W4.heap.size) := fun e => by have := h4.hi _ e; omega
  clear h4 hl4 H3 HB3 HA3 HN3 ha4 hn4
  go_upto_region 6 with (first
    | (refine wpList_allocW rfl rfl ?_)
    | (refine wpList_storeW rfl (.tmp 4) (.tmp 23) rfl W4.heap.size rfl yb zW rfl hyb hz HZ4.out ?_))
  clear HZ4
  generalize (W4.alloc (.cells (wrA zW) 36)).setRow W4.heap.size (wrA yb) = W5 at *
  generalize W4.heap.size = g4 at *
  go_wp2_with fail
  refine (get_s H5.out HB5.out.size 1 (by constructor <;> omega)).mono ?_
  rintro e W6 ⟨R6, rfl, h6, hl6⟩
  rw [eL3] at h6
  rw [ea1]
  obtain ⟨ha6, hna6⟩ := hl6.heap HA5.out HNA5.out
  obtain ⟨hw6, hnw6⟩ := hl6.heap HW5.out HN5.out
  have H7 := Lib.hid (h6.below (new_bk_below W6 0 zBs))
  have HB7 := Lib.hid (keepB (hl6.below HB5.out HB5.out.size H5.out.lo) (new_bk_below W6 0 zBs))
  have HA7 := Lib.hid (kb (new_bk_below W6 0 zBs) ha6)
  have HW7 := Lib.hid (kb (new_bk_below W6 0 zBs) hw6)
  have HZ6 := Lib.hid (heap_alloc_new W6 (.cells (blkA 0 zBs) 32))
  clear h6 hl6 H5 HB5 HA5 HNA5 HW5 HN5 ha6 hna6 hw6 hnw6
  go_upto_region 7 with (first
    | (refine wpList_allocB rfl rfl ?_)
    | (refine wpList_storeB rfl (.tmp 6) (.tmp 28) rfl W6.heap.size rfl 0 0 zBs zBs rfl hzb hzb HZ6.out ?_))
  clear HZ6
  generalize (W6.alloc (.cells (blkA 0 zBs) 32)).setRow W6.heap.size (blkA 0 zBs) = W7 at *
  generalize W6.heap.size = g6 at *
  go_wp2_with fail
  refine (peek_m H7.out.c 2 (by constructor <;> omega)).mono ?_
  rintro e W8 ⟨rfl, hb8⟩
  rw [ea2]
  have hb9 := keepB hb8 (new_bk_below W8 0 zBs)
  have H9 := Lib.hid (H7.out.below hb9)
  have HB9 := Lib.hid (keepB HB7.out hb9)
  have HA9 := Lib.hid (kb hb9 HA7.out)
  have HW9 := Lib.hid (kb hb9 HW7.out)
  have HZ8 := Lib.hid (heap_alloc_new W8 (.cells (blkA 0 zBs) 32))
  clear hb8 hb9 H7 HB7 HA7 HW7
  go_upto_region 8 with (first
    | (refine wpList_allocB rfl rfl ?_)
    | (refine wpList_storeB rfl (.tmp 8) (.tmp 33) rfl W8.heap.size rfl 0 0 zBs zBs rfl hzb hzb HZ8.out ?_))
  clear HZ8
  generalize (W8.alloc (.cells (blkA 0 zBs) 32)).setRow W8.heap.size (blkA 0 zBs) = W9 at *
  generalize W8.heap.size = g8 at *
  have q0 : W9.cell? ⟨g4, 0, none⟩ = some (.int .i64 1) := (wrAt_blk HW9.out).c0
  have q1 : W9.cell? ⟨g4, 1, none⟩ = some (.int .i64 4) := (wrAt_blk HW9.out).c1
  go_wp2_with (first
    | (refine wpList_loadWw (by rfl) (.tmp 2) rfl g2 rfl zW hz HA9.out ?_)
    | (refine wpList_buildWZw (by rfl) rfl ?_)
    | (refine wpList_eqlWw (by rfl) (.tmp 38) (.tmp 39) _ rfl zW zW rfl rfl hz hz hzB hzB ?_; rw [decide_eq_true rfl]))
  refine (len_m H9.out.c).mono ?_
  rintro e w' ⟨rfl, rfl⟩
  go_wp2_with fail
  refine (dirty_none H9.out.c (fun x hx => by simp at hx; rw [hx])).mono ?_
  rintro e W10 ⟨⟨A, c, rfl⟩, hb10⟩
  go_wp2_with fail
  go_ret
  exact ⟨rfl, keepB HB9.out hb10⟩
end Go.Proofs.Ytbcnjilhibkcnaa
