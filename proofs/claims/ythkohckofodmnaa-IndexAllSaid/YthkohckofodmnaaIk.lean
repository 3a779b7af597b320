/- Contract: the laws' opening test. -/
import Derived.Test.YthkohckofodmnaaIj
namespace Go.Proofs.Ythkohckofodmnaa
open Go.ChangeShapes Go.WideShapes Go.ChangeAt Go.RowKit
set_option linter.unusedVariables false
theorem eqlP (k a b k' a' b' : Int) (w : World) : (binOp .eql 38 (.agg #[.int .i64 k, .int .i64 a, .int .i64 b]) (.agg #[.int .i64 k', .int .i64 a', .int .i64 b'])).run Try.prog w = .ok (.bool (decide (k = k' ∧ a = a' ∧ b = b'))) w := by
  have u3 := Try.underlying3
  have a3 := Try.isAgg3
  have z3 := Try.sizeOf3
  have hS : Try.prog.underlying 38 = some (.struct (Try.prog.fieldsOf 38)) := by kernel_rfl
  have hp : Try.prog.stoodInHeld 38 = false := by kernel_rfl
  rw [run_eql_struct, show (10000 : Nat) = 9998 + 1 + 1 from rfl, run_equalIn_agg w (9998 + 1) 38 _ _ hS hp]
  clear hS hp
  simp only [Program.fieldsOf, Try.underlying38]
  go_simp
  by_cases h1 : k = k' <;> by_cases h2 : a = a' <;> by_cases h3 : b = b' <;> simp [h1, h2, h3]
def L9 : List Int := (rdL []).set 3 9
theorem L9_len : L9.length = 16 := rfl
theorem L9_may : mayB L9 = true := by decide
theorem L9_tk : tkB 5 (pad (encL L9)) = true := by decide
theorem L9_rd : rdL (pad (encL L9)) = L9 := by decide
theorem pc9 : pcM 50 10 = [(0, 50, 56), (1, 0, 4)] := by decide
theorem wh5 : whV 5 = .tuple #[.int .i64 (-1), .int .i64 1, .bool true] := rfl
theorem own_pos {w : World} {B e sz n : Nat} {v : Value} {xs : List Value} (h : w.ownsRow B e sz v n xs) (hn : 0 < n) : ∃ g cap, v = .slice (some ⟨g, 0, none⟩) n cap ∧ B ≤ g ∧ n ≤ cap := by
  rcases h.2 with ⟨_, h0⟩ | ⟨g, cap, cur, rfl, hb, _, hc, _⟩
  · omega
  · exact ⟨g, cap, rfl, hb, hc⟩
set_option maxRecDepth 100000 in
set_option maxHeartbeats 6400000 in
theorem begun_any (w : World) : Calls Try.prog 7 #[] w fun e w' => e = .returned (.bool true) ∧ Below w.heap.size w w' := by
  have HQ0 : Hid ((w.alloc (.cells (Is z16).toArray 3)).heap[w.heap.size]? = some (.cells (Is (tlL [] 0)).toArray 3 (0, 0))) := heap_alloc_new w _
  have HB0 := Lib.hid (bel1 (w := w) (.cells (Is z16).toArray 3))
  go_enter Try.func7, Try.ntmps7
  go_upto_region 2 with (refine wpList_make16 rfl rfl ?_)
  generalize w.alloc (.cells (Is z16).toArray 3) = W at *
  go_wp2_with fail
  go_loopw [2] (fun i wr => ∃ j : Nat, j ≤ 16 ∧ i = .int .i64 j ∧ Hid (wr.heap[w.heap.size]? = some (.cells (Is (tlL [] j)).toArray 3 (0, 0))) ∧ Hid (Below w.heap.size w wr)) (fun i _ => (16 - intOf i).toNat)
  case atStart => exact ⟨0, by omega, rfl, HQ0, HB0⟩
  case round =>
    obtain ⟨j, hj, rfl, HQ, HB⟩ := hrel
    clear HQ0 HB0
    by_cases hlt : j < 16
    · have c1 : wr.cell? ⟨w.heap.size, j, none⟩ = some (.int .i64 0) := by
        rw [blk_cell HQ.out, List.getElem?_toArray]
        have h := tlL_at [] j hlt
        rw [if_neg (by omega)] at h
        exact Is_at h
      have f1 : wr.frozen? ⟨w.heap.size, j, none⟩ = false := blk_free HQ.out _
      have HQ3 : Hid ((wr.setCell ⟨w.heap.size, j, none⟩ (.int .i64 (-1))).heap[w.heap.size]? = some (.cells (Is (tlL [] (j + 1))).toArray 3 (0, 0))) := by
        have h := tlL_set [] hlt
        rw [show rdX [] j = -1 from by unfold rdX; rfl] at h
        unfold Hid; rw [heap_setCell_same' HQ.out, Is_set, h]
      have HB3 := Lib.hid (HB.out.setCell (p := ⟨w.heap.size, j, none⟩) (Nat.le_refl _) (.int .i64 (-1)))
      go_wp2_with fail
      go_roundw
      case rel => exact ⟨j + 1, by omega, by go_num, HQ3.out, HB3.out⟩
      case measure => simp [intOf]; omega
    · obtain rfl : j = 16 := by omega
      rw [tlL_all] at HQ
      have c1 : wr.cell? ⟨w.heap.size, 3, none⟩ = some (.int .i64 (-1)) := by
        rw [blk_cell HQ.out, List.getElem?_toArray]
        exact Is_at (rdL_at [] (by omega))
      have f1 : wr.frozen? ⟨w.heap.size, 3, none⟩ = false := blk_free HQ.out _
      have HQ3 : Hid ((wr.setCell ⟨w.heap.size, 3, none⟩ (.int .i64 9)).heap[w.heap.size]? = some (.cells (Is L9).toArray 3 (0, 0))) := by
        unfold Hid; rw [heap_setCell_same' HQ.out, Is_set]; rfl
      have HB3 := Lib.hid (HB.out.setCell (p := ⟨w.heap.size, 3, none⟩) (Nat.le_refl _) (.int .i64 9))
      have HPUT := Lib.hid (fun W h => ixput_any (some ⟨w.heap.size, 0, none⟩) L9 16 16 W L9_len h)
      have HL5 : Hid ((pad (encL L9)).length = 56) := pad_len (by rw [encL_length, L9_len]; omega)
      have HTK := Lib.hid (fun W => ixtake_any 5 (pad (encL L9)) W HL5.out (pad_allB (encL_allB (mayB_all L9_may))))
      have HTL : Hid (tkL 5 (pad (encL L9)) = L9) := by unfold Hid tkL; rw [if_pos L9_tk, L9_rd]
      rw [L9_tk, HTL.out, L9_len] at HTK
      rw [ixV_yes L9_may] at HPUT
      have HWH := Lib.hid (fun W => where_any 5 W (by omega))
      rw [wh5] at HWH
      have HPC := Lib.hid (fun W => pieces_any 50 10 W (by omega) (by omega))
      rw [pc9] at HPC
      have h3 : L9[3]? = some 9 := by decide
      have h0 : L9[0]? = some (-1) := by decide
      have HE3 := Lib.hid h3
      have HE0 := Lib.hid h0
      clear h3 h0 HQ HB HTL
      generalize pad (encL L9) = bs at *
      generalize L9 = l9 at *
      go_upto_region 7 with fail
      generalize wr.setCell ⟨w.heap.size, 3, none⟩ (.int .i64 9) = W3 at *
      clear c1 f1
      go_wp2_with fail
      refine (HPUT.out _ (nts_is HQ3.out)).mono ?_; rintro e w4 ⟨rfl, hb4⟩
      have HB4 := Lib.hid (keepB HB3.out hb4)
      clear hb4 HPUT HQ3 HB3
      have h5 := heap_alloc_new w4 (.cells (blkA 0 zBs) 25)
      have HC5 : Hid (((w4.alloc (.cells (blkA 0 zBs) 25)).setRow w4.heap.size (blkA 5 bs)).heap[w4.heap.size]? = some (.cells (blkA 5 bs) 25 (0, 0))) := setRow_blk h5
      have HB5 := Lib.hid (below_setRow (keepB HB4.out (bel1 (.cells (blkA 0 zBs) 25))) HB4.out.size (blkA 5 bs))
      go_upto_region 8 with (first
        | (refine wpList_allocB rfl rfl ?_)
        | (refine wpList_storeB rfl (.tmp 3) (.tmp 26) rfl w4.heap.size rfl 5 0 bs zBs rfl HL5.out zBs_len h5 ?_))
      clear h5 HB4
      generalize (w4.alloc (.cells (blkA 0 zBs) 25)).setRow w4.heap.size (blkA 5 bs) = w5 at *
      generalize w4.heap.size = c at *
      go_wp2_with (refine wpList_loadB rfl (.tmp 3) rfl c rfl 5 bs HL5.out HC5.out ?_)
      refine (HTK.out _).mono ?_; rintro e w6 ⟨v6, rfl, hown, hb6⟩
      obtain ⟨g6, cap6, rfl, _, _⟩ := own_pos hown (by omega)
      have HO6 := Lib.hid hown
      have HC6 := Lib.hid (kb hb6 HC5.out)
      have HB6 := Lib.hid (keepB HB5.out hb6)
      clear hown hb6 HC5 HB5 HTK
      go_wp2_with fail
      refine (HWH.out _).mono ?_; rintro e w7 ⟨rfl, rfl⟩
      clear HWH
      go_wp2_with fail
      refine (HPC.out _).mono ?_; rintro e w8 ⟨v8, rfl, hown, hb8⟩
      obtain ⟨g8, cap8, rfl, _, _⟩ := own_pos hown (by decide)
      have HO8 := Lib.hid hown
      have HO7 := Lib.hid (ownB HO6.out hb8)
      have HC7 := Lib.hid (kb hb8 HC6.out)
      have HB7 := Lib.hid (keepB HB6.out hb8)
      clear hown hb8 HC6 HB6 HPC HO6
      have k0 : w8.cell? ⟨c, 0, none⟩ = some (.int .i64 5) := (blk_cell HC7.out 0).trans rfl
      have k3 : w8.cell? ⟨g6, 3, none⟩ = some (.int .i64 9) := own_cell HO7.out (Is_at HE3.out)
      have k00 : w8.cell? ⟨g6, 0, none⟩ = some (.int .i64 (-1)) := own_cell HO7.out (Is_at HE0.out)
      have p0 : w8.cell? ⟨g8, 0, none⟩ = some (.int .i64 0) := own_cell HO8.out rfl
      have p1 : w8.cell? ⟨g8, 1, none⟩ = some (.int .i64 50) := own_cell HO8.out rfl
      have p2 : w8.cell? ⟨g8, 2, none⟩ = some (.int .i64 56) := own_cell HO8.out rfl
      have p3 : w8.cell? ⟨g8, 3, none⟩ = some (.int .i64 1) := own_cell HO8.out rfl
      have p4 : w8.cell? ⟨g8, 4, none⟩ = some (.int .i64 0) := own_cell HO8.out rfl
      have p5 : w8.cell? ⟨g8, 5, none⟩ = some (.int .i64 4) := own_cell HO8.out rfl
      have q1 : ∀ w, (binOp .eql 38 (.agg #[.int .i64 0, .int .i64 50, .int .i64 56]) (.agg #[.int .i64 0, .int .i64 50, .int .i64 56])).run Try.prog w = .ok (.bool true) w := fun w => by rw [eqlP]; simp
      have q2 : ∀ w, (binOp .eql 38 (.agg #[.int .i64 1, .int .i64 0, .int .i64 4]) (.agg #[.int .i64 1, .int .i64 0, .int .i64 4])).run Try.prog w = .ok (.bool true) w := fun w => by rw [eqlP]; simp
      go_wp2_with fail
      go_ret
      exact ⟨rfl, HB7.out⟩
end Go.Proofs.Ythkohckofodmnaa
