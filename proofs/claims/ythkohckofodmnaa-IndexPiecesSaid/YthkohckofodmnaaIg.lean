/- Contract: index.Put. -/
import Derived.Test.YthkohckofodmnaaIf
namespace Go.Proofs.Ythkohckofodmnaa
open Go.ChangeShapes Go.WideShapes Go.ChangeAt Go.RowKit
set_option linter.unusedVariables false
/-- Places as bytes. -/
def encL : List Int → List Int
  | [] => []
  | x :: l => 0 :: (x + 1) :: encL l
theorem encL_length : ∀ l : List Int, (encL l).length = l.length * 2
  | [] => rfl
  | x :: l => by simp [encL, encL_length l]; omega
theorem encL_snoc : ∀ (l : List Int) (x : Int), encL (l ++ [x]) = encL l ++ [0, x + 1]
  | [], x => rfl
  | y :: l, x => by simp [encL, encL_snoc l x]
theorem okX_rng {l : List Int} {j : Nat} {x : Int} (h : okX l j x = true) : -1 ≤ x ∧ x < 200 := by
  unfold okX at h
  simp at h
  omega
theorem mayB_rng {l : List Int} (h : mayB l = true) {j : Nat} {x : Int} (hx : l[j]? = some x) : -1 ≤ x ∧ x < 200 := by
  unfold mayB at h
  rw [Bool.and_eq_true] at h
  have hl := of_decide_eq_true h.1
  have hj := (List.getElem?_eq_some_iff.1 hx).1
  have h2 := okP_mono (show j + 1 ≤ 16 by omega) h.2
  rw [okP_at hx, Bool.and_eq_true] at h2
  exact okX_rng h2.2
theorem encL_allB : ∀ {l : List Int}, (∀ x ∈ l, -1 ≤ x ∧ x < 200) → AllB (encL l)
  | [], _ => fun x hx => by cases hx
  | y :: l, h => fun x hx => by
    have h1 := h y (by simp)
    simp only [encL, List.mem_cons] at hx
    rcases hx with rfl | rfl | hx
    · omega
    · omega
    · exact encL_allB (fun z hz => h z (by simp [hz])) x hx
theorem mayB_len {l : List Int} (h : mayB l = true) : l.length = 16 := by
  unfold mayB at h
  rw [Bool.and_eq_true] at h
  exact of_decide_eq_true h.1
theorem mayB_all {l : List Int} (h : mayB l = true) : ∀ x ∈ l, -1 ≤ x ∧ x < 200 := fun x hx => by
  obtain ⟨j, hj⟩ := List.getElem?_of_mem hx
  exact mayB_rng h hj
/-- What Put makes. -/
def ixK (l : List Int) : Int := if mayB l = true then 5 else 0
def ixB (l : List Int) : List Int := if mayB l = true then pad (encL l) else zBs
theorem ixB_len (l : List Int) : (ixB l).length = 56 := by
  unfold ixB
  split
  · rename_i h; exact pad_len (by rw [encL_length, mayB_len h]; omega)
  · exact zBs_len
theorem ixB_allB (l : List Int) : AllB (ixB l) := by
  unfold ixB
  split
  · rename_i h; exact pad_allB (encL_allB (mayB_all h))
  · exact zBs_allB
def ixV (l : List Int) : Value := .tuple #[.agg (blkA (ixK l) (ixB l)), .bool (mayB l)]
set_option maxRecDepth 100000 in
set_option maxHeartbeats 3200000 in
theorem ixput_any (A : Option Addr) (l : List Int) (n d : Nat) (w : World) (hn : l.length = n) (hy : Nts w A l) :
    Calls Try.prog 10 #[.slice A n d] w fun e w' => e = .returned (ixV l) ∧ Below w.heap.size w w' := by
  have HM := Lib.hid (fun W h => ixmay_any A l n d W hn h)
  have HN := Lib.hid hn
  have HY := Lib.hid hy
  have HR0 := Lib.hid (heap_alloc_new w (.cells (blkA 0 zBs) 25))
  have HB0 := Lib.hid (bel1 (w := w) (.cells (blkA 0 zBs) 25))
  have HY0 := Lib.hid (hy.alloc (.cells (blkA 0 zBs) 25))
  cases hm : mayB l
  · have hv : ixV l = .tuple #[.agg (blkA 0 zBs), .bool false] := by
      have e1 : ixK l = 0 := by unfold ixK; rw [if_neg (by rw [hm]; simp)]
      have e2 : ixB l = zBs := by unfold ixB; rw [if_neg (by rw [hm]; simp)]
      unfold ixV; rw [e1, e2, hm]
    rw [hv]
    rw [hm] at HM
    clear hv hm hn hy
    go_enter Try.func10, Try.ntmps10
    go_upto_region 1 with (refine wpList_allocB rfl rfl ?_)
    generalize w.alloc (.cells (blkA 0 zBs) 25) = W at *
    go_wp2_with fail
    refine (HM.out _ HY0.out).mono ?_; rintro e w2 ⟨rfl, hb2⟩
    have HR2 := Lib.hid (kb hb2 HR0.out)
    have HB2 := Lib.hid (keepB HB0.out hb2)
    clear hb2 HR0 HB0
    go_wp2_with (first
      | (refine wpList_buildB0 rfl rfl ?_)
      | (refine wpList_storeB rfl (.tmp 2) (.tmp 10) rfl w.heap.size rfl 0 0 zBs zBs rfl zBs_len zBs_len HR2.out ?_))
    refine bodyPost_ret (results_blk rfl _ _ w.heap.size 0 zBs rfl zBs_len (setRow_blk HR2.out)) rfl ?_
    exact ⟨rfl, below_setRow HB2.out (Nat.le_refl _) _⟩
  · have e1 : ixK l = 5 := by unfold ixK; rw [if_pos hm]
    have e2 : ixB l = pad (encL l) := by unfold ixB; rw [if_pos hm]
    have hv : ixV l = .tuple #[.agg (blkA 5 (pad (encL l))), .bool true] := by unfold ixV; rw [e1, e2, hm]
    rw [hv]
    rw [hm] at HM
    have HRG := Lib.hid (fun j x (hx : l[j]? = some x) => mayB_rng hm hx)
    have hl16 := mayB_len hm
    rw [hn] at hl16
    subst hl16
    clear hv hm hn hy e1 e2
    go_enter Try.func10, Try.ntmps10
    go_upto_region 1 with (refine wpList_allocB rfl rfl ?_)
    generalize w.alloc (.cells (blkA 0 zBs) 25) = W at *
    go_wp2_with fail
    refine (HM.out _ HY0.out).mono ?_; rintro e w2 ⟨rfl, hb2⟩
    have HR2 := Lib.hid (kb hb2 HR0.out)
    have HB2 := Lib.hid (keepB HB0.out hb2)
    have hw2 : w.heap.size < w2.heap.size := room_lt HR2.out
    clear hb2 HR0 HB0 HM
    have h3 := heap_alloc_new w2 (.cells (blkA 0 zBs) 25)
    have HR3 : Hid (((w2.alloc (.cells (blkA 0 zBs) 25)).setRow w2.heap.size (blkA 5 zBs)).heap[w.heap.size]? = some (.cells (blkA 0 zBs) 25 (0, 0))) := by
      unfold Hid; rw [setRow_other _ _ _ _ (by omega)]; exact kb (bel1 _) HR2.out
    have HG3 : Hid (((w2.alloc (.cells (blkA 0 zBs) 25)).setRow w2.heap.size (blkA 5 zBs)).heap[w2.heap.size]? = some (.cells (blkA 5 (pad [])) 25 (0, 0))) := setRow_blk h3
    have HB3 := Lib.hid (below_setRow (keepB HB2.out (bel1 (.cells (blkA 0 zBs) 25))) (Nat.le_of_lt hw2) (blkA 5 zBs))
    go_upto_region 4 with (first
      | (refine wpList_allocB rfl rfl ?_)
      | (refine wpList_buildBk rfl (.const (.int .i64 5)) 5 rfl rfl ?_)
      | (refine wpList_storeB rfl (.tmp 4) (.tmp 11) rfl w2.heap.size rfl 5 0 zBs zBs rfl zBs_len zBs_len h3 ?_))
    clear h3 HR2 HB2
    generalize (w2.alloc (.cells (blkA 0 zBs) 25)).setRow w2.heap.size (blkA 5 zBs) = w3 at *
    generalize w2.heap.size = r at *
    go_wp2_with fail
    go_loopw [14] (fun i wr => ∃ j : Nat, j ≤ 16 ∧ i = .int .i64 j ∧ Hid (wr.heap[r]? = some (.cells (blkA 5 (pad (encL (l.take j)))) 25 (0, 0))) ∧ Hid (wr.heap[w.heap.size]? = some (.cells (blkA 0 zBs) 25 (0, 0))) ∧ Hid (Below w.heap.size w wr)) (fun i _ => (16 - intOf i).toNat)
    case atStart => exact ⟨0, by omega, rfl, by rw [List.take_zero]; exact HG3, HR3, HB3⟩
    case round =>
      obtain ⟨j, hj, rfl, HG, HR, HB⟩ := hrel
      clear HG3 HR3 HB3
      by_cases hlt : j < 16
      · obtain ⟨x, hx⟩ : ∃ x, l[j]? = some x := ⟨_, List.getElem?_eq_getElem (by rw [HN.out]; exact hlt)⟩
        obtain ⟨ad, rfl, hc⟩ := HY.out j x hx
        have hc0 := keepC HB.out hc
        have hrg := HRG.out j x hx
        have hel : (encL (l.take j)).length = j * 2 := by rw [encL_length, List.length_take, HN.out, Nat.min_eq_left (by omega)]
        have hsl : ∀ W, (Instr.sliceAt 23 (.pointer (some ⟨r, 1, none⟩)) (some (.int .i64 ((j : Int) * 2))) none none).run Try.prog W = .ok (.slice (some ⟨r, 1 + j * 2, none⟩) (56 - j * 2) (56 - j * 2)) W := fun W => by
          have h := run_sliceAt56 r (m := j * 2) (by omega) W
          rwa [Int.natCast_mul] at h
        have hp1 := pad_set (ys := encL (l.take j)) (y := 0) (by omega)
        have hp2 := pad_set (ys := encL (l.take j) ++ [0]) (y := x + 1) (by rw [List.length_append, hel]; simp; omega)
        rw [hel] at hp1
        rw [List.length_append, hel, List.length_singleton, List.append_assoc] at hp2
        have hnx : encL (l.take (j + 1)) = encL (l.take j) ++ ([0] ++ [x + 1]) := by rw [take_snoc' hx, encL_snoc]; rfl
        have hg1 := heap_setCell_same' (i := 1 + j * 2) HG.out (.int .u8 0)
        rw [blkA_setB, hp1] at hg1
        have hg2 := heap_setCell_same' (i := 1 + j * 2 + 1) hg1 (.int .u8 (x + 1))
        rw [Nat.add_assoc, blkA_setB, hp2, ← hnx] at hg2
        have HG2 := Lib.hid hg2
        have HR2 : Hid (((wr.setCell ⟨r, 1 + j * 2, none⟩ (.int .u8 0)).setCell ⟨r, 1 + (j * 2 + 1), none⟩ (.int .u8 (x + 1))).heap[w.heap.size]? = some (.cells (blkA 0 zBs) 25 (0, 0))) := by
          unfold Hid; rw [heap_setCell_other _ _ _ _ (show w.heap.size ≠ r by omega), heap_setCell_other _ _ _ _ (show w.heap.size ≠ r by omega)]; exact HR.out
        have HB2 := Lib.hid ((HB.out.setCell (p := ⟨r, 1 + j * 2, none⟩) (Nat.le_of_lt hw2) (.int .u8 0)).setCell (p := ⟨r, 1 + (j * 2 + 1), none⟩) (Nat.le_of_lt hw2) (.int .u8 (x + 1)))
        have cx : ∀ i, i < 56 → ∃ u, wr.cell? ⟨r, 1 + i, none⟩ = some u := fun i hi => by
          have hp := pad_len (ys := encL (l.take j)) (by omega)
          exact ⟨_, (blk_cell HG.out _).trans (Array.getElem?_eq_getElem (by rw [blkA_size hp]; omega))⟩
        obtain ⟨u1, hu1⟩ := cx (j * 2) (by omega)
        obtain ⟨u2, hu2⟩ := cx (j * 2 + 1) (by omega)
        have HPP := Lib.hid (putplace_any x hrg r (1 + j * 2) (56 - j * 2) (56 - j * 2) u1 u2 wr (by omega) hu1 (by rw [Nat.add_assoc]; exact hu2) (fun i => blk_free HG.out i))
        clear hp1 hp2 hnx hg1 hg2 cx hu1 hu2 hel hx hc hrg
        go_wp2_with fail
        refine HPP.out.mono ?_
        rintro e w4 ⟨rfl, rfl⟩
        rw [Nat.add_assoc]
        generalize (wr.setCell ⟨r, 1 + j * 2, none⟩ (.int .u8 0)).setCell ⟨r, 1 + (j * 2 + 1), none⟩ (.int .u8 (x + 1)) = w5 at *
        go_wp2_with fail
        go_roundw
        case rel => exact ⟨j + 1, by omega, by go_num, HG2.out, HR2.out, HB2.out⟩
        case measure => simp [intOf]; omega
      · obtain rfl : j = 16 := by omega
        have e : l.take 16 = l := List.take_of_length_le (by rw [HN.out]; omega)
        rw [e] at HG
        have HL := Lib.hid (pad_len (ys := encL l) (by rw [encL_length, HN.out]; omega))
        clear e
        go_wp2_with (first
          | (refine wpList_loadB rfl (.tmp 4) rfl r rfl 5 (pad (encL l)) HL.out HG.out ?_)
          | (refine wpList_storeB rfl (.tmp 2) (.tmp 26) rfl w.heap.size rfl 5 0 (pad (encL l)) zBs rfl HL.out zBs_len HR.out ?_))
        refine bodyPost_ret (results_blk rfl _ _ w.heap.size 5 (pad (encL l)) rfl HL.out (setRow_blk HR.out)) rfl ?_
        exact ⟨rfl, below_setRow HB.out (Nat.le_refl _) _⟩
end Go.Proofs.Ythkohckofodmnaa
