/- Contracts: slices.Index, slices.Contains of ints; node.placesMay, targetMay; the reference's MayTarget. -/
import Derived.Test.YtebahdiiokfkfaaGb
namespace Go.Proofs.Ytebahdiiokfkfaa
open Go.ChangeShapes Go.WideShapes Go.ChangeAt Go.RowKit
set_option linter.unusedVariables false
theorem index_any (A : Option Addr) (xs : List Int) (n c : Nat) (v : Int) (w : World) (hn : xs.length = n) (hl : n ≤ 100) (hy : Nts w A xs) :
    Calls Try.prog 28 #[.slice A n c, .int .i64 v] w fun e w' => ∃ r : Int, e = .returned (.int .i64 r) ∧ (0 ≤ r ↔ v ∈ xs) ∧ w = w' := by
  have HY := Lib.hid hy
  have HN := Lib.hid hn
  clear hn hy
  go_enter Try.func28, Try.ntmps28
  go_wp2
  go_loop [8] (fun i => ∃ k : Nat, k ≤ n ∧ i = .int .i64 k ∧ v ∉ xs.take k) (fun i => n - (intOf i).toNat)
  case atStart => exact ⟨0, Nat.zero_le _, rfl, by simp⟩
  case round =>
    obtain ⟨k, hk, rfl, hno⟩ := hrel
    have HO := Lib.hid hno
    clear hno
    by_cases hlt : k < n
    · obtain ⟨x, hx⟩ : ∃ x, xs[k]? = some x := ⟨_, List.getElem?_eq_getElem (by rw [HN.out]; exact hlt)⟩
      obtain ⟨ad, rfl, hc0⟩ := HY.out k x hx
      have HX := Lib.hid hx
      clear hx
      by_cases hv : v = x
      · go_wp2
        go_ret
        refine ⟨k, rfl, ?_, rfl⟩
        have := List.mem_of_getElem? HX.out; exact ⟨fun _ => by simpa [hv] using this, fun _ => by omega⟩
      · go_wp2
        go_round
        case rel =>
          refine ⟨k + 1, by omega, by go_num, ?_⟩
          rw [take_snoc' HX.out]
          simp only [List.mem_append, List.mem_singleton]
          rintro (h | h)
          · exact HO.out h
          · exact hv h
        case measure => simp [intOf]; omega
    · go_wp2
      go_ret
      refine ⟨-1, rfl, ?_, rfl⟩
      have h := HO.out
      rw [List.take_of_length_le (by rw [HN.out]; omega)] at h
      exact ⟨fun h1 => absurd h1 (by omega), fun h1 => absurd h1 h⟩
theorem contains_any (A : Option Addr) (xs : List Int) (n c : Nat) (v : Int) (w : World) (hn : xs.length = n) (hl : n ≤ 100) (hy : Nts w A xs) :
    Calls Try.prog 27 #[.slice A n c, .int .i64 v] w fun e w' => e = .returned (.bool (decide (v ∈ xs))) ∧ w = w' := by
  have HI := Lib.hid (index_any A xs n c v w hn hl hy)
  clear hn hy
  go_enter Try.func27, Try.ntmps27
  go_wp2_with fail
  refine HI.out.mono ?_
  rintro e w1 ⟨r, rfl, hr, rfl⟩
  go_wp2_with fail
  go_ret
  exact ⟨ret_bool (by simp), rfl⟩
/-- May a place be? -/
def plAt (ps : List Int) (i : Nat) : Prop := ps.getD i 0 = -1 ∨ ((1 ≤ ps.getD i 0 ∧ ps.getD i 0 < 200) ∧ ps.getD i 0 ∉ ps.take i)
instance (ps : List Int) (i : Nat) : Decidable (plAt ps i) := by unfold plAt; infer_instance
def PlM (ps : List Int) : Prop := ∀ i, i < 5 → plAt ps i
instance (ps : List Int) : Decidable (PlM ps) := by unfold PlM; infer_instance
theorem plA_at (n : Nd) {k : Nat} (h : k < 5) : (plA n)[k]? = some (.int .i64 (n.ps.getD k 0)) := by
  match k, h with
  | 0, _ => rfl
  | 1, _ => rfl
  | 2, _ => rfl
  | 3, _ => rfl
  | 4, _ => rfl
theorem run_index5 (n : Nd) {k : Nat} (h : k < 5) (w : World) : (Instr.index 41 (.agg (plA n)) (.int .i64 k)).run Try.prog w = .ok (.int .i64 (n.ps.getD k 0)) w := by
  have u3 := Try.underlying3
  have a3 := Try.isAgg3
  have z3 := Try.sizeOf3
  have u5 := Try.underlying41
  have hx := plA_at n h
  have hk : (0 : Int) ≤ k ∧ (k : Int) < 5 := by omega
  simp [Instr.index, run_underlying u5, asIntOf, part, a3, z3, h, hx]
theorem run_indexS (t : List Int) (ht : AllB t) {k : Nat} {y : Int} (h : t[k]? = some y) (w : World) : (Instr.index 9 (.string (strOfNums t)) (.int .i64 k)).run Try.prog w = .ok (.int .u8 y) w := by
  have hk := (List.getElem?_eq_some_iff.1 h).1
  have hy := ht y (List.mem_of_getElem? h)
  rw [run_index_string w _ _ _ _ Try.underlying9, dif_pos ⟨by omega, by rw [strOfNums_size]; omega⟩]
  congr 2
  have e1 : (strOfNums t).data.toList[k]? = some (UInt8.ofNat y.toNat) := by rw [strOfNums_data, List.getElem?_map, h]; rfl
  have hs : k < (strOfNums t).data.size := by
    have := strOfNums_size t
    show k < (strOfNums t).size
    omega
  have e2 : (strOfNums t).data[k]'hs = UInt8.ofNat y.toNat := by
    rw [Array.getElem?_toList, Array.getElem?_eq_getElem hs] at e1
    injection e1
  show (((strOfNums t).data[(k : Int).toNat]'_).toNat : Int) = y
  simp only [Int.toNat_natCast]
  rw [e2, UInt8.toNat_ofNat']
  omega
theorem run_sliceAt5 (p : Nat) {k : Nat} (h : k ≤ 5) (w : World) : (Instr.sliceAt 41 (.pointer (some ⟨p, 0, none⟩)) none (some (.int .i64 k)) none).run Try.prog w = .ok (.slice (some ⟨p, 0, none⟩) k 5) w := by
  have z3 := Try.sizeOf3
  have e1 : Try.prog.arrayLen 41 = 5 := by kernel_rfl
  have e2 : Try.prog.elem 41 = 3 := by kernel_rfl
  have e3 : Try.prog.underlying 41 = some (.array (Try.prog.arrayLen 41) (Try.prog.elem 41)) := by kernel_rfl
  rw [run_sliceAt_array_h w 41 _ e3 .i64 (k : Int) (by omega) (by rw [e1]; omega), e1, e2]
  simp [z3, slicedAt, add_at]
theorem placesmay_any (n : Nd) (w : World) : Calls Try.prog 20 #[.agg (plA n)] w fun e w' => e = .returned (.bool (decide (PlM n.ps))) ∧ Below w.heap.size w w' := by
  have HP := Lib.hid (heap_alloc_new w (Obj.cells (plA n) 41))
  have HB := Lib.hid (bel1 (w := w) (Obj.cells (plA n) 41))
  go_enter Try.func20, Try.ntmps20
  go_upto_region 1 with fail
  generalize w.alloc (Obj.cells (plA n) 41) = W at *
  go_wp2_with (refine wpList_load_row rfl 41 (.tmp 1) rfl w.heap.size rfl _ _ _ _ HP.out Try.underlying41 rfl size5 ?_)
  go_loop [6] (fun i => ∃ k : Nat, k ≤ 5 ∧ i = .int .i64 k ∧ ∀ j, j < k → plAt n.ps j) (fun i => 5 - (intOf i).toNat)
  case atStart => exact ⟨0, Nat.zero_le _, rfl, fun j hj => absurd hj (by omega)⟩
  case round =>
    obtain ⟨k, hk, rfl, hno⟩ := hrel
    have HO := Lib.hid hno
    clear hno
    by_cases hlt : k < 5
    · have hx := run_index5 n hlt W
      have hsl := run_sliceAt5 w.heap.size hk W
      have HE : Hid (plAt n.ps k ↔ (n.ps.getD k 0 = -1 ∨ ((1 ≤ n.ps.getD k 0 ∧ n.ps.getD k 0 < 200) ∧ n.ps.getD k 0 ∉ n.ps.take k))) := Iff.rfl
      have HY : Hid (Nts W (some ⟨w.heap.size, 0, none⟩) (n.ps.take k)) := fun i x hi => by
        rw [List.getElem?_take] at hi
        split at hi
        · refine ⟨_, rfl, ?_⟩
          rw [add_at, blk_cell HP.out, plA_at n (by omega)]
          rw [List.getD, hi]; rfl
        · cases hi
      have HL : Hid ((n.ps.take k).length = k) := by unfold Hid; rw [List.length_take]; exact Nat.min_eq_left (show k ≤ 5 by omega)
      have HC := Lib.hid (fun (v : Int) c => contains_any (some ⟨w.heap.size, 0, none⟩) (n.ps.take k) k c v W HL.out (by omega) HY.out)
      have HNM : Hid (plAt n.ps k → ∀ j, j < k + 1 → plAt n.ps j) := fun h j hj => by
        rcases Nat.lt_or_ge j k with h1 | h1
        · exact HO.out j h1
        · obtain rfl : j = k := by omega
          exact h
      have HNO : Hid (¬ plAt n.ps k → decide (PlM n.ps) = false) := fun h => decide_eq_false fun hp => h (hp k hlt)
      generalize n.ps.getD k 0 = x at *
      generalize n.ps.take k = xs at *
      generalize plAt n.ps k = PK at *
      by_cases h1 : x = -1
      · go_wp2
        go_round
        case rel => exact ⟨k + 1, by omega, by go_num, HNM.out (HE.out.2 (Or.inl h1))⟩
        case measure => simp [intOf]; omega
      · by_cases h2 : x < 1
        · have HF := Lib.hid (HNO.out fun h => by have := HE.out.1 h; omega)
          go_wp2
          go_ret
          exact ⟨ret_bool HF.out.symm, HB.out⟩
        · by_cases h3 : 200 ≤ x
          · have HF := Lib.hid (HNO.out fun h => by have := HE.out.1 h; omega)
            go_wp2
            go_ret
            exact ⟨ret_bool HF.out.symm, HB.out⟩
          · by_cases h4 : x ∈ xs
            · have HF := Lib.hid (HNO.out fun h => by
                rcases HE.out.1 h with h5 | h5
                · exact h1 h5
                · exact h5.2 h4)
              have HT := Lib.hid (decide_eq_true h4)
              clear h4
              go_wp2_with fail
              refine (HC.out _ _).mono ?_
              rintro e w1 ⟨rfl, rfl⟩
              rw [HT.out]
              go_wp2
              go_ret
              exact ⟨ret_bool HF.out.symm, HB.out⟩
            · have HF := Lib.hid (HNM.out (HE.out.2 (Or.inr ⟨by omega, h4⟩)))
              have HT := Lib.hid (decide_eq_false h4)
              clear h4
              go_wp2_with fail
              refine (HC.out _ _).mono ?_
              rintro e w1 ⟨rfl, rfl⟩
              rw [HT.out]
              go_wp2
              go_round
              case rel => exact ⟨k + 1, by omega, by go_num, HF.out⟩
              case measure => simp [intOf]; omega
    · have HD : Hid (decide (PlM n.ps) = true) := decide_eq_true fun i hi => HO.out i (by omega)
      go_wp2
      go_ret
      exact ⟨ret_bool HD.out.symm, HB.out⟩
/-- May a target be? -/
def tgAt (t : List Int) (i : Nat) : Prop := 33 ≤ t.getD i 0 ∧ t.getD i 0 ≤ 126
instance (t : List Int) (i : Nat) : Decidable (tgAt t i) := by unfold tgAt; infer_instance
def TgM (t : List Int) : Prop := (1 ≤ t.length ∧ t.length ≤ 32) ∧ ∀ i, i < t.length → tgAt t i
instance (t : List Int) : Decidable (TgM t) := by unfold TgM; infer_instance
theorem targetmay_any (t : List Int) (w : World) (ht : AllB t) : Calls Try.prog 21 #[.string (strOfNums t)] w fun e w' => e = .returned (.bool (decide (TgM t))) ∧ w = w' := by
  have hS := strOfNums_size t
  have HI := Lib.hid (fun k y h w => run_indexS t ht (k := k) (y := y) h w)
  have HN1 : Hid (¬ (1 ≤ t.length ∧ t.length ≤ 32) → decide (TgM t) = false) := fun h => decide_eq_false fun hp => h hp.1
  have HN2 : Hid (∀ i, i < t.length → ¬ tgAt t i → decide (TgM t) = false) := fun i hi h => decide_eq_false fun hp => h (hp.2 i hi)
  have HY : Hid ((1 ≤ t.length ∧ t.length ≤ 32) → (∀ i, i < t.length → tgAt t i) → decide (TgM t) = true) := fun h1 h2 => decide_eq_true ⟨h1, h2⟩
  have HX : Hid (∀ k, k < t.length → ∃ y, t[k]? = some y ∧ t.getD k 0 = y) := fun k hk => ⟨t[k], List.getElem?_eq_getElem hk, by rw [List.getD, List.getElem?_eq_getElem hk]; rfl⟩
  generalize strOfNums t = S at *
  generalize hm : t.length = m at *
  clear hm
  generalize decide (TgM t) = D at *
  by_cases h1 : m < 1
  · have HD := Lib.hid (HN1.out (by omega))
    go_enter Try.func21, Try.ntmps21
    go_wp2
    go_ret
    exact ⟨ret_bool HD.out.symm, rfl⟩
  · by_cases h2 : 32 < m
    · have HD := Lib.hid (HN1.out (by omega))
      go_enter Try.func21, Try.ntmps21
      go_wp2
      go_ret
      exact ⟨ret_bool HD.out.symm, rfl⟩
    · have HYY := Lib.hid (HY.out (by omega))
      clear HY HN1
      go_enter Try.func21, Try.ntmps21
      go_wp2
      go_loop [14] (fun i => ∃ k : Nat, k ≤ m ∧ i = .int .i64 k ∧ ∀ j, j < k → tgAt t j) (fun i => m - (intOf i).toNat)
      case atStart => exact ⟨0, Nat.zero_le _, rfl, fun j hj => absurd hj (by omega)⟩
      case round =>
        obtain ⟨k, hk, rfl, hno⟩ := hrel
        have HO := Lib.hid hno
        clear hno
        by_cases hlt : k < m
        · obtain ⟨y, hy, hyd⟩ := HX.out k hlt
          have hix := fun w => HI.out k y hy w
          have HE : Hid (tgAt t k ↔ (33 ≤ y ∧ y ≤ 126)) := by unfold Hid tgAt; rw [hyd]
          have HNO := Lib.hid (HN2.out k hlt)
          clear hy hyd
          by_cases h3 : y < 33
          · have HF := Lib.hid (HNO.out fun h => by have := HE.out.1 h; omega)
            go_wp2
            go_ret
            exact ⟨ret_bool HF.out.symm, rfl⟩
          · by_cases h4 : 126 < y
            · have HF := Lib.hid (HNO.out fun h => by have := HE.out.1 h; omega)
              go_wp2
              go_ret
              exact ⟨ret_bool HF.out.symm, rfl⟩
            · have HF : Hid (∀ j, j < k + 1 → tgAt t j) := fun j hj => by
                rcases Nat.lt_or_ge j k with h5 | h5
                · exact HO.out j h5
                · obtain rfl : j = k := by omega
                  exact HE.out.2 (by omega)
              go_wp2
              go_round
              case rel => exact ⟨k + 1, by omega, by go_num, HF.out⟩
              case measure => simp [intOf]; omega
        · have HF := Lib.hid (HYY.out fun i hi => HO.out i (by omega))
          go_wp2
          go_ret
          exact ⟨ret_bool HF.out.symm, rfl⟩
theorem maytarget_any (t : List Int) (w : World) (ht : AllB t) (hl : t.length ≤ 100) : Calls Try.prog 24 #[.string (strOfNums t)] w fun e w' => e = .returned (.bool (decide (TgM t))) ∧ w = w' := by
  have hS := strOfNums_size t
  have HI := Lib.hid (fun k y h w => run_indexS t ht (k := k) (y := y) h w)
  have HN1 : Hid (¬ (1 ≤ t.length ∧ t.length ≤ 32) → decide (TgM t) = false) := fun h => decide_eq_false fun hp => h hp.1
  have HN2 : Hid (∀ i, i < t.length → ¬ tgAt t i → decide (TgM t) = false) := fun i hi h => decide_eq_false fun hp => h (hp.2 i hi)
  have HY : Hid ((1 ≤ t.length ∧ t.length ≤ 32) → (∀ i, i < t.length → tgAt t i) → decide (TgM t) = true) := fun h1 h2 => decide_eq_true ⟨h1, h2⟩
  have HX : Hid (∀ k, k < t.length → ∃ y, t[k]? = some y ∧ t.getD k 0 = y) := fun k hk => ⟨t[k], List.getElem?_eq_getElem hk, by rw [List.getD, List.getElem?_eq_getElem hk]; rfl⟩
  generalize strOfNums t = S at *
  generalize hm : t.length = m at *
  clear hm
  generalize decide (TgM t) = D at *
  go_enter Try.func24, Try.ntmps24
  go_wp2
  go_loop [3] (fun i => ∃ k : Nat, k ≤ m ∧ i = .int .i64 k ∧ ∀ j, j < k → tgAt t j) (fun i => m - (intOf i).toNat)
  case atStart => exact ⟨0, Nat.zero_le _, rfl, fun j hj => absurd hj (by omega)⟩
  case round =>
    obtain ⟨k, hk, rfl, hno⟩ := hrel
    have HO := Lib.hid hno
    clear hno
    by_cases hlt : k < m
    · obtain ⟨y, hy, hyd⟩ := HX.out k hlt
      have hix := fun w => HI.out k y hy w
      have HE : Hid (tgAt t k ↔ (33 ≤ y ∧ y ≤ 126)) := by unfold Hid tgAt; rw [hyd]
      have HNO := Lib.hid (HN2.out k hlt)
      clear hy hyd
      by_cases h3 : y < 33
      · have HF := Lib.hid (HNO.out fun h => by have := HE.out.1 h; omega)
        go_wp2
        go_ret
        exact ⟨ret_bool HF.out.symm, rfl⟩
      · by_cases h4 : 126 < y
        · have HF := Lib.hid (HNO.out fun h => by have := HE.out.1 h; omega)
          go_wp2
          go_ret
          exact ⟨ret_bool HF.out.symm, rfl⟩
        · have HF : Hid (∀ j, j < k + 1 → tgAt t j) := fun j hj => by
            rcases Nat.lt_or_ge j k with h5 | h5
            · exact HO.out j h5
            · obtain rfl : j = k := by omega
              exact HE.out.2 (by omega)
          go_wp2
          go_round
          case rel => exact ⟨k + 1, by omega, by go_num, HF.out⟩
          case measure => simp [intOf]; omega
    · have HF := Lib.hid (fun h => HY.out h fun i hi => HO.out i (by omega))
      by_cases h1 : 1 ≤ m
      · by_cases h2 : m ≤ 32
        · have HD := Lib.hid (HF.out ⟨h1, h2⟩)
          go_wp2
          go_ret
          exact ⟨ret_bool (by first | exact HD.out.symm | (rw [HD.out]; simp; omega)), rfl⟩
        · have HD := Lib.hid (HN1.out (by omega))
          go_wp2
          go_ret
          exact ⟨ret_bool (by first | exact HD.out.symm | (rw [HD.out]; simp; omega)), rfl⟩
      · have HD := Lib.hid (HN1.out (by omega))
        go_wp2
        go_ret
        exact ⟨ret_bool (by first | exact HD.out.symm | (rw [HD.out]; simp; omega)), rfl⟩
end Go.Proofs.Ytebahdiiokfkfaa
