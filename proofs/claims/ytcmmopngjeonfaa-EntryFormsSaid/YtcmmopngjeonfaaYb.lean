/- Contracts: entry.MayName, the reference's MayName, mayAt. -/
import Derived.Test.YtcmmopngjeonfaaYa
namespace Go.Proofs.Ytcmmopngjeonfaa
open Go.ChangeShapes Go.WideShapes Go.ChangeAt Go.RowKit
set_option linter.unusedVariables false
/-- May a name be? -/
def nmAt (t : List Int) (i : Nat) : Prop := (33 ≤ t.getD i 0 ∧ t.getD i 0 ≤ 126) ∧ t.getD i 0 ≠ 47
instance (t : List Int) (i : Nat) : Decidable (nmAt t i) := by unfold nmAt; infer_instance
def NmM (t : List Int) : Prop := ((1 ≤ t.length ∧ t.length ≤ 14) ∧ t ≠ [46] ∧ t ≠ [46, 46]) ∧ ∀ i, i < t.length → nmAt t i
instance (t : List Int) : Decidable (NmM t) := by unfold NmM; infer_instance
theorem str_dot {t : List Int} (h : AllB t) : ((strOfNums t).toList == ([46] : List UInt8)) = decide (t = [46]) := by
  have e : (strOfNums [46]).toList = ([46] : List UInt8) := by rw [strOfNums_toList]; rfl
  rw [← e]; exact str_beq h (fun x hx => by rw [List.mem_singleton] at hx; subst hx; decide)
theorem str_dots {t : List Int} (h : AllB t) : ((strOfNums t).toList == ([46, 46] : List UInt8)) = decide (t = [46, 46]) := by
  have e : (strOfNums [46, 46]).toList = ([46, 46] : List UInt8) := by rw [strOfNums_toList]; rfl
  rw [← e]; exact str_beq h (fun x hx => by simp at hx; subst hx; decide)
set_option maxRecDepth 100000 in
set_option maxHeartbeats 3200000 in
theorem mayname_any (t : List Int) (w : World) (ht : AllB t) : Calls Try.prog 11 #[.string (strOfNums t)] w fun e w' => e = .returned (.bool (decide (NmM t))) ∧ w = w' := by
  have hS := strOfNums_size t
  have HI := Lib.hid (fun k y h w => run_indexS t ht (k := k) (y := y) h w)
  have HN1 : Hid (¬ (1 ≤ t.length ∧ t.length ≤ 14) → decide (NmM t) = false) := fun h => decide_eq_false fun hp => h hp.1.1
  have HN2 : Hid (∀ i, i < t.length → ¬ nmAt t i → decide (NmM t) = false) := fun i hi h => decide_eq_false fun hp => h (hp.2 i hi)
  have HN3 : Hid (decide (t = [46]) = true → decide (NmM t) = false) := fun h => decide_eq_false fun hp => hp.1.2.1 (of_decide_eq_true h)
  have HN4 : Hid (decide (t = [46, 46]) = true → decide (NmM t) = false) := fun h => decide_eq_false fun hp => hp.1.2.2 (of_decide_eq_true h)
  have HY : Hid ((1 ≤ t.length ∧ t.length ≤ 14) → decide (t = [46]) = false → decide (t = [46, 46]) = false → (∀ i, i < t.length → nmAt t i) → decide (NmM t) = true) := fun h1 h2 h3 h4 => decide_eq_true ⟨⟨h1, of_decide_eq_false h2, of_decide_eq_false h3⟩, h4⟩
  have HX : Hid (∀ k, k < t.length → ∃ y, t[k]? = some y ∧ t.getD k 0 = y) := fun k hk => ⟨t[k], List.getElem?_eq_getElem hk, by rw [List.getD, List.getElem?_eq_getElem hk]; rfl⟩
  have e1 := str_dot ht
  have e2 := str_dots ht
  generalize strOfNums t = S at *
  generalize hm : t.length = m at *
  clear hm
  generalize decide (NmM t) = D at *
  generalize decide (t = [46]) = D1 at *
  generalize decide (t = [46, 46]) = D2 at *
  go_enter Try.func11, Try.ntmps11
  go_wp2
  refine wp_scope2f (fun a' w' => w = w' ∧ Hid (D = false) ∧ ∃ u0 u1 u2 u3 u4 u5 u6 u7 u8 u9 u10 u11 u12 u13 u14 u15 u16 u17 u18 u19 u20 u21 u22 u23 u24 u25 u26 u27 u28 u29 u30 u31 u32 u33 u34 u35 u36 u37 u38 u39 : Value, a' = { tmps := #[u0, u1, u2, u3, u4, u5, u6, u7, u8, u9, u10, u11, u12, u13, u14, u15, u16, u17, u18, u19, u20, u21, u22, u23, u24, u25, u26, u27, u28, u29, u30, u31, u32, u33, u34, u35, u36, u37, u38, u39], defers := [] })
    (fun a' w' => w = w' ∧ Hid (D1 = false ∧ D2 = false ∧ 1 ≤ m ∧ m ≤ 14) ∧ ∃ k : Nat, k ≤ m ∧ Hid (∀ j, j < k → nmAt t j) ∧ ∃ u1 u2 u4 u5 u6 u7 u8 u9 u10 u11 u12 u13 u14 u15 u16 u17 u18 u19 u20 u21 u22 u23 u24 u25 u26 u27 u28 u29 u30 u31 u32 u33 u34 u35 u36 u37 u38 u39 : Value, a' = { tmps := #[.string S, u1, u2, .int .i64 k, u4, u5, u6, u7, u8, u9, u10, u11, u12, u13, u14, u15, u16, u17, u18, u19, u20, u21, u22, u23, u24, u25, u26, u27, u28, u29, u30, u31, u32, u33, u34, u35, u36, u37, u38, u39], defers := [] })
    (fun a' _ => m - (intOf (a'.tmps.getD 3 undef)).toNat) rfl rfl ?_ ?_ ?_
  · intro HF
    by_cases h1 : m < 1
    · have HD := Lib.hid (HN1.out (by omega))
      go_wp2_with fail
      go_step3
      exact (show _ ∧ _ from ⟨rfl, HD, _, _, _, _, _, _, _, _, _, _, _, _, _, _, _, _, _, _, _, _, _, _, _, _, _, _, _, _, _, _, _, _, _, _, _, _, _, _, _, _, rfl⟩)
    by_cases h2 : 14 < m
    · have HD := Lib.hid (HN1.out (by omega))
      go_wp2_with fail
      go_step3
      exact (show _ ∧ _ from ⟨rfl, HD, _, _, _, _, _, _, _, _, _, _, _, _, _, _, _, _, _, _, _, _, _, _, _, _, _, _, _, _, _, _, _, _, _, _, _, _, _, _, _, _, rfl⟩)
    by_cases hd1 : D1 = true
    · have HD := Lib.hid (HN3.out hd1)
      rw [hd1] at e1
      clear hd1
      go_wp2_with fail
      go_step3
      exact (show _ ∧ _ from ⟨rfl, HD, _, _, _, _, _, _, _, _, _, _, _, _, _, _, _, _, _, _, _, _, _, _, _, _, _, _, _, _, _, _, _, _, _, _, _, _, _, _, _, _, rfl⟩)
    by_cases hd2 : D2 = true
    · have HD := Lib.hid (HN4.out hd2)
      have hd1 := Bool.eq_false_iff.2 hd1
      rw [hd2] at e2
      rw [hd1] at e1
      clear hd1 hd2
      go_wp2_with fail
      go_step3
      exact (show _ ∧ _ from ⟨rfl, HD, _, _, _, _, _, _, _, _, _, _, _, _, _, _, _, _, _, _, _, _, _, _, _, _, _, _, _, _, _, _, _, _, _, _, _, _, _, _, _, _, rfl⟩)
    have hd1 := Bool.eq_false_iff.2 hd1
    have hd2 := Bool.eq_false_iff.2 hd2
    have HC := Lib.hid (show D1 = false ∧ D2 = false ∧ 1 ≤ m ∧ m ≤ 14 from ⟨hd1, hd2, by omega, by omega⟩)
    rw [hd2] at e2
    rw [hd1] at e1
    clear hd1 hd2
    go_wp2_with fail
    go_step3
    rename_i hK
    exact hK _ _ (HF _ _ ⟨rfl, HC, 0, by omega, (fun j hj => absurd hj (by omega)), _, _, _, _, _, _, _, _, _, _, _, _, _, _, _, _, _, _, _, _, _, _, _, _, _, _, _, _, _, _, _, _, _, _, _, _, _, _, rfl⟩)
  · rintro a' W ⟨rfl, HC, k, hk, HO, u1, u2, u4, u5, u6, u7, u8, u9, u10, u11, u12, u13, u14, u15, u16, u17, u18, u19, u20, u21, u22, u23, u24, u25, u26, u27, u28, u29, u30, u31, u32, u33, u34, u35, u36, u37, u38, u39, rfl⟩
    by_cases hlt : k < m
    · obtain ⟨y, hy, hyd⟩ := HX.out k hlt
      have hix := fun w => HI.out k y hy w
      have HE : Hid (nmAt t k ↔ ((33 ≤ y ∧ y ≤ 126) ∧ y ≠ 47)) := by unfold Hid nmAt; rw [hyd]
      have HNO := Lib.hid (HN2.out k hlt)
      have hm14 : m ≤ 14 := HC.out.2.2.2
      have hkm : decide ((k : Int) = m) = false := decide_eq_false (by omega)
      have hkm2 : ((k : Int) == m) = false := by simp; omega
      clear hy hyd e1 e2
      by_cases h3 : y < 33
      · have HD := Lib.hid (HNO.out fun h => by have := HE.out.1 h; omega)
        go_wp2_with fail
        go_step3
        exact (show _ ∧ _ from ⟨rfl, HD, _, _, _, _, _, _, _, _, _, _, _, _, _, _, _, _, _, _, _, _, _, _, _, _, _, _, _, _, _, _, _, _, _, _, _, _, _, _, _, _, rfl⟩)
      · by_cases h4 : 126 < y
        · have HD := Lib.hid (HNO.out fun h => by have := HE.out.1 h; omega)
          go_wp2_with fail
          go_step3
          exact (show _ ∧ _ from ⟨rfl, HD, _, _, _, _, _, _, _, _, _, _, _, _, _, _, _, _, _, _, _, _, _, _, _, _, _, _, _, _, _, _, _, _, _, _, _, _, _, _, _, _, rfl⟩)
        · by_cases h5 : y = 47
          · have HD := Lib.hid (HNO.out fun h => by have := HE.out.1 h; omega)
            go_wp2_with fail
            go_step3
            exact (show _ ∧ _ from ⟨rfl, HD, _, _, _, _, _, _, _, _, _, _, _, _, _, _, _, _, _, _, _, _, _, _, _, _, _, _, _, _, _, _, _, _, _, _, _, _, _, _, _, _, rfl⟩)
          · have HF : Hid (∀ j, j < k + 1 → nmAt t j) := fun j hj => by
              rcases Nat.lt_or_ge j k with h6 | h6
              · exact HO.out j h6
              · obtain rfl : j = k := by omega
                exact HE.out.2 (by omega)
            have wk : IntKind.i64.wrap ((k : Int) + 1) = (k : Int) + 1 := IntWalk.i64_in _ (by omega)
            go_wp2_with fail
            go_step3
            refine (show _ ∧ _ from ⟨⟨rfl, HC, k + 1, by omega, HF, _, _, _, _, _, _, _, _, _, _, _, _, _, _, _, _, _, _, _, _, _, _, _, _, _, _, _, _, _, _, _, _, _, _, _, _, _, _, rfl⟩, ?_⟩)
            simp [intOf]; omega
    · obtain rfl : k = m := by omega
      have HD := Lib.hid (HY.out HC.out.2.2 HC.out.1 HC.out.2.1 HO.out)
      go_wp2_with fail
      try simp only [jumps]
      go_ret
      exact ⟨ret_bool HD.out.symm, rfl⟩
  · rintro a' W ⟨rfl, HD, u0, u1, u2, u3, u4, u5, u6, u7, u8, u9, u10, u11, u12, u13, u14, u15, u16, u17, u18, u19, u20, u21, u22, u23, u24, u25, u26, u27, u28, u29, u30, u31, u32, u33, u34, u35, u36, u37, u38, u39, rfl⟩
    go_wp2_with fail
    try simp only [jumps]
    go_ret
    exact ⟨ret_bool HD.out.symm, rfl⟩
set_option maxRecDepth 100000 in
set_option maxHeartbeats 3200000 in
theorem rmayname_any (t : List Int) (w : World) (ht : AllB t) (hl : t.length ≤ 100) : Calls Try.prog 12 #[.string (strOfNums t)] w fun e w' => e = .returned (.bool (decide (NmM t))) ∧ w = w' := by
  have hS := strOfNums_size t
  have HI := Lib.hid (fun k y h w => run_indexS t ht (k := k) (y := y) h w)
  have HN1 : Hid (¬ (1 ≤ t.length ∧ t.length ≤ 14) → decide (NmM t) = false) := fun h => decide_eq_false fun hp => h hp.1.1
  have HN2 : Hid (∀ i, i < t.length → ¬ nmAt t i → decide (NmM t) = false) := fun i hi h => decide_eq_false fun hp => h (hp.2 i hi)
  have HN3 : Hid (decide (t = [46]) = true → decide (NmM t) = false) := fun h => decide_eq_false fun hp => hp.1.2.1 (of_decide_eq_true h)
  have HN4 : Hid (decide (t = [46, 46]) = true → decide (NmM t) = false) := fun h => decide_eq_false fun hp => hp.1.2.2 (of_decide_eq_true h)
  have HY : Hid ((1 ≤ t.length ∧ t.length ≤ 14) → decide (t = [46]) = false → decide (t = [46, 46]) = false → (∀ i, i < t.length → nmAt t i) → decide (NmM t) = true) := fun h1 h2 h3 h4 => decide_eq_true ⟨⟨h1, of_decide_eq_false h2, of_decide_eq_false h3⟩, h4⟩
  have HX : Hid (∀ k, k < t.length → ∃ y, t[k]? = some y ∧ t.getD k 0 = y) := fun k hk => ⟨t[k], List.getElem?_eq_getElem hk, by rw [List.getD, List.getElem?_eq_getElem hk]; rfl⟩
  have e1 := str_dot ht
  have e2 := str_dots ht
  generalize strOfNums t = S at *
  generalize hm : t.length = m at *
  clear hm
  generalize decide (NmM t) = D at *
  generalize decide (t = [46]) = D1 at *
  generalize decide (t = [46, 46]) = D2 at *
  go_enter Try.func12, Try.ntmps12
  go_wp2
  go_loop [3] (fun i => ∃ k : Nat, k ≤ m ∧ i = .int .i64 k ∧ ∀ j, j < k → nmAt t j) (fun i => m - (intOf i).toNat)
  case atStart => exact ⟨0, Nat.zero_le _, rfl, fun j hj => absurd hj (by omega)⟩
  case round =>
    obtain ⟨k, hk, rfl, hno⟩ := hrel
    have HO := Lib.hid hno
    clear hno
    by_cases hlt : k < m
    · obtain ⟨y, hy, hyd⟩ := HX.out k hlt
      have hix := fun w => HI.out k y hy w
      have HE : Hid (nmAt t k ↔ ((33 ≤ y ∧ y ≤ 126) ∧ y ≠ 47)) := by unfold Hid nmAt; rw [hyd]
      have HNO := Lib.hid (HN2.out k hlt)
      clear hy hyd
      by_cases h3 : y < 33
      · have HF := Lib.hid (HNO.out fun h => by have := HE.out.1 h; omega)
        go_wp2
        go_ret
        exact ⟨ret_bool HF.out.symm, rfl⟩
      · by_cases h4 : 126 < y
        · have HF := Lib.hid (HNO.out fun h => by have := HE.out.1 h; omega)
          go_wp2
          go_ret
          exact ⟨ret_bool HF.out.symm, rfl⟩
        · by_cases h5 : y = 47
          · have HF := Lib.hid (HNO.out fun h => by have := HE.out.1 h; omega)
            go_wp2
            go_ret
            exact ⟨ret_bool HF.out.symm, rfl⟩
          · have HF : Hid (∀ j, j < k + 1 → nmAt t j) := fun j hj => by
              rcases Nat.lt_or_ge j k with h6 | h6
              · exact HO.out j h6
              · obtain rfl : j = k := by omega
                exact HE.out.2 (by omega)
            go_wp2
            go_round
            case rel => exact ⟨k + 1, by omega, by go_num, HF.out⟩
            case measure => simp [intOf]; omega
    · have HF : Hid ((1 ≤ m ∧ m ≤ 14) → D1 = false → D2 = false → D = true) := fun h1 h2 h3 => HY.out h1 h2 h3 fun i hi => HO.out i (by omega)
      by_cases h1 : 1 ≤ m
      · by_cases h2 : m ≤ 14
        · cases D1
          · cases D2
            · have HD := Lib.hid (HF.out ⟨h1, h2⟩ rfl rfl)
              go_wp2
              go_ret
              exact ⟨ret_bool (by first | exact HD.out.symm | (rw [HD.out]; simp; omega)), rfl⟩
            · have HD := Lib.hid (HN4.out rfl)
              go_wp2
              go_ret
              exact ⟨ret_bool (by first | exact HD.out.symm | (rw [HD.out]; simp; omega)), rfl⟩
          · have HD := Lib.hid (HN3.out rfl)
            go_wp2
            go_ret
            exact ⟨ret_bool (by first | exact HD.out.symm | (rw [HD.out]; simp; omega)), rfl⟩
        · have HD := Lib.hid (HN1.out (by omega))
          go_wp2
          go_ret
          exact ⟨ret_bool (by first | exact HD.out.symm | (rw [HD.out]; simp; omega)), rfl⟩
      · have HD := Lib.hid (HN1.out (by omega))
        go_wp2
        go_ret
        exact ⟨ret_bool (by first | exact HD.out.symm | (rw [HD.out]; simp; omega)), rfl⟩
end Go.Proofs.Ytcmmopngjeonfaa
