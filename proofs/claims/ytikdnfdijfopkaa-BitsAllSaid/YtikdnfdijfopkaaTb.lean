/- Contracts of Is, Set, Clear, First. -/
import Derived.Test.YtikdnfdijfopkaaTa
namespace Go.Proofs.Ytikdnfdijfopkaa
open Go.ChangeShapes Go.WideShapes Go.ChangeAt Go.RowKit
set_option linter.unusedVariables false
set_option maxRecDepth 100000
theorem inB_yes {S : List Bool} {i : Int} (h : inB S i = true) : ∃ j : Nat, i = j ∧ j < S.length := by
  unfold inB at h; simp at h; exact ⟨i.toNat, by omega, by omega⟩
theorem inB_of {S : List Bool} {j : Nat} (h : j < S.length) : inB S (j : Int) = true := by unfold inB; simp; omega
theorem at_of {S : List Bool} {j : Nat} (h : j < S.length) : S[j]? = some (S.getD j false) := by
  rw [List.getD_eq_getElem?_getD, List.getElem?_eq_getElem h]; rfl
set_option maxHeartbeats 1600000 in
theorem is_any {w : World} {g : Nat} {S : List Bool} (h : BitsAt w g S) (i : Int) (hi : i64 i) : Calls Try.prog 12 #[.pointer (some ⟨g, 0, none⟩), .int .i64 i] w fun e w' => e = .returned (.bool (isB S i)) ∧ w = w' := by
  have HH := Lib.hid (has_any h i)
  unfold isB
  cases hb : inB S i
  · rw [hb] at HH
    clear h
    go_enter Try.func12, Try.ntmps12
    go_wp2_with fail
    refine HH.out.mono ?_; rintro e w' ⟨rfl, rfl⟩
    go_wp2_with fail
    go_ret
    exact ⟨rfl, rfl⟩
  · obtain ⟨j, rfl, hj⟩ := inB_yes hb
    rw [hb] at HH
    have hc := h.cAt (at_of hj)
    have hl := h.len
    rw [Int.toNat_natCast]
    generalize S.getD j false = b at *
    clear h hb
    go_enter Try.func12, Try.ntmps12
    go_wp2_with fail
    refine HH.out.mono ?_; rintro e w' ⟨rfl, rfl⟩
    go_wp2_with fail
    go_ret
    exact ⟨rfl, rfl⟩
set_option maxHeartbeats 1600000 in
theorem set_any {w : World} {g : Nat} {S : List Bool} (h : BitsAt w g S) (i : Int) (hi : i64 i) : Calls Try.prog 8 #[.pointer (some ⟨g, 0, none⟩), .int .i64 i] w fun e w' => e = .returned (.bool (inB S i && !isB S i)) ∧ BitsAt w' g (setB S i true) ∧ Touch (fun k => k = g) w w' := by
  have HH := Lib.hid (has_any h i)
  unfold isB setB
  cases hb : inB S i
  · rw [hb] at HH
    have H := Lib.hid h
    clear h
    go_enter Try.func8, Try.ntmps8
    go_wp2_with fail
    refine HH.out.mono ?_; rintro e w' ⟨rfl, rfl⟩
    go_wp2_with fail
    go_ret
    exact ⟨rfl, H.out, Touch.refl _ _⟩
  · obtain ⟨j, rfl, hj⟩ := inB_yes hb
    rw [hb] at HH
    have hc := h.cAt (at_of hj)
    have hl := h.len
    have hz := h.cl
    have hf := h.fz
    rw [Int.toNat_natCast]
    cases hbj : S.getD j false
    · have hj2 : S[j]? = some false := by rw [at_of hj, hbj]
      have hcs := count_set_true hj2
      have hle := List.count_le_length (a := false) (l := S)
      have H := Lib.hid (h.put hj true (c := ((S.count false : Nat) : Int) - 1) (by omega))
      rw [hbj] at hc
      have wr1 : IntKind.i64.wrap (((S.count false : Nat) : Int) - 1) = ((S.count false : Nat) : Int) - 1 := IntWalk.i64_in _ (by omega)
      generalize S.count false = cn at *
      have f1 := hf (1 + j)
      have f2 := hf 201
      have c2 : ∀ v, (w.setCell ⟨g, 1 + j, none⟩ v).cell? ⟨g, 201, none⟩ = some (.int .i64 cn) := fun v => by rw [World.cell?_setCell_other _ _ _ _ (by simp)]; exact hz
      have f3 : ∀ v, (w.setCell ⟨g, 1 + j, none⟩ v).frozen? ⟨g, 201, none⟩ = false := fun v => by simpa using f2
      clear h hb hf hcs hj2 hle hbj
      go_enter Try.func8, Try.ntmps8
      go_wp2_with fail
      refine HH.out.mono ?_; rintro e w' ⟨rfl, rfl⟩
      go_wp2_with fail
      go_ret
      exact ⟨rfl, H.out⟩
    · rw [hbj] at hc
      have H := Lib.hid h
      have hS : S.set j true = S := by
        apply List.ext_getElem?
        intro q
        by_cases e : q = j
        · subst e; rw [List.getElem?_set_self hj, at_of hj, hbj]
        · rw [List.getElem?_set_ne (fun h => e h.symm)]
      clear h hb hf hbj
      go_enter Try.func8, Try.ntmps8
      go_wp2_with fail
      refine HH.out.mono ?_; rintro e w' ⟨rfl, rfl⟩
      go_wp2_with fail
      go_ret
      exact ⟨rfl, H.out, Touch.refl _ _⟩
set_option maxHeartbeats 1600000 in
theorem clear_any {w : World} {g : Nat} {S : List Bool} (h : BitsAt w g S) (i : Int) (hi : i64 i) : Calls Try.prog 9 #[.pointer (some ⟨g, 0, none⟩), .int .i64 i] w fun e w' => e = .returned (.bool (isB S i)) ∧ BitsAt w' g (setB S i false) ∧ Touch (fun k => k = g) w w' := by
  have HH := Lib.hid (is_any h i hi)
  cases hb : isB S i
  · rw [hb] at HH
    have H : Hid (BitsAt w g (setB S i false)) := by
      unfold setB
      unfold isB at hb
      cases hb2 : inB S i
      · exact h
      · obtain ⟨j, rfl, hj⟩ := inB_yes hb2
        rw [hb2, Bool.true_and, Int.toNat_natCast] at hb
        show BitsAt _ _ (S.set (j : Int).toNat false)
        rw [Int.toNat_natCast]
        have hS : S.set j false = S := by
          apply List.ext_getElem?
          intro q
          by_cases e : q = j
          · subst e; rw [List.getElem?_set_self hj, at_of hj, hb]
          · rw [List.getElem?_set_ne (fun h => e h.symm)]
        rw [hS]; exact h
    clear h hb
    go_enter Try.func9, Try.ntmps9
    go_wp2_with fail
    refine HH.out.mono ?_; rintro e w' ⟨rfl, rfl⟩
    go_wp2_with fail
    go_ret
    exact ⟨rfl, H.out, Touch.refl _ _⟩
  · rw [hb] at HH
    unfold setB
    unfold isB at hb
    rw [Bool.and_eq_true] at hb
    obtain ⟨hb, hbj⟩ := hb
    obtain ⟨j, rfl, hj⟩ := inB_yes hb
    rw [if_pos hb]
    rw [Int.toNat_natCast] at hbj ⊢
    have hc := h.cAt (at_of hj)
    have hl := h.len
    have hz := h.cl
    have hf := h.fz
    have hj2 : S[j]? = some true := by rw [at_of hj, hbj]
    have hcs := count_set_false hj2
    have hle := List.count_le_length (a := false) (l := S)
    have H := Lib.hid (h.put hj false (c := ((S.count false : Nat) : Int) + 1) (by omega))
    rw [hbj] at hc
    have wr1 : IntKind.i64.wrap (((S.count false : Nat) : Int) + 1) = ((S.count false : Nat) : Int) + 1 := IntWalk.i64_in _ (by omega)
    generalize S.count false = cn at *
    have f1 := hf (1 + j)
    have f2 := hf 201
    have c2 : ∀ v, (w.setCell ⟨g, 1 + j, none⟩ v).cell? ⟨g, 201, none⟩ = some (.int .i64 cn) := fun v => by rw [World.cell?_setCell_other _ _ _ _ (by simp)]; exact hz
    have f3 : ∀ v, (w.setCell ⟨g, 1 + j, none⟩ v).frozen? ⟨g, 201, none⟩ = false := fun v => by simpa using f2
    clear h hb hf hcs hj2 hle hbj
    go_enter Try.func9, Try.ntmps9
    go_wp2_with fail
    refine HH.out.mono ?_; rintro e w' ⟨rfl, rfl⟩
    go_wp2_with fail
    go_ret
    exact ⟨rfl, H.out⟩
/-- The least that is not set; none: how many there are. -/
def fstB (S : List Bool) : Nat := (S.takeWhile id).length
theorem fstB_eq : ∀ {S : List Bool} {i : Nat}, (∀ j, j < i → S[j]? = some true) → (S[i]? = some false ∨ S.length = i) → fstB S = i
  | [], i, h, h2 => by
    rcases Nat.eq_zero_or_pos i with e | e
    · subst e; rfl
    · have := h 0 e; cases this
  | true :: T, i, h, h2 => by
    cases i with
    | zero => rcases h2 with h2 | h2 <;> simp at h2
    | succ i =>
      have := fstB_eq (S := T) (i := i) (fun j hj => by have := h (j + 1) (by omega); rwa [List.getElem?_cons_succ] at this) (by rcases h2 with h2 | h2; exact Or.inl (by rwa [List.getElem?_cons_succ] at h2); exact Or.inr (by simpa using h2))
      unfold fstB at this ⊢
      simp [this]
  | false :: T, i, h, h2 => by
    cases i with
    | zero => rfl
    | succ i => have := h 0 (by omega); simp at this
theorem fstB_le (S : List Bool) : fstB S ≤ S.length := by
  unfold fstB
  exact (List.takeWhile_prefix _).length_le
theorem fstB_at : ∀ {S : List Bool}, fstB S < S.length → S[fstB S]? = some false
  | [], h => by simp [fstB] at h
  | true :: T, h => by
    have := fstB_at (S := T) (by unfold fstB at h ⊢; simpa using h)
    unfold fstB at this ⊢
    simpa using this
  | false :: T, h => rfl
theorem fstB_lt : ∀ {S : List Bool} {j : Nat}, j < fstB S → S[j]? = some true
  | [], j, h => by simp [fstB] at h
  | true :: T, j, h => by
    cases j with
    | zero => rfl
    | succ j =>
      have := fstB_lt (S := T) (j := j) (by unfold fstB at h ⊢; simpa using h)
      simpa using this
  | false :: T, j, h => by simp [fstB] at h
theorem fstB_has {S : List Bool} : fstB S < S.length ↔ 0 < S.count false := by
  rw [List.count_pos_iff]
  constructor
  · intro h; exact List.mem_of_getElem? (fstB_at h)
  · intro h
    obtain ⟨i, hi⟩ := List.mem_iff_getElem?.1 h
    rcases Nat.lt_or_ge (fstB S) S.length with h1 | h1
    · exact h1
    · have hl := (List.getElem?_eq_some_iff.1 hi).1
      have := fstB_lt (S := S) (j := i) (by omega)
      rw [this] at hi; cases hi
def fstV (S : List Bool) : Value := if fstB S < S.length then .tuple #[.int .i64 (fstB S), .bool true] else .tuple #[.int .i64 0, .bool false]
set_option maxHeartbeats 1600000 in
theorem first_any {w : World} {g : Nat} {S : List Bool} (h : BitsAt w g S) : Calls Try.prog 10 #[.pointer (some ⟨g, 0, none⟩)] w fun e w' => e = .returned (fstV S) ∧ w = w' := by
  have H := Lib.hid h
  have hl := h.len
  clear h
  go_enter Try.func10, Try.ntmps10
  go_wp2
  refine wp_scope1e (fun a' w' => w = w' ∧ ∃ k : Nat, k ≤ S.length ∧ Hid (∀ j, j < k → S[j]? = some true) ∧ ∃ u5 u6 u7 u8 u9 u10 u11 u12 u13 u14 u15 u16 u17 : Value, a' = { tmps := #[.pointer (some ⟨g, 0, none⟩), undef, .int .i64 0, .bool false, .int .i64 k, u5, u6, u7, u8, u9, u10, u11, u12, u13, u14, u15, u16, u17], defers := [] })
    (fun a' _ => S.length - (intOf (a'.tmps.getD 4 undef)).toNat) rfl ?_ ?_
  · intro HF
    go_wp2
    go_step3
    rename_i hK
    exact hK _ _ (HF _ _ ⟨rfl, 0, Nat.zero_le _, (fun j hj => by omega), _, _, _, _, _, _, _, _, _, _, _, _, _, rfl⟩)
  · rintro a' W ⟨rfl, k, hk, HA, u5, u6, u7, u8, u9, u10, u11, u12, u13, u14, u15, u16, u17, rfl⟩
    have HH := Lib.hid (has_any H.out k)
    by_cases hlt : k < S.length
    · have hin := inB_of hlt
      rw [hin] at HH
      have hc := H.out.cAt (at_of hlt)
      cases hbj : S.getD k false
      · have HE := Lib.hid (fstB_eq HA.out (.inl (by rw [at_of hlt, hbj])))
        rw [hbj] at hc
        clear hbj hin
        go_wp2_with fail
        refine HH.out.mono ?_; rintro e w' ⟨rfl, rfl⟩
        go_wp2_with fail
        simp only [Exit.jump]
        go_ret2
        exact ⟨by show _ = Ending.returned (fstV S); unfold fstV; rw [HE.out, if_pos hlt]; rfl, rfl⟩
      · rw [hbj] at hc
        have HN : Hid (∀ j, j < k + 1 → S[j]? = some true) := fun j hj => by
          by_cases e : j = k
          · subst e; rw [at_of hlt, hbj]
          · exact HA.out j (by omega)
        have wk : IntKind.i64.wrap ((k : Int) + 1) = (k : Int) + 1 := IntWalk.i64_in _ (by omega)
        clear hbj hin
        go_wp2_with fail
        refine HH.out.mono ?_; rintro e w' ⟨rfl, rfl⟩
        go_wp2_with fail
        go_step3
        refine ⟨rfl, ⟨rfl, k + 1, by omega, HN, _, _, _, _, _, _, _, _, _, _, _, _, _, rfl⟩, ?_⟩
        simp [intOf]; omega
    · have hin : inB S (k : Int) = false := by unfold inB; simp; omega
      rw [hin] at HH
      have HE := Lib.hid (fstB_eq HA.out (.inr (by omega)))
      clear hin
      go_wp2_with fail
      refine HH.out.mono ?_; rintro e w' ⟨rfl, rfl⟩
      go_wp2_with fail
      simp only [Exit.jump]
      go_ret2
      exact ⟨by show _ = Ending.returned (fstV S); unfold fstV; rw [HE.out, if_neg hlt]; rfl, rfl⟩
theorem is_nil (i : Int) (w : World) : Calls Try.prog 12 #[.pointer none, .int .i64 i] w fun e w' => e = .returned (.bool false) ∧ w = w' := by
  go_enter Try.func12, Try.ntmps12
  go_wp2_with fail
  refine (has_nil i w).mono ?_; rintro e w' ⟨rfl, rfl⟩
  go_wp2_with fail
  go_ret
  exact ⟨rfl, rfl⟩
theorem set_nil (i : Int) (w : World) : Calls Try.prog 8 #[.pointer none, .int .i64 i] w fun e w' => e = .returned (.bool false) ∧ w = w' := by
  go_enter Try.func8, Try.ntmps8
  go_wp2_with fail
  refine (has_nil i w).mono ?_; rintro e w' ⟨rfl, rfl⟩
  go_wp2_with fail
  go_ret
  exact ⟨rfl, rfl⟩
theorem clear_nil (i : Int) (w : World) : Calls Try.prog 9 #[.pointer none, .int .i64 i] w fun e w' => e = .returned (.bool false) ∧ w = w' := by
  go_enter Try.func9, Try.ntmps9
  go_wp2_with fail
  refine (is_nil i w).mono ?_; rintro e w' ⟨rfl, rfl⟩
  go_wp2_with fail
  go_ret
  exact ⟨rfl, rfl⟩
theorem first_nil (w : World) : Calls Try.prog 10 #[.pointer none] w fun e w' => e = .returned (.tuple #[.int .i64 0, .bool false]) ∧ w = w' := by
  go_enter Try.func10, Try.ntmps10
  go_wp2
  refine wp_scope1e (fun a' w' => w = w' ∧ a' = { tmps := #[.pointer none, undef, .int .i64 0, .bool false, .int .i64 0, undef, undef, undef, undef, undef, undef, undef, undef, undef, undef, undef, undef, undef], defers := [] })
    (fun a' _ => 0) rfl ?_ ?_
  · intro HF
    go_wp2
    go_step3
    rename_i hK
    exact hK _ _ (HF _ _ ⟨rfl, rfl⟩)
  · rintro a' W ⟨rfl, rfl⟩
    go_wp2_with fail
    refine (has_nil 0 w).mono ?_; rintro e w' ⟨rfl, rfl⟩
    go_wp2_with fail
    simp only [Exit.jump]
    go_ret2
    exact ⟨rfl, rfl⟩
theorem BitsAt.next {w0 w w' : World} {g : Nat} {S : List Bool} (hb : Below w0.heap.size w0 w) (hg : w0.heap.size ≤ g) (ht : Touch (fun k => k = g) w w') : Below w0.heap.size w0 w' :=
  hb.trans (ht.below hb.size (fun k hk => by omega))
set_option maxHeartbeats 1600000 in
theorem begun_any (w : World) : Calls Try.prog 6 #[] w fun e w' => e = .returned (.bool true) ∧ Below w.heap.size w w' := by
  go_enter Try.func6, Try.ntmps6
  go_wp2_with fail
  refine (new_any 2 (by constructor <;> omega) w).mono ?_
  rintro e w1 ⟨g, rfl, hg, h1, hb1⟩
  have HG : Hid (w.heap.size ≤ g) := by unfold Hid; omega
  have H1 : Hid (BitsAt w1 g [false, false]) := h1
  have HB1 := Lib.hid hb1
  clear hg h1 hb1
  go_wp2_with fail
  refine (set_any H1.out 0 (by constructor <;> omega)).mono ?_
  rintro e w2 ⟨rfl, h2, ht2⟩
  have H2 : Hid (BitsAt w2 g [true, false]) := h2
  have HB2 := Lib.hid (BitsAt.next (S := []) HB1.out HG.out ht2)
  clear h2 ht2 H1 HB1
  go_wp2_with fail
  refine (first_any H2.out).mono ?_; rintro e w' ⟨rfl, rfl⟩
  rw [show fstV [true, false] = .tuple #[.int .i64 1, .bool true] from rfl]
  go_wp2_with fail
  refine (set_any H2.out 0 (by constructor <;> omega)).mono ?_
  rintro e w3 ⟨rfl, h3, ht3⟩
  have H3 : Hid (BitsAt w3 g [true, false]) := h3
  have HB3 := Lib.hid (BitsAt.next (S := []) HB2.out HG.out ht3)
  clear h3 ht3 H2 HB2
  rw [show (inB [true, false] 0 && !isB [true, false] 0) = false from rfl]
  go_wp2_with fail
  refine (is_any H3.out 0 (by constructor <;> omega)).mono ?_; rintro e w' ⟨rfl, rfl⟩
  rw [show isB [true, false] 0 = true from rfl]
  go_wp2_with fail
  refine (left_any H3.out).mono ?_; rintro e w' ⟨rfl, rfl⟩
  rw [show ([true, false].count false) = 1 from rfl]
  go_wp2_with fail
  refine (clear_any H3.out 0 (by constructor <;> omega)).mono ?_
  rintro e w4 ⟨rfl, h4, ht4⟩
  have H4 : Hid (BitsAt w4 g [false, false]) := h4
  have HB4 := Lib.hid (BitsAt.next (S := []) HB3.out HG.out ht4)
  clear h4 ht4 H3 HB3
  rw [show isB [true, false] 0 = true from rfl]
  go_wp2_with fail
  refine (clear_any H4.out 0 (by constructor <;> omega)).mono ?_
  rintro e w5 ⟨rfl, h5, ht5⟩
  have HB5 := Lib.hid (BitsAt.next (S := []) HB4.out HG.out ht5)
  clear h5 ht5 H4 HB4
  rw [show isB [false, false] 0 = false from rfl]
  go_wp2_with fail
  go_ret
  exact ⟨rfl, HB5.out⟩
end Go.Proofs.Ytikdnfdijfopkaa
