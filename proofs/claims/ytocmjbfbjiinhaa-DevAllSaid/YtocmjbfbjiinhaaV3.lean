/- Contracts: is there such a block; where it lies. -/
import Derived.Test.YtocmjbfbjiinhaaV2
import Derived.Laws.FloatArith
import Derived.Lib.Hide
namespace Go.Proofs.Ytocmjbfbjiinhaa
open Go.ChangeShapes Go.WideShapes Go.ChangeAt Go.RowKit
set_option linter.unusedVariables false
def rowLen (l : List (List (List Int))) (r : Nat) : Nat := (l.getD r []).length
def hasB (m : DM) (r i : Int) : Bool := hasR m r && (decide (0 ≤ i) && decide (i < rowLen m.now r.toNat))
theorem rowLen_of {l : List (List (List Int))} {r : Nat} {row : List (List Int)} (h : l[r]? = some row) : rowLen l r = row.length := by unfold rowLen; rw [List.getD, h]; rfl
theorem hasBlock_any {w : World} {O : Nat → DRole} {hp : Nat} {L : DLay} {m : DM} (h : DevAt w O hp L m) (r i : Int) (hr : i64 r) (hi : i64 i) :
    Calls Try.prog 41 #[.pointer (some ⟨hp, 0, none⟩), .int .i64 r, .int .i64 i] w fun e w' => e = .returned (.bool (hasB m r i)) ∧ w = w' := by
  have HH := Lib.hid h
  have HR := Lib.hid (hasRegion_any h r hr)
  by_cases hq : hasR m r = true
  · have hq' := hq
    unfold hasR at hq'
    simp only [Bool.and_eq_true, decide_eq_true_eq] at hq'
    obtain ⟨h0, h1⟩ := hq'
    obtain ⟨rn, rfl⟩ : ∃ rn : Nat, r = (rn : Int) := ⟨r.toNat, by omega⟩
    obtain ⟨row, hrow⟩ : ∃ row, m.now[rn]? = some row := ⟨_, List.getElem?_eq_getElem (by omega)⟩
    obtain ⟨g, cap, u, hv, _, _, hc, _, hra⟩ := h.now.row hrow
    obtain ⟨A, c2, rfl, k1, k2⟩ := hra.val
    have c0 := h.c0
    rw [hv] at c0
    have few := h.ok.few
    have hl := (h.ok.rows _ _ hrow).1
    have eq : hasB m rn i = (decide (0 ≤ i) && decide (i < row.length)) := by
      unfold hasB
      rw [hq, Int.toNat_natCast, rowLen_of hrow, Bool.true_and]
    rw [eq]
    rw [hq] at HR
    clear h hv hra hrow eq hq
    generalize row.length = n at *
    generalize m.now.length = R at *
    by_cases i0 : 0 ≤ i
    · have d0 : decide (0 ≤ i) = true := by simpa using i0
      by_cases i1 : i < n
      · go_enter Try.func41, Try.ntmps41
        go_wp2_with fail
        refine HR.out.mono ?_
        rintro e w' ⟨rfl, rfl⟩
        go_wp2
        go_ret
        exact ⟨ret_bool (by simp <;> omega), rfl⟩
      · go_enter Try.func41, Try.ntmps41
        go_wp2_with fail
        refine HR.out.mono ?_
        rintro e w' ⟨rfl, rfl⟩
        go_wp2
        go_ret
        exact ⟨ret_bool (by simp <;> omega), rfl⟩
    · go_enter Try.func41, Try.ntmps41
      go_wp2_with fail
      refine HR.out.mono ?_
      rintro e w' ⟨rfl, rfl⟩
      go_wp2
      go_ret
      exact ⟨ret_bool (by simp <;> omega), rfl⟩
  · have hq1 : hasR m r = false := by simpa using hq
    have eq : hasB m r i = false := by unfold hasB; rw [hq1]; rfl
    rw [eq]
    rw [hq1] at HR
    clear h eq hq hq1
    go_enter Try.func41, Try.ntmps41
    go_wp2_with fail
    refine HR.out.mono ?_
    rintro e w' ⟨rfl, rfl⟩
    go_wp2
    go_ret
    exact ⟨rfl, rfl⟩
theorem hasBlock_nil (w : World) (r i : Int) :
    Calls Try.prog 41 #[.pointer none, .int .i64 r, .int .i64 i] w fun e w' => e = .returned (.bool false) ∧ w = w' := by
  go_enter Try.func41, Try.ntmps41
  go_wp2_with fail
  refine (hasRegion_nil _ _).mono ?_
  rintro e w' ⟨rfl, rfl⟩
  go_wp2
  go_ret
  exact ⟨rfl, rfl⟩
theorem int_fb64 (n : Nat) (h : n < 2 ^ 53) : floatToIntVal .f64 (Fx.fb n) .i64 = some (n : Int) := by
  unfold floatToIntVal
  rw [Fx.toInt_fb n h]
  dsimp only
  rw [if_pos ⟨by have : IntKind.i64.min = -9223372036854775808 := rfl
                 omega, by have : IntKind.i64.max = 9223372036854775807 := rfl
                           omega⟩]
theorem eq_fb (a b : Nat) (h : a < 2 ^ 53) (h' : b < 2 ^ 53) : (FloatKind.f64.format.order (Fx.fb a) (Fx.fb b) == some .eq) = decide (a = b) := by
  rw [Fx.order_fb a b h h']
  rcases Nat.lt_trichotomy a b with g | g | g
  · rw [Nat.compare_eq_lt.2 g]; simp; omega
  · subst g; simp
  · rw [Nat.compare_eq_gt.2 g]; simp; omega
theorem fb_bar : Fx.fb 65535 = 4679239875398991872 := by rw [Fx.fb_eq 65535 (by omega)]; decide
theorem blockAt_any (w : World) (g cap n r i g' n' cap' : Nat) (hr : r < n) (hi : i < n') (hn : n ≤ 1000) (hn' : n' ≤ 1000) (hc : w.cell? ⟨g, r, none⟩ = some (.slice (some ⟨g', 0, none⟩) n' cap')) :
    Calls Try.prog 42 #[.slice (some ⟨g, 0, none⟩) n cap, .complex .f64 (Fx.fb r) (Fx.fb i)] w fun e w' => e = .returned (.pointer (some ⟨g', i * 64, none⟩)) ∧ w = w' := by
  have v1 := fun w : World => run_convert_float_int w 91 3 .f64 .i64 _ _ (P := Try.prog) (by kernel_rfl) Try.underlying3 (int_fb64 r (by omega))
  have v2 := fun w : World => run_convert_float_int w 91 3 .f64 .i64 _ _ (P := Try.prog) (by kernel_rfl) Try.underlying3 (int_fb64 i (by omega))
  go_enter Try.func42, Try.ntmps42
  go_wp2
  go_ret
  exact ⟨rfl, rfl⟩
theorem mayOne_any (w : World) (n : Int) (hn : i64 n) :
    Calls Try.prog 48 #[.int .i64 n] w fun e w' => e = .returned (.bool (decide (n < 1) || decide (1000 < n))) ∧ w = w' := by
  by_cases h1 : n < 1
  · go_enter Try.func48, Try.ntmps48
    go_wp2
    go_ret
    exact ⟨ret_bool (by simp <;> omega), rfl⟩
  · have d1 : decide (n < 1) = false := by simpa using h1
    go_enter Try.func48, Try.ntmps48
    go_wp2
    go_ret
    exact ⟨ret_bool (by simp), rfl⟩
theorem barrierOne_any (w : World) (n : Int) :
    Calls Try.prog 35 #[.int .i64 n] w fun e w' => e = .returned (.bool true) ∧ w = w' := by
  go_enter Try.func35, Try.ntmps35
  go_wp2
  go_ret
  exact ⟨rfl, rfl⟩
end Go.Proofs.Ytocmjbfbjiinhaa
