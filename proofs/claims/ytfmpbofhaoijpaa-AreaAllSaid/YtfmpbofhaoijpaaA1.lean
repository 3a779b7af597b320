/- Contracts: area: where an area begins and ends, which block of it is which. -/
import Derived.Test.YtfmpbofhaoijpaaK1
import Derived.Test.YtfmpbofhaoijpaaFx
import Derived.Test.YtfmpbofhaoijpaaC1
namespace Go.Proofs.Ytfmpbofhaoijpaa
open Go.ChangeShapes Go.WideShapes Go.ChangeAt Go.RowKit
open Fx
set_option linter.unusedVariables false
theorem int_fb64 (n : Nat) (h : n < 2 ^ 53) : floatToIntVal .f64 (fb n) .i64 = some (n : Int) := by
  unfold floatToIntVal
  rw [toInt_fb n (by omega)]
  dsimp only
  rw [if_pos ⟨by have : IntKind.i64.min = -9223372036854775808 := rfl
                 omega, by have : IntKind.i64.max = 9223372036854775807 := rfl
                           omega⟩]
theorem fb_two : fb 2 = 4611686018427387904 := by rw [fb_eq 2 (by omega)]; decide
/-- An area: where it begins, how many blocks it has. -/
def areaC (a n : Nat) : Value := .complex .f64 (fb a) (fb n)
theorem areaC_an : areaC 0 2 = .complex .f64 0 4611686018427387904 := by unfold areaC; rw [fb_zero, fb_two]
theorem end_any (a n : Nat) (h : a + n ≤ 100000) (w : World) :
    Calls Try.prog 16 #[areaC a n] w fun e w' => e = .returned (.float .f64 (fb (a + n))) ∧ w = w' := by
  have s := fun w : World => run_float_arith (P := Try.prog) w .add 45 .f64 _ _ _ (add_fb a n (by omega))
  unfold areaC
  generalize a + n = m at *
  go_enter Try.func16, Try.ntmps16
  go_wp2
  go_ret
  exact ⟨rfl, rfl⟩
theorem behind_any (a n b : Nat) (h : a + n ≤ 100000) (w : World) :
    Calls Try.prog 22 #[areaC a n, .int .i64 b] w fun e w' => e = .returned (areaC (a + n) b) ∧ w = w' := by
  have H := Lib.hid (end_any a n h)
  go_enter Try.func22, Try.ntmps22
  go_wp2_with fail
  refine (H.out _).mono ?_; rintro e w' ⟨rfl, rfl⟩
  go_wp2_with fail
  go_ret
  exact ⟨rfl, rfl⟩
/-- Which block is the block i of an area. -/
def blockV (a n : Nat) (i : Int) : Int := if 0 ≤ i ∧ i < n then a + i else -1
theorem block_any (a n : Nat) (i : Int) (h : a + n ≤ 100000) (hi : -9223372036854775808 ≤ i ∧ i ≤ 100000) (w : World) :
    Calls Try.prog 18 #[areaC a n, .int .i64 i] w fun e w' => e = .returned (.int .i64 (blockV a n i)) ∧ w = w' := by
  unfold areaC
  by_cases h0 : i < 0
  · have e : blockV a n i = -1 := by unfold blockV; rw [if_neg (by omega)]
    rw [e]
    clear e
    go_enter Try.func18, Try.ntmps18
    go_wp2
    go_ret
    exact ⟨rfl, rfl⟩
  · obtain ⟨k, rfl⟩ : ∃ k : Nat, i = (k : Int) := ⟨i.toNat, by omega⟩
    have g : (FloatKind.f64.format.order (floatOfInt .f64 (k : Int)) (fb n) == some .gt || FloatKind.f64.format.order (floatOfInt .f64 (k : Int)) (fb n) == some .eq) = decide (n ≤ k) := ge_fb k n (by omega) (by omega)
    have v := fun w : World => run_convert_float_int w 45 3 .f64 .i64 _ _ (P := Try.prog) (by kernel_rfl) Try.underlying3 (int_fb64 a (by omega))
    by_cases h1 : n ≤ k
    · have e : blockV a n k = -1 := by unfold blockV; rw [if_neg (by omega)]
      rw [e]
      rw [decide_eq_true h1] at g
      clear e
      go_enter Try.func18, Try.ntmps18
      go_wp2
      go_ret
      exact ⟨rfl, rfl⟩
    · have e : blockV a n k = a + k := by unfold blockV; rw [if_pos (by omega)]
      rw [e]
      rw [decide_eq_false h1] at g
      clear e
      go_enter Try.func18, Try.ntmps18
      go_wp2
      go_ret
      exact ⟨ret_int (by first | rfl | omega), rfl⟩
/-- A share with so many blocks, a log of so many. -/
def shQ (l c : Int) (b g : Nat) (f : Int) : Value := .agg #[.int .i64 l, .int .i64 c, .int .i64 b, .int .i64 g, .int .i64 f]
theorem log_any (l c : Int) (b g : Nat) (f : Int) (w : World) :
    Calls Try.prog 19 #[shQ l c b g f] w fun e w' => e = .returned (areaC 2 g) ∧ Below w.heap.size w w' := by
  have H := Lib.hid (behind_any 0 2 g (by omega))
  rw [areaC_an] at H
  unfold shQ
  go_enter Try.func19, Try.ntmps19
  go_wp2_with fail
  refine (H.out _).mono ?_; rintro e w' ⟨rfl, rfl⟩
  go_wp2_with fail
  go_ret
  exact ⟨rfl, (Below.refl _ _).alloc (Nat.le_refl _) _⟩
end Go.Proofs.Ytfmpbofhaoijpaa
