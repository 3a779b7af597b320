/- Contracts: area. -/
import Derived.Test.YtamnpblijdgdaaaDA
import Derived.Test.YtamnpblijdgdaaaQT
import Derived.Test.YtamnpblijdgdaaaK1
import Derived.Test.YtamnpblijdgdaaaFx
import Derived.Test.YtamnpblijdgdaaaQ
import Derived.Deep.DeepCutAuto
/- Contracts: area: where an area begins and ends, which block of it is which. -/
namespace Go.Proofs.Ytamnpblijdgdaaa
open Go.ChangeShapes Go.WideShapes Go.ChangeAt Go.RowKit
open Fx
set_option linter.unusedVariables false
set_option maxRecDepth 100000
theorem fb_two : fb 2 = 4611686018427387904 := by rw [fb_eq 2 (by omega)]; decide
/-- An area: where it begins, how many blocks it has. -/
def areaC (a n : Nat) : Value := .complex .f64 (fb a) (fb n)
theorem areaC_an : areaC 0 2 = .complex .f64 0 4611686018427387904 := by unfold areaC; rw [fb_zero, fb_two]
theorem end_any (a n : Nat) (h : a + n ≤ 100000) (w : World) :
    Calls Try.prog 31 #[areaC a n] w fun e w' => e = .returned (.float .f64 (fb (a + n))) ∧ w = w' := by
  have s := fun w : World => run_float_arith (P := Try.prog) w .add 77 .f64 _ _ _ (add_fb a n (by omega))
  unfold areaC
  generalize a + n = m at *
  go_enter Try.func31, Try.ntmps31
  go_wp2
  go_ret
  exact ⟨rfl, rfl⟩
theorem behind_any (a n b : Nat) (h : a + n ≤ 100000) (w : World) :
    Calls Try.prog 56 #[areaC a n, .int .i64 b] w fun e w' => e = .returned (areaC (a + n) b) ∧ w = w' := by
  have H := Lib.hid (end_any a n h)
  go_enter Try.func56, Try.ntmps56
  go_wp2_with fail
  refine (H.out _).mono ?_; rintro e w' ⟨rfl, rfl⟩
  go_wp2_with fail
  go_ret
  exact ⟨rfl, rfl⟩
/-- Which block is the block i of an area. -/
def blockV (a n : Nat) (i : Int) : Int := if 0 ≤ i ∧ i < n then a + i else -1
theorem block_any (a n : Nat) (i : Int) (h : a + n ≤ 100000) (hi : -9223372036854775808 ≤ i ∧ i ≤ 100000) (w : World) :
    Calls Try.prog 83 #[areaC a n, .int .i64 i] w fun e w' => e = .returned (.int .i64 (blockV a n i)) ∧ w = w' := by
  unfold areaC
  by_cases h0 : i < 0
  · have e : blockV a n i = -1 := by unfold blockV; rw [if_neg (by omega)]
    rw [e]
    clear e
    go_enter Try.func83, Try.ntmps83
    go_wp2
    go_ret
    exact ⟨rfl, rfl⟩
  · obtain ⟨k, rfl⟩ : ∃ k : Nat, i = (k : Int) := ⟨i.toNat, by omega⟩
    have g : (FloatKind.f64.format.order (floatOfInt .f64 (k : Int)) (fb n) == some .gt || FloatKind.f64.format.order (floatOfInt .f64 (k : Int)) (fb n) == some .eq) = decide (n ≤ k) := ge_fb k n (by omega) (by omega)
    have v := fun w : World => run_convert_float_int w 77 3 .f64 .i64 _ _ (P := Try.prog) (by kernel_rfl) Try.underlying3 (int_fb64 a (by omega))
    by_cases h1 : n ≤ k
    · have e : blockV a n k = -1 := by unfold blockV; rw [if_neg (by omega)]
      rw [e]
      rw [decide_eq_true h1] at g
      clear e
      go_enter Try.func83, Try.ntmps83
      go_wp2
      go_ret
      exact ⟨rfl, rfl⟩
    · have e : blockV a n k = a + k := by unfold blockV; rw [if_pos (by omega)]
      rw [e]
      rw [decide_eq_false h1] at g
      clear e
      go_enter Try.func83, Try.ntmps83
      go_wp2
      go_ret
      exact ⟨ret_int (by first | rfl | omega), rfl⟩
/-- A share with so many blocks, a log of so many. -/
def shQ (l c : Int) (b g : Nat) (f : Int) : Value := .agg #[.int .i64 l, .int .i64 c, .int .i64 b, .int .i64 g, .int .i64 f]
theorem log_any (l c : Int) (b g : Nat) (f : Int) (w : World) :
    Calls Try.prog 57 #[shQ l c b g f] w fun e w' => e = .returned (areaC 2 g) ∧ Below w.heap.size w w' := by
  have H := Lib.hid (behind_any 0 2 g (by omega))
  rw [areaC_an] at H
  unfold shQ
  go_enter Try.func57, Try.ntmps57
  go_wp2_with fail
  refine (H.out _).mono ?_; rintro e w' ⟨rfl, rfl⟩
  go_wp2_with fail
  go_ret
  exact ⟨rfl, (Below.refl _ _).alloc (Nat.le_refl _) _⟩
end Go.Proofs.Ytamnpblijdgdaaa

/- Contracts: area: Size, Log, Home, Anchor; the reference's SizeOf. -/
namespace Go.Proofs.Ytamnpblijdgdaaa
open Go.ChangeShapes Go.WideShapes Go.ChangeAt Go.RowKit
open Fx
set_option linter.unusedVariables false
set_option maxRecDepth 100000
theorem homes_any (l c : Int) (b g : Nat) (f : Int) (hg : g ≤ 1000) (w : World) :
    Calls Try.prog 32 #[shQ l c b g f] w fun e w' => e = .returned (areaC (2 + g) b) ∧ Below w.heap.size w w' := by
  have H := Lib.hid (behind_any 2 g b (by omega))
  have HL := Lib.hid (log_any l c b g f)
  unfold shQ at HL ⊢
  go_enter Try.func32, Try.ntmps32
  go_upto_region 1 with fail
  obtain ⟨W, hW⟩ : ∃ W, W = w.alloc (Obj.cells #[.int .i64 l, .int .i64 c, .int .i64 b, .int .i64 g, .int .i64 f] 30) := ⟨_, rfl⟩
  rw [← hW]
  have z0 : W.cell? ⟨w.heap.size, 0, none⟩ = some (.int .i64 l) := by rw [hW]; simp [go_sem]
  have z1 : W.cell? ⟨w.heap.size, 1, none⟩ = some (.int .i64 c) := by rw [hW]; simp [go_sem]
  have z2 : W.cell? ⟨w.heap.size, 2, none⟩ = some (.int .i64 b) := by rw [hW]; simp [go_sem]
  have z3 : W.cell? ⟨w.heap.size, 3, none⟩ = some (.int .i64 g) := by rw [hW]; simp [go_sem]
  have z4 : W.cell? ⟨w.heap.size, 4, none⟩ = some (.int .i64 f) := by rw [hW]; simp [go_sem]
  have hBW : Below w.heap.size w W := by rw [hW]; exact (Below.refl _ _).alloc (Nat.le_refl _) _
  clear hW
  have hsz : w.heap.size ≤ W.heap.size := hBW.size
  have HB := Lib.hid hBW
  clear hBW
  generalize w.heap.size = r at z0 z1 z2 z3 z4 ⊢
  have k0 : ∀ g : Later W, g.w.cell? _ = _ := fun g => g.keep z0
  have k1 : ∀ g : Later W, g.w.cell? _ = _ := fun g => g.keep z1
  have k2 : ∀ g : Later W, g.w.cell? _ = _ := fun g => g.keep z2
  have k3 : ∀ g : Later W, g.w.cell? _ = _ := fun g => g.keep z3
  have k4 : ∀ g : Later W, g.w.cell? _ = _ := fun g => g.keep z4
  clear z0 z1 z2 z3 z4
  refine wp_region_later (by kernel_rfl) (by kernel_rfl) ?_
  repeat (go_big_quiet_step ((first | (go_at_call 57; exact quiet_later (HL.out _)) | (go_at_call 56; exact quiet_later_same (H.out _)))))
  refine wpQuiet_nil ?_
  intro _ hw'
  obtain ⟨nq, hw''⟩ := hw'
  subst hw''
  have hBW2 := Lib.hid (HB.out.trans (nq.below.mono hsz))
  clear k0 k1 k2 k3 k4
  generalize Later.w nq = V at *
  clear nq
  go_wp2
  go_ret
  exact ⟨rfl, hBW2.out⟩
theorem size_any (l c : Int) (b g : Nat) (f : Int) (hb : b ≤ 1000) (hg : g ≤ 1000) (w : World) :
    Calls Try.prog 14 #[shQ l c b g f] w fun e w' => e = .returned (.int .i64 ((2 + g + b : Nat) : Int)) ∧ Below w.heap.size w w' := by
  have H := Lib.hid (homes_any l c b g f hg)
  have HE := Lib.hid (end_any (2 + g) b (by omega))
  have v := fun w : World => run_convert_float_int w 77 3 .f64 .i64 _ _ (P := Try.prog) (by kernel_rfl) Try.underlying3 (int_fb64 (2 + g + b) (by omega))
  generalize 2 + g + b = m at *
  unfold shQ at H ⊢
  go_enter Try.func14, Try.ntmps14
  go_wp2_with fail
  refine (H.out _).mono ?_; rintro e w' ⟨rfl, hB⟩
  have hB2 := ((Below.refl w.heap.size w).alloc (Nat.le_refl _) _).trans (hB.mono (by simp))
  have HB := Lib.hid hB2
  clear hB hB2
  go_wp2_with fail
  refine (HE.out _).mono ?_; rintro e w' ⟨rfl, rfl⟩
  go_wp2_with fail
  go_ret
  exact ⟨rfl, HB.out⟩
theorem Log_any (l c : Int) (b g : Nat) (f i : Int) (hg : g ≤ 1000) (hi : -9223372036854775808 ≤ i ∧ i ≤ 100000) (w : World) :
    Calls Try.prog 73 #[shQ l c b g f, .int .i64 i] w fun e w' => e = .returned (.int .i64 (blockV 2 g i)) ∧ Below w.heap.size w w' := by
  have H := Lib.hid (log_any l c b g f)
  have HE := Lib.hid (block_any 2 g i (by omega) hi)
  generalize blockV 2 g i = m at *
  unfold shQ at H ⊢
  go_enter Try.func73, Try.ntmps73
  go_wp2_with fail
  refine (H.out _).mono ?_; rintro e w' ⟨rfl, hB⟩
  have hB2 := ((Below.refl w.heap.size w).alloc (Nat.le_refl _) _).trans (hB.mono (by simp))
  have HB := Lib.hid hB2
  clear hB hB2
  go_wp2_with fail
  refine (HE.out _).mono ?_; rintro e w' ⟨rfl, rfl⟩
  go_wp2_with fail
  go_ret
  exact ⟨rfl, HB.out⟩
theorem Home_any (l c : Int) (b g : Nat) (f i : Int) (hb : b ≤ 1000) (hg : g ≤ 1000) (hi : -9223372036854775808 ≤ i ∧ i ≤ 100000) (w : World) :
    Calls Try.prog 62 #[shQ l c b g f, .int .i64 i] w fun e w' => e = .returned (.int .i64 (blockV (2 + g) b i)) ∧ Below w.heap.size w w' := by
  have H := Lib.hid (homes_any l c b g f hg)
  have HE := Lib.hid (block_any (2 + g) b i (by omega) hi)
  generalize blockV (2 + g) b i = m at *
  unfold shQ at H ⊢
  go_enter Try.func62, Try.ntmps62
  go_wp2_with fail
  refine (H.out _).mono ?_; rintro e w' ⟨rfl, hB⟩
  have hB2 := ((Below.refl w.heap.size w).alloc (Nat.le_refl _) _).trans (hB.mono (by simp))
  have HB := Lib.hid hB2
  clear hB hB2
  go_wp2_with fail
  refine (HE.out _).mono ?_; rintro e w' ⟨rfl, rfl⟩
  go_wp2_with fail
  go_ret
  exact ⟨rfl, HB.out⟩
theorem aranchor_any (x : Int) (h0 : 0 ≤ x) (w : World) :
    Calls Try.prog 63 #[.int .u32 x] w fun e w' => e = .returned (.int .i64 (x % 2)) ∧ w = w' := by
  have HE := fun w => block_any 0 2 (x % 2) (by omega) (by omega) w
  rw [areaC_an, show blockV 0 2 (x % 2) = x % 2 by unfold blockV; rw [if_pos (by omega)]; omega] at HE
  have u := IntWalk.u32_in (x % 2) (by omega)
  have e : x.tmod 2 = x % 2 := Int.tmod_eq_emod_of_nonneg h0
  have HE' := Lib.hid HE
  clear HE
  go_enter Try.func63, Try.ntmps63
  go_wp2_with fail
  refine (HE'.out _).mono ?_; rintro e w' ⟨rfl, rfl⟩
  go_wp2_with fail
  go_ret
  exact ⟨rfl, rfl⟩
end Go.Proofs.Ytamnpblijdgdaaa
