/- Contracts: Meet, Put, Take, and of the answer by the document: may, put, take. -/
import Derived.Test.YtlmbkfdpgmmacaaT3
namespace Go.Proofs.Ytlmbkfdpgmmacaa
open Go.ChangeShapes Go.WideShapes Go.ChangeAt Go.RowKit
open Fl
set_option linter.unusedVariables false
theorem Put_yes (l c : Nat) (w : World) (h : l ≤ 3) (h' : c ≤ 15) :
    Calls Try.prog 32 #[.agg #[.int .i64 l, .int .i64 c]] w fun e w' => e = .returned (.tuple #[.int .u8 ((l * 16 + c : Nat) : Int), .bool true]) ∧ Below w.heap.size w w' := by
  have m : ∀ w : World, (binOp .mul 64 (.float .f64 (F l)) (.float .f64 4625196817309499392)).run Try.prog w = .ok (.float .f64 (F (l * 16))) w := fun w => run_float_arith w .mul 64 .f64 _ _ _ (mul_nat l (by omega))
  have a : ∀ w : World, (binOp .add 64 (.float .f64 (F (l * 16))) (.float .f64 (F c))).run Try.prog w = .ok (.float .f64 (F (l * 16 + c))) w := fun w => run_float_arith w .add 64 .f64 _ _ _ (add_nat l c (by omega) (by omega))
  have k2 : ∀ w : World, (convert 64 5 (.float .f64 (F (l * 16 + c)))).run Try.prog w = .ok (.int .u8 (l * 16 + c)) w := fun w => cu8 (P := Try.prog) 64 5 (by kernel_rfl) (by kernel_rfl) (l * 16 + c) (by omega) w
  go_enter Try.func32, Try.ntmps32
  go_wp2_with (first | (go_at_call 47; refine (toNumber_any _ _ _).mono ?_; rintro e w' ⟨rfl, hb⟩) | (go_at_call 37; refine (within_yes _ _ _ (by omega) (by omega)).mono ?_; rintro e w' ⟨rfl, rfl⟩))
  go_ret2
  exact ⟨by simp, ((Below.refl _ _).alloc (Nat.le_refl _) _).trans (hb.mono (by simp))⟩
theorem Put_no (l c : Int) (w : World) (hl : i64 l) (hc : i64 c) (h : bad l c) :
    Calls Try.prog 32 #[.agg #[.int .i64 l, .int .i64 c]] w fun e w' => e = .returned (.tuple #[.int .u8 0, .bool false]) ∧ Below w.heap.size w w' := by
  go_enter Try.func32, Try.ntmps32
  go_wp2_with (first | (go_at_call 47; refine (toNumber_any _ _ _).mono ?_; rintro e w' ⟨rfl, hb⟩) | (go_at_call 37; refine (within_no _ _ _ hl hc h).mono ?_; rintro e w' ⟨rfl, rfl⟩))
  go_ret2
  exact ⟨rfl, ((Below.refl _ _).alloc (Nat.le_refl _) _).trans (hb.mono (by simp))⟩
theorem Take_yes (b : Nat) (w : World) (h : b < 64) :
    Calls Try.prog 23 #[.int .u8 b] w fun e w' => e = .returned (.tuple #[.agg #[.int .i64 ((b : Int) / 16), .int .i64 ((b : Int) % 16)], .bool true]) ∧ Below w.heap.size w w' := by
  have e1 : (b : Int) / 16 = ((b / 16 : Nat) : Int) := by omega
  have e2 : (b : Int) % 16 = ((b % 16 : Nat) : Int) := by omega
  have E1 := Lib.hid e1
  have E2 := Lib.hid e2
  clear e1 e2
  go_enter Try.func23, Try.ntmps23
  go_wp2_with fail
  rw [E1.out, E2.out]
  generalize hq : b / 16 = q
  generalize hr : b % 16 = r
  have q3 : q ≤ 3 := by omega
  have r3 : r ≤ 15 := by omega
  have HQ := Lib.hid hq
  have HR := Lib.hid hr
  clear hq hr h
  refine (within_yes _ _ _ q3 r3).mono ?_; rintro e w' ⟨rfl, rfl⟩
  go_wp2_with fail
  refine (toLabel_any _ _ _ (by omega) (by omega)).mono ?_; rintro e w2 ⟨rfl, hb2⟩
  have k0' := keep hb2 (b := w.heap.size) (o := 0) (v := .int .i64 0) (by simp [go_sem])
  have k1' := keep hb2 (b := w.heap.size) (o := 1) (v := .int .i64 0) (by simp [go_sem])
  have f0' := keepF hb2 (b := w.heap.size) (o := 0) (v := .int .i64 0) (by simp [go_sem]) (by simp [go_sem])
  have f1' := keepF hb2 (b := w.heap.size) (o := 1) (v := .int .i64 0) (by simp [go_sem]) (by simp [go_sem])
  have hb3 := ((Below.refl w.heap.size w).alloc (Nat.le_refl _) _).trans (hb2.mono (by simp))
  clear hb2
  go_wp2_with fail
  refine bodyPost_ret (v := .tuple #[.agg #[.int .i64 q, .int .i64 r], .bool true]) (by simp [results, Try.results23, go_sem, *]) rfl ⟨by rw [E1.out, E2.out, HQ.out, HR.out], ?_⟩
  exact (hb3.setCell (Nat.le_refl _) _).setCell (Nat.le_refl _) _
theorem Take_no (b : Nat) (w : World) (h : 64 ≤ b) (h2 : b < 256) :
    Calls Try.prog 23 #[.int .u8 b] w fun e w' => e = .returned (.tuple #[.agg #[.int .i64 0, .int .i64 0], .bool false]) ∧ Below w.heap.size w w' := by
  go_enter Try.func23, Try.ntmps23
  go_wp2_with fail
  generalize hq : (b : Int) / 16 = q
  generalize hr : (b : Int) % 16 = r
  have q3 : 3 < q := by omega
  have q4 : i64 q := by constructor <;> omega
  have r4 : i64 r := by constructor <;> omega
  clear hq hr h h2
  refine (within_no _ _ _ q4 r4 (Or.inr (Or.inl q3))).mono ?_; rintro e w' ⟨rfl, rfl⟩
  clear q4 r4 q3
  go_wp2_with fail
  refine bodyPost_ret (v := .tuple #[.agg #[.int .i64 0, .int .i64 0], .bool false]) (by simp [results, Try.results23, go_sem, *]) rfl ⟨rfl, ?_⟩
  exact (Below.refl w.heap.size w).alloc (Nat.le_refl _) _
theorem refMay_yes (l c : Nat) (w : World) (h : l ≤ 3) (h' : c ≤ 15) :
    Calls Try.prog 31 #[.agg #[.int .i64 l, .int .i64 c]] w fun e w' => e = .returned (.bool true) ∧ Below w.heap.size w w' := by
  have d : decide ((c : Int) ≤ 15) = true := by simp; omega
  go_enter Try.func31, Try.ntmps31
  go_wp2_with fail
  go_ret
  exact ⟨rfl, (Below.refl _ _).alloc (Nat.le_refl _) _⟩
theorem refMay_no (l c : Int) (w : World) (h : bad l c) :
    Calls Try.prog 31 #[.agg #[.int .i64 l, .int .i64 c]] w fun e w' => e = .returned (.bool false) ∧ Below w.heap.size w w' := by
  by_cases a1 : l < 0
  · clear h
    go_enter Try.func31, Try.ntmps31
    go_wp2_with fail
    go_ret
    exact ⟨rfl, (Below.refl _ _).alloc (Nat.le_refl _) _⟩
  by_cases a2 : 3 < l
  · clear h
    go_enter Try.func31, Try.ntmps31
    go_wp2_with fail
    go_ret
    exact ⟨rfl, (Below.refl _ _).alloc (Nat.le_refl _) _⟩
  by_cases a3 : c < 0
  · clear h
    go_enter Try.func31, Try.ntmps31
    go_wp2_with fail
    go_ret
    exact ⟨rfl, (Below.refl _ _).alloc (Nat.le_refl _) _⟩
  have a4 : 15 < c := by omega
  have d : decide (c ≤ 15) = false := by simp; omega
  clear h
  go_enter Try.func31, Try.ntmps31
  go_wp2_with fail
  go_ret
  exact ⟨rfl, (Below.refl _ _).alloc (Nat.le_refl _) _⟩
theorem refPut_yes (l c : Nat) (w : World) (h : l ≤ 3) (h' : c ≤ 15) :
    Calls Try.prog 33 #[.agg #[.int .i64 l, .int .i64 c]] w fun e w' => e = .returned (.tuple #[.int .u8 (16 * (l : Int) + c), .bool true]) ∧ Below w.heap.size w w' := by
  go_enter Try.func33, Try.ntmps33
  go_wp2_with fail
  refine (refMay_yes _ _ _ h h').mono ?_; rintro e w' ⟨rfl, hb⟩
  have k0 := keep hb (b := w.heap.size) (o := 0) (v := .int .i64 l) (by simp [go_sem])
  have k1 := keep hb (b := w.heap.size) (o := 1) (v := .int .i64 c) (by simp [go_sem])
  have hb' := ((Below.refl w.heap.size w).alloc (Nat.le_refl _) _).trans (hb.mono (by simp))
  clear hb
  go_wp2_with fail
  go_ret2
  exact ⟨rfl, hb'⟩
theorem refPut_no (l c : Int) (w : World) (h : bad l c) :
    Calls Try.prog 33 #[.agg #[.int .i64 l, .int .i64 c]] w fun e w' => e = .returned (.tuple #[.int .u8 0, .bool false]) ∧ Below w.heap.size w w' := by
  go_enter Try.func33, Try.ntmps33
  go_wp2_with fail
  refine (refMay_no _ _ _ h).mono ?_; rintro e w' ⟨rfl, hb⟩
  have hb' := ((Below.refl w.heap.size w).alloc (Nat.le_refl _) _).trans (hb.mono (by simp))
  clear hb
  go_wp2_with fail
  go_ret2
  exact ⟨rfl, hb'⟩
theorem refTake_yes (b : Nat) (w : World) (h : b < 64) :
    Calls Try.prog 24 #[.int .u8 b] w fun e w' => e = .returned (.tuple #[.agg #[.int .i64 ((b : Int) / 16), .int .i64 ((b : Int) % 16)], .bool true]) ∧ Below w.heap.size w w' := by
  go_enter Try.func24, Try.ntmps24
  go_wp2_with fail
  refine bodyPost_ret (v := .tuple #[.agg #[.int .i64 ((b : Int) / 16), .int .i64 ((b : Int) % 16)], .bool true]) (by simp [results, Try.results24, go_sem, *]) rfl ⟨rfl, ?_⟩
  exact (Below.refl w.heap.size w).alloc (Nat.le_refl _) _
theorem refTake_no (b : Nat) (w : World) (h : 64 ≤ b) (h2 : b < 256) :
    Calls Try.prog 24 #[.int .u8 b] w fun e w' => e = .returned (.tuple #[.agg #[.int .i64 0, .int .i64 0], .bool false]) ∧ Below w.heap.size w w' := by
  go_enter Try.func24, Try.ntmps24
  go_wp2_with fail
  refine bodyPost_ret (v := .tuple #[.agg #[.int .i64 0, .int .i64 0], .bool false]) (by simp [results, Try.results24, go_sem, *]) rfl ⟨rfl, ?_⟩
  exact (Below.refl w.heap.size w).alloc (Nat.le_refl _) _
end Go.Proofs.Ytlmbkfdpgmmacaa
