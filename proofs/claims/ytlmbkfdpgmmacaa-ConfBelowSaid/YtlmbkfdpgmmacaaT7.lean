/- Contract of the answer by the document: Less. -/
import Derived.Test.YtlmbkfdpgmmacaaT6
namespace Go.Proofs.Ytlmbkfdpgmmacaa
open Go.ChangeShapes Go.WideShapes Go.ChangeAt Go.RowKit
open Fl
set_option linter.unusedVariables false
theorem sameOf {P : Program} {f : FuncId} {args : Array Value} {w : World} {v : Value} (h : Calls P f args w fun e w' => e = .returned v ∧ w = w') : Calls P f args w (fun e w'' => e = .returned v ∧ w'' = w) := stillOf h
theorem quiet_add_same {P : Program} {f : FuncId} {args : Array Value} {w : World} {a n : Nat} {v : Value}
    (h : Calls P f args (w.drewN (a + n)) fun e w' => e = .returned v ∧ w' = w.drewN (a + n)) :
    Calls P f args (w.drewN (a + n)) fun e w'' => e = .returned v ∧ ∃ m, w'' = w.drewN (a + m) :=
  h.mono fun _ _ ⟨he, hm⟩ => ⟨he, n, hm⟩
theorem bdn {B : Nat} {w w2 : World} (h : Below B w w2) (n : Nat) : Below B w (w2.drewN n) := ⟨h.os, h.tape, h.output, h.size, h.block⟩
theorem refLess_yes (l c i j : Nat) (w : World) (h : l ≤ 3) (h' : c ≤ 15) (g : i ≤ 3) (g' : j ≤ 15) :
    Calls Try.prog 21 #[.agg #[.int .i64 l, .int .i64 c], .agg #[.int .i64 i, .int .i64 j]] w fun e w' => e = .returned (.bool (lessN l c i j)) ∧ Below w.heap.size w w' := by
  have hL : lessN l c i j = if l = i then (if pop c = pop j then decide (c < j) else decide (pop c < pop j)) else decide (l < i) := by
    unfold lessN aheadB
    split
    · split
      · simp; omega
      · simp; omega
    · rfl
  rw [hL]
  clear hL
  have p1 := pop_le c
  have p2 := pop_le j
  generalize hc : pop c = x at *
  generalize hj : pop j = y at *
  have HC := Lib.hid hc
  have HJ := Lib.hid hj
  clear hc hj
  by_cases e1 : l = i
  · rw [if_pos e1]
    have d1 : (((l : Nat) : Int) != (i : Int)) = false := by simp; omega
    by_cases e2 : x = y
    · rw [if_pos e2]
      have d2 : (((x : Nat) : Int) != (y : Int)) = false := by simp; omega
      clear e1 e2
      go_enter Try.func21, Try.ntmps21
      go_wp2_with fail
      refine (refMay_yes _ _ _ h h').mono ?_; rintro e w1 ⟨rfl, hb⟩
      have a0 := keep hb (b := w.heap.size) (o := 0) (v := .int .i64 l) (by simp [go_sem])
      have a1 := keep hb (b := w.heap.size) (o := 1) (v := .int .i64 c) (by simp [go_sem])
      have b0 := keep hb (b := w.heap.size + 1) (o := 0) (v := .int .i64 i) (by simp [go_sem])
      have b1 := keep hb (b := w.heap.size + 1) (o := 1) (v := .int .i64 j) (by simp [go_sem])
      have hb' := ((((Below.refl w.heap.size w).alloc (Nat.le_refl _) _).alloc (by simp) _).trans (hb.mono (by simp; omega)))
      clear hb
      go_wp2_with fail
      refine (refMay_yes _ _ _ g g').mono ?_; rintro e w2 ⟨rfl, hb⟩
      replace a0 := keep hb a0
      replace b0 := keep hb b0
      replace a1 := keep hb a1
      replace b1 := keep hb b1
      replace hb' := hb'.trans (hb.mono hb'.size)
      clear hb
      go_wp2_with fail
      have m1 := fun w : World => sameOf (many_any c w h')
      have m2 := fun w : World => sameOf (many_any j w g')
      rw [HC.out] at m1
      rw [HJ.out] at m2
      have M1 := Lib.hid m1
      have M2 := Lib.hid m2
      clear m1 m2
      go_quiet ((first | (go_at_call_of 35 (Value.int .i64 (c : Int)); exact Calls.quiet_of_same (M1.out _)) | (go_at_call_of 35 (Value.int .i64 (j : Int)); exact Calls.quiet_of_same (M2.out _))))
      go_wp2_with fail
      go_ret
      exact ⟨rfl, bdn hb' _⟩
    · rw [if_neg e2]
      have d2 : (((x : Nat) : Int) != (y : Int)) = true := by simp; omega
      clear e1 e2
      go_enter Try.func21, Try.ntmps21
      go_wp2_with fail
      refine (refMay_yes _ _ _ h h').mono ?_; rintro e w1 ⟨rfl, hb⟩
      have a0 := keep hb (b := w.heap.size) (o := 0) (v := .int .i64 l) (by simp [go_sem])
      have a1 := keep hb (b := w.heap.size) (o := 1) (v := .int .i64 c) (by simp [go_sem])
      have b0 := keep hb (b := w.heap.size + 1) (o := 0) (v := .int .i64 i) (by simp [go_sem])
      have b1 := keep hb (b := w.heap.size + 1) (o := 1) (v := .int .i64 j) (by simp [go_sem])
      have hb' := ((((Below.refl w.heap.size w).alloc (Nat.le_refl _) _).alloc (by simp) _).trans (hb.mono (by simp; omega)))
      clear hb
      go_wp2_with fail
      refine (refMay_yes _ _ _ g g').mono ?_; rintro e w2 ⟨rfl, hb⟩
      replace a0 := keep hb a0
      replace b0 := keep hb b0
      replace a1 := keep hb a1
      replace b1 := keep hb b1
      replace hb' := hb'.trans (hb.mono hb'.size)
      clear hb
      go_wp2_with fail
      have m1 := fun w : World => sameOf (many_any c w h')
      have m2 := fun w : World => sameOf (many_any j w g')
      rw [HC.out] at m1
      rw [HJ.out] at m2
      have M1 := Lib.hid m1
      have M2 := Lib.hid m2
      clear m1 m2
      go_quiet ((first | (go_at_call_of 35 (Value.int .i64 (c : Int)); exact Calls.quiet_of_same (M1.out _)) | (go_at_call_of 35 (Value.int .i64 (j : Int)); exact Calls.quiet_of_same (M2.out _))))
      go_wp2_with fail
      go_quiet ((first | (go_at_call_of 35 (Value.int .i64 (c : Int)); exact quiet_add_same (M1.out _)) | (go_at_call_of 35 (Value.int .i64 (j : Int)); exact quiet_add_same (M2.out _))))
      go_wp2_with fail
      go_ret
      exact ⟨rfl, bdn (bdn hb' _) _⟩
  · rw [if_neg e1]
    have d1 : (((l : Nat) : Int) != (i : Int)) = true := by simp; omega
    clear e1
    go_enter Try.func21, Try.ntmps21
    go_wp2_with fail
    refine (refMay_yes _ _ _ h h').mono ?_; rintro e w1 ⟨rfl, hb⟩
    have a0 := keep hb (b := w.heap.size) (o := 0) (v := .int .i64 l) (by simp [go_sem])
    have a1 := keep hb (b := w.heap.size) (o := 1) (v := .int .i64 c) (by simp [go_sem])
    have b0 := keep hb (b := w.heap.size + 1) (o := 0) (v := .int .i64 i) (by simp [go_sem])
    have b1 := keep hb (b := w.heap.size + 1) (o := 1) (v := .int .i64 j) (by simp [go_sem])
    have hb' := ((((Below.refl w.heap.size w).alloc (Nat.le_refl _) _).alloc (by simp) _).trans (hb.mono (by simp; omega)))
    clear hb
    go_wp2_with fail
    refine (refMay_yes _ _ _ g g').mono ?_; rintro e w2 ⟨rfl, hb⟩
    replace a0 := keep hb a0
    replace b0 := keep hb b0
    replace a1 := keep hb a1
    replace b1 := keep hb b1
    replace hb' := hb'.trans (hb.mono hb'.size)
    clear hb
    go_wp2_with fail
    go_ret
    exact ⟨rfl, hb'⟩
end Go.Proofs.Ytlmbkfdpgmmacaa
