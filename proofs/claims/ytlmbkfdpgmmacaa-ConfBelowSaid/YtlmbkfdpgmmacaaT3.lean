/- Contracts: Above, Less, Join. -/
import Derived.Test.YtlmbkfdpgmmacaaT2
namespace Go.Proofs.Ytlmbkfdpgmmacaa
open Go.ChangeShapes Go.WideShapes Go.ChangeAt Go.RowKit
open Fl
set_option linter.unusedVariables false
def aboveN (l c i j : Nat) : Bool := decide (i ≤ l) && (c ||| j == c)
theorem or_le (c j : Nat) (h : c ≤ 15) (h' : j ≤ 15) : c ||| j ≤ 15 := by
  have := Nat.or_lt_two_pow (x := c) (y := j) (n := 4) (by omega) (by omega); omega
theorem and_le (c j : Nat) (h : c ≤ 15) : c &&& j ≤ 15 := by
  have := Nat.and_le_left (n := c) (m := j); omega
theorem above_yes (l c i j : Nat) (w : World) (h : l ≤ 3) (h' : c ≤ 15) (g : i ≤ 3) (g' : j ≤ 15) :
    Calls Try.prog 25 #[.agg #[.int .i64 l, .int .i64 c], .agg #[.int .i64 i, .int .i64 j]] w fun e w' => e = .returned (.bool (aboveN l c i j)) ∧ Below w.heap.size w w' := by
  have hor := or_le c j h' g'
  have o1 := ord_nat (max l i) l (by omega) (by omega)
  have o2 := ord_nat (c ||| j) c (by omega) (by omega)
  have B : aboveN l c i j = (compare (max l i) l == .eq && compare (c ||| j) c == .eq) := by
    unfold aboveN
    congr 1
    · rw [Bool.eq_iff_iff]; simp; omega
    · rw [Bool.eq_iff_iff]; simp
  rw [B]
  clear B
  go_enter Try.func25, Try.ntmps25
  go_wp2_with (first | (go_at_call 39; refine (both_yes _ _ _ _ _ h h' g g').mono ?_; rintro e w' ⟨rfl, hb⟩) | (go_at_call 40; refine (join_any _ _ _ _ _ h h' g g').mono ?_; rintro e w' ⟨rfl, rfl⟩))
  go_ret
  exact ⟨rfl, (((Below.refl _ _).alloc (Nat.le_refl _) _).alloc (by simp) _).trans (hb.mono (by simp; omega))⟩
theorem above_no (l c i j : Int) (w : World) (hl : i64 l) (hc : i64 c) (hi : i64 i) (hj : i64 j) (h : bad l c ∨ bad i j) :
    Calls Try.prog 25 #[.agg #[.int .i64 l, .int .i64 c], .agg #[.int .i64 i, .int .i64 j]] w fun e w' => e = .returned (.bool false) ∧ Below w.heap.size w w' := by
  have H := Lib.hid h
  clear h
  go_enter Try.func25, Try.ntmps25
  go_wp2_with (first | (go_at_call 39; refine (both_no _ _ _ _ _ hl hc hi hj H.out).mono ?_; rintro e w' ⟨rfl, hb⟩))
  go_ret
  exact ⟨rfl, (((Below.refl _ _).alloc (Nat.le_refl _) _).alloc (by simp) _).trans (hb.mono (by simp; omega))⟩
def lessN (l c i j : Nat) : Bool := aheadB l (pop c * 16 + c) i (pop j * 16 + j)
theorem less_yes (l c i j : Nat) (w : World) (h : l ≤ 3) (h' : c ≤ 15) (g : i ≤ 3) (g' : j ≤ 15) :
    Calls Try.prog 43 #[.agg #[.int .i64 l, .int .i64 c], .agg #[.int .i64 i, .int .i64 j]] w fun e w' => e = .returned (.bool (lessN l c i j)) ∧ Below w.heap.size w w' := by
  have p1 := pop_le c
  have p2 := pop_le j
  go_enter Try.func43, Try.ntmps43
  go_wp2_with fail
  refine (both_yes _ _ _ _ _ h h' g g').mono ?_; rintro e w' ⟨rfl, hb⟩
  go_wp2_with fail
  refine (rank_any _ _ h' _).mono ?_; rintro e w' ⟨rfl, rfl⟩
  go_wp2_with fail
  refine (rank_any _ _ g' _).mono ?_; rintro e w' ⟨rfl, rfl⟩
  go_wp2_with fail
  refine (ahead_any l (pop c * 16 + c) i (pop j * 16 + j) h (by omega) g (by omega) _).mono ?_; rintro e w' ⟨rfl, rfl⟩
  go_wp2_with fail
  go_ret
  exact ⟨rfl, (((Below.refl _ _).alloc (Nat.le_refl _) _).alloc (by simp) _).trans (hb.mono (by simp; omega))⟩
theorem less_no (l c i j : Int) (w : World) (hl : i64 l) (hc : i64 c) (hi : i64 i) (hj : i64 j) (h : bad l c ∨ bad i j) :
    Calls Try.prog 43 #[.agg #[.int .i64 l, .int .i64 c], .agg #[.int .i64 i, .int .i64 j]] w fun e w' => e = .returned (.bool false) ∧ Below w.heap.size w w' := by
  have H := Lib.hid h
  clear h
  go_enter Try.func43, Try.ntmps43
  go_wp2_with (first | (go_at_call 39; refine (both_no _ _ _ _ _ hl hc hi hj H.out).mono ?_; rintro e w' ⟨rfl, hb⟩))
  go_ret
  exact ⟨rfl, (((Below.refl _ _).alloc (Nat.le_refl _) _).alloc (by simp) _).trans (hb.mono (by simp; omega))⟩

theorem keep {W w1 : World} (hb : Below W.heap.size W w1) {b o : Nat} {v : Value} (h : W.cell? ⟨b, o, none⟩ = some v) : w1.cell? ⟨b, o, none⟩ = some v := by
  rw [(bcell hb).1 _ _ (World.block_lt_of_cell? W _ h)]; exact h
theorem keepF {W w1 : World} (hb : Below W.heap.size W w1) {b o : Nat} {v : Value} (h : W.cell? ⟨b, o, none⟩ = some v) (g : W.frozen? ⟨b, o, none⟩ = false) : w1.frozen? ⟨b, o, none⟩ = false := by
  rw [(bcell hb).2 _ _ (World.block_lt_of_cell? W _ h)]; exact g
end Go.Proofs.Ytlmbkfdpgmmacaa
