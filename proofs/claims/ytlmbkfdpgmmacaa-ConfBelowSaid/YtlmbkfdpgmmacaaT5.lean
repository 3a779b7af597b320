/- Contracts of the answer by the document: one category, how many, both. -/
import Derived.Test.YtlmbkfdpgmmacaaT4
import Derived.LoopTactic
import Derived.Deep.QuietTactic
import Derived.BigQuiet
namespace Go.Proofs.Ytlmbkfdpgmmacaa
open Go.ChangeShapes Go.WideShapes Go.ChangeAt Go.RowKit
open Fl
set_option linter.unusedVariables false
def bitN (c i : Nat) : Bool := c / 2 ^ i % 2 == 1
theorem bit_any (c i : Nat) (w : World) (h : c ≤ 15) (h' : i < 4) :
    Calls Try.prog 36 #[.int .i64 c, .int .i64 i] w fun e w' => e = .returned (.bool (bitN c i)) ∧ w = w' := by
  go_enter Try.func36, Try.ntmps36
  go_wp2
  go_loop [0, 5] (fun s k => ∃ n : Nat, n ≤ i ∧ k = .int .i64 n ∧ s = .int .i64 ((c / 2 ^ n : Nat) : Int)) (fun _ k => i - (intOf k).toNat)
  case atStart => exact ⟨0, Nat.zero_le _, rfl, by simp⟩
  case round =>
    obtain ⟨n, hn, rfl, rfl⟩ := hrel
    have hle : c / 2 ^ n ≤ 15 := Nat.le_trans (Nat.div_le_self _ _) h
    by_cases hlt : n < i
    · have hs : c / 2 ^ (n + 1) = c / 2 ^ n / 2 := by rw [Nat.pow_succ, Nat.div_div_eq_div_mul]
      have HS := Lib.hid hs
      clear hs
      generalize hg : c / 2 ^ n = x at *
      go_wp2
      go_round
      case rel => exact ⟨n + 1, by omega, by go_num, by rw [HS.out]; go_num⟩
      case measure => simp [intOf]; omega
    · have : n = i := by omega
      subst this
      have hb : bitN c n = (((c / 2 ^ n : Nat) : Int) % 2 == 1) := by
        unfold bitN; generalize c / 2 ^ n = y; rw [Bool.eq_iff_iff]; simp; omega
      have HB := Lib.hid hb
      clear hb
      generalize hg : c / 2 ^ n = x at *
      clear hg
      go_wp2
      go_ret
      exact ⟨by rw [HB.out]; rfl, rfl⟩
def manyTo (c : Nat) : Nat → Nat
  | 0 => 0
  | n + 1 => manyTo c n + (bitN c n).toNat
theorem manyTo_le (c n : Nat) : manyTo c n ≤ n := by
  induction n with
  | zero => exact Nat.le_refl _
  | succ n ih => have : ∀ b : Bool, b.toNat ≤ 1 := by decide
                 have := this (bitN c n); simp only [manyTo]; omega
theorem manyTo_pop : ∀ c : Fin 16, manyTo c.val 4 = pop c.val := by decide +kernel
theorem many_any (c : Nat) (w : World) (h : c ≤ 15) :
    Calls Try.prog 35 #[.int .i64 c] w fun e w' => e = .returned (.int .i64 (pop c)) ∧ w = w' := by
  have hp := manyTo_pop ⟨c, by omega⟩
  have HP := Lib.hid hp
  clear hp
  go_enter Try.func35, Try.ntmps35
  go_wp2
  go_loop [3, 4] (fun s k => ∃ n : Nat, n ≤ 4 ∧ k = .int .i64 n ∧ s = .int .i64 (manyTo c n)) (fun _ k => 4 - (intOf k).toNat)
  case atStart => exact ⟨0, Nat.zero_le _, rfl, rfl⟩
  case round =>
    obtain ⟨n, hn, rfl, rfl⟩ := hrel
    have hle := manyTo_le c n
    by_cases hlt : n < 4
    · have hs : manyTo c (n + 1) = manyTo c n + (bitN c n).toNat := rfl
      have HS := Lib.hid hs
      clear hs
      cases hb : bitN c n
      all_goals
        rw [hb] at HS
        go_wp2_with (go_at_call 36; refine (bit_any _ _ _ h hlt).mono ?_; rintro e w' ⟨rfl, rfl⟩)
        go_round
        case rel => exact ⟨n + 1, by omega, by go_num, by rw [HS.out]; go_num⟩
        case measure => simp [intOf]; omega
    · have : n = 4 := by omega
      subst this
      go_wp2
      go_ret
      exact ⟨by rw [← HP.out]; rfl, rfl⟩

/-- What 'both' has after so many rounds. -/
def bothTo (a b : Nat) (all : Bool) : Nat → Nat
  | 0 => 0
  | n + 1 => bothTo a b all n + if bitN a n && bitN b n || all && (bitN a n || bitN b n) then 2 ^ n else 0
theorem bothTo_le (a b : Nat) (all : Bool) (n : Nat) : bothTo a b all n < 2 ^ n := by
  induction n with
  | zero => exact Nat.one_pos
  | succ n ih => simp only [bothTo]; rw [Nat.pow_succ]; split <;> omega
theorem bothTo_or : ∀ a b : Fin 16, bothTo a.val b.val true 4 = a.val ||| b.val := by decide +kernel
theorem bothTo_and : ∀ a b : Fin 16, bothTo a.val b.val false 4 = a.val &&& b.val := by decide +kernel
end Go.Proofs.Ytlmbkfdpgmmacaa
