/- Contracts of the answer by the document: Join, Meet, Above. -/
import Derived.Test.YtlmbkfdpgmmacaaT5
import Derived.StillTailTactics
namespace Go.Proofs.Ytlmbkfdpgmmacaa
open Go.ChangeShapes Go.WideShapes Go.ChangeAt Go.RowKit
open Fl
set_option linter.unusedVariables false
theorem stillOf {P : Program} {f : FuncId} {args : Array Value} {w : World} {v : Value} (h : Calls P f args w fun e w' => e = .returned v ∧ w = w') : Calls P f args w (fun e w'' => e = .returned v ∧ w'' = w) := h.mono (fun _ _ h => ⟨h.1, h.2.symm⟩)
theorem bits_above : ∀ c j : Fin 16, (c.val ||| j.val == c.val) = ((!(bitN j.val 0) || bitN c.val 0) && (!(bitN j.val 1) || bitN c.val 1) && (!(bitN j.val 2) || bitN c.val 2) && (!(bitN j.val 3) || bitN c.val 3)) := by decide +kernel
/-- Of the first n bits: where j has one, so has c. -/
def bitsTo (c j : Nat) : Nat → Bool
  | 0 => true
  | n + 1 => bitsTo c j n && (!(bitN j n) || bitN c n)
theorem refAbove_yes (l c i j : Nat) (w : World) (h : l ≤ 3) (h' : c ≤ 15) (g : i ≤ 3) (g' : j ≤ 15) :
    Calls Try.prog 22 #[.agg #[.int .i64 l, .int .i64 c], .agg #[.int .i64 i, .int .i64 j]] w fun e w' => e = .returned (.bool (aboveN l c i j)) ∧ Below w.heap.size w w' := by
  have hA : (c ||| j == c) = bitsTo c j 4 := by rw [bits_above ⟨c, by omega⟩ ⟨j, by omega⟩]; simp [bitsTo]
  have HA := Lib.hid hA
  clear hA
  by_cases hli : l < i
  · have hd : aboveN l c i j = false := by unfold aboveN; simp; omega
    rw [hd]
    clear hd
    go_enter Try.func22, Try.ntmps22
    go_wp2_with fail
    refine (refMay_yes _ _ _ h h').mono ?_; rintro e w1 ⟨rfl, hb⟩
    have a0 := keep hb (b := w.heap.size) (o := 0) (v := .int .i64 l) (by simp [go_sem])
    have b0 := keep hb (b := w.heap.size + 1) (o := 0) (v := .int .i64 i) (by simp [go_sem])
    have b1 := keep hb (b := w.heap.size + 1) (o := 1) (v := .int .i64 j) (by simp [go_sem])
    have hb' := ((((Below.refl w.heap.size w).alloc (Nat.le_refl _) _).alloc (by simp) _).trans (hb.mono (by simp; omega)))
    clear hb
    go_wp2_with fail
    refine (refMay_yes _ _ _ g g').mono ?_; rintro e w2 ⟨rfl, hb⟩
    replace a0 := keep hb a0
    replace b0 := keep hb b0
    replace hb' := hb'.trans (hb.mono hb'.size)
    clear hb
    go_wp2_with fail
    go_ret
    exact ⟨rfl, hb'⟩
  · have hd : aboveN l c i j = bitsTo c j 4 := by unfold aboveN; rw [HA.out]; simp; omega
    rw [hd]
    clear hd
    go_enter Try.func22, Try.ntmps22
    go_wp2_with fail
    refine (refMay_yes _ _ _ h h').mono ?_; rintro e w1 ⟨rfl, hb⟩
    have a0 := keep hb (b := w.heap.size) (o := 0) (v := .int .i64 l) (by simp [go_sem])
    have a1 := keep hb (b := w.heap.size) (o := 1) (v := .int .i64 c) (by simp [go_sem])
    have b0 := keep hb (b := w.heap.size + 1) (o := 0) (v := .int .i64 i) (by simp [go_sem])
    have b1 := keep hb (b := w.heap.size + 1) (o := 1) (v := .int .i64 j) (by simp [go_sem])
    have hb' := ((((Below.refl w.heap.size w).alloc (Nat.le_refl _) _).alloc (by simp) _).trans (hb.mono (by simp; omega)))
    clear hb
    go_wp2_with fail
    refine (refMay_yes _ _ _ g g').mono ?_; rintro e w2 ⟨rfl, hb⟩
    replace a0 := keep hb a0
    replace b0 := keep hb b0
    replace a1 := keep hb a1
    replace b1 := keep hb b1
    replace hb' := hb'.trans (hb.mono hb'.size)
    clear hb
    go_wp2_with fail
    go_loop [5] (fun s => ∃ n : Nat, n ≤ 4 ∧ s = .int .i64 n ∧ bitsTo c j n = true) (fun i => 4 - (intOf i).toNat)
    case atStart => exact ⟨0, Nat.zero_le _, rfl, rfl⟩
    case round =>
      obtain ⟨n, hn, rfl, hbit⟩ := hrel
      have HB := Lib.hid hbit
      clear hbit
      by_cases hlt : n < 4
      · have hs : bitsTo c j (n + 1) = (bitsTo c j n && (!(bitN j n) || bitN c n)) := rfl
        cases hb1 : bitN j n <;> cases hb2 : bitN c n
        · rw [hb1, hb2, HB.out] at hs
          have HS := Lib.hid hs
          clear hs
          go_wp2_with (first | (go_at_call_of 36 (Value.int .i64 (j : Int)); refine (bit_any _ _ _ g' hlt).mono ?_; rintro e w' ⟨rfl, rfl⟩) | (go_at_call_of 36 (Value.int .i64 (c : Int)); refine (bit_any _ _ _ h' hlt).mono ?_; rintro e w' ⟨rfl, rfl⟩))
          go_round
          case rel => exact ⟨n + 1, by omega, by go_num, HS.out⟩
          case measure => simp [intOf]; omega
        · rw [hb1, hb2, HB.out] at hs
          have HS := Lib.hid hs
          clear hs
          go_wp2_with (first | (go_at_call_of 36 (Value.int .i64 (j : Int)); refine (bit_any _ _ _ g' hlt).mono ?_; rintro e w' ⟨rfl, rfl⟩) | (go_at_call_of 36 (Value.int .i64 (c : Int)); refine (bit_any _ _ _ h' hlt).mono ?_; rintro e w' ⟨rfl, rfl⟩))
          go_round
          case rel => exact ⟨n + 1, by omega, by go_num, HS.out⟩
          case measure => simp [intOf]; omega
        · have hf : bitsTo c j 4 = false := by
            have : n = 0 ∨ n = 1 ∨ n = 2 ∨ n = 3 := by omega
            rcases this with rfl | rfl | rfl | rfl <;> simp [bitsTo, hb1, hb2]
          have HF := Lib.hid hf
          clear hs hf
          go_wp2_with (first | (go_at_call_of 36 (Value.int .i64 (j : Int)); refine (bit_any _ _ _ g' hlt).mono ?_; rintro e w' ⟨rfl, rfl⟩) | (go_at_call_of 36 (Value.int .i64 (c : Int)); refine (bit_any _ _ _ h' hlt).mono ?_; rintro e w' ⟨rfl, rfl⟩))
          go_ret
          exact ⟨by rw [HF.out]; rfl, hb'⟩
        · rw [hb1, hb2, HB.out] at hs
          have HS := Lib.hid hs
          clear hs
          go_wp2_with (first | (go_at_call_of 36 (Value.int .i64 (j : Int)); refine (bit_any _ _ _ g' hlt).mono ?_; rintro e w' ⟨rfl, rfl⟩) | (go_at_call_of 36 (Value.int .i64 (c : Int)); refine (bit_any _ _ _ h' hlt).mono ?_; rintro e w' ⟨rfl, rfl⟩))
          go_round
          case rel => exact ⟨n + 1, by omega, by go_num, HS.out⟩
          case measure => simp [intOf]; omega
      · have : n = 4 := by omega
        subst this
        go_wp2
        go_ret
        exact ⟨by rw [HB.out]; rfl, hb'⟩
end Go.Proofs.Ytlmbkfdpgmmacaa
