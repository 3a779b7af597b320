/- Contracts: Where (index's and the reference's), index.takePlace, putPlace. -/
import Derived.Test.YthkohckofodmnaaId
import Derived.Test.YthkohckofodmnaaNi
import Derived.Test.YthkohckofodmnaaGk
import Derived.Test.YthkohckofodmnaaGh
import Derived.BigRegion
namespace Go.Proofs.Ythkohckofodmnaa
open Go.ChangeShapes Go.WideShapes Go.ChangeAt Go.RowKit
set_option linter.unusedVariables false
/-- Where block k of a file is. -/
def whD (k : Int) : Int := if k < 0 ∨ 20 ≤ k then 0 else if k < 4 then k else -1
def whI (k : Int) : Int := if k < 0 ∨ 20 ≤ k then 0 else if k < 4 then -1 else k - 4
def whV (k : Int) : Value := .tuple #[.int .i64 (whD k), .int .i64 (whI k), .bool (decide (0 ≤ k ∧ k < 20))]
theorem where_any (k : Int) (w : World) (hk : -9223372036854775808 ≤ k ∧ k ≤ 9223372036854775807) : Calls Try.prog 8 #[.int .i64 k] w fun e w' => e = .returned (whV k) ∧ w = w' := by
  by_cases h1 : k < 0
  · have e : whV k = .tuple #[.int .i64 0, .int .i64 0, .bool false] := by
      unfold whV whD whI; rw [if_pos (Or.inl h1), if_pos (Or.inl h1), decide_eq_false (by omega)]
    rw [e]
    clear e
    go_enter Try.func8, Try.ntmps8
    go_wp2_with fail
    go_ret3
    exact ⟨rfl, rfl⟩
  by_cases h2 : 20 ≤ k
  · have e : whV k = .tuple #[.int .i64 0, .int .i64 0, .bool false] := by
      unfold whV whD whI; rw [if_pos (Or.inr h2), if_pos (Or.inr h2), decide_eq_false (by omega)]
    rw [e]
    clear e
    go_enter Try.func8, Try.ntmps8
    go_wp2_with fail
    go_ret3
    exact ⟨rfl, rfl⟩
  by_cases h3 : k < 4
  · have e : whV k = .tuple #[.int .i64 k, .int .i64 (-1), .bool true] := by
      have d1 : whD k = k := by unfold whD; rw [if_neg (by omega), if_pos h3]
      have d2 : whI k = -1 := by unfold whI; rw [if_neg (by omega), if_pos h3]
      unfold whV; rw [d1, d2, decide_eq_true (by omega)]
    rw [e]
    clear e
    go_enter Try.func8, Try.ntmps8
    go_wp2_with fail
    go_ret3
    exact ⟨rfl, rfl⟩
  · have e : whV k = .tuple #[.int .i64 (-1), .int .i64 (k - 4), .bool true] := by
      have d1 : whD k = -1 := by unfold whD; rw [if_neg (by omega), if_neg h3]
      have d2 : whI k = k - 4 := by unfold whI; rw [if_neg (by omega), if_neg h3]
      unfold whV; rw [d1, d2, decide_eq_true (by omega)]
    rw [e]
    have e4 : IntKind.i64.wrap (k - 4) = k - 4 := IntWalk.i64_in _ (by omega)
    clear e
    go_enter Try.func8, Try.ntmps8
    go_wp2_with fail
    go_ret3
    exact ⟨rfl, rfl⟩
theorem rwhere_any (k : Int) (w : World) (hk : -9223372036854775808 ≤ k ∧ k ≤ 9223372036854775807) : Calls Try.prog 9 #[.int .i64 k] w fun e w' => e = .returned (whV k) ∧ w = w' := by
  by_cases h1 : k < 0
  · have e : whV k = .tuple #[.int .i64 0, .int .i64 0, .bool false] := by
      unfold whV whD whI; rw [if_pos (Or.inl h1), if_pos (Or.inl h1), decide_eq_false (by omega)]
    rw [e]
    clear e
    go_enter Try.func9, Try.ntmps9
    go_wp2_with fail
    go_ret3
    exact ⟨rfl, rfl⟩
  by_cases h2 : 20 ≤ k
  · have e : whV k = .tuple #[.int .i64 0, .int .i64 0, .bool false] := by
      unfold whV whD whI; rw [if_pos (Or.inr h2), if_pos (Or.inr h2), decide_eq_false (by omega)]
    rw [e]
    clear e
    go_enter Try.func9, Try.ntmps9
    go_wp2_with fail
    go_ret3
    exact ⟨rfl, rfl⟩
  by_cases h3 : k < 4
  · have e : whV k = .tuple #[.int .i64 k, .int .i64 (-1), .bool true] := by
      have d1 : whD k = k := by unfold whD; rw [if_neg (by omega), if_pos h3]
      have d2 : whI k = -1 := by unfold whI; rw [if_neg (by omega), if_pos h3]
      unfold whV; rw [d1, d2, decide_eq_true (by omega)]
    rw [e]
    clear e
    go_enter Try.func9, Try.ntmps9
    go_wp2_with fail
    go_ret3
    exact ⟨rfl, rfl⟩
  · have e : whV k = .tuple #[.int .i64 (-1), .int .i64 (k - 4), .bool true] := by
      have d1 : whD k = -1 := by unfold whD; rw [if_neg (by omega), if_neg h3]
      have d2 : whI k = k - 4 := by unfold whI; rw [if_neg (by omega), if_neg h3]
      unfold whV; rw [d1, d2, decide_eq_true (by omega)]
    rw [e]
    have e4 : IntKind.i64.wrap (k - 4) = k - 4 := IntWalk.i64_in _ (by omega)
    clear e
    go_enter Try.func9, Try.ntmps9
    go_wp2_with fail
    go_ret3
    exact ⟨rfl, rfl⟩
theorem ofInt64n (a : Nat) (ha : a < 18446744073709551616) : (BitVec.ofInt 64 (a : Int)).toNat = a := by
  rw [BitVec.ofInt_natCast, BitVec.toNat_ofNat]; exact Nat.mod_eq_of_lt (by omega)
theorem or_i64 (a y : Nat) (ha : a < 16777216) (hy : y < 256) : bits .or .i64 ((a : Int) * 256) (y : Int) = ((a * 256 + y : Nat) : Int) := by
  rw [show (a : Int) * 256 = ((a * 256 : Nat) : Int) by omega]
  show IntKind.i64.wrap ((BitVec.ofInt 64 ((a * 256 : Nat) : Int) ||| BitVec.ofInt 64 ((y : Nat) : Int)).toNat : Int) = _
  have h2 := Nat.two_pow_add_eq_or_of_lt (i := 8) (b := y) (by omega) a
  rw [show (2 ^ 8 * a : Nat) = a * 256 by omega] at h2
  rw [BitVec.toNat_or, ofInt64n _ (by omega), ofInt64n _ (by omega), ← h2]
  exact IntWalk.i64_in _ (by omega)
/-- A place, from two bytes of a block's body. -/
theorem takeplace_any (a b : Nat) (ha : a < 256) (hb : b < 256) (g o n c : Nat) (w : World) (hn : 2 ≤ n) (h1 : w.cell? ⟨g, o, none⟩ = some (.int .u8 a)) (h2 : w.cell? ⟨g, o + 1, none⟩ = some (.int .u8 b)) :
    Calls Try.prog 21 #[.slice (some ⟨g, o, none⟩) n c] w fun e w' => e = .returned (.int .i64 ((a * 256 + b : Nat) - 1)) ∧ Below w.heap.size w w' := by
  have k1 : ∀ q, (w.drewN q).cell? ⟨g, o, none⟩ = some (.int .u8 a) := fun _ => h1
  have k2 : ∀ q, (w.drewN q).cell? ⟨g, o + 1, none⟩ = some (.int .u8 b) := fun _ => h2
  have e1 : IntKind.i64.wrap (a : Int) = a := IntWalk.i64_in _ (by omega)
  have e2 : IntKind.i64.wrap (b : Int) = b := IntWalk.i64_in _ (by omega)
  have e3 : IntKind.i64.wrap ((a : Int) * 256) = (a : Int) * 256 := IntWalk.i64_in _ (by omega)
  have e4 := or_i64 a b (by omega) hb
  have e5 : IntKind.i64.wrap (((a * 256 + b : Nat) : Int) + -1) = ((a * 256 + b : Nat) : Int) - 1 := IntWalk.i64_in _ (by omega)
  have n0 : (0 : Nat) < n := by omega
  have n1 : (1 : Nat) < n := by omega
  have HB := Lib.hid (fun q => bdn (Below.refl w.heap.size w) q)
  generalize a * 256 + b = m at *
  clear h1 h2
  go_enter Try.func21, Try.ntmps21
  go_upto_region 1 with fail
  go_quiet (fail)
  rename_i nq
  have HB2 := Lib.hid (HB.out nq)
  generalize w.drewN nq = W at *
  go_wp2_with fail
  go_ret
  exact ⟨rfl, HB2.out⟩
/-- .. into two bytes of it. -/
theorem putplace_any (x : Int) (hx : -1 ≤ x ∧ x < 200) (g o n c : Nat) (u v : Value) (w : World) (hn : 2 ≤ n) (h1 : w.cell? ⟨g, o, none⟩ = some u) (h2 : w.cell? ⟨g, o + 1, none⟩ = some v) (f1 : ∀ i, w.frozen? ⟨g, i, none⟩ = false) :
    Calls Try.prog 17 #[.slice (some ⟨g, o, none⟩) n c, .int .i64 x] w fun e w' => e = .returned (.tuple #[]) ∧ w' = (w.setCell ⟨g, o, none⟩ (.int .u8 0)).setCell ⟨g, o + 1, none⟩ (.int .u8 (x + 1)) := by
  have e0 : (x + 1) / 256 = 0 := by omega
  go_enter Try.func17, Try.ntmps17
  go_wp2_with fail
  go_end0
  exact ⟨rfl, rfl⟩
end Go.Proofs.Ythkohckofodmnaa
