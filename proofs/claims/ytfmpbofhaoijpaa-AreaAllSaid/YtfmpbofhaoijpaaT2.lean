/- Contracts of the functions of package label, one by one. -/
import Derived.Test.YtfmpbofhaoijpaaRows
import Derived.Test.YtfmpbofhaoijpaaK4
import Derived.Test.YtfmpbofhaoijpaaFl
import Derived.WalkKit
import Derived.ProofKit
import Derived.OpenShut
import Derived.Outline
import Derived.WalkLawsBesides
import Derived.Laws.Bits64b
import Derived.Deep.RegionHeld3
import Derived.Lib.Hide
namespace Go.Proofs.Ytfmpbofhaoijpaa
open Go.ChangeShapes Go.WideShapes Go.ChangeAt Go.RowKit
open Fl
theorem toNumber_any (l c : Int) (w : World) :
    Calls Try.prog 27 #[.agg #[.int .i64 l, .int .i64 c]] w fun e w' => e = .returned (.complex .f64 (F l) (F c)) ∧ Below w.heap.size w w' := by
  go_enter Try.func27, Try.ntmps27
  go_wp2
  go_ret
  exact ⟨rfl, (Below.refl _ _).alloc (Nat.le_refl _) _⟩
theorem within_yes (l c : Nat) (w : World) (h : l ≤ 3) (h' : c ≤ 15) :
    Calls Try.prog 26 #[.complex .f64 (F l) (F c)] w fun e w' => e = .returned (.bool true) ∧ w = w' := by
  have h1 := ge0_t l (by omega) (by omega)
  have h2 := le3_t l (by omega) (by omega)
  have h3 := ge0_t c (by omega) (by omega)
  have h4 := le15_t c (by omega) (by omega)
  go_enter Try.func26, Try.ntmps26
  go_wp2
  go_ret
  exact ⟨rfl, rfl⟩
theorem within_no (l c : Int) (w : World) (hl : -2 ^ 63 ≤ l ∧ l ≤ 2 ^ 63) (hc : -2 ^ 63 ≤ c ∧ c ≤ 2 ^ 63) (h : l < 0 ∨ 3 < l ∨ c < 0 ∨ 15 < c) :
    Calls Try.prog 26 #[.complex .f64 (F l) (F c)] w fun e w' => e = .returned (.bool false) ∧ w = w' := by
  by_cases a1 : l < 0
  · have h1 := ge0_f l a1 hl.1
    clear hl hc h a1
    go_enter Try.func26, Try.ntmps26
    go_wp2
    go_ret
    exact ⟨rfl, rfl⟩
  · have h1 := ge0_t l (by omega) hl.2
    by_cases a2 : 3 < l
    · have h2 := le3_f l a2 hl.2
      clear hl hc h a1 a2
      go_enter Try.func26, Try.ntmps26
      go_wp2
      go_ret
      exact ⟨rfl, rfl⟩
    · have h2 := le3_t l (by omega) (by omega)
      by_cases a3 : c < 0
      · have h3 := ge0_f c a3 hc.1
        clear hl hc h a1 a2 a3
        go_enter Try.func26, Try.ntmps26
        go_wp2
        go_ret
        exact ⟨rfl, rfl⟩
      · have h3 := ge0_t c (by omega) hc.2
        have h4 := le15_f c (by omega) hc.2
        clear hl hc h a1 a2 a3
        go_enter Try.func26, Try.ntmps26
        go_wp2
        go_ret
        exact ⟨rfl, rfl⟩
def aheadB (l c i j : Nat) : Bool := if l = i then decide (c < j) else decide (l < i)
abbrev bad (l c : Int) : Prop := l < 0 ∨ 3 < l ∨ c < 0 ∨ 15 < c
theorem may_yes (l c : Nat) (w : World) (h : l ≤ 3) (h' : c ≤ 15) :
    Calls Try.prog 23 #[.agg #[.int .i64 l, .int .i64 c]] w fun e w' => e = .returned (.bool true) ∧ Below w.heap.size w w' := by
  go_enter Try.func23, Try.ntmps23
  go_wp2_with (first | (go_at_call 27; refine (toNumber_any _ _ _).mono ?_; rintro e w' ⟨rfl, hb⟩) | (go_at_call 26; refine (within_yes _ _ _ (by omega) (by omega)).mono ?_; rintro e w' ⟨rfl, rfl⟩))
  go_ret
  exact ⟨rfl, ((Below.refl _ _).alloc (Nat.le_refl _) _).trans (hb.mono (by simp))⟩
theorem may_no (l c : Int) (w : World) (hl : i64 l) (hc : i64 c) (h : bad l c) :
    Calls Try.prog 23 #[.agg #[.int .i64 l, .int .i64 c]] w fun e w' => e = .returned (.bool false) ∧ Below w.heap.size w w' := by
  go_enter Try.func23, Try.ntmps23
  go_wp2_with (first | (go_at_call 27; refine (toNumber_any _ _ _).mono ?_; rintro e w' ⟨rfl, hb⟩) | (go_at_call 26; refine (within_no _ _ _ hl hc h).mono ?_; rintro e w' ⟨rfl, rfl⟩))
  go_ret
  exact ⟨rfl, ((Below.refl _ _).alloc (Nat.le_refl _) _).trans (hb.mono (by simp))⟩
end Go.Proofs.Ytfmpbofhaoijpaa
