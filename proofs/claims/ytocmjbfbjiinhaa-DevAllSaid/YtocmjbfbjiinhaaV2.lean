/- Contracts: the readers of the device that call nothing. -/
import Derived.Test.YtocmjbfbjiinhaaV1
namespace Go.Proofs.Ytocmjbfbjiinhaa
open Go.ChangeShapes Go.WideShapes Go.ChangeAt Go.RowKit
set_option linter.unusedVariables false
def hasR (m : DM) (r : Int) : Bool := decide (0 ≤ r) && decide (r < m.now.length)
theorem hasRegion_any {w : World} {O : Nat → DRole} {hp : Nat} {L : DLay} {m : DM} (h : DevAt w O hp L m) (r : Int) (hr : i64 r) :
    Calls Try.prog 32 #[.pointer (some ⟨hp, 0, none⟩), .int .i64 r] w fun e w' => e = .returned (.bool (hasR m r)) ∧ w = w' := by
  obtain ⟨A, cap, hv, hc1, hc2⟩ := h.now.val
  have c0 := h.c0
  have hf := h.ok.few
  rw [hv] at c0
  unfold hasR
  clear h hv
  generalize m.now.length = n at *
  by_cases h0 : 0 ≤ r
  · have d0 : decide (0 ≤ r) = true := by simpa using h0
    by_cases h1 : r < n
    · go_enter Try.func32, Try.ntmps32
      go_wp2
      go_ret
      exact ⟨ret_bool (by simp <;> omega), rfl⟩
    · go_enter Try.func32, Try.ntmps32
      go_wp2
      go_ret
      exact ⟨ret_bool (by simp <;> omega), rfl⟩
  · go_enter Try.func32, Try.ntmps32
    go_wp2
    go_ret
    exact ⟨ret_bool (by simp <;> omega), rfl⟩
theorem hasRegion_nil (w : World) (r : Int) :
    Calls Try.prog 32 #[.pointer none, .int .i64 r] w fun e w' => e = .returned (.bool false) ∧ w = w' := by
  go_enter Try.func32, Try.ntmps32
  go_wp2
  go_ret
  exact ⟨rfl, rfl⟩
def stopped (m : DM) : Bool := m.stops && decide (m.left = 0)
theorem stopped_any {w : World} {O : Nat → DRole} {hp : Nat} {L : DLay} {m : DM} (h : DevAt w O hp L m) :
    Calls Try.prog 17 #[.pointer (some ⟨hp, 0, none⟩)] w fun e w' => e = .returned (.bool (stopped m)) ∧ w = w' := by
  have c4 := h.c4
  have c5 := h.c5
  unfold stopped
  clear h
  generalize m.stops = s at *
  generalize m.left = l at *
  cases s
  · go_enter Try.func17, Try.ntmps17
    go_wp2
    go_ret
    exact ⟨rfl, rfl⟩
  · by_cases hl : l = 0
    · subst hl
      go_enter Try.func17, Try.ntmps17
      go_wp2
      go_ret
      exact ⟨rfl, rfl⟩
    · have hl1 : (l == 0) = false := by simpa using hl
      have hl2 : ((l : Int) == 0) = false := by simpa using hl
      go_enter Try.func17, Try.ntmps17
      go_wp2
      go_ret
      exact ⟨by simp [hl], rfl⟩
theorem stopped_nil (w : World) : Calls Try.prog 17 #[.pointer none] w fun e w' => e = .returned (.bool false) ∧ w = w' := by
  go_enter Try.func17, Try.ntmps17
  go_wp2
  go_ret
  exact ⟨rfl, rfl⟩
theorem regions_any {w : World} {O : Nat → DRole} {hp : Nat} {L : DLay} {m : DM} (h : DevAt w O hp L m) :
    Calls Try.prog 30 #[.pointer (some ⟨hp, 0, none⟩)] w fun e w' => e = .returned (.int .i64 m.now.length) ∧ w = w' := by
  obtain ⟨A, cap, hv, hc1, hc2⟩ := h.now.val
  have c0 := h.c0
  rw [hv] at c0
  clear h hv
  go_enter Try.func30, Try.ntmps30
  go_wp2
  go_ret
  exact ⟨rfl, rfl⟩
theorem regions_nil (w : World) : Calls Try.prog 30 #[.pointer none] w fun e w' => e = .returned (.int .i64 0) ∧ w = w' := by
  go_enter Try.func30, Try.ntmps30
  go_wp2
  go_ret
  exact ⟨rfl, rfl⟩
theorem place_any (w : World) (r i : Nat) :
    Calls Try.prog 33 #[.int .i64 r, .int .i64 i] w fun e w' => e = .returned (.complex .f64 (Fx.fb r) (Fx.fb i)) ∧ w = w' := by
  go_enter Try.func33, Try.ntmps33
  go_wp2
  go_ret
  exact ⟨rfl, rfl⟩
end Go.Proofs.Ytocmjbfbjiinhaa
