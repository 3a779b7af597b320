/- Contracts: Stop. -/
import Derived.Test.YtocmjbfbjiinhaaV5
namespace Go.Proofs.Ytocmjbfbjiinhaa
open Go.ChangeShapes Go.WideShapes Go.ChangeAt Go.RowKit
set_option linter.unusedVariables false
def DM.stop (m : DM) (n : Int) : DM := { m with stops := decide (0 ≤ n), left := n.toNat }
theorem DM.Ok.stop {m : DM} (h : m.Ok) {n : Int} (hn : i64 n) (hn' : n ≤ 9223372036854775807) : (m.stop n).Ok := { h with left := by show n.toNat ≤ _; omega }
theorem stop_any {w : World} {O : Nat → DRole} {hp : Nat} {L : DLay} {m : DM} (h : DevAt w O hp L m) (n : Int) (hn : i64 n) (hn' : n ≤ 9223372036854775807) :
    Calls Try.prog 15 #[.pointer (some ⟨hp, 0, none⟩), .int .i64 n] w fun e w' => e = .returned (.tuple #[]) ∧ DevAt w' O hp L (m.stop n) ∧ Touch (· = hp) w w' := by
  have HH := Lib.hid h
  have c4 := h.c4
  have c5 := h.c5
  have f4 := h.f 4
  have f5 := h.f 5
  clear h
  have fin : ∀ (s : Bool) (l : Int), l = (n.toNat : Int) → s = decide (0 ≤ n) → DevAt ((w.setCell ⟨hp, 4, none⟩ (.bool s)).setCell ⟨hp, 5, none⟩ (.int .i64 l)) O hp L (m.stop n) ∧ Touch (· = hp) w ((w.setCell ⟨hp, 4, none⟩ (.bool s)).setCell ⟨hp, 5, none⟩ (.int .i64 l)) := by
    rintro s l rfl rfl
    refine ⟨⟨HH.out.toDevRaw.tail _ _ ?_ ?_, HH.out.ok.stop hn hn'⟩, ((Touch.refl (· = hp) _).setCell rfl _).setCell rfl _⟩
    · exact heap_setCell_same' (heap_setCell_same' HH.out.hd _) _
    · intro k hk hne
      rw [Below.heap_setCell _ _ _ _ hne, Below.heap_setCell _ _ _ _ hne]
  have FIN := Lib.hid fin
  clear fin
  by_cases h0 : 0 ≤ n
  · have d0 : decide (0 ≤ n) = true := by simpa using h0
    go_enter Try.func15, Try.ntmps15
    go_wp2
    go_end0
    exact ⟨rfl, FIN.out _ _ (by omega) (by simp [h0])⟩
  · have d0 : decide (0 ≤ n) = false := by simpa using h0
    go_enter Try.func15, Try.ntmps15
    go_wp2
    go_end0
    exact ⟨rfl, FIN.out _ _ (by omega) (by simp [h0])⟩
theorem stop_nil (w : World) (n : Int) : Calls Try.prog 15 #[.pointer none, .int .i64 n] w fun e w' => e = .returned (.tuple #[]) ∧ w = w' := by
  go_enter Try.func15, Try.ntmps15
  go_wp2
  exact bodyPost_ret (results_none rfl _ _ _) rfl ⟨rfl, rfl⟩
end Go.Proofs.Ytocmjbfbjiinhaa
