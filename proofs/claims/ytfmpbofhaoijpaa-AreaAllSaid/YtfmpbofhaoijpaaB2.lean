/- The law ConfBack: its walk, given Config's contract. -/
import Derived.Test.YtfmpbofhaoijpaaB1
import Derived.Test.YtfmpbofhaoijpaaP4
import Derived.Deep.DeepCutAuto
namespace Go.Proofs.Ytfmpbofhaoijpaa
open Go.ChangeShapes Go.WideShapes Go.ChangeAt Go.RowKit
set_option linter.unusedVariables false
/-- The choices are made: a fresh block. -/
theorem made_any (A : Option Addr) (bs : List Int) (c : Nat) (w : World) (hl : bs.length ≤ 60) (hc : bs.length ≤ c) (hy : Byt w A bs) :
    Calls Try.prog 6 #[.slice A bs.length c] w fun e w' => ∃ pb, e = .returned (.pointer (some ⟨pb, 0, none⟩)) ∧ PickAt w' pb A bs c 0 ∧ w.heap.size ≤ pb ∧ Below w.heap.size w w' := by
  have HY := Lib.hid hy
  clear hy
  go_enter Try.func6, Try.ntmps6
  go_wp2_with fail
  go_ret
  have hb : Below w.heap.size w (w.alloc (.cells #[.slice A bs.length c, .int .i64 0] 42)) := (Below.refl _ _).alloc (Nat.le_refl _) _
  refine ⟨_, rfl, ⟨?_, ?_, ?_, Nat.zero_le _⟩, Nat.le_refl _, ?_⟩
  · exact heap_alloc_new w _
  · exact HY.out.keep hb
  · intro hne a e
    obtain ⟨x, hx⟩ : ∃ x, bs[0]? = some x := by cases bs with | nil => exact absurd rfl hne | cons x l => exact ⟨x, rfl⟩
    obtain ⟨a', e', hcell⟩ := HY.out 0 x hx
    rw [e] at e'
    obtain rfl := Option.some.inj e'
    have := World.block_lt_of_cell? w _ hcell
    rw [block_of_add] at this
    omega
  · exact hb
end Go.Proofs.Ytfmpbofhaoijpaa
