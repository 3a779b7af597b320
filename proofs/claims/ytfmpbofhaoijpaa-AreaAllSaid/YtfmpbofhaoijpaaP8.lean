/- What the operations leave that make a share. -/
import Derived.Test.YtfmpbofhaoijpaaP6
import Derived.Test.YtfmpbofhaoijpaaRg
namespace Go.Proofs.Ytfmpbofhaoijpaa
open Go.ChangeShapes Go.WideShapes Go.ChangeAt Go.RowKit
set_option linter.unusedVariables false
def NumB (m : Nat) (v : Value) : Prop := ∃ r : Nat, v = .int .i64 (r : Int) ∧ r < m
def IntB (lo hi : Int) (v : Value) : Prop := ∃ r : Int, v = .int .i64 r ∧ lo ≤ r ∧ r ≤ hi
def TabAt (pb : Nat) (w : World) (b : Nat) : Prop := w.heap[b]? = some (.cells tabT 3 (0, 0)) ∧ b ≠ pb
/-- What each operation of the share's making leaves. -/
def VC (pb B : Nat) (i : Nat) (v : Value) (w : World) : Prop :=
  match i with
  | 0 | 2 | 6 | 10 | 13 => v = .pointer (some ⟨pb, 0, none⟩)
  | 1 => NumB 3 v
  | 3 => NumB 4 v
  | 4 => ∃ x y : Nat, v = .agg #[.int .i64 (x : Int), .int .i64 (y : Int)] ∧ x < 3 ∧ y < 4
  | 5 => ∃ b, v = .slice (some ⟨b, 0, none⟩) 5 5 ∧ TabAt pb w b
  | 7 => NumB 5 v
  | 8 => ∃ b r : Nat, v = .pointer (some ⟨b, r, none⟩) ∧ r < 5 ∧ TabAt pb w b
  | 9 => IntB 4 200 v
  | 11 => NumB 30 v
  | 12 => IntB 16 45 v
  | 14 => NumB 9 v
  | 15 => IntB 1 9 v
  | 16 => ∃ x : Sh, v = x.agg ∧ Draft x
  | 17 => ∃ b, v = .pointer (some ⟨b, 0, none⟩) ∧ w.heap[b]? = some (.cells drC 35 (0, 0)) ∧ B ≤ b ∧ b ≠ pb
  | _ => True
theorem TabAt.on {pb b : Nat} {w w' : World} (h : TabAt pb w b) (hg : w.grownBy w' (some pb)) : TabAt pb w' b := ⟨obj_keep h.1 hg h.2, h.2⟩
theorem VC.on {pb B i : Nat} {v : Value} {w w' : World} (h : VC pb B i v w) (hg : w.grownBy w' (some pb)) : VC pb B i v w' := by
  unfold VC at *
  split <;> try exact h
  · obtain ⟨b, e, ht⟩ := h; exact ⟨b, e, ht.on hg⟩
  · obtain ⟨b, r, e, hr, ht⟩ := h; exact ⟨b, r, e, hr, ht.on hg⟩
  · obtain ⟨b, e, hb, h1, h2⟩ := h; exact ⟨b, e, obj_keep hb hg h2, h1, h2⟩
  · trivial
end Go.Proofs.Ytfmpbofhaoijpaa
