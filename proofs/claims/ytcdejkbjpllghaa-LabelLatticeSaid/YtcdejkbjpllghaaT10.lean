/- Plain facts on joins and meets. -/
import Derived.Test.YtcdejkbjpllghaaT9
import Derived.Test.YtcdejkbjpllghaaQT
import Derived.Deep.DeepCutAuto
namespace Go.Proofs.Ytcdejkbjpllghaa
open Go.ChangeShapes Go.WideShapes Go.ChangeAt Go.RowKit
open Fl
set_option linter.unusedVariables false
theorem keepD {W w1 : World} (hb : Below W.drew.heap.size W.drew w1) {b o : Nat} {v : Value} (h : W.cell? ⟨b, o, none⟩ = some v) : w1.cell? ⟨b, o, none⟩ = some v :=
  keep (W := W.drew) hb (show W.drew.cell? _ = _ from h)
theorem above_mono_or : ∀ c j n : Fin 16, (c.val ||| j.val) = c.val → ((c.val ||| n.val) ||| (j.val ||| n.val)) = (c.val ||| n.val) ∧ ((c.val &&& n.val) ||| (j.val &&& n.val)) = (c.val &&& n.val) := by decide +kernel
theorem and_or_distrib : ∀ c j n : Fin 16, (c.val &&& (j.val ||| n.val)) = ((c.val &&& j.val) ||| (c.val &&& n.val)) := by decide +kernel
theorem or_as : ∀ c j n : Fin 16, ((c.val ||| j.val) ||| n.val) = (c.val ||| (j.val ||| n.val)) := by decide +kernel
theorem and_as : ∀ c j n : Fin 16, ((c.val &&& j.val) &&& n.val) = (c.val &&& (j.val &&& n.val)) := by decide +kernel
theorem above_eq {l c i j : Nat} (e : aboveN l c i j = true) : i ≤ l ∧ (c ||| j) = c := by
  unfold aboveN at e; simpa using e
theorem above_mk {l c i j : Nat} (h : i ≤ l) (e : (c ||| j) = c) : aboveN l c i j = true := by
  unfold aboveN; simpa using ⟨h, e⟩
theorem of_nat (x : Int) (h : 0 ≤ x ∧ x ≤ 255) : ∃ l c : Nat, x / 16 % 4 = l ∧ x % 16 = c ∧ l ≤ 3 ∧ c ≤ 15 :=
  ⟨(x / 16 % 4).toNat, (x % 16).toNat, by omega, by omega, by omega, by omega⟩
theorem set2 {w : World} {b : Nat} {x0 x1 u0 u1 : Value} (h0 : w.cell? ⟨b, 0, none⟩ = some u0) (h1 : w.cell? ⟨b, 1, none⟩ = some u1) :
    ((w.setCell ⟨b, 0, none⟩ x0).setCell ⟨b, 1, none⟩ x1).cell? ⟨b, 0, none⟩ = some x0 ∧ ((w.setCell ⟨b, 0, none⟩ x0).setCell ⟨b, 1, none⟩ x1).cell? ⟨b, 1, none⟩ = some x1 := by
  constructor
  · rw [World.cell?_setCell_other (a := ⟨b, 1, none⟩) (b := ⟨b, 0, none⟩) (h := by simp)]; exact World.cell?_setCell_same _ _ _ h0
  · exact World.cell?_setCell_same _ _ _ (u := u1) (by rw [World.cell?_setCell_other (a := ⟨b, 0, none⟩) (b := ⟨b, 1, none⟩) (h := by simp)]; exact h1)
theorem set4 {w : World} {a b : Nat} {x0 x1 y0 y1 u0 u1 v0 v1 : Value} (hne : a ≠ b) (h0 : w.cell? ⟨a, 0, none⟩ = some u0) (h1 : w.cell? ⟨a, 1, none⟩ = some u1) (h2 : w.cell? ⟨b, 0, none⟩ = some v0) (h3 : w.cell? ⟨b, 1, none⟩ = some v1) (wx : World)
    (e : wx = (((w.setCell ⟨a, 0, none⟩ x0).setCell ⟨a, 1, none⟩ x1).setCell ⟨b, 0, none⟩ y0).setCell ⟨b, 1, none⟩ y1) :
    wx.cell? ⟨a, 0, none⟩ = some x0 ∧ wx.cell? ⟨a, 1, none⟩ = some x1 ∧ wx.cell? ⟨b, 0, none⟩ = some y0 ∧ wx.cell? ⟨b, 1, none⟩ = some y1 := by
  subst e
  have s := set2 (x0 := x0) (x1 := x1) h0 h1
  have f : ∀ (o o' : Nat), (⟨b, o, none⟩ : Addr) ≠ ⟨a, o', none⟩ := fun o o' h => hne (by injection h with h; exact h.symm)
  have t := set2 (w := (w.setCell ⟨a, 0, none⟩ x0).setCell ⟨a, 1, none⟩ x1) (b := b) (x0 := y0) (x1 := y1) (u0 := v0) (u1 := v1)
    (by rw [World.cell?_setCell_other (h := (f _ _).symm), World.cell?_setCell_other (h := (f _ _).symm)]; exact h2)
    (by rw [World.cell?_setCell_other (h := (f _ _).symm), World.cell?_setCell_other (h := (f _ _).symm)]; exact h3)
  refine ⟨?_, ?_, t.1, t.2⟩
  · rw [World.cell?_setCell_other (h := f _ _), World.cell?_setCell_other (h := f _ _)]; exact s.1
  · rw [World.cell?_setCell_other (h := f _ _), World.cell?_setCell_other (h := f _ _)]; exact s.2
/-- Where the join and the meet lie, and that nothing that was there has turned. -/
def JM (W : World) (x0 x1 y0 y1 : Nat) (s t : Value) (wx : World) : Prop :=
  ∃ jb mb : Nat, s = .pointer (some ⟨jb, 0, none⟩) ∧ t = .pointer (some ⟨mb, 0, none⟩) ∧ wx.cell? ⟨jb, 0, none⟩ = some (.int .i64 x0) ∧ wx.cell? ⟨jb, 1, none⟩ = some (.int .i64 x1) ∧
    wx.cell? ⟨mb, 0, none⟩ = some (.int .i64 y0) ∧ wx.cell? ⟨mb, 1, none⟩ = some (.int .i64 y1) ∧ Below W.heap.size W wx
end Go.Proofs.Ytcdejkbjpllghaa
