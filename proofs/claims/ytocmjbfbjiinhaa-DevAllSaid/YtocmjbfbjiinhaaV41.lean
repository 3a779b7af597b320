/- A new map is laid and named by a cell, beside a device (for DevBarrier). -/
import Derived.Test.YtocmjbfbjiinhaaV40
import Derived.Carry
namespace Go.Proofs.Ytocmjbfbjiinhaa
open Go.ChangeShapes Go.WideShapes Go.ChangeAt Go.RowKit
set_option linter.unusedVariables false
/-- What is protected, and in it what may be written. -/
structure Prot (w : World) (P : Nat → Prop) (gs gm : Nat) : Prop where
  s : P gs
  m : P gm
  new : ∀ k, P k → w.heap.size ≤ k
theorem new_map {w W : World} {q : Nat} {m : DM} {P : Nat → Prop} {gs gm c j : Nat} {S S' : Nat → List (List Int)} {Done Done' : Nat → Prop} {x : List Int} (hD : DS w W P q m) (hP : Prot w P gs gm) (hM : Mays W gm P c S Done) (hj : j < 8) (hx : x.length ≤ 1000) (hc : 1 ≤ c)
    (hSj : S' j = [x]) (hS : ∀ k, k < 8 → k ≠ j → S' k = S k) (hDone : ∀ k, k < 8 → Done' k → k = j ∨ Done k) :
    DS w (((W.alloc (oneM x)).setCell ⟨gm, j, none⟩ (.map (some W.heap.size))).drew) (fun k => P k ∨ k = W.heap.size) q m ∧ Prot w (fun k => P k ∨ k = W.heap.size) gs gm ∧
    Mays (((W.alloc (oneM x)).setCell ⟨gm, j, none⟩ (.map (some W.heap.size))).drew) gm (fun k => P k ∨ k = W.heap.size) c S' Done' ∧
    ∀ g X, Strs W g X → g ≠ gm → Strs (((W.alloc (oneM x)).setCell ⟨gm, j, none⟩ (.map (some W.heap.size))).drew) g X := by
  have hb : Below W.heap.size W (W.alloc (oneM x)) := (Below.refl _ _).alloc (Nat.le_refl _) _
  have hsz : (W.alloc (oneM x)).heap.size = W.heap.size + 1 := by simp
  have hDa : DS w (W.alloc (oneM x)) (fun k => P k ∨ k = W.heap.size) q m := hD.below hb (fun k hk => hk.imp id (fun e => ⟨by omega, by omega⟩))
  have hPn : Prot w (fun k => P k ∨ k = W.heap.size) gs gm := ⟨Or.inl hP.s, Or.inl hP.m, fun k hk => hk.elim (hP.new k) (fun e => by have := hD.bel.size; omega)⟩
  have hMa := (hM.below hb).weak (P' := fun k => P k ∨ k = W.heap.size) (c' := c) (Done' := Done) (fun k hk => Or.inl hk) (Nat.le_refl _) (fun _ h => h)
  have hone : MapHas (W.alloc (oneM x)) W.heap.size c (S' j) := by rw [hSj]; exact (oneM_has hx (heap_alloc_new W _)).mono hc
  have hMp := hMa.put (S' := S') (Done' := Done') hj (Or.inr rfl) hone hS hDone
  have ht : Touch (fun y => y = gm) (W.alloc (oneM x)) ((W.alloc (oneM x)).setCell ⟨gm, j, none⟩ (.map (some W.heap.size))) := (Touch.refl (fun y => y = gm) _).setCell (p := ⟨gm, j, none⟩) rfl _
  have hDt := hDa.touch (ht.mono' (G := fun k => P k ∨ k = W.heap.size) fun y hy => by rw [hy]; exact Or.inl hP.m) hPn.new
  refine ⟨hDt.below (bdn (Below.refl _ _) 1) (fun k hk => Or.inl hk), hPn, hMp.keep rfl (fun _ _ _ => rfl), fun g X hX hne => ?_⟩
  have h := (hX.below hb).other ht (show ¬ (g = gm) from hne)
  exact h
end Go.Proofs.Ytocmjbfbjiinhaa
