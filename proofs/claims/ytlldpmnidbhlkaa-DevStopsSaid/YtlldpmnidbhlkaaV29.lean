/- The device that stops: what so many writes come to. -/
import Derived.Test.YtlldpmnidbhlkaaV28
namespace Go.Proofs.Ytlldpmnidbhlkaa
open Go.ChangeShapes Go.WideShapes Go.ChangeAt Go.RowKit
set_option linter.unusedVariables false
def z64 : List Int := List.replicate 64 0
def f1 : List Int := fullV [1]
theorem f1_ok : BlkOk f1 := fullV_ok (fun x hx => by simp at hx; omega)
theorem AllB_one (x : Int) (h : 0 ≤ x ∧ x < 256) : AllB [x] := fun y hy => by simp at hy; subst hy; exact h
def stp (s : Nat) : Nat → DM
  | 0 => (DM.make [60]).stop s
  | i + 1 => ((stp s i).doWrite 0 i f1).doBarrier 0
structure StpInv (s i : Nat) (m : DM) : Prop where
  stops : m.stops = true
  left : m.left = s - min i s
  now : m.now = [(List.range 60).map (fun j => if j < min i s then f1 else z64)]
  tr : min i s ≤ (traceL m 0).length
  dn : m.done.length ≤ 2 * i
theorem StpInv.dims {s i : Nat} {m : DM} (h : StpInv s i m) : dims m = [60] := by
  show m.now.map List.length = _
  rw [h.now]; simp
theorem StpInv.stopped {s i : Nat} {m : DM} (h : StpInv s i m) : stopped m = decide (s ≤ i) := by
  unfold Go.Proofs.Ytlldpmnidbhlkaa.stopped
  rw [h.stops, h.left, Bool.true_and]
  congr 1
  simp only [eq_iff_iff]
  omega
theorem StpInv.hasB {s i : Nat} {m : DM} (h : StpInv s i m) (j : Nat) (hj : j < 60) : hasB m 0 j = true := by
  unfold Go.Proofs.Ytlldpmnidbhlkaa.hasB hasR
  have h1 : m.now.length = 1 := by rw [h.now]; rfl
  have h2 : rowLen m.now (0 : Int).toNat = 60 := by rw [rowLen_dims, h.dims]; rfl
  rw [h1, h2]
  simp; omega
theorem StpInv.hasR {s i : Nat} {m : DM} (h : StpInv s i m) : hasR m 0 = true := by
  unfold Go.Proofs.Ytlldpmnidbhlkaa.hasR
  have h1 : m.now.length = 1 := by rw [h.now]; rfl
  rw [h1]; rfl
theorem stp_write {s i : Nat} {m : DM} (h : StpInv s i m) (hi : i < 60) (hs : i < s) : StpInv s (i + 1) (m.write 0 i f1) ∧ (m.write 0 i f1).done.length ≤ 2 * i + 1 := by
  have hd := h.dn
  refine ⟨⟨h.stops, ?_, ?_, ?_, ?_⟩, ?_⟩
  · show (if m.stops then m.left - 1 else m.left) = _
    rw [h.stops, h.left]; simp; omega
  · show setAt m.now 0 i f1 = _
    rw [setAt_of (row := (List.range 60).map (fun j => if j < min i s then f1 else z64)) (by rw [h.now]; rfl), h.now]
    show [_] = [_]
    congr 1
    apply List.ext_getElem?
    intro j
    rw [List.getElem?_set]
    by_cases hj : i = j
    · subst hj
      simp only [List.length_map, List.length_range, hi, if_true, List.getElem?_map, List.getElem?_range hi, Option.map_some]
      rw [if_pos (by omega)]
    · rw [if_neg hj]
      by_cases h60 : j < 60
      · simp only [List.getElem?_map, List.getElem?_range h60, Option.map_some]
        congr 1
        by_cases hlt : j < min i s
        · rw [if_pos hlt, if_pos (by omega)]
        · rw [if_neg hlt, if_neg (by omega)]
      · simp [h60]
  · rw [traceL_write, if_pos rfl, List.length_append]
    have := h.tr
    simp; omega
  · show (m.done ++ _).length ≤ _
    rw [List.length_append]; simp; omega
  · show (m.done ++ _).length ≤ _
    rw [List.length_append]; simp; omega
theorem stp_inv (s : Nat) (hs : s ≤ 9223372036854775807) : ∀ i, i ≤ 60 → StpInv s i (stp s i)
  | 0, _ => ⟨by show decide (0 ≤ (s : Int)) = true; simp, by show (s : Int).toNat = _; simp, by
      show [zeroRow 60] = _
      congr 1, by simp, by simp [stp, DM.stop, DM.make]⟩
  | i + 1, hi => by
    have ih := stp_inv s hs i (by omega)
    have hB := ih.hasB i (by omega)
    show StpInv s (i + 1) (((stp s i).doWrite 0 i f1).doBarrier 0)
    by_cases hlt : i < s
    · have hst : stopped (stp s i) = false := by rw [ih.stopped]; simp; omega
      have hw : (stp s i).doWrite 0 i f1 = (stp s i).write 0 i f1 := by
        unfold DM.doWrite; rw [if_pos ⟨hB, f1_ok.1, hst⟩]; rfl
      obtain ⟨h1, h1d⟩ := stp_write ih (by omega) hlt
      rw [hw]
      unfold DM.doBarrier
      split
      · have hd := h1.dn
        refine ⟨h1.stops, h1.left, h1.now, ?_, ?_⟩
        · rw [show ((0 : Int).toNat) = 0 from rfl, traceL_barrier, List.length_append]
          have := h1.tr; omega
        · show (_ ++ _ : List Wr).length ≤ _
          rw [List.length_append]; simp; omega
      · exact h1
    · have hst : stopped (stp s i) = true := by rw [ih.stopped]; simp; omega
      have hw : (stp s i).doWrite 0 i f1 = stp s i := by unfold DM.doWrite; rw [if_neg (by rw [hst]; simp)]
      rw [hw]
      have hb : (stp s i).doBarrier 0 = stp s i := by unfold DM.doBarrier; rw [if_neg (by rw [hst]; simp)]
      rw [hb]
      refine ⟨ih.stops, by rw [ih.left]; omega, ?_, by have := ih.tr; omega, by have := ih.dn; omega⟩
      rw [ih.now, show min (i + 1) s = min i s by omega]
theorem stp_get {s i : Nat} {m : DM} (h : StpInv s i m) (j : Nat) (hj : j < 60) : (m.now.getD (0 : Int).toNat [])[(j : Int).toNat]? = some (if j < min i s then f1 else z64) := by
  have e : ∀ X : List (List Int), [X].getD (Int.toNat 0) [] = X := fun _ => rfl
  rw [h.now, Int.toNat_natCast, e]
  rw [List.getElem?_map, List.getElem?_range hj]; rfl
end Go.Proofs.Ytlldpmnidbhlkaa
