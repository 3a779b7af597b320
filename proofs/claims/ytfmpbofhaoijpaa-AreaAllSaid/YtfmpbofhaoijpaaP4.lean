/- Plain: labels in their cycle: one of 64 in a row is free; a right config with one share more. -/
import Derived.Test.YtfmpbofhaoijpaaP3
namespace Go.Proofs.Ytfmpbofhaoijpaa
open Go.ChangeShapes Go.WideShapes Go.ChangeAt Go.RowKit
set_option linter.unusedVariables false
theorem pigeon : ∀ (m : Nat) (f : Nat → Nat) (L : List Nat), (∀ i j, i < m → j < m → f i = f j → i = j) → (∀ d, d < m → f d ∈ L) → m ≤ L.length := by
  intro m
  induction m with
  | zero => intros; exact Nat.zero_le _
  | succ m ih =>
    intro f L inj hm
    have h1 := hm m (Nat.lt_succ_self m)
    have h2 := ih f (L.erase (f m)) (fun i j hi hj => inj i j (by omega) (by omega)) (fun d hd =>
      (List.mem_erase_of_ne (fun e => by have := inj d m (by omega) (by omega) e; omega)).2 (hm d (by omega)))
    rw [List.length_erase_of_mem h1] at h2
    have := List.length_pos_of_mem h1
    omega
/-- The label of a number. -/
def lvN (n : Nat) : Int := ((n % 4 : Nat) : Int)
def lcN (n : Nat) : Int := ((n / 4 % 16 : Nat) : Int)
theorem lab_free (cs : List Sh) (h : cs.length < 64) (n : Nat) : ∃ d, d < 64 ∧ cs.any (isV (lvN (n + d)) (lcN (n + d))) = false := by
  refine Classical.byContradiction fun hn => ?_
  have ht : ∀ d, d < 64 → ∃ s ∈ cs, isV (lvN (n + d)) (lcN (n + d)) s = true := fun d hd => by
    cases e : cs.any (isV (lvN (n + d)) (lcN (n + d))) with
    | false => exact absurd ⟨d, hd, e⟩ hn
    | true => exact List.any_eq_true.1 e
  have := pigeon 64 (fun d => (n + d) % 64) (cs.map (fun s => s.l.toNat + 4 * s.c.toNat)) (fun i j hi hj e => by omega) (fun d hd => by
    obtain ⟨s, hs, hv⟩ := ht d hd
    refine List.mem_map.2 ⟨s, hs, ?_⟩
    simp only [isV, Bool.and_eq_true, beq_iff_eq, lvN, lcN] at hv
    omega)
  simp only [List.length_map] at this
  omega
theorem okV_append {cs : List Sh} {s : Sh} (h : okV cs = true) (hs : mayShV s = true) (hn : cs.any (isV s.l s.c) = false) : okV (cs ++ [s]) = true := by
  unfold okV at *
  rw [List.length_append, List.length_singleton, okTo_succ, Bool.and_eq_true]
  constructor
  · rw [List.all_eq_true] at h ⊢
    intro i hi
    have hil := List.mem_range.1 hi
    have := h i hi
    have e1 : cs[i]? = some cs[i] := List.getElem?_eq_getElem hil
    have e2 : (cs ++ [s])[i]? = some cs[i] := by rw [List.getElem?_append_left hil]; exact e1
    rw [okAt_some e1] at this
    rw [okAt_some e2, List.take_append_of_le_length (Nat.le_of_lt hil)]
    exact this
  · have e2 : (cs ++ [s])[cs.length]? = some s := by simp
    rw [okAt_some e2, List.take_append_of_le_length (Nat.le_refl _), List.take_length, hs, hn]
    rfl
/-- The next label. -/
theorem lvN_succ (n : Nat) : lvN (n + 1) = (lvN n + 1) % 4 := by simp only [lvN]; omega
theorem lcN_succ (n : Nat) : lcN (n + 1) = if (lvN n + 1) % 4 = 0 then (lcN n + 1) % 16 else lcN n := by
  unfold lvN lcN
  by_cases e : (((n % 4 : Nat) : Int) + 1) % 4 = 0
  · rw [if_pos e]; omega
  · rw [if_neg e]; omega
theorem lab_of (l c : Int) (h1 : 0 ≤ l) (h2 : l ≤ 3) (h3 : 0 ≤ c) (h4 : c ≤ 15) : lvN (l.toNat + 4 * c.toNat) = l ∧ lcN (l.toNat + 4 * c.toNat) = c := by
  simp only [lvN, lcN]; omega
/-- A draft whose label is free is a right share. -/
theorem draft_may {x : Sh} (h : Draft x) : mayShV x = true := by
  obtain ⟨h1, h2, h3, h4, h5, h6, h7, h8, h9, h10⟩ := h
  simp only [mayShV, mayV, Bool.and_eq_true, decide_eq_true_eq]
  omega
end Go.Proofs.Ytfmpbofhaoijpaa
