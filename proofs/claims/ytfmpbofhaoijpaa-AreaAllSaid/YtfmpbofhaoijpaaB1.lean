/- Plain: what a right config's bytes read as: itself; cut off or with one byte more: none. -/
import Derived.Test.YtfmpbofhaoijpaaE1
namespace Go.Proofs.Ytfmpbofhaoijpaa
open Go.ChangeShapes Go.WideShapes Go.ChangeAt Go.RowKit
set_option linter.unusedVariables false
theorem put_back {l c : Int} (h : mayV l c = true) : takeOk (putV l c) = true ∧ takeL (putV l c) = l ∧ takeC (putV l c) = c := by
  have h' := h
  simp only [mayV, decide_eq_true_eq] at h'
  unfold putV
  rw [if_pos h]
  simp only [takeOk, takeL, takeC, decide_eq_true_eq]
  omega
theorem rows_put : ∀ (cs acc : List Sh) (r : List Int), (∀ s ∈ cs, mayShV s = true) →
    rowsV cs.length (cs.flatMap shB ++ r) acc = if r = [] ∧ mayConfV (acc ++ cs) = true then some (acc ++ cs) else none
  | [], acc, r, _ => by simp only [List.length_nil, List.flatMap_nil, List.nil_append, List.append_nil, rowsV]
  | s :: cs, acc, r, h => by
    have hs := may_nums (h s (List.mem_cons_self))
    obtain ⟨h1, h2, h3⟩ := put_back hs.1
    have ih := rows_put cs (acc ++ [s]) r (fun x hx => h x (List.mem_cons_of_mem _ hx))
    have e : (s :: cs).flatMap shB ++ r = putV s.l s.c :: s.b :: s.g :: s.f :: (cs.flatMap shB ++ r) := by
      simp [List.flatMap_cons, shB]
    rw [List.length_cons, e]
    simp only [rowsV]
    rw [if_pos h1, h2, h3, ih, List.append_assoc]
    rfl
theorem rows_short : ∀ (n : Nat) (r : List Int) (acc : List Sh), r.length < 4 * n → rowsV n r acc = none
  | 0, r, acc, h => by omega
  | n + 1, a :: b :: c :: d :: r, acc, h => by
    simp only [rowsV]
    split
    · exact rows_short n r _ (by simp only [List.length_cons] at h; omega)
    · rfl
  | _ + 1, [], _, _ => rfl
  | _ + 1, [_], _, _ => rfl
  | _ + 1, [_, _], _, _ => rfl
  | _ + 1, [_, _, _], _, _ => rfl
theorem may_each {cs : List Sh} (h : mayConfV cs = true) : ∀ s ∈ cs, mayShV s = true := fun s hs => by
  obtain ⟨k, hk⟩ := List.mem_iff_getElem?.1 hs
  exact may_at h hk
theorem putL_eq {cs : List Sh} (h : mayConfV cs = true) : putL cs = 76 :: 70 :: (cs.length : Int) :: cs.flatMap shB := by
  unfold putL putTo
  rw [if_pos h, List.take_length]
  rfl
theorem putL_length {cs : List Sh} (h : mayConfV cs = true) : (putL cs).length = 3 + 4 * cs.length := by
  unfold putL
  rw [if_pos h]
  exact putTo_length cs cs.length (Nat.le_refl _)
theorem take_put {cs : List Sh} (h : mayConfV cs = true) : takeV (putL cs) = some cs := by
  have := rows_put cs [] [] (may_each h)
  rw [List.append_nil, List.nil_append, if_pos ⟨rfl, h⟩] at this
  rw [putL_eq h]
  simp only [takeV]
  rw [if_pos (by simp)]
  exact this
theorem take_more {cs : List Sh} (h : mayConfV cs = true) (m : Int) : takeV (putL cs ++ [m]) = none := by
  have := rows_put cs [] [m] (may_each h)
  rw [if_neg (fun e => by cases e.1)] at this
  rw [putL_eq h]
  simp only [takeV, List.cons_append]
  rw [if_pos (by simp)]
  exact this
theorem take_cut {cs : List Sh} (h : mayConfV cs = true) {k : Nat} (hk : k < (putL cs).length) : takeV ((putL cs).take k) = none := by
  rw [putL_length h] at hk
  rcases Nat.lt_or_ge k 3 with h3 | h3
  · exact takeV_short (by rw [List.length_take]; omega)
  · obtain ⟨j, rfl⟩ : ∃ j, k = j + 3 := ⟨k - 3, by omega⟩
    rw [putL_eq h]
    simp only [takeV, List.take_succ_cons]
    rw [if_pos (by simp)]
    exact rows_short _ _ _ (by rw [List.length_take]; simp only [Int.toNat_natCast]; omega)
end Go.Proofs.Ytfmpbofhaoijpaa
