/- Plain facts for the laws of index: where pieces begin and end. -/
import Derived.Test.YthkohckofodmnaaIk
namespace Go.Proofs.Ythkohckofodmnaa
open Go.ChangeShapes Go.WideShapes Go.ChangeAt Go.RowKit
set_option linter.unusedVariables false
theorem own_val2 {w : World} {B e n : Nat} {v : Value} {xs : List Value} (h : w.ownsRow B e 3 v n xs) : ∃ A cap, v = .slice A n cap := by
  rcases h.2 with ⟨rfl, rfl⟩ | ⟨g, cap, cur, rfl, _⟩
  · exact ⟨_, _, rfl⟩
  · exact ⟨_, _, rfl⟩
theorem own_val1 {w : World} {B e n : Nat} {v : Value} {xs : List Value} (h : w.ownsRow B e 1 v n xs) : ∃ A cap, v = .slice A n cap := by
  rcases h.2 with ⟨rfl, rfl⟩ | ⟨g, cap, cur, rfl, _⟩
  · exact ⟨_, _, rfl⟩
  · exact ⟨_, _, rfl⟩
theorem tkL_len (k : Int) (bs : List Int) : (tkL k bs).length ≤ 16 := by
  unfold tkL; split
  · rw [rdL_length]; omega
  · simp
theorem pcM_len (o n : Int) : (pcM o n).length ≤ 20 := by
  unfold pcM; split
  · rw [pL_length]; exact pN_le _ _ (by omega)
  · simp
/-- Which byte is the next one behind i pieces. -/
def atM (o e N i : Nat) : Nat := if i = 0 then o else if i = N then e else (o / 56 + i) * 56
theorem atM_end {o e : Nat} (h : o ≤ e) : atM o e (pN o e) (pN o e) = e := by
  unfold atM
  by_cases h0 : pN o e = 0
  · rw [if_pos h0]
    unfold pN at h0
    split at h0 <;> omega
  · rw [if_neg h0, if_pos rfl]
theorem pc_at {o e i : Nat} (hoe : o ≤ e) (he : e ≤ 1120) (hi : i < pN o e) :
    ∃ K F T : Nat, (pL o e)[i]? = some (K, F, T) ∧ K * 56 + F = atM o e (pN o e) i ∧ K * 56 + T = atM o e (pN o e) (i + 1) ∧ K ≤ 20 ∧ F < T ∧ T ≤ 56 ∧ (i ≠ 0 → F = 0) ∧ (i + 1 < pN o e → T = 56) := by
  have hlt : o < e := by unfold pN at hi; split at hi <;> omega
  have hN : pN o e = (e - 1) / 56 - o / 56 + 1 := by unfold pN; rw [if_neg (by omega)]
  refine ⟨o / 56 + i, if i = 0 then o % 56 else 0, if i + 1 = pN o e then (e - 1) % 56 + 1 else 56, by rw [pL_at, if_pos hi]; rfl, ?_, ?_, by omega, ?_, ?_, ?_, ?_⟩
  · unfold atM
    by_cases h0 : i = 0
    · rw [if_pos h0, if_pos h0]; omega
    · rw [if_neg h0, if_neg h0, if_neg (show ¬ i = pN o e by omega)]; omega
  · unfold atM
    rw [if_neg (show ¬ i + 1 = 0 by omega)]
    by_cases h1 : i + 1 = pN o e
    · rw [if_pos h1, if_pos h1]; omega
    · rw [if_neg h1, if_neg h1]; omega
  · split <;> split <;> omega
  · split <;> omega
  · intro h; rw [if_neg h]
  · intro h; rw [if_neg (show ¬ i + 1 = pN o e by omega)]
end Go.Proofs.Ythkohckofodmnaa
