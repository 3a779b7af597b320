/- The contracts of conf and of the reference, in one form for every input. -/
import Derived.Test.YtfmpbofhaoijpaaD2
import Derived.Test.YtfmpbofhaoijpaaD3
import Derived.Test.YtfmpbofhaoijpaaD5
import Derived.Test.YtfmpbofhaoijpaaC6
namespace Go.Proofs.Ytfmpbofhaoijpaa
open Go.ChangeShapes Go.WideShapes Go.ChangeAt Go.RowKit
set_option linter.unusedVariables false
def tkL (bs : List Int) : List Sh := (takeV bs).getD []
def tkE (bs : List Int) : Int := if (takeV bs).isSome then 0 else 1
theorem took {bs : List Int} {B : Nat} {w' : World} {e : Ending} (h : TookE (takeV bs) B w' e) : ∃ A d, e = .returned (.tuple #[.slice A (tkL bs).length d, .int .i64 (tkE bs)]) ∧ Conf w' A (tkL bs) := by
  unfold tkL tkE
  cases hv : takeV bs with
  | none => rw [hv] at h; exact ⟨none, 0, h, fun i s hi => by cases hi⟩
  | some cs =>
    rw [hv] at h
    obtain ⟨sv, rfl, hown⟩ := h
    obtain ⟨A, d, rfl, _, _, hc⟩ := conf_own hown
    exact ⟨A, d, rfl, hc⟩
theorem rowsV_len2 : ∀ (l : Nat) (r : List Int) (acc : List Sh) (v : List Sh), rowsV l r acc = some v → mayConfV v = true
  | 0, r, acc, v, h => by
    simp only [rowsV] at h
    split at h
    · rename_i hh; injection h with h; rw [← h]; exact hh.2
    · cases h
  | l + 1, a :: b :: c :: d :: r, acc, v, h => by
    simp only [rowsV] at h
    split at h
    · exact rowsV_len2 l r _ v h
    · cases h
  | _ + 1, [], _, _, h => by cases h
  | _ + 1, [_], _, _, h => by cases h
  | _ + 1, [_, _], _, _, h => by cases h
  | _ + 1, [_, _, _], _, _, h => by cases h
theorem takeV_may {bs : List Int} {v : List Sh} (h : takeV bs = some v) : mayConfV v = true := by
  unfold takeV at h
  split at h
  · split at h
    · exact rowsV_len2 _ _ _ _ h
    · cases h
  · cases h
theorem tkL_len (bs : List Int) : (tkL bs).length ≤ 8 := by
  unfold tkL
  cases hv : takeV bs with
  | none => simp
  | some cs => exact (may_len (takeV_may hv)).2
/-- Who is below. -/
def belowV (cs : List Sh) (me : Int) : List Int := if mayConfV cs = true ∧ 0 ≤ me ∧ me < cs.length then me :: (Go.Sort.insertionSort (ltB cs) (selTo cs me.toNat cs.length).toArray 0 (selTo cs me.toNat cs.length).toArray.size).toList else []
theorem belowV_R {cs : List Sh} {me : Nat} (hm : mayConfV cs = true) (h : me < cs.length) : BelowR cs me (belowV cs me) := by
  unfold belowV
  rw [if_pos ⟨hm, by omega, by omega⟩]
  exact sorted_R hm me _ rfl
theorem belowV_len (cs : List Sh) (me : Int) : (belowV cs me).length ≤ 8 := by
  unfold belowV
  split
  · rename_i h
    obtain ⟨t, ht, hp, _⟩ := sorted_R h.1 me.toNat (selTo cs me.toNat cs.length).toArray rfl
    have h1 := selTo_len cs me.toNat cs.length
    rw [if_pos (by omega)] at h1
    have h2 := (may_len h.1).2
    injection ht with _ ht
    rw [List.length_cons, ht, hp.length_eq]
    omega
  · simp
end Go.Proofs.Ytfmpbofhaoijpaa
