/- Sums: a byte turned, or two unlike neighbours swapped, is another sum. Of no function. -/
import Derived.Test.YtflldlhfeiamnaaS3
namespace Go.Proofs.Ytflldlhfeiamnaa
set_option linter.unusedVariables false
def rawStep (s : Nat × Nat) (x : Int) : Nat × Nat := (s.1 + x.toNat, s.2 + (s.1 + x.toNat))
theorem rawStep_def (a c : Nat) (x : Int) : rawStep (a, c) x = (a + x.toNat, c + (a + x.toNat)) := rfl
theorem raw_mod : ∀ (l : List Int) (t : Nat × Nat), l.foldl sumStep (t.1 % 65521, t.2 % 65521) = ((l.foldl rawStep t).1 % 65521, (l.foldl rawStep t).2 % 65521)
  | [], _ => rfl
  | x :: l, t => by
    rw [List.foldl_cons, List.foldl_cons, ← raw_mod l (rawStep t x)]
    congr 1
    unfold sumStep rawStep
    dsimp only
    rw [Prod.mk.injEq]
    constructor <;> omega
theorem raw_shift : ∀ (l : List Int) (a c d e : Nat), (l.foldl rawStep (a + d, c + e)).1 = (l.foldl rawStep (a, c)).1 + d ∧ (d = 0 → (l.foldl rawStep (a + d, c + e)).2 = (l.foldl rawStep (a, c)).2 + e)
  | [], _, _, _, _ => ⟨rfl, fun _ => rfl⟩
  | x :: l, a, c, d, e => by
    rw [List.foldl_cons, List.foldl_cons, rawStep_def, rawStep_def]
    have h := raw_shift l (a + x.toNat) (c + (a + x.toNat)) d (e + d)
    rw [show a + d + x.toNat = a + x.toNat + d by omega, show c + e + (a + x.toNat + d) = c + (a + x.toNat) + (e + d) by omega]
    exact ⟨h.1, fun hd => by have := h.2 hd; omega⟩
theorem sumAC_raw (l : List Int) : sumAC l = ((l.foldl rawStep (1, 0)).1 % 65521, (l.foldl rawStep (1, 0)).2 % 65521) := raw_mod l (1, 0)
theorem sumV_eq {l m : List Int} : sumV l = sumV m ↔ sumAC l = sumAC m := by
  have h1 := sumAC_lt l
  have h2 := sumAC_lt m
  unfold sumV
  constructor
  · intro h
    exact Prod.ext (by omega) (by omega)
  · intro h; rw [h]
theorem split_at {l : List Int} {k : Nat} {x : Int} (h : l[k]? = some x) : l = l.take k ++ x :: l.drop (k + 1) := by
  obtain ⟨hk, hx⟩ := List.getElem?_eq_some_iff.1 h
  subst hx
  rw [List.getElem_cons_drop hk, List.take_append_drop]
theorem set_at {l : List Int} {k : Nat} {x y : Int} (h : l[k]? = some x) : l.set k y = l.take k ++ y :: l.drop (k + 1) := by
  obtain ⟨hk, hx⟩ := List.getElem?_eq_some_iff.1 h
  rw [List.set_eq_take_append_cons_drop, if_pos hk]
theorem turn_iff {l : List Int} {k : Nat} {x y : Int} (h : l[k]? = some x) (hx : 0 ≤ x ∧ x < 256) (hy : 0 ≤ y ∧ y < 256) : sumV (l.set k y) = sumV l ↔ y = x := by
  constructor
  · intro e
    rw [sumV_eq, sumAC_raw, sumAC_raw, set_at h] at e
    have h1 := congrArg Prod.fst e
    conv at h1 => rhs; rw [split_at h]
    simp only [List.foldl_append, List.foldl_cons] at h1
    generalize (l.take k).foldl rawStep (1, 0) = t at h1
    obtain ⟨t1, t2⟩ := t
    simp only [rawStep_def] at h1
    have a1 := (raw_shift (l.drop (k + 1)) t1 (t2 + t1) y.toNat y.toNat).1
    have a2 := (raw_shift (l.drop (k + 1)) t1 (t2 + t1) x.toNat x.toNat).1
    rw [Nat.add_assoc t2 t1] at a1 a2
    rw [a1, a2] at h1
    omega
  · intro e; subst e
    congr 1
    rw [set_at h]; exact (split_at h).symm
theorem swap_iff {l : List Int} {k : Nat} {x y : Int} (h : l[k]? = some x) (h' : l[k + 1]? = some y) (hx : 0 ≤ x ∧ x < 256) (hy : 0 ≤ y ∧ y < 256) : sumV ((l.set k y).set (k + 1) x) = sumV l ↔ x = y := by
  have e1 : l = l.take k ++ x :: y :: l.drop (k + 2) := by
    have := split_at h
    have h2 : l.drop (k + 1) = y :: l.drop (k + 2) := by
      obtain ⟨hk, hy'⟩ := List.getElem?_eq_some_iff.1 h'
      subst hy'
      rw [List.getElem_cons_drop hk]
    rwa [h2] at this
  have e2 : (l.set k y).set (k + 1) x = l.take k ++ y :: x :: l.drop (k + 2) := by
    have hk : k ≤ l.length := by have := (List.getElem?_eq_some_iff.1 h).1; omega
    have hl : (l.take k).length = k := List.length_take_of_le hk
    conv => lhs; rw [e1]
    rw [List.set_append_right _ _ (by omega), hl, Nat.sub_self, List.set_cons_zero, List.set_append_right _ _ (by omega), hl, show k + 1 - k = 1 by omega]
    rfl
  constructor
  · intro e
    rw [sumV_eq, sumAC_raw, sumAC_raw, e2] at e
    have h1 := congrArg Prod.snd e
    conv at h1 => rhs; rw [e1]
    simp only [List.foldl_append, List.foldl_cons] at h1
    generalize (l.take k).foldl rawStep (1, 0) = t at h1
    obtain ⟨t1, t2⟩ := t
    simp only [rawStep_def] at h1
    have a1 := (raw_shift (l.drop (k + 2)) (t1 + x.toNat + y.toNat) (t2 + t1 + t1 + x.toNat + y.toNat) 0 y.toNat).2 rfl
    have a2 := (raw_shift (l.drop (k + 2)) (t1 + x.toNat + y.toNat) (t2 + t1 + t1 + x.toNat + y.toNat) 0 x.toNat).2 rfl
    rw [show t1 + y.toNat + x.toNat = t1 + x.toNat + y.toNat + 0 by omega, show t2 + (t1 + y.toNat) + (t1 + x.toNat + y.toNat + 0) = t2 + t1 + t1 + x.toNat + y.toNat + y.toNat by omega,
      show t2 + (t1 + x.toNat) + (t1 + x.toNat + y.toNat) = t2 + t1 + t1 + x.toNat + y.toNat + x.toNat by omega, show (t1 + x.toNat + y.toNat, t2 + t1 + t1 + x.toNat + y.toNat + x.toNat) = (t1 + x.toNat + y.toNat + 0, t2 + t1 + t1 + x.toNat + y.toNat + x.toNat) from rfl, a1, a2] at h1
    omega
  · intro e; subst e
    congr 1
    rw [e2]; exact e1.symm
theorem turned_b {v1 v2 : Nat} {x y : Int} (h : v1 = v2 ↔ x = y) : (((v1 : Int) == (v2 : Int)) == (x == y)) = true := by
  by_cases e : x = y
  · have := h.2 e; subst e; subst this; simp
  · have h1 : ¬ v1 = v2 := fun h' => e (h.1 h')
    have h2 : ((v1 : Int) == (v2 : Int)) = false := by rw [beq_eq_false_iff_ne]; omega
    have h3 : (x == y) = false := by rw [beq_eq_false_iff_ne]; exact e
    rw [h2, h3]; rfl
end Go.Proofs.Ytflldlhfeiamnaa
