/- Rows of elements of several cells each: what lies where, stored into (cache's Ka without its frames). Of no function. -/
import Derived.Test.YtcmmopngjeonfaaK4
import Derived.Laws.StructEq
import Derived.Laws.BitsAllLaws
import Derived.Deep.MidRow
import Derived.Laws.CopyOwn
namespace Go.Proofs.Ytcmmopngjeonfaa
open Go.ChangeShapes Go.WideShapes Go.ChangeAt Go.RowKit
set_option linter.unusedVariables false
section
variable {α : Type}
def rowL (enc : α → List Value) : List α → List Value
  | [] => []
  | x :: l => enc x ++ rowL enc l
def Fits (enc : α → List Value) (sz : Nat) (l : List α) : Prop := ∀ x ∈ l, (enc x).length = sz
theorem Fits.tl {enc : α → List Value} {sz : Nat} {x : α} {l : List α} (h : Fits enc sz (x :: l)) : Fits enc sz l := fun y hy => h y (by simp [hy])
theorem Fits.hd {enc : α → List Value} {sz : Nat} {x : α} {l : List α} (h : Fits enc sz (x :: l)) : (enc x).length = sz := h x (by simp)
theorem rowL_append (enc : α → List Value) : ∀ (l m : List α), rowL enc (l ++ m) = rowL enc l ++ rowL enc m
  | [], _ => rfl
  | x :: l, m => by show enc x ++ rowL enc (l ++ m) = _; rw [rowL_append enc l m, ← List.append_assoc]; rfl
theorem rowL_length {enc : α → List Value} {sz : Nat} : ∀ {l : List α}, Fits enc sz l → (rowL enc l).length = l.length * sz
  | [], _ => by simp [rowL]
  | x :: l, h => by
    show (enc x ++ rowL enc l).length = (l.length + 1) * sz
    rw [List.length_append, h.hd, rowL_length h.tl, Nat.add_mul]; omega
theorem rowL_at {enc : α → List Value} {sz : Nat} : ∀ {l : List α}, Fits enc sz l → ∀ {i : Nat} {x : α}, l[i]? = some x → ∀ {j : Nat} {v : Value}, (enc x)[j]? = some v → (rowL enc l)[i * sz + j]? = some v
  | [], _, i, x, h, _, _, _ => by cases h
  | y :: l, hl, 0, x, h, j, v, hj => by
    injection h with h; subst h
    show (enc y ++ rowL enc l)[0 * sz + j]? = some v
    rw [Nat.zero_mul, Nat.zero_add, List.getElem?_append_left (List.getElem?_eq_some_iff.1 hj).1]; exact hj
  | y :: l, hl, i + 1, x, h, j, v, hj => by
    have h1 := rowL_at (l := l) hl.tl (i := i) h hj
    show (enc y ++ rowL enc l)[(i + 1) * sz + j]? = some v
    rw [List.getElem?_append_right (by rw [hl.hd, Nat.add_mul]; omega), hl.hd, show (i + 1) * sz + j - sz = i * sz + j by rw [Nat.add_mul]; omega]
    exact h1
theorem rowL_one {enc : α → List Value} (h1 : ∀ x, ∀ v ∈ enc x, v.oneCell' = true) : ∀ (l : List α), ∀ v ∈ rowL enc l, v.oneCell' = true
  | [], v, h => by cases h
  | x :: l, v, h => by
    rcases List.mem_append.1 (show v ∈ enc x ++ rowL enc l from h) with h | h
    · exact h1 x v h
    · exact rowL_one h1 l v h
theorem rowL_set {enc : α → List Value} {sz : Nat} : ∀ {l : List α}, Fits enc sz l → ∀ {k : Nat} {x y : α} {j : Nat} {v : Value}, l[k]? = some x → j < sz → enc y = (enc x).set j v → (rowL enc l).set (k * sz + j) v = rowL enc (l.set k y)
  | [], _, k, x, _, _, _, h, _, _ => by cases h
  | z :: l, hl, 0, x, y, j, v, h, hj, he => by
    injection h with h; subst h
    show (enc z ++ rowL enc l).set (0 * sz + j) v = enc y ++ rowL enc l
    rw [Nat.zero_mul, Nat.zero_add, List.set_append_left _ _ (by rw [hl.hd]; exact hj), he]
  | z :: l, hl, k + 1, x, y, j, v, h, hj, he => by
    show (enc z ++ rowL enc l).set ((k + 1) * sz + j) v = enc z ++ rowL enc (l.set k y)
    rw [List.set_append_right _ _ (by rw [hl.hd, Nat.add_mul]; omega), hl.hd, show (k + 1) * sz + j - sz = k * sz + j by rw [Nat.add_mul]; omega, rowL_set hl.tl h hj he]
theorem rowL_splice {enc : α → List Value} {sz : Nat} : ∀ {l : List α}, Fits enc sz l → ∀ {k : Nat} {x y : α} {j : Nat} {cs : List Value}, l[k]? = some x → j + cs.length ≤ sz → enc y = splice (enc x) j cs → splice (rowL enc l) (k * sz + j) cs = rowL enc (l.set k y)
  | [], _, k, x, _, _, _, h, _, _ => by cases h
  | z :: l, hl, 0, x, y, j, cs, h, hj, he => by
    injection h with h; subst h
    show splice (enc z ++ rowL enc l) (0 * sz + j) cs = enc y ++ rowL enc l
    rw [Nat.zero_mul, Nat.zero_add, he]
    unfold splice
    have := hl.hd
    rw [List.take_append_of_le_length (by omega), List.drop_append_of_le_length (by omega)]
    simp
  | z :: l, hl, k + 1, x, y, j, cs, h, hj, he => by
    show splice (enc z ++ rowL enc l) ((k + 1) * sz + j) cs = enc z ++ rowL enc (l.set k y)
    rw [← rowL_splice hl.tl h hj he]
    have e := hl.hd
    unfold splice
    rw [show (k + 1) * sz + j = (enc z).length + (k * sz + j) by rw [e, Nat.add_mul]; omega, List.take_length_add_append, Nat.add_assoc, List.drop_length_add_append]
    simp
theorem rowL_take {enc : α → List Value} {sz : Nat} : ∀ {l : List α}, Fits enc sz l → ∀ (k : Nat), (rowL enc l).take (k * sz) = rowL enc (l.take k)
  | [], _, k => by simp [rowL]
  | z :: l, hl, 0 => by simp [rowL]
  | z :: l, hl, k + 1 => by
    show (enc z ++ rowL enc l).take ((k + 1) * sz) = enc z ++ rowL enc (l.take k)
    rw [show (k + 1) * sz = (enc z).length + k * sz by rw [hl.hd, Nat.add_mul]; omega, List.take_length_add_append, rowL_take hl.tl]
theorem rowL_drop {enc : α → List Value} {sz : Nat} : ∀ {l : List α}, Fits enc sz l → ∀ (k : Nat), (rowL enc l).drop (k * sz) = rowL enc (l.drop k)
  | [], _, k => by simp [rowL]
  | z :: l, hl, 0 => by simp
  | z :: l, hl, k + 1 => by
    show (enc z ++ rowL enc l).drop ((k + 1) * sz) = rowL enc (l.drop k)
    rw [show (k + 1) * sz = (enc z).length + k * sz by rw [hl.hd, Nat.add_mul]; omega, List.drop_length_add_append, rowL_drop hl.tl]
end
theorem splice_length {α : Type} (L : List α) (o : Nat) (cs : List α) (h : o + cs.length ≤ L.length) : (splice L o cs).length = L.length := by
  unfold splice; simp; omega
theorem splice_take {α : Type} (L : List α) (o m : Nat) (cs : List α) (h : o + cs.length ≤ m) (hm : m ≤ L.length) : (splice L o cs).take m = splice (L.take m) o cs := by
  unfold splice
  rw [List.take_append, List.take_append, List.take_take, List.take_take, List.take_of_length_le (l := cs) (by simp; omega), List.drop_take]
  rw [show min m o = o by omega, show min o m = o by omega]
  congr 3
  simp; omega
theorem splice_whole {α : Type} (L cs : List α) (h : L.length = cs.length) : splice L 0 cs = cs := by
  unfold splice; simp [h.symm]
theorem heap_setCells {g : Nat} {t : TypeId} : ∀ (cs : List Value) (o : Nat) (C : Array Value) (W : World), W.heap[g]? = some (.cells C t (0, 0)) → o + cs.length ≤ C.size → (W.setCells g o cs).heap[g]? = some (.cells (splice C.toList o cs).toArray t (0, 0))
  | [], o, C, W, h, _ => by
    show W.heap[g]? = _
    rw [h]; unfold splice; simp
  | v :: r, o, C, W, h, hl => by
    show ((W.setCell ⟨g, o, none⟩ v).setCells g (o + 1) r).heap[g]? = _
    simp only [List.length_cons] at hl
    rw [heap_setCells r (o + 1) _ _ (heap_setCell_same' h v) (by simp; omega), Array.toList_setIfInBounds]
    congr 3
    unfold splice
    rw [List.take_add_one, List.take_set_of_le (by omega), List.getElem?_set_self (by simp; omega), List.drop_set_of_lt (by omega)]
    simp [show o + 1 + r.length = o + (r.length + 1) by omega]
theorem below_setCells {B g : Nat} : ∀ (cs : List Value) (o : Nat) {w W : World}, Below B w W → B ≤ g → Below B w (W.setCells g o cs)
  | [], _, _, _, h, _ => h
  | v :: r, o, w, W, h, hg => below_setCells r (o + 1) (h.setCell hg v) hg
theorem heap_setCells_other {g k : Nat} (hk : k ≠ g) : ∀ (cs : List Value) (o : Nat) (W : World), (W.setCells g o cs).heap[k]? = W.heap[k]?
  | [], _, _ => rfl
  | v :: r, o, W => by
    show ((W.setCell ⟨g, o, none⟩ v).setCells g (o + 1) r).heap[k]? = _
    rw [heap_setCells_other hk r, heap_setCell_other _ _ _ _ hk]
/-! A row that is owned. -/
section
variable {W : World} {base e sz n g cap : Nat} {xs : List Value}
theorem own_blk (h : W.ownsRow base e sz (.slice (some ⟨g, 0, none⟩) n cap) n xs) : ∃ cur, W.heap[g]? = some (.cells cur e (0, 0)) ∧ n ≤ cap ∧ cap ≤ maxLen ∧ cur.size = cap * sz ∧ cur.toList.take (n * sz) = xs ∧ base ≤ g := by
  rcases h.2 with ⟨h0, _⟩ | ⟨g', cap', cur, e', hb, hg, hn, hm, hs, ht⟩
  · cases h0
  · injection e' with e1 e2 e3
    injection e1 with e1; injection e1 with e1
    subst e1; subst e3
    exact ⟨cur, hg, hn, hm, hs, ht, hb⟩
theorem own_set_in (h : W.ownsRow base e sz (.slice (some ⟨g, 0, none⟩) n cap) n xs) {k : Nat} (hk : k < n * sz) (u : Value) : (W.setCell ⟨g, k, none⟩ u).ownsRow base e sz (.slice (some ⟨g, 0, none⟩) n cap) n (xs.set k u) := by
  obtain ⟨cur, hg, hn, hm, hs, ht, hb⟩ := own_blk h
  refine ⟨by rw [List.length_set]; exact h.1, Or.inr ⟨g, cap, cur.setIfInBounds k u, rfl, hb, heap_setCell_same' hg u, hn, hm, by simp [hs], ?_⟩⟩
  rw [Array.toList_setIfInBounds, List.take_set, ht]
theorem own_splice_in (h : W.ownsRow base e sz (.slice (some ⟨g, 0, none⟩) n cap) n xs) {o : Nat} (cs : List Value) (ho : o + cs.length ≤ n * sz) : (W.setCells g o cs).ownsRow base e sz (.slice (some ⟨g, 0, none⟩) n cap) n (splice xs o cs) := by
  obtain ⟨cur, hg, hn, hm, hs, ht, hb⟩ := own_blk h
  have h1 : n * sz ≤ cap * sz := Nat.mul_le_mul_right _ hn
  refine ⟨by rw [splice_length _ _ _ (by rw [h.1]; exact ho)]; exact h.1, Or.inr ⟨g, cap, _, rfl, hb, heap_setCells cs o cur W hg (by omega), hn, hm, by simp only [List.size_toArray]; rw [splice_length _ _ _ (by simp; omega)]; simp [hs], ?_⟩⟩
  rw [List.toList_toArray, splice_take _ _ _ _ ho (by simp; omega), ht]
theorem own_cell (h : W.ownsRow base e sz (.slice (some ⟨g, 0, none⟩) n cap) n xs) {k : Nat} {u : Value} (hk : xs[k]? = some u) : W.cell? ⟨g, k, none⟩ = some u := by
  have := h.cells (g := g) rfl _ _ hk
  rwa [add_at] at this
theorem own_free (h : W.ownsRow base e sz (.slice (some ⟨g, 0, none⟩) n cap) n xs) (k : Nat) : W.frozen? ⟨g, k, none⟩ = false := by
  obtain ⟨cur, hg, _⟩ := own_blk h
  exact blk_free hg k
theorem own_there (h : W.ownsRow base e sz (.slice (some ⟨g, 0, none⟩) n cap) n xs) {o c : Nat} (hc : o + c ≤ n * sz) : W.there g o c := fun j hj => by
  have hx := h.1
  obtain ⟨u, hu⟩ : ∃ u, xs[o + j]? = some u := ⟨_, List.getElem?_eq_getElem (by omega)⟩
  rw [own_cell h hu]
  exact ⟨rfl, own_free h _⟩
end
theorem own_range {α : Type} {enc : α → List Value} {W : World} {base e sz g cap n : Nat} {l : List α} (hl : Fits enc sz l) (h : W.ownsRow base e sz (.slice (some ⟨g, 0, none⟩) n cap) n (rowL enc l)) {k : Nat} {x : α} (hk : l[k]? = some x) {o c : Nat} :
    W.rangeAt g (k * sz + o) (((enc x).drop o).take c) := fun j v hj => by
  have e1 : (enc x)[o + j]? = some v := by
    rw [List.getElem?_take] at hj
    split at hj
    · rw [List.getElem?_drop] at hj; exact hj
    · cases hj
  rw [Nat.add_assoc]
  exact own_cell h (rowL_at hl hk e1)
theorem setRow_self {w : World} {g : Nat} {C : Array Value} {t : TypeId} {fr : Nat × Nat} (h : w.heap[g]? = some (.cells C t fr)) : w.setRow g C = w := by
  have e : (w.setRow g C).heap = w.heap := by
    apply Array.ext_getElem?
    intro i
    by_cases hi : i = g
    · subst hi; rw [setRow_heap w i C C t fr h, h]
    · exact setRow_other w g i C hi
  show { w with heap := (w.setRow g C).heap } = w
  rw [e]
end Go.Proofs.Ytcmmopngjeonfaa
