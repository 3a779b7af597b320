/- Rows of elements of several cells each: what lies where, stored into; what a call may touch. Of no function. -/
import Derived.Test.YtamnpblijdgdaaaKZ
import Derived.Test.YtamnpblijdgdaaaFx
import Derived.Deep.MidRow
import Derived.Laws.CopyOwn
namespace Go.Proofs.Ytamnpblijdgdaaa
open Go.ChangeShapes Go.WideShapes Go.ChangeAt Go.RowKit
set_option linter.unusedVariables false
section
variable {α : Type}
def rowL (enc : α → List Value) : List α → List Value
  | [] => []
  | x :: l => enc x ++ rowL enc l
def Fits (enc : α → List Value) (sz : Nat) (l : List α) : Prop := ∀ x ∈ l, (enc x).length = sz
theorem Fits.tl {enc : α → List Value} {sz : Nat} {x : α} {l : List α} (h : Fits enc sz (x :: l)) : Fits enc sz l := fun y hy => h y (by simp [hy])
theorem Fits.hd {enc : α → List Value} {sz : Nat} {x : α} {l : List α} (h : Fits enc sz (x :: l)) : (enc x).length = sz := h x (by simp)
theorem rowL_append (enc : α → List Value) : ∀ (l m : List α), rowL enc (l ++ m) = rowL enc l ++ rowL enc m
  | [], _ => rfl
  | x :: l, m => by show enc x ++ rowL enc (l ++ m) = _; rw [rowL_append enc l m, ← List.append_assoc]; rfl
theorem rowL_length {enc : α → List Value} {sz : Nat} : ∀ {l : List α}, Fits enc sz l → (rowL enc l).length = l.length * sz
  | [], _ => by simp [rowL]
  | x :: l, h => by
    show (enc x ++ rowL enc l).length = (l.length + 1) * sz
    rw [List.length_append, h.hd, rowL_length h.tl, Nat.add_mul]; omega
theorem rowL_at {enc : α → List Value} {sz : Nat} : ∀ {l : List α}, Fits enc sz l → ∀ {i : Nat} {x : α}, l[i]? = some x → ∀ {j : Nat} {v : Value}, (enc x)[j]? = some v → (rowL enc l)[i * sz + j]? = some v
  | [], _, i, x, h, _, _, _ => by cases h
  | y :: l, hl, 0, x, h, j, v, hj => by
    injection h with h; subst h
    show (enc y ++ rowL enc l)[0 * sz + j]? = some v
    rw [Nat.zero_mul, Nat.zero_add, List.getElem?_append_left (List.getElem?_eq_some_iff.1 hj).1]; exact hj
  | y :: l, hl, i + 1, x, h, j, v, hj => by
    have h1 := rowL_at (l := l) hl.tl (i := i) h hj
    show (enc y ++ rowL enc l)[(i + 1) * sz + j]? = some v
    rw [List.getElem?_append_right (by rw [hl.hd, Nat.add_mul]; omega), hl.hd, show (i + 1) * sz + j - sz = i * sz + j by rw [Nat.add_mul]; omega]
    exact h1
theorem rowL_one {enc : α → List Value} (h1 : ∀ x, ∀ v ∈ enc x, v.oneCell' = true) : ∀ (l : List α), ∀ v ∈ rowL enc l, v.oneCell' = true
  | [], v, h => by cases h
  | x :: l, v, h => by
    rcases List.mem_append.1 (show v ∈ enc x ++ rowL enc l from h) with h | h
    · exact h1 x v h
    · exact rowL_one h1 l v h
theorem rowL_set {enc : α → List Value} {sz : Nat} : ∀ {l : List α}, Fits enc sz l → ∀ {k : Nat} {x y : α} {j : Nat} {v : Value}, l[k]? = some x → j < sz → enc y = (enc x).set j v → (rowL enc l).set (k * sz + j) v = rowL enc (l.set k y)
  | [], _, k, x, _, _, _, h, _, _ => by cases h
  | z :: l, hl, 0, x, y, j, v, h, hj, he => by
    injection h with h; subst h
    show (enc z ++ rowL enc l).set (0 * sz + j) v = enc y ++ rowL enc l
    rw [Nat.zero_mul, Nat.zero_add, List.set_append_left _ _ (by rw [hl.hd]; exact hj), he]
  | z :: l, hl, k + 1, x, y, j, v, h, hj, he => by
    show (enc z ++ rowL enc l).set ((k + 1) * sz + j) v = enc z ++ rowL enc (l.set k y)
    rw [List.set_append_right _ _ (by rw [hl.hd, Nat.add_mul]; omega), hl.hd, show (k + 1) * sz + j - sz = k * sz + j by rw [Nat.add_mul]; omega, rowL_set hl.tl h hj he]
theorem rowL_splice {enc : α → List Value} {sz : Nat} : ∀ {l : List α}, Fits enc sz l → ∀ {k : Nat} {x y : α} {j : Nat} {cs : List Value}, l[k]? = some x → j + cs.length ≤ sz → enc y = splice (enc x) j cs → splice (rowL enc l) (k * sz + j) cs = rowL enc (l.set k y)
  | [], _, k, x, _, _, _, h, _, _ => by cases h
  | z :: l, hl, 0, x, y, j, cs, h, hj, he => by
    injection h with h; subst h
    show splice (enc z ++ rowL enc l) (0 * sz + j) cs = enc y ++ rowL enc l
    rw [Nat.zero_mul, Nat.zero_add, he]
    unfold splice
    have := hl.hd
    rw [List.take_append_of_le_length (by omega), List.drop_append_of_le_length (by omega)]
    simp
  | z :: l, hl, k + 1, x, y, j, cs, h, hj, he => by
    show splice (enc z ++ rowL enc l) ((k + 1) * sz + j) cs = enc z ++ rowL enc (l.set k y)
    rw [← rowL_splice hl.tl h hj he]
    have e := hl.hd
    unfold splice
    rw [show (k + 1) * sz + j = (enc z).length + (k * sz + j) by rw [e, Nat.add_mul]; omega, List.take_length_add_append, Nat.add_assoc, List.drop_length_add_append]
    simp
theorem rowL_take {enc : α → List Value} {sz : Nat} : ∀ {l : List α}, Fits enc sz l → ∀ (k : Nat), (rowL enc l).take (k * sz) = rowL enc (l.take k)
  | [], _, k => by simp [rowL]
  | z :: l, hl, 0 => by simp [rowL]
  | z :: l, hl, k + 1 => by
    show (enc z ++ rowL enc l).take ((k + 1) * sz) = enc z ++ rowL enc (l.take k)
    rw [show (k + 1) * sz = (enc z).length + k * sz by rw [hl.hd, Nat.add_mul]; omega, List.take_length_add_append, rowL_take hl.tl]
theorem rowL_drop {enc : α → List Value} {sz : Nat} : ∀ {l : List α}, Fits enc sz l → ∀ (k : Nat), (rowL enc l).drop (k * sz) = rowL enc (l.drop k)
  | [], _, k => by simp [rowL]
  | z :: l, hl, 0 => by simp
  | z :: l, hl, k + 1 => by
    show (enc z ++ rowL enc l).drop ((k + 1) * sz) = rowL enc (l.drop k)
    rw [show (k + 1) * sz = (enc z).length + k * sz by rw [hl.hd, Nat.add_mul]; omega, List.drop_length_add_append, rowL_drop hl.tl]
end
theorem splice_length {α : Type} (L : List α) (o : Nat) (cs : List α) (h : o + cs.length ≤ L.length) : (splice L o cs).length = L.length := by
  unfold splice; simp; omega
theorem splice_take {α : Type} (L : List α) (o m : Nat) (cs : List α) (h : o + cs.length ≤ m) (hm : m ≤ L.length) : (splice L o cs).take m = splice (L.take m) o cs := by
  unfold splice
  rw [List.take_append, List.take_append, List.take_take, List.take_take, List.take_of_length_le (l := cs) (by simp; omega), List.drop_take]
  rw [show min m o = o by omega, show min o m = o by omega]
  congr 3
  simp; omega
theorem splice_whole {α : Type} (L cs : List α) (h : L.length = cs.length) : splice L 0 cs = cs := by
  unfold splice; simp [h.symm]
theorem heap_setCells {g : Nat} {t : TypeId} : ∀ (cs : List Value) (o : Nat) (C : Array Value) (W : World), W.heap[g]? = some (.cells C t (0, 0)) → o + cs.length ≤ C.size → (W.setCells g o cs).heap[g]? = some (.cells (splice C.toList o cs).toArray t (0, 0))
  | [], o, C, W, h, _ => by
    show W.heap[g]? = _
    rw [h]; unfold splice; simp
  | v :: r, o, C, W, h, hl => by
    show ((W.setCell ⟨g, o, none⟩ v).setCells g (o + 1) r).heap[g]? = _
    simp only [List.length_cons] at hl
    rw [heap_setCells r (o + 1) _ _ (heap_setCell_same' h v) (by simp; omega), Array.toList_setIfInBounds]
    congr 3
    unfold splice
    rw [List.take_add_one, List.take_set_of_le (by omega), List.getElem?_set_self (by simp; omega), List.drop_set_of_lt (by omega)]
    simp [show o + 1 + r.length = o + (r.length + 1) by omega]
theorem below_setCells {B g : Nat} : ∀ (cs : List Value) (o : Nat) {w W : World}, Below B w W → B ≤ g → Below B w (W.setCells g o cs)
  | [], _, _, _, h, _ => h
  | v :: r, o, w, W, h, hg => below_setCells r (o + 1) (h.setCell hg v) hg
theorem heap_setCells_other {g k : Nat} (hk : k ≠ g) : ∀ (cs : List Value) (o : Nat) (W : World), (W.setCells g o cs).heap[k]? = W.heap[k]?
  | [], _, _ => rfl
  | v :: r, o, W => by
    show ((W.setCell ⟨g, o, none⟩ v).setCells g (o + 1) r).heap[k]? = _
    rw [heap_setCells_other hk r, heap_setCell_other _ _ _ _ hk]
/-! A row that is owned. -/
section
variable {W : World} {base e sz n g cap : Nat} {xs : List Value}
theorem own_blk (h : W.ownsRow base e sz (.slice (some ⟨g, 0, none⟩) n cap) n xs) : ∃ cur, W.heap[g]? = some (.cells cur e (0, 0)) ∧ n ≤ cap ∧ cap ≤ maxLen ∧ cur.size = cap * sz ∧ cur.toList.take (n * sz) = xs ∧ base ≤ g := by
  rcases h.2 with ⟨h0, _⟩ | ⟨g', cap', cur, e', hb, hg, hn, hm, hs, ht⟩
  · cases h0
  · injection e' with e1 e2 e3
    injection e1 with e1; injection e1 with e1
    subst e1; subst e3
    exact ⟨cur, hg, hn, hm, hs, ht, hb⟩
theorem own_set_in (h : W.ownsRow base e sz (.slice (some ⟨g, 0, none⟩) n cap) n xs) {k : Nat} (hk : k < n * sz) (u : Value) : (W.setCell ⟨g, k, none⟩ u).ownsRow base e sz (.slice (some ⟨g, 0, none⟩) n cap) n (xs.set k u) := by
  obtain ⟨cur, hg, hn, hm, hs, ht, hb⟩ := own_blk h
  refine ⟨by rw [List.length_set]; exact h.1, Or.inr ⟨g, cap, cur.setIfInBounds k u, rfl, hb, heap_setCell_same' hg u, hn, hm, by simp [hs], ?_⟩⟩
  rw [Array.toList_setIfInBounds, List.take_set, ht]
theorem own_splice_in (h : W.ownsRow base e sz (.slice (some ⟨g, 0, none⟩) n cap) n xs) {o : Nat} (cs : List Value) (ho : o + cs.length ≤ n * sz) : (W.setCells g o cs).ownsRow base e sz (.slice (some ⟨g, 0, none⟩) n cap) n (splice xs o cs) := by
  obtain ⟨cur, hg, hn, hm, hs, ht, hb⟩ := own_blk h
  have h1 : n * sz ≤ cap * sz := Nat.mul_le_mul_right _ hn
  refine ⟨by rw [splice_length _ _ _ (by rw [h.1]; exact ho)]; exact h.1, Or.inr ⟨g, cap, _, rfl, hb, heap_setCells cs o cur W hg (by omega), hn, hm, by simp only [List.size_toArray]; rw [splice_length _ _ _ (by simp; omega)]; simp [hs], ?_⟩⟩
  rw [List.toList_toArray, splice_take _ _ _ _ ho (by simp; omega), ht]
theorem own_cell (h : W.ownsRow base e sz (.slice (some ⟨g, 0, none⟩) n cap) n xs) {k : Nat} {u : Value} (hk : xs[k]? = some u) : W.cell? ⟨g, k, none⟩ = some u := by
  have := h.cells (g := g) rfl _ _ hk
  rwa [add_at] at this
theorem own_free (h : W.ownsRow base e sz (.slice (some ⟨g, 0, none⟩) n cap) n xs) (k : Nat) : W.frozen? ⟨g, k, none⟩ = false := by
  obtain ⟨cur, hg, _⟩ := own_blk h
  exact blk_free hg k
theorem own_there (h : W.ownsRow base e sz (.slice (some ⟨g, 0, none⟩) n cap) n xs) {o c : Nat} (hc : o + c ≤ n * sz) : W.there g o c := fun j hj => by
  have hx := h.1
  obtain ⟨u, hu⟩ : ∃ u, xs[o + j]? = some u := ⟨_, List.getElem?_eq_getElem (by omega)⟩
  rw [own_cell h hu]
  exact ⟨rfl, own_free h _⟩
end
theorem own_range {α : Type} {enc : α → List Value} {W : World} {base e sz g cap n : Nat} {l : List α} (hl : Fits enc sz l) (h : W.ownsRow base e sz (.slice (some ⟨g, 0, none⟩) n cap) n (rowL enc l)) {k : Nat} {x : α} (hk : l[k]? = some x) {o c : Nat} :
    W.rangeAt g (k * sz + o) (((enc x).drop o).take c) := fun j v hj => by
  have e1 : (enc x)[o + j]? = some v := by
    rw [List.getElem?_take] at hj
    split at hj
    · rw [List.getElem?_drop] at hj; exact hj
    · cases hj
  rw [Nat.add_assoc]
  exact own_cell h (rowL_at hl hk e1)
/-! What a call may touch: the blocks of R, and new ones. -/
structure Stp (R : Nat → Prop) (w w' : World) : Prop where
  os : w'.os = w.os
  tape : w'.tape = w.tape
  output : w'.output = w.output
  size : w.heap.size ≤ w'.heap.size
  block : ∀ k, k < w.heap.size → ¬ R k → w'.heap[k]? = w.heap[k]?
/-- R, and what is new. -/
def New (R : Nat → Prop) (w w' : World) (k : Nat) : Prop := R k ∨ (w.heap.size ≤ k ∧ k < w'.heap.size)
theorem Stp.refl (R : Nat → Prop) (w : World) : Stp R w w := ⟨rfl, rfl, rfl, Nat.le_refl _, fun _ _ _ => rfl⟩
theorem Stp.trans {R R' : Nat → Prop} {w w1 w2 : World} (h : Stp R w w1) (h' : Stp R' w1 w2) (hR : ∀ k, k < w.heap.size → R' k → R k) : Stp R w w2 :=
  ⟨h'.os.trans h.os, h'.tape.trans h.tape, h'.output.trans h.output, Nat.le_trans h.size h'.size, fun k hk hn => (h'.block k (Nat.lt_of_lt_of_le hk h.size) (fun e => hn (hR k hk e))).trans (h.block k hk hn)⟩
theorem Stp.next {R : Nat → Prop} {w w1 w2 : World} (h : Stp R w w1) (h' : Stp (New R w w1) w1 w2) : Stp R w w2 :=
  h.trans h' fun k hk hn => hn.elim id fun h => absurd h.1 (by omega)
theorem Stp.ofBelow {R : Nat → Prop} {w w1 w2 : World} (h : Stp R w w1) (hb : Below w1.heap.size w1 w2) : Stp R w w2 :=
  ⟨hb.os.trans h.os, hb.tape.trans h.tape, hb.output.trans h.output, Nat.le_trans h.size hb.size, fun k hk hn => (hb.block k (Nat.lt_of_lt_of_le hk h.size)).trans (h.block k hk hn)⟩
theorem Stp.grown {R : Nat → Prop} {w w1 w2 : World} {r : Option Nat} (h : Stp R w w1) (hg : w1.grownBy w2 r) (hr : ∀ k, r = some k → k < w.heap.size → R k) : Stp R w w2 :=
  ⟨hg.os.trans h.os, hg.tape.trans h.tape, hg.output.trans h.output, Nat.le_trans h.size hg.size, fun k hk hn => (hg.block k (Nat.lt_of_lt_of_le hk h.size) (fun e => hn (hr k e.symm hk))).trans (h.block k hk hn)⟩
theorem Stp.alloc {R : Nat → Prop} {w W : World} (h : Stp R w W) (o : Obj) : Stp R w (W.alloc o) :=
  ⟨h.os, h.tape, h.output, by show _ ≤ (W.heap.push o).size; simp; have := h.size; omega, fun k hk hn => (Go.heap_alloc_old W o (Nat.lt_of_lt_of_le hk h.size)).trans (h.block k hk hn)⟩
theorem Stp.setCell {R : Nat → Prop} {w W : World} (h : Stp R w W) {a : Addr} (ha : a.block < w.heap.size → R a.block) (u : Value) : Stp R w (W.setCell a u) :=
  ⟨h.os, h.tape, h.output, by show _ ≤ (W.heap.modify _ _).size; simp; exact h.size, fun k hk hn => by
    rw [heap_setCell_other _ _ _ _ (fun e => hn (by rw [e]; exact ha (by rw [← e]; exact hk)))]; exact h.block k hk hn⟩
theorem Stp.setCells {R : Nat → Prop} {w : World} {g : Nat} (hg : g < w.heap.size → R g) : ∀ (cs : List Value) (o : Nat) {W : World}, Stp R w W → Stp R w (W.setCells g o cs)
  | [], _, _, h => h
  | v :: r, o, _, h => Stp.setCells hg r (o + 1) (h.setCell hg v)
theorem Stp.drew {R : Nat → Prop} {w W : World} (h : Stp R w W) (n : Nat) : Stp R w (W.drewN n) := ⟨h.os, h.tape, h.output, h.size, h.block⟩
theorem Stp.below {R : Nat → Prop} {B : Nat} {w0 w w' : World} (h0 : Below B w0 w) (h : Stp R w w') (hB : B ≤ w.heap.size) (hR : ∀ k, R k → B ≤ k) : Below B w0 w' :=
  ⟨h.os.trans h0.os, h.tape.trans h0.tape, h.output.trans h0.output, Nat.le_trans h0.size h.size, fun k hk => (h.block k (Nat.lt_of_lt_of_le hk hB) (fun e => by
    have := hR k e; omega)).trans (h0.block k hk)⟩
theorem Stp.cell {R : Nat → Prop} {w w' : World} (h : Stp R w w') {q : Addr} {v : Value} (hq : w.cell? q = some v) (hn : ¬ R q.block) : w'.cell? q = some v :=
  (World.cell?_of_block (h.block q.block (World.block_lt_of_cell? w q hq) hn)).trans hq
theorem Stp.heap {R : Nat → Prop} {w w' : World} (h : Stp R w w') {g : Nat} {o : Obj} (hq : w.heap[g]? = some o) (hn : ¬ R g) : w'.heap[g]? = some o :=
  (h.block g (room_lt hq) hn).trans hq
theorem Stp.own {R : Nat → Prop} {w w' : World} (h : Stp R w w') {base e sz n : Nat} {v : Value} {xs : List Value} (ho : w.ownsRow base e sz v n xs) (hn : ∀ k, v.ownBlock = some k → ¬ R k) : w'.ownsRow base e sz v n xs := by
  refine ⟨ho.1, ?_⟩
  rcases ho.2 with h0 | ⟨g, cap, cur, rfl, hb, hgg, rest⟩
  · exact .inl h0
  · exact .inr ⟨g, cap, cur, rfl, hb, h.heap hgg (hn g rfl), rest⟩
theorem New.mono {R : Nat → Prop} {w w1 w2 : World} (h : w1.heap.size ≤ w2.heap.size) {k : Nat} (hk : New R w w1 k) : New R w w2 k := hk.imp id fun h' => ⟨h'.1, Nat.lt_of_lt_of_le h'.2 h⟩
theorem New.next {R : Nat → Prop} {w w1 w2 : World} (h : w.heap.size ≤ w1.heap.size) (h2 : w1.heap.size ≤ w2.heap.size) {k : Nat} (hk : New (New R w w1) w1 w2 k) : New R w w2 k := by
  rcases hk with (h' | h') | h'
  · exact .inl h'
  · exact .inr ⟨h'.1, by omega⟩
  · exact .inr ⟨by omega, h'.2⟩
end Go.Proofs.Ytamnpblijdgdaaa
