/- Memory that an object owns: what a step touches; rows, and rows of rows. Of no function. -/
import Derived.Test.YtcmmopngjeonfaaK4
import Derived.Deep.MidRow
import Derived.Laws.CopyOwn
namespace Go.Proofs.Ytcmmopngjeonfaa
open Go.ChangeShapes Go.WideShapes Go.ChangeAt Go.RowKit
set_option linter.unusedVariables false
/-- Of what was there only blocks of F may have turned. -/
structure Touch (F : Nat → Prop) (w w' : World) : Prop where
  os : w'.os = w.os
  tape : w'.tape = w.tape
  output : w'.output = w.output
  size : w.heap.size ≤ w'.heap.size
  block : ∀ k, k < w.heap.size → ¬ F k → w'.heap[k]? = w.heap[k]?
theorem Touch.refl (F : Nat → Prop) (w : World) : Touch F w w := ⟨rfl, rfl, rfl, Nat.le_refl _, fun _ _ _ => rfl⟩
theorem Touch.trans' {F G : Nat → Prop} {a b c : World} (h : Touch F a b) (k : Touch G b c) (hG : ∀ x, G x → F x ∨ a.heap.size ≤ x) : Touch F a c :=
  ⟨k.os.trans h.os, k.tape.trans h.tape, k.output.trans h.output, Nat.le_trans h.size k.size, fun i hi hf =>
    (k.block i (Nat.lt_of_lt_of_le hi h.size) (fun hg => by rcases hG i hg with h1 | h1; exact hf h1; omega)).trans (h.block i hi hf)⟩
theorem Touch.trans {F : Nat → Prop} {a b c : World} (h : Touch F a b) (k : Touch F b c) : Touch F a c := h.trans' k fun _ h => Or.inl h
theorem Touch.mono {F G : Nat → Prop} {a b : World} (h : Touch F a b) (hG : ∀ x, x < a.heap.size → F x → G x) : Touch G a b :=
  ⟨h.os, h.tape, h.output, h.size, fun k hk hg => h.block k hk fun hf => hg (hG k hk hf)⟩
theorem Touch.of_below {w w' : World} (h : Below w.heap.size w w') (F : Nat → Prop) : Touch F w w' := ⟨h.os, h.tape, h.output, h.size, fun k hk _ => h.block k hk⟩
theorem Touch.below {F : Nat → Prop} {w w' : World} {B : Nat} (h : Touch F w w') (hB : B ≤ w.heap.size) (hF : ∀ k, F k → B ≤ k) : Below B w w' :=
  ⟨h.os, h.tape, h.output, h.size, fun k hk => h.block k (by omega) fun hf => by have := hF k hf; omega⟩
theorem Touch.of_grown {w w' : World} {row : Option Nat} (h : w.grownBy w' row) : Touch (fun k => some k = row) w w' := ⟨h.os, h.tape, h.output, h.size, fun k hk hn => h.block k hk hn⟩
theorem Touch.drew {F : Nat → Prop} {a w : World} (h : Touch F a w) : Touch F a w.drew := ⟨h.os, h.tape, h.output, h.size, h.block⟩
theorem Touch.drewN {F : Nat → Prop} {a w : World} (h : Touch F a w) (n : Nat) : Touch F a (w.drewN n) := ⟨h.os, h.tape, h.output, h.size, h.block⟩
theorem Touch.alloc {F : Nat → Prop} {a w : World} (h : Touch F a w) (o : Obj) : Touch F a (w.alloc o) :=
  h.trans ⟨rfl, rfl, rfl, by simp, fun k hk _ => Below.heap_alloc w o k hk⟩
theorem Touch.setCell {F : Nat → Prop} {a w : World} (h : Touch F a w) {p : Addr} (hp : F p.block) (u : Value) : Touch F a (w.setCell p u) :=
  h.trans ⟨rfl, rfl, rfl, by simp [World.setCell], fun k _ hk => Below.heap_setCell _ _ _ _ (fun e => hk (e ▸ hp))⟩
/-- A store into what is new. -/
theorem Touch.setNew {F : Nat → Prop} {a w : World} (h : Touch F a w) {p : Addr} (hp : a.heap.size ≤ p.block) (u : Value) : Touch F a (w.setCell p u) :=
  h.trans' (G := fun k => k = p.block) ⟨rfl, rfl, rfl, by simp [World.setCell], fun k _ hk => Below.heap_setCell _ _ _ _ hk⟩ (fun x hx => Or.inr (by omega))
theorem size_setCells (b : Nat) : ∀ (vs : List Value) (o : Nat) (w : World), (w.setCells b o vs).heap.size = w.heap.size
  | [], _, _ => rfl
  | v :: r, o, w => by rw [World.setCells, size_setCells b r]; simp [World.setCell]
theorem setCells_other (b : Nat) : ∀ (vs : List Value) (o : Nat) (w : World) (k : Nat), k ≠ b → (w.setCells b o vs).heap[k]? = w.heap[k]?
  | [], _, _, _, _ => rfl
  | v :: r, o, w, k, h => by rw [World.setCells, setCells_other b r _ _ _ h, Below.heap_setCell _ _ _ _ h]
theorem setCells_env (b : Nat) : ∀ (vs : List Value) (o : Nat) (w : World), (w.setCells b o vs).os = w.os ∧ (w.setCells b o vs).tape = w.tape ∧ (w.setCells b o vs).output = w.output
  | [], _, _ => ⟨rfl, rfl, rfl⟩
  | v :: r, o, w => by rw [World.setCells]; exact setCells_env b r (o + 1) _
/-- A known block behind a store of many cells. -/
theorem setCells_same (b : Nat) (t : TypeId) : ∀ (vs : List Value) (o : Nat) (w : World) (C : List Value), w.heap[b]? = some (.cells C.toArray t (0, 0)) → o + vs.length ≤ C.length →
    (w.setCells b o vs).heap[b]? = some (.cells (splice C o vs).toArray t (0, 0))
  | [], o, w, C, h, _ => by simpa [splice, World.setCells] using h
  | v :: r, o, w, C, h, hl => by
    rw [World.setCells]
    have h1 : (w.setCell ⟨b, o, none⟩ v).heap[b]? = some (.cells (C.set o v).toArray t (0, 0)) := by
      rw [heap_setCell_same w b o C.toArray t v h]; simp
    rw [setCells_same b t r (o + 1) _ _ h1 (by simp at hl ⊢; omega)]
    congr 3
    simp only [List.length_cons] at hl
    unfold splice
    apply List.ext_getElem?
    intro i
    rw [List.getElem?_append, List.getElem?_append, List.getElem?_append, List.getElem?_append]
    simp only [List.length_take, List.length_set, List.getElem?_take, List.getElem?_drop, List.getElem?_set, List.length_cons, List.getElem?_cons]
    have e1 : min (o + 1) C.length = o + 1 := by omega
    have e2 : min o C.length = o := by omega
    rw [e1, e2]
    by_cases c1 : i < o
    · simp [c1, show i < o + 1 by omega, show ¬ o = i by omega]
    · by_cases c2 : i = o
      · subst c2; simp [show i < C.length by omega]
      · have c3 : ¬ i < o + 1 := by omega
        simp only [c1, c3, if_false]
        by_cases c4 : i - (o + 1) < r.length
        · simp [c4, show i - o < r.length + 1 by omega, show ¬ i - o = 0 by omega, show i - o - 1 = i - (o + 1) by omega]
        · simp only [c4, if_false, show ¬ i - o < r.length + 1 by omega]
          rw [if_neg (by omega)]
          congr 1; omega
theorem Touch.setCells {F : Nat → Prop} {a w : World} (h : Touch F a w) {b : Nat} (hp : F b) (o : Nat) (vs : List Value) : Touch F a (w.setCells b o vs) :=
  h.trans ⟨(setCells_env b vs o w).1, (setCells_env b vs o w).2.1, (setCells_env b vs o w).2.2, by rw [size_setCells]; exact Nat.le_refl _, fun k _ hk => setCells_other b vs o w k (fun e => hk (e ▸ hp))⟩
/-- A row whose block, if it has one, is of those named. -/
def RowAt (w : World) (Own : Nat → Prop) (E : TypeId) (sz : Nat) (v : Value) (n : Nat) (xs : List Value) : Prop :=
  w.ownsRow 0 E sz v n xs ∧ ∀ g, v.ownBlock = some g → Own g
section
variable {w w' : World} {Own : Nat → Prop} {E : TypeId} {sz : Nat} {v : Value} {n : Nat} {xs : List Value}
theorem RowAt.len (h : RowAt w Own E sz v n xs) : xs.length = n * sz := h.1.1
theorem RowAt.keep (h : RowAt w Own E sz v n xs) (hk : ∀ k, k < w.heap.size → Own k → w'.heap[k]? = w.heap[k]?) : RowAt w' Own E sz v n xs := by
  refine ⟨⟨h.1.1, ?_⟩, h.2⟩
  rcases h.1.2 with h1 | ⟨g, cap, cur, rfl, hb, hg, h2⟩
  · exact Or.inl h1
  · refine Or.inr ⟨g, cap, cur, rfl, hb, ?_, h2⟩
    rw [hk g (room_lt hg) (h.2 g rfl)]; exact hg
theorem RowAt.touch {F : Nat → Prop} (h : RowAt w Own E sz v n xs) (ht : Touch F w w') (hd : ∀ k, Own k → ¬ F k) : RowAt w' Own E sz v n xs :=
  h.keep fun k hk ho => ht.block k hk (hd k ho)
theorem RowAt.below (h : RowAt w Own E sz v n xs) (hb : Below w.heap.size w w') : RowAt w' Own E sz v n xs := h.keep fun k hk _ => hb.block k hk
theorem RowAt.owner {Own' : Nat → Prop} (h : RowAt w Own E sz v n xs) (ho : ∀ g, g < w.heap.size → Own g → Own' g) : RowAt w Own' E sz v n xs :=
  ⟨h.1, fun g hg => ho g (h.1.lt g hg).2 (h.2 g hg)⟩
theorem RowAt.val (h : RowAt w Own E sz v n xs) : ∃ A cap, v = .slice A n cap ∧ n ≤ cap ∧ cap ≤ 9223372036854775807 := by
  rcases h.1.2 with ⟨rfl, h0⟩ | ⟨g, cap, cur, rfl, hb, hg, hn, hm, _⟩
  · exact ⟨none, 0, by rw [h0], by omega, by omega⟩
  · exact ⟨_, cap, rfl, hn, by simp only [maxLen] at hm; omega⟩
/-- A row that is not empty: where it lies. -/
theorem RowAt.pos (h : RowAt w Own E sz v n xs) (hn : 0 < n) :
    ∃ g cap, v = .slice (some ⟨g, 0, none⟩) n cap ∧ Own g ∧ g < w.heap.size ∧ n ≤ cap ∧ cap ≤ 9223372036854775807 ∧ (∀ j, j < n * sz → w.cell? ⟨g, j, none⟩ = xs[j]?) ∧ ∀ j, w.frozen? ⟨g, j, none⟩ = false := by
  rcases h.1.2 with ⟨_, h0⟩ | ⟨g, cap, cur, rfl, hb, hg, hn', hm, hs, ht⟩
  · omega
  · exact ⟨g, cap, rfl, h.2 g rfl, room_lt hg, hn', by simp only [maxLen] at hm; omega, fun j hj => h.1.cellAt j hj, fun j => h.1.frozenAt j⟩
/-- The n-th element, where an element is one cell. -/
theorem RowAt.one {g cap : Nat} (h : RowAt w Own E 1 (.slice (some ⟨g, 0, none⟩) n cap) n xs) {j : Nat} {x : Value} (hx : xs[j]? = some x) : w.cell? ⟨g, j, none⟩ = some x := by
  have hj := (List.getElem?_eq_some_iff.1 hx).1
  rw [h.1.cellAt j (by have := h.len; omega)]; exact hx
theorem RowAt.lt {g cap m : Nat} (h : RowAt w Own E sz (.slice (some ⟨g, 0, none⟩) m cap) n xs) : g < w.heap.size ∧ Own g := ⟨(h.1.lt g rfl).2, h.2 g rfl⟩
theorem RowAt.nil (w : World) (Own : Nat → Prop) (E : TypeId) (sz : Nat) : RowAt w Own E sz (.slice none 0 0) 0 [] := ⟨World.ownsRow_nil _ _ _ _, fun g h => by cases h⟩
/-- One cell of the row is stored. -/
theorem RowAt.stored {g cap : Nat} (h : RowAt w Own E sz (.slice (some ⟨g, 0, none⟩) n cap) n xs) (j : Nat) (u : Value) : RowAt (w.setCell ⟨g, j, none⟩ u) Own E sz (.slice (some ⟨g, 0, none⟩) n cap) n (xs.set j u) :=
  ⟨(h.1.stored j u).1, h.2⟩
/-- Many are. -/
theorem RowAt.storedMany {g cap : Nat} (h : RowAt w Own E sz (.slice (some ⟨g, 0, none⟩) n cap) n xs) (o : Nat) (us : List Value) (hf : o + us.length ≤ n * sz) :
    RowAt (w.setCells g o us) Own E sz (.slice (some ⟨g, 0, none⟩) n cap) n (splice xs o us) := by
  refine ⟨⟨by rw [length_splice _ _ _ (by rw [h.len]; exact hf)]; exact h.len, ?_⟩, h.2⟩
  rcases h.1.2 with ⟨h', _⟩ | ⟨g', cap', cur, h', hb, hg, hn', hm, hs, ht⟩
  · cases h'
  · injection h' with e1 e2 e3
    injection e1 with e1; injection e1 with e1
    subst e1; subst e3
    have hc : n * sz ≤ cap * sz := Nat.mul_le_mul_right _ hn'
    have hcl : cur.toList.length = cap * sz := by rw [← hs]; simp
    have hle : o + us.length ≤ cur.toList.length := by omega
    have := setCells_same g E us o w cur.toList (by simpa using hg) hle
    refine Or.inr ⟨g, cap, _, rfl, hb, this, hn', hm, ?_, ?_⟩
    · rw [List.size_toArray, length_splice _ _ _ hle, hcl]
    · rw [← ht]
      unfold splice
      rw [List.take_append, List.take_take, List.length_take, hcl]
      have e1 : min o (cap * sz) = o := by omega
      rw [e1, List.take_append, show min (n * sz) o = o by omega, List.take_of_length_le (l := us) (by omega), List.take_take, show min o (n * sz) = o by omega]
      congr 2
      rw [List.take_drop, show o + us.length + (n * sz - o - us.length) = n * sz by omega]
theorem RowAt.there {g cap : Nat} (h : RowAt w Own E sz (.slice (some ⟨g, 0, none⟩) n cap) n xs) (o m : Nat) (hf : o + m ≤ n * sz) : w.there g o m := fun j hj => by
  have hl := h.len
  exact ⟨by rw [h.1.cellAt _ (by omega), List.getElem?_eq_getElem (by omega)]; rfl, h.1.frozenAt _⟩
theorem RowAt.range {g cap : Nat} (h : RowAt w Own E sz (.slice (some ⟨g, 0, none⟩) n cap) n xs) (o : Nat) (cs : List Value) (hf : o + cs.length ≤ n * sz) (hc : (xs.drop o).take cs.length = cs) : w.rangeAt g o cs := fun j u hj => by
  have hlt := (List.getElem?_eq_some_iff.1 hj).1
  rw [h.1.cellAt _ (by omega)]
  rw [← hc, List.getElem?_take, if_pos hlt, List.getElem?_drop] at hj
  exact hj
end
/-- Rows of rows: the r-th row's block is of OR r. -/
def RowsAt {α : Type} (w : World) (OT : Nat → Prop) (OR : Nat → Nat → Prop) (ET ER : TypeId) (sz : Nat) (enc : List α → List Value) (v : Value) (rows : List (List α)) : Prop :=
  ∃ vs, RowAt w OT ET 1 v rows.length vs ∧ ∀ r row, rows[r]? = some row → ∃ u, vs[r]? = some u ∧ RowAt w (OR r) ER sz u row.length (enc row)
section
variable {α : Type} {w w' : World} {OT : Nat → Prop} {OR : Nat → Nat → Prop} {ET ER : TypeId} {sz : Nat} {enc : List α → List Value} {v : Value} {rows : List (List α)}
theorem RowsAt.keep (h : RowsAt w OT OR ET ER sz enc v rows) (hk : ∀ k, k < w.heap.size → OT k ∨ (∃ r, OR r k) → w'.heap[k]? = w.heap[k]?) : RowsAt w' OT OR ET ER sz enc v rows := by
  obtain ⟨vs, h1, h2⟩ := h
  refine ⟨vs, h1.keep fun k hk' ho => hk k hk' (Or.inl ho), fun r row hr => ?_⟩
  obtain ⟨u, hu, h3⟩ := h2 r row hr
  exact ⟨u, hu, h3.keep fun k hk' ho => hk k hk' (Or.inr ⟨r, ho⟩)⟩
theorem RowsAt.owner {OT' : Nat → Prop} {OR' : Nat → Nat → Prop} (h : RowsAt w OT OR ET ER sz enc v rows) (h1 : ∀ k, k < w.heap.size → OT k → OT' k) (h2 : ∀ r k, k < w.heap.size → OR r k → OR' r k) : RowsAt w OT' OR' ET ER sz enc v rows := by
  obtain ⟨vs, h3, h4⟩ := h
  refine ⟨vs, h3.owner h1, fun r row hr => ?_⟩
  obtain ⟨u, hu, h5⟩ := h4 r row hr
  exact ⟨u, hu, h5.owner (h2 r)⟩
theorem RowsAt.val (h : RowsAt w OT OR ET ER sz enc v rows) : ∃ A cap, v = .slice A rows.length cap ∧ rows.length ≤ cap ∧ cap ≤ 9223372036854775807 := by
  obtain ⟨vs, h1, _⟩ := h; exact h1.val
/-- The row: where the table's cell, and the row itself, lie. -/
theorem RowsAt.row {r : Nat} {row : List α} (h : RowsAt w OT OR ET ER sz enc v rows) (hr : rows[r]? = some row) :
    ∃ g cap u, v = .slice (some ⟨g, 0, none⟩) rows.length cap ∧ OT g ∧ g < w.heap.size ∧ w.cell? ⟨g, r, none⟩ = some u ∧ w.frozen? ⟨g, r, none⟩ = false ∧ RowAt w (OR r) ER sz u row.length (enc row) := by
  obtain ⟨vs, h1, h2⟩ := h
  obtain ⟨u, hu, h3⟩ := h2 r row hr
  have hlt := (List.getElem?_eq_some_iff.1 hr).1
  obtain ⟨g, cap, rfl, ho, hg, _, _, hc, hf⟩ := h1.pos (by omega)
  exact ⟨g, cap, u, rfl, ho, hg, by rw [hc r (by omega)]; exact hu, hf r, h3⟩
/-- One row has turned. -/
theorem RowsAt.setRow {r : Nat} {row row' : List α} (h : RowsAt w OT OR ET ER sz enc v rows) (hr : rows[r]? = some row) {g cap : Nat} {u : Value} (hv : v = .slice (some ⟨g, 0, none⟩) rows.length cap) (hc : w.cell? ⟨g, r, none⟩ = some u)
    (hu : RowAt w' (OR r) ER sz u row'.length (enc row')) (hT : ∀ k, k < w.heap.size → OT k → w'.heap[k]? = w.heap[k]?) (hR : ∀ r' k, k < w.heap.size → r' ≠ r → OR r' k → w'.heap[k]? = w.heap[k]?) : RowsAt w' OT OR ET ER sz enc v (rows.set r row') := by
  obtain ⟨vs, h1, h2⟩ := h
  subst hv
  obtain ⟨u0, hu0, _⟩ := h2 r row hr
  have hu2 := h1.one hu0
  rw [hu2] at hc
  injection hc with hc
  subst hc
  refine ⟨vs, by rw [List.length_set]; exact h1.keep hT, fun r' row2 hr' => ?_⟩
  by_cases e : r' = r
  · subst e
    rw [List.getElem?_set_self (List.getElem?_eq_some_iff.1 hr).1] at hr'
    injection hr' with hr'
    subst hr'
    exact ⟨_, hu0, hu⟩
  · rw [List.getElem?_set_ne (fun h => e h.symm)] at hr'
    obtain ⟨u', hu', h4⟩ := h2 r' row2 hr'
    exact ⟨u', hu', h4.keep fun k hk ho => hR r' k hk e ho⟩
theorem RowsAt.nil (w : World) (OT : Nat → Prop) (OR : Nat → Nat → Prop) (ET ER : TypeId) (sz : Nat) (enc : List α → List Value) : RowsAt w OT OR ET ER sz enc (.slice none 0 0) [] :=
  ⟨[], RowAt.nil _ _ _ _, fun r row h => by cases h⟩
end
end Go.Proofs.Ytcmmopngjeonfaa
