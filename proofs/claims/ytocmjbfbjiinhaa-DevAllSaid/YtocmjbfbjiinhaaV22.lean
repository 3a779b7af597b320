/- What New makes, region by region. -/
import Derived.Test.YtocmjbfbjiinhaaV21
namespace Go.Proofs.Ytocmjbfbjiinhaa
open Go.ChangeShapes Go.WideShapes Go.ChangeAt Go.RowKit
set_option linter.unusedVariables false
def zeroRow (z : Int) : List (List Int) := List.replicate z.toNat (List.replicate 64 0)
theorem zeroRow_ok (z : Int) : ∀ b ∈ zeroRow z, BlkOk b := fun b hb => by rw [(List.mem_replicate.1 hb).2]; exact zeroBlk
theorem encB_zero (n : Nat) : encB (List.replicate n (List.replicate 64 0)) = List.replicate (n * 64) (.int .u8 0) := by
  induction n with
  | zero => simp [encB]
  | succ n ih =>
    have : encB (List.replicate (n + 1) (List.replicate 64 0)) = Bs (List.replicate 64 0) ++ encB (List.replicate n (List.replicate 64 0)) := by unfold encB; rw [List.replicate_succ, List.flatMap_cons]
    rw [this, ih]
    unfold Bs
    rw [List.map_replicate, List.replicate_append_replicate]; congr 1; omega
theorem made_zero (n : Nat) : (madeCells (Value.agg (Array.replicate 64 (.int .u8 0))).cells (n * 64)).toList = List.replicate (n * 64) (.int .u8 0) := by
  apply List.ext_getElem?
  intro j
  by_cases hj : j < n * 64
  · simp only [madeCells, Value.cells, Array.toList_map, List.getElem?_map, Array.toList_range, List.getElem?_range hj, Option.map_some, List.getElem?_replicate, hj, if_true]
    have h64 : j % 64 < 64 := by omega
    simp [h64]
  · simp [madeCells, hj]
/-- Rows by labels: p the table, 2 * r + 2 + p its r-th row. -/
def TabL (w : World) (B : Nat) (T : Nat → Nat) (p : Nat) (v : Value) (rows : List (List (List Int))) : Prop :=
  RowsAt w (fun k => B ≤ k ∧ k < w.heap.size ∧ T k = p) (fun r k => B ≤ k ∧ k < w.heap.size ∧ T k = 2 * r + 2 + p) 64 73 64 encB v rows
/-- The device while it is made. -/
structure NewAt (w : World) (B q : Nat) (vu : Value) (R : Nat) (T : Nat → Nat) (v9 v14 : Value) (rows9 rows14 : List (List (List Int))) : Prop where
  hd : w.heap[q]? = some (.cells #[v9, v14, .slice none 0 0, vu, .bool false, .int .i64 0] 63 (0, 0))
  hq : B ≤ q
  t9 : TabL w B T 0 v9 rows9
  t14 : TabL w B T 1 v14 rows14
  un : RowAt w (fun k => B ≤ k) 3 1 vu R (encN (List.replicate R 0))
theorem blk_type {w : World} {q g : Nat} {C C' : Array Value} {E E' : TypeId} {f f' : Nat × Nat} (h : w.heap[q]? = some (.cells C E f)) (h' : w.heap[g]? = some (.cells C' E' f')) (hE : E ≠ E') : g ≠ q := fun e => by
  subst e; rw [h] at h'; injection h' with h'; injection h' with _ h'; exact hE h'
/-- A table with one row more; the head's cell f holds it. -/
theorem TabL.push {w1 W : World} {B q f : Nat} {T : Nat → Nat} {p : Nat} {v v' : Value} {rows : List (List (List Int))} {vs : List Value} {g n : Nat} {row : List (List Int)} {C : Array Value} (hB : B ≤ w1.heap.size)
    (hqt : w1.heap[q]? = some (.cells C 63 (0, 0)))
    (h1 : RowAt w1 (fun k => B ≤ k ∧ k < w1.heap.size ∧ T k = p) 64 1 v rows.length vs) (h2 : ∀ (r : Nat) (row : List (List Int)), rows[r]? = some row → ∃ u, vs[r]? = some u ∧ RowAt w1 (fun k => B ≤ k ∧ k < w1.heap.size ∧ T k = 2 * r + 2 + p) 73 64 u row.length (encB row))
    (ht : Touch (fun x => v.ownBlock = some x) w1 W) (h3 : RowAt W (fun k => (B ≤ k ∧ k < w1.heap.size ∧ T k = p) ∨ w1.heap.size ≤ k) 64 1 v' (rows.length + 1) (vs ++ [.slice (some ⟨g, 0, none⟩) n n]))
    (hg : w1.heap.size ≤ g) (h4 : RowAt W (fun k => k = g) 73 64 (.slice (some ⟨g, 0, none⟩) n n) row.length (encB row)) (a : Addr) (ha : a.block = q) (u0 : Value) :
    TabL (W.setCell a u0) B (fun x => if x < w1.heap.size then T x else if x = g then 2 * rows.length + 2 + p else p) p v' (rows ++ [row]) := by
  subst ha
  have hsz : (W.setCell a u0).heap.size = W.heap.size := by simp [World.setCell]
  have hqW : W.heap[a.block]? = some (.cells C 63 (0, 0)) := by
    rw [ht.block _ (room_lt hqt) (fun e => ?_)]; exact hqt
    rcases h1.1.2 with ⟨rfl, _⟩ | ⟨b, _, c1, rfl, _, hc1, _⟩
    · cases e
    · injection e with e; dsimp only at e; subst e; rw [hqt] at hc1; injection hc1 with hc1; injection hc1 with _ hc1; exact absurd hc1 (by decide)
  have kp : ∀ {Own : Nat → Prop} {E : TypeId} {sz m : Nat} {u : Value} {xs : List Value}, E ≠ 63 → RowAt W Own E sz u m xs → RowAt (W.setCell a u0) Own E sz u m xs := fun hE h => by
    refine ⟨⟨h.1.1, ?_⟩, h.2⟩
    rcases h.1.2 with h0 | ⟨b, cap, cur, rfl, q0, q1, q2⟩
    · exact Or.inl h0
    · exact Or.inr ⟨b, cap, cur, rfl, q0, by rw [Below.heap_setCell _ _ _ _ (blk_type hqW q1 (fun e => hE e.symm))]; exact q1, q2⟩
  have hgl := (h4.1.lt g rfl).2
  refine rowsAt_snoc (vs := vs) (u := .slice (some ⟨g, 0, none⟩) n n) ?_ (fun r row' hr => ?_) ?_ (by have := h1.len; omega)
  · refine kp (by decide) (h3.ownerT fun b cur hc he ho => ?_)
    have hbl := room_lt hc
    rw [hsz]
    rcases ho with ⟨q1, q2, q3⟩ | ho
    · exact ⟨q1, hbl, by dsimp only; rw [if_pos q2]; exact q3⟩
    · refine ⟨by omega, hbl, ?_⟩
      dsimp only
      rw [if_neg (by omega), if_neg]
      intro e
      subst e
      rcases h4.1.2 with ⟨h0, _⟩ | ⟨b', _, c', h0, _, hc', _⟩
      · cases h0
      · injection h0 with h0 _ _; injection h0 with h0; injection h0 with h0 _ _; subst h0
        rw [hc] at hc'; injection hc' with hc'; injection hc' with _ hc'; exact absurd hc' (by decide)
  · obtain ⟨u, hu, h5⟩ := h2 r row' hr
    refine ⟨u, hu, kp (by decide) ((h5.keep (w' := W) fun x hx ho => ht.block x hx (fun e => h1.apart h5 (by decide) e ?_)).ownerT fun b cur hc he ho => ?_)⟩
    · have := h1.2 x e
      rcases h5.1.2 with ⟨rfl, _⟩ | ⟨b, _, c1, rfl, _, hc1, _⟩
      · exact absurd ho.2.2 (by omega)
      · exact absurd ho.2.2 (by omega)
    · rw [hsz]
      exact ⟨ho.1, room_lt hc, by dsimp only; rw [if_pos ho.2.1]; exact ho.2.2⟩
  · refine kp (by decide) (h4.owner fun x hx e => ?_)
    subst e
    rw [hsz]
    refine ⟨by omega, hgl, ?_⟩
    dsimp only
    rw [if_neg (by omega), if_pos rfl]
/-- The other table. -/
theorem TabL.other {w1 W : World} {B q : Nat} {T : Nat → Nat} {p p' : Nat} {v v2 : Value} {rows2 : List (List (List Int))} {g k : Nat} {C : Array Value} (hqt : w1.heap[q]? = some (.cells C 63 (0, 0))) (h : TabL w1 B T p' v2 rows2) (hp : p ≤ 1) (hp' : p' ≤ 1) (hne : p ≠ p') {vs : List Value} {n : Nat}
    (h1 : RowAt w1 (fun k => B ≤ k ∧ k < w1.heap.size ∧ T k = p) 64 1 v n vs) (ht : Touch (fun x => v.ownBlock = some x) w1 W) (a : Addr) (ha : a.block = q) (u0 : Value) :
    TabL (W.setCell a u0) B (fun x => if x < w1.heap.size then T x else if x = g then 2 * k + 2 + p else p) p' v2 rows2 := by
  subst ha
  have hsz : (W.setCell a u0).heap.size = W.heap.size := by simp [World.setCell]
  have := ht.size
  have kp : ∀ {Own Own' : Nat → Prop} {E : TypeId} {sz m : Nat} {u : Value} {xs : List Value}, E ≠ 63 → RowAt w1 Own E sz u m xs → (∀ x, x < w1.heap.size → Own x → T x ≠ p ∧ Own' x) → RowAt (W.setCell a u0) Own' E sz u m xs := fun hE h ho => by
    refine ⟨⟨h.1.1, ?_⟩, fun b hb => (ho b (h.1.lt b hb).2 (h.2 b hb)).2⟩
    rcases h.1.2 with h0 | ⟨b, cap, cur, rfl, q0, q1, q2⟩
    · exact Or.inl h0
    · refine Or.inr ⟨b, cap, cur, rfl, q0, ?_, q2⟩
      rw [Below.heap_setCell _ _ _ _ (blk_type hqt q1 (fun e => hE e.symm)), ht.block b (room_lt q1) (fun e => (ho b (room_lt q1) (h.2 b rfl)).1 (h1.2 b e).2.2)]; exact q1
  obtain ⟨vs2, t1, t2⟩ := h
  refine ⟨vs2, kp (by decide) t1 fun x hx ho => ⟨by omega, ho.1, by omega, by dsimp only; rw [if_pos hx]; exact ho.2.2⟩, fun r row hr => ?_⟩
  obtain ⟨u, hu, t3⟩ := t2 r row hr
  exact ⟨u, hu, kp (by decide) t3 fun x hx ho => ⟨by omega, ho.1, by omega, by dsimp only; rw [if_pos hx]; exact ho.2.2⟩⟩
end Go.Proofs.Ytocmjbfbjiinhaa
