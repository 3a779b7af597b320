/- Contracts: Write. -/
import Derived.Test.YtocmjbfbjiinhaaV8
namespace Go.Proofs.Ytocmjbfbjiinhaa
open Go.ChangeShapes Go.WideShapes Go.ChangeAt Go.RowKit
set_option linter.unusedVariables false
def setAt (l : List (List (List Int))) (r i : Nat) (b : List Int) : List (List (List Int)) := l.set r ((l.getD r []).set i b)
theorem setAt_of {l : List (List (List Int))} {r : Nat} {row : List (List Int)} (h : l[r]? = some row) (i : Nat) (b : List Int) : setAt l r i b = l.set r (row.set i b) := by
  unfold setAt; rw [List.getD, h]; rfl
/-- A Write that is done. -/
def DM.write (m : DM) (r i : Nat) (b : List Int) : DM :=
  { m with now := setAt m.now r i b, done := m.done ++ [⟨r, i, b⟩], left := if m.stops then m.left - 1 else m.left }
theorem set_lens {l : List (List (List Int))} {r i : Nat} {b : List Int} (k : Nat) : ((setAt l r i b)[k]?).map List.length = (l[k]?).map List.length := by
  unfold setAt
  rw [List.getElem?_set]
  split
  · rename_i e; subst e
    split
    · rename_i h; simp [List.getElem?_eq_getElem h]
    · rename_i h; rw [List.getElem?_eq_none (by omega)]
  · rfl
theorem set_row {l : List (List (List Int))} {r i : Nat} {b : List Int} {k : Nat} {row : List (List Int)} (h : (setAt l r i b)[k]? = some row) : ∃ row', l[k]? = some row' ∧ row.length = row'.length := by
  have := set_lens (l := l) (r := r) (i := i) (b := b) k
  rw [h] at this
  cases hl : l[k]? with
  | none => rw [hl] at this; cases this
  | some row' => rw [hl] at this; exact ⟨row', rfl, by simpa using this⟩
theorem set_row' {l : List (List (List Int))} {r i : Nat} {b : List Int} {k : Nat} {row : List (List Int)} (h : l[k]? = some row) : ∃ row', (setAt l r i b)[k]? = some row' ∧ row'.length = row.length := by
  have := set_lens (l := l) (r := r) (i := i) (b := b) k
  rw [h] at this
  cases hl : (setAt l r i b)[k]? with
  | none => rw [hl] at this; cases this
  | some row' => rw [hl] at this; exact ⟨row', rfl, by simpa using this⟩
theorem set_blks {l : List (List (List Int))} {r i : Nat} {b : List Int} (hb : BlkOk b) (h : ∀ (k : Nat) (row : List (List Int)), l[k]? = some row → ∀ x ∈ row, BlkOk x) {k : Nat} {row : List (List Int)} (hr : (setAt l r i b)[k]? = some row) : ∀ x ∈ row, BlkOk x := by
  intro x hx
  unfold setAt at hr
  rw [List.getElem?_set] at hr
  split at hr
  · rename_i e; subst e
    split at hr
    · rename_i hlt
      injection hr with hr
      subst hr
      rw [List.getD, List.getElem?_eq_getElem hlt] at hx
      rcases List.mem_or_eq_of_mem_set hx with h1 | h1
      · exact h r _ (List.getElem?_eq_getElem hlt) x h1
      · subst h1; exact hb
    · cases hr
  · exact h k row hr x hx
theorem DM.Ok.write {m : DM} (h : m.Ok) {r i : Nat} {b : List Int} {row : List (List Int)} (hr : m.now[r]? = some row) (hi : i < row.length) (hb : BlkOk b) : (m.write r i b).Ok where
  pos := by show 0 < (setAt _ _ _ _).length; unfold setAt; rw [List.length_set]; exact h.pos
  few := by show (setAt _ _ _ _).length ≤ 8; unfold setAt; rw [List.length_set]; exact h.few
  sureLen := by show _ = (setAt _ _ _ _).length; unfold setAt; rw [List.length_set]; exact h.sureLen
  unsLen := by show _ = (setAt _ _ _ _).length; unfold setAt; rw [List.length_set]; exact h.unsLen
  rows := fun k row' hk => by
    obtain ⟨row2, h2, h3⟩ := set_row hk
    exact ⟨by rw [h3]; exact (h.rows k row2 h2).1, set_blks hb (fun k row hk => (h.rows k row hk).2) hk⟩
  sures := fun k row' hk => by
    obtain ⟨⟨row2, h2, h3⟩, h4⟩ := h.sures k row' hk
    obtain ⟨row3, h5, h6⟩ := set_row' (r := r) (i := i) (b := b) h2
    exact ⟨⟨row3, h5, by omega⟩, h4⟩
  dones := fun x hx => by
    have hx' : x ∈ m.done ++ [⟨r, i, b⟩] := hx
    rcases List.mem_append.1 hx' with h1 | h1
    · obtain ⟨⟨row2, h2, h3⟩, h4⟩ := h.dones x h1
      obtain ⟨row3, h5, h6⟩ := set_row' (r := r) (i := i) (b := b) h2
      exact ⟨⟨row3, h5, by omega⟩, h4⟩
    · rw [List.mem_singleton.1 h1]
      obtain ⟨row3, h5, h6⟩ := set_row' (r := r) (i := i) (b := b) hr
      exact ⟨⟨row3, h5, Or.inl (by show i < _; omega)⟩, hb⟩
  unss := fun k u hu => by
    have := h.unss k u hu
    show u ≤ (m.done ++ _).length
    rw [List.length_append]; omega
  left := by show (if m.stops then m.left - 1 else m.left) ≤ _; have := h.left; split <;> omega
def VW5 (r i : Nat) (A : Option Addr) (g o B : Nat) (b : List Int) (k : Nat) (v : Value) (w : World) : Prop :=
  match k with
  | 0 => v = .int .i64 r
  | 1 => v = .int .i64 i
  | 2 => v = .complex .f64 (Fx.fb r) (Fx.fb i)
  | 3 => ∃ c, v = .slice (some ⟨g, o, none⟩) 64 c
  | 4 => v = .pointer (some ⟨g, o, none⟩)
  | 5 => v = .agg (Bs b).toArray
  | 6 => v = .agg (Wr.cs ⟨r, i, b⟩).toArray
  | 7 => ∃ q C, v = .pointer (some ⟨q, 0, none⟩) ∧ B ≤ q ∧ C.size = 65 ∧ w.heap[q]? = some (.cells C 75 (0, 0))
  | _ => True
theorem VW5.on {r i : Nat} {A : Option Addr} {g o B : Nat} {b : List Int} {k : Nat} {v : Value} {w w' : World} (h : VW5 r i A g o B b k v w) (hg : w.grownBy w' none) : VW5 r i A g o B b k v w' := by
  unfold VW5 at *
  split <;> try exact h
  · obtain ⟨q, C, e, h1, h2, h3⟩ := h
    exact ⟨q, C, e, h1, h2, by rw [hg.block q (room_lt h3) (by simp)]; exact h3⟩
  · trivial
def VW6 (hp r i q g : Nat) (sNow : Value) (b : List Int) (k : Nat) (v : Value) (w : World) : Prop :=
  match k with
  | 0 | 1 | 2 => v = .pointer (some ⟨hp, 0, none⟩)
  | 3 => v = sNow
  | 4 => v = .pointer (some ⟨q, 0, none⟩)
  | 5 => v = .complex .f64 (Fx.fb r) (Fx.fb i)
  | 6 | 9 => v = .pointer (some ⟨g, i * 64, none⟩)
  | 7 => v = .pointer (some ⟨q, 1, none⟩)
  | 8 => v = .agg (Bs b).toArray
  | _ => True
def VW7 (hp q B : Nat) (Own : Nat → Prop) (sDone : Value) (n : Nat) (l : List Value) (x : Wr) (k : Nat) (v : Value) (w : World) : Prop :=
  match k with
  | 0 | 1 | 2 | 8 => v = .pointer (some ⟨hp, 0, none⟩)
  | 3 | 9 => v = .pointer (some ⟨hp, 2, none⟩)
  | 4 => v = sDone
  | 5 => v = .agg x.cs.toArray
  | 6 => ∃ p, v = .slice (some ⟨p, 0, none⟩) 1 1 ∧ B ≤ p ∧ w.heap[p]? = some (.cells x.cs.toArray 75 (0, 0))
  | 7 => RowAt w (fun k => Own k ∨ B ≤ k) 75 65 v (n + 1) (l ++ x.cs)
  | _ => True
def SW7 (sDone : Value) (i : Nat) (w w' : World) : Prop := if i = 7 then w.grownBy w' sDone.ownBlock else w.grownBy w' none
theorem VW7.on {hp q B : Nat} {Own : Nat → Prop} {sDone : Value} {n : Nat} {l : List Value} {x : Wr} (hB : ∀ k, sDone.ownBlock = some k → k < B) {i k : Nat} {v : Value} {w w' : World} (hik : i ≠ k) (h : VW7 hp q B Own sDone n l x k v w) (hg : SW7 sDone i w w') : VW7 hp q B Own sDone n l x k v w' := by
  unfold SW7 at hg
  unfold VW7 at *
  split <;> try exact h
  · obtain ⟨p, e, h1, h2⟩ := h
    refine ⟨p, e, h1, ?_⟩
    split at hg
    · rw [hg.block p (room_lt h2) (fun e => by have := hB p e.symm; omega)]; exact h2
    · rw [hg.block p (room_lt h2) (by simp)]; exact h2
  · rw [if_neg hik] at hg
    exact h.keep fun k hk _ => hg.block k hk (by simp)
  · trivial
end Go.Proofs.Ytocmjbfbjiinhaa
