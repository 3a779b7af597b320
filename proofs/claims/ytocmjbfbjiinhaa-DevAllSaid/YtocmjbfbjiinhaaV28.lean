/- How many blocks each region has stays; what is told of writes. -/
import Derived.Test.YtocmjbfbjiinhaaV27
namespace Go.Proofs.Ytocmjbfbjiinhaa
open Go.ChangeShapes Go.WideShapes Go.ChangeAt Go.RowKit
set_option linter.unusedVariables false
def dims (m : DM) : List Nat := m.now.map List.length
theorem hasR_dims {m m' : DM} (h : dims m = dims m') (r : Int) : hasR m r = hasR m' r := by
  unfold hasR
  have : m.now.length = m'.now.length := by have := congrArg List.length h; simpa [dims] using this
  rw [this]
theorem rowLen_dims (m : DM) (r : Nat) : rowLen m.now r = (dims m).getD r 0 := by
  unfold rowLen dims
  simp only [List.getD, List.getElem?_map]
  cases m.now[r]? <;> rfl
theorem hasB_dims {m m' : DM} (h : dims m = dims m') (r i : Int) : hasB m r i = hasB m' r i := by
  unfold hasB
  rw [hasR_dims h, rowLen_dims, rowLen_dims, h]
theorem dims_setAt (l : List (List (List Int))) (r i : Nat) (b : List Int) : (setAt l r i b).map List.length = l.map List.length := by
  apply List.ext_getElem?
  intro k
  rw [List.getElem?_map, List.getElem?_map]
  exact set_lens k
theorem dims_write (m : DM) (r i : Nat) (b : List Int) : dims (m.write r i b) = dims m := dims_setAt _ _ _ _
theorem dims_doWrite (m : DM) (r i : Int) (b : List Int) : dims (m.doWrite r i b) = dims m := by
  unfold DM.doWrite; split
  · exact dims_write _ _ _ _
  · rfl
theorem dims_doBarrier (m : DM) (r : Int) : dims (m.doBarrier r) = dims m := by
  unfold DM.doBarrier; split <;> rfl
theorem dims_stop (m : DM) (n : Int) : dims (m.stop n) = dims m := rfl
theorem dims_crash1 {m : DM} (h : m.Ok) {r : Nat} (hr : r < m.now.length) (bs : List Int) : dims (m.crash1 r bs) = dims m := by
  have hs := h.settle r (bitAt bs)
  obtain ⟨srow, hsr⟩ : ∃ x, (m.settle r (bitAt bs)).sure[r]? = some x := ⟨_, List.getElem?_eq_getElem (by rw [hs.sureLen]; exact hr)⟩
  obtain ⟨⟨nrow, hn, hl⟩, _⟩ := hs.sures r srow hsr
  have hn' : m.now[r]? = some nrow := hn
  have hg : (m.settle r (bitAt bs)).sure.getD r [] = srow := by rw [List.getD, hsr]; rfl
  unfold DM.crash1 dims
  rw [hg]
  apply List.ext_getElem?
  intro k
  show ((m.now.set r srow).map List.length)[k]? = _
  rw [List.getElem?_map, List.getElem?_map, List.getElem?_set]
  by_cases e : r = k
  · subst e; rw [if_pos rfl, if_pos hr, hn']; simp [hl]
  · rw [if_neg e]
theorem dims_crashN {m : DM} (h : m.Ok) (ks : List (List Int)) : ∀ k, k ≤ m.now.length → dims (crashN m ks k) = dims m
  | 0, _ => rfl
  | k + 1, hk => by
    have := dims_crashN h ks k (by omega)
    rw [← this]
    exact dims_crash1 (crashN_ok h ks k (by omega)) (by rw [(crashN_len m ks k).1]; omega) _
theorem dims_crash {m : DM} (h : m.Ok) (ks : List (List Int)) : dims (m.crash ks) = dims m := dims_crashN h ks _ (Nat.le_refl _)
theorem crash_done (m : DM) (ks : List (List Int)) : (m.crash ks).done = m.done := (crashN_len m ks _).2
theorem crash_stops (m : DM) (ks : List (List Int)) : stopped (m.crash ks) = false := by
  unfold DM.crash DM.stop stopped; simp
theorem crash_ok {m : DM} (h : m.Ok) (ks : List (List Int)) : (m.crash ks).Ok := (crashN_ok h ks _ (Nat.le_refl _)).stop (by constructor <;> omega) (by omega)
theorem crash_len {m : DM} (ks : List (List Int)) : (m.crash ks).now.length = m.now.length := (crashN_len m ks _).1
theorem traceL_crash (m : DM) (ks : List (List Int)) (r : Nat) : traceL (m.crash ks) r = traceL m r := by unfold traceL; rw [crash_done]
theorem traceL_write (m : DM) (r i : Nat) (b : List Int) (r' : Nat) : traceL (m.write r i b) r' = traceL m r' ++ (if r = r' then [traceB ⟨r, i, b⟩] else []) := by
  unfold traceL DM.write
  simp only [List.filter_append, List.map_append]
  congr 1
  by_cases e : r = r'
  · simp [e]
  · have : (r == r') = false := by simpa using e
    simp [e, this]
theorem traceL_barrier (m : DM) (r r' : Nat) : traceL (m.barrier r) r' = traceL m r' ++ (if r = r' then [[255, 255]] else []) := by
  unfold traceL DM.barrier DM.settle
  simp only [List.filter_append, List.map_append]
  congr 1
  by_cases e : r = r'
  · simp [e, traceB]
  · have : (r == r') = false := by simpa using e
    simp [e, this]
theorem done_doWrite (m : DM) (r i : Int) (b : List Int) : (m.doWrite r i b).done.length ≤ m.done.length + 1 := by
  unfold DM.doWrite; split
  · unfold DM.write; simp
  · omega
theorem done_doBarrier (m : DM) (r : Int) : (m.doBarrier r).done.length ≤ m.done.length + 1 := by
  unfold DM.doBarrier; split
  · unfold DM.barrier DM.settle; simp
  · omega
end Go.Proofs.Ytocmjbfbjiinhaa
