/- Pieces of bytes: which ones there are, as cells; one more appended. -/
import Derived.Test.YthkohckofodmnaaIa
import Derived.Test.YthkohckofodmnaaRo
import Derived.Test.YthkohckofodmnaaW
namespace Go.Proofs.Ythkohckofodmnaa
open Go.ChangeShapes Go.WideShapes Go.ChangeAt Go.RowKit
set_option linter.unusedVariables false
abbrev Pc := Nat × Nat × Nat
def encP (p : Pc) : List Value := [.int .i64 p.1, .int .i64 p.2.1, .int .i64 p.2.2]
theorem encP_fits (l : List Pc) : Fits encP 3 l := fun x _ => rfl
theorem encP_pc (k a b : Nat) : (encP (k, a, b)).toArray = pcA k a b := rfl
theorem encP_one (p : Pc) : ∀ v ∈ encP p, v.oneCell' = true := fun v hv => by
  unfold encP at hv
  simp only [List.mem_cons, List.not_mem_nil, or_false] at hv
  rcases hv with rfl | rfl | rfl <;> rfl
/-- The pieces of the bytes from o to e. -/
def pN (o e : Nat) : Nat := if e ≤ o then 0 else (e - 1) / 56 - o / 56 + 1
def pAt (o e i : Nat) : Pc := (o / 56 + i, if i = 0 then o % 56 else 0, if i + 1 = pN o e then (e - 1) % 56 + 1 else 56)
def pL (o e : Nat) : List Pc := (List.range (pN o e)).map (pAt o e)
theorem pL_length (o e : Nat) : (pL o e).length = pN o e := by unfold pL; simp
theorem pL_at (o e i : Nat) : (pL o e)[i]? = if i < pN o e then some (pAt o e i) else none := by
  unfold pL
  rw [List.getElem?_map]
  by_cases h : i < pN o e
  · rw [List.getElem?_range h, if_pos h]; rfl
  · rw [List.getElem?_eq_none (by simp; omega), if_neg h]; rfl
theorem pN_le (o e : Nat) (h : e ≤ 1120) : pN o e ≤ 20 := by unfold pN; split <;> omega
/-- Block by block: block k has some of them, .. -/
theorem pL_some (o e k : Nat) (a b : Int) (hoe : o ≤ e) (he : e ≤ 1120) (ha : a = (o : Int) - 56 * k) (hb : b = (e : Int) - 56 * k) (h : (if a < 0 then 0 else a) < (if b < 56 then b else 56)) :
    ∃ x y : Nat, (if a < 0 then 0 else a) = x ∧ (if b < 56 then b else 56) = y ∧ (pL o e).take (k + 1 - o / 56) = (pL o e).take (k - o / 56) ++ [(k, x, y)] ∧ ((pL o e).take (k - o / 56)).length = k - o / 56 := by
  have hq : o / 56 ≤ k := by split at h <;> split at h <;> omega
  have hlt : o < e := by split at h <;> split at h <;> omega
  have hke : 56 * k < e := by split at h <;> split at h <;> omega
  have hN : pN o e = (e - 1) / 56 - o / 56 + 1 := by unfold pN; rw [if_neg (by omega)]
  refine ⟨(if a < 0 then 0 else a).toNat, (if b < 56 then b else 56).toNat, by split <;> omega, by split at h <;> split at h <;> omega, ?_, by rw [List.length_take, pL_length, hN]; omega⟩
  rw [show k + 1 - o / 56 = k - o / 56 + 1 by omega]
  refine take_snoc' ?_
  rw [pL_at, if_pos (by omega)]
  congr 1
  unfold pAt
  rw [hN]
  refine Prod.ext (by show o / 56 + (k - o / 56) = k; omega) (Prod.ext ?_ ?_)
  · show (if k - o / 56 = 0 then o % 56 else 0) = (if a < 0 then 0 else a).toNat
    split <;> split <;> omega
  · show (if k - o / 56 + 1 = (e - 1) / 56 - o / 56 + 1 then (e - 1) % 56 + 1 else 56) = (if b < 56 then b else 56).toNat
    split <;> split <;> omega
/-- .. or none. -/
theorem pL_none (o e k : Nat) (a b : Int) (hoe : o ≤ e) (he : e ≤ 1120) (ha : a = (o : Int) - 56 * k) (hb : b = (e : Int) - 56 * k) (h : ¬ (if a < 0 then 0 else a) < (if b < 56 then b else 56)) :
    (pL o e).take (k + 1 - o / 56) = (pL o e).take (k - o / 56) := by
  by_cases hq : k < o / 56
  · rw [show k + 1 - o / 56 = 0 by omega, show k - o / 56 = 0 by omega]
  · have hN : pN o e ≤ k - o / 56 := by
      unfold pN
      split
      · omega
      · split at h <;> split at h <;> omega
    rw [List.take_of_length_le (by rw [pL_length]; omega), List.take_of_length_le (by rw [pL_length]; omega)]
theorem pL_all (o e : Nat) (he : e ≤ 1120) : (pL o e).take (20 - o / 56) = pL o e := by
  refine List.take_of_length_le ?_
  rw [pL_length]
  unfold pN
  split <;> omega
/-- Byte by byte: in a new block, .. -/
theorem pL_new (o t : Nat) (h : o ≤ t) (hn : t = o ∨ t % 56 = 0) : pL o (t + 1) = pL o t ++ [(t / 56, t % 56, t % 56 + 1)] := by
  have hN : pN o (t + 1) = pN o t + 1 := by unfold pN; split <;> split <;> omega
  apply List.ext_getElem?
  intro i
  rw [pL_at, hN]
  by_cases h1 : i < pN o t
  · rw [if_pos (by omega), List.getElem?_append_left (by rw [pL_length]; exact h1), pL_at, if_pos h1]
    congr 1
    unfold pAt
    rw [hN]
    refine Prod.ext rfl (Prod.ext rfl ?_)
    show (if i + 1 = pN o t + 1 then (t + 1 - 1) % 56 + 1 else 56) = (if i + 1 = pN o t then (t - 1) % 56 + 1 else 56)
    have h2 : 0 < pN o t := by omega
    unfold pN at h2
    split at h2
    · omega
    · rw [if_neg (by omega)]
      split <;> omega
  · rw [List.getElem?_append_right (by rw [pL_length]; omega), pL_length]
    by_cases h2 : i = pN o t
    · subst h2
      rw [if_pos (by omega), Nat.sub_self]
      show _ = some _
      congr 1
      unfold pAt
      rw [hN, if_pos rfl]
      refine Prod.ext ?_ (Prod.ext ?_ ?_)
      · show o / 56 + pN o t = t / 56
        unfold pN; split <;> omega
      · show (if pN o t = 0 then o % 56 else 0) = t % 56
        unfold pN; split <;> split <;> omega
      · show (t + 1 - 1) % 56 + 1 = t % 56 + 1
        omega
    · rw [if_neg (by omega), List.getElem?_eq_none (by simp; omega)]
/-- .. or in the last one. -/
theorem pL_old (o t : Nat) (h : o < t) (hn : t % 56 ≠ 0) : ∃ m f : Nat, (pL o t).length = m + 1 ∧ (pL o t)[m]? = some (t / 56, f, t % 56) ∧ pL o (t + 1) = (pL o t).set m (t / 56, f, t % 56 + 1) := by
  have hN : pN o (t + 1) = pN o t := by unfold pN; split <;> split <;> omega
  have hp : pN o t = (t - 1) / 56 - o / 56 + 1 := by unfold pN; rw [if_neg (by omega)]
  refine ⟨pN o t - 1, if pN o t - 1 = 0 then o % 56 else 0, by rw [pL_length]; omega, ?_, ?_⟩
  · rw [pL_at, if_pos (by omega)]
    congr 1
    unfold pAt
    rw [if_pos (show pN o t - 1 + 1 = pN o t by omega)]
    refine Prod.ext (by show o / 56 + (pN o t - 1) = t / 56; omega) (Prod.ext rfl (by show (t - 1) % 56 + 1 = t % 56; omega))
  · apply List.ext_getElem?
    intro i
    rw [pL_at, hN, List.getElem?_set, pL_length, pL_at]
    by_cases h1 : pN o t - 1 = i
    · rw [if_pos h1, if_pos (by omega), if_pos (by omega)]
      congr 1
      unfold pAt
      rw [hN, if_pos (show i + 1 = pN o t by omega), h1]
      refine Prod.ext (by show o / 56 + i = t / 56; omega) (Prod.ext rfl (by show (t + 1 - 1) % 56 + 1 = t % 56 + 1; omega))
    · rw [if_neg h1]
      by_cases h2 : i < pN o t
      · rw [if_pos h2, if_pos h2]
        congr 1
        unfold pAt
        rw [hN, if_neg (show ¬ i + 1 = pN o t by omega), if_neg (show ¬ i + 1 = pN o t by omega)]
      · rw [if_neg h2, if_neg h2]
theorem pL_self (o : Nat) : pL o o = [] := by unfold pL pN; simp
/-- The last one's block. -/
theorem pL_last (o t : Nat) (h : o < t) : ∃ m f b : Nat, (pL o t).length = m + 1 ∧ (pL o t)[m]? = some ((t - 1) / 56, f, b) := by
  have hp : pN o t = (t - 1) / 56 - o / 56 + 1 := by unfold pN; rw [if_neg (by omega)]
  refine ⟨pN o t - 1, (pAt o t (pN o t - 1)).2.1, (pAt o t (pN o t - 1)).2.2, by rw [pL_length]; omega, ?_⟩
  rw [pL_at, if_pos (by omega)]
  congr 1
  refine Prod.ext (by show o / 56 + (pN o t - 1) = (t - 1) / 56; omega) rfl
theorem infoPP : (Try.prog.info? 38).map (fun i => (i.zero, i.size, i.bytes)) = some (some (.agg (pcA 0 0 0)), 3, 24) := by kernel_rfl
/-- A slice of one piece. -/
theorem wpList_oneP {ops : Array Oper} {rest : List Oper} {o : Oper} {a : Act} {w : World} {Q : Exit → Act → World → Prop} (hgd : o.guard = none) (x : Operand) (ho : o.op = .buildSlice 33 1 #[(0, x)]) (k y z : Int) (hx : a.eval x = .agg (pcA k y z))
    (h : wpList Try.prog ops Q rest (a.put o.dst (.slice (some ⟨w.heap.size, 0, none⟩) 1 1)) (w.alloc (.cells (pcA k y z) 38))) : wpList Try.prog ops Q (o :: rest) a w := by
  obtain ⟨i0, hi, hz0, hz1, hz2⟩ := info_parts infoPP
  exact wpList_plain hgd fun _ hK => wp_one_of 33 x ho 38 i0 _ 3 Try.underlying33 hi hz0 hz1 (by decide) (by decide) _ hx rfl (hK _ _ h)
set_option maxRecDepth 100000 in
theorem run_appP (w : World) (ty : TypeId) (base : Nat) (v : Value) (n : Nat) (l : List Pc) (hown : w.ownsRow base 38 3 v n (rowL encP l)) (g c : Nat) (p : Pc) (hg : w.heap[g]? = some (.cells (encP p).toArray 38 (0, 0)))
    (h63 : n + 1 ≤ 1000) (hbase : base ≤ w.heap.size) :
    ∃ v' w', (Builtin.append_ #[33, 33] ty #[v, .slice (some ⟨g, 0, none⟩) 1 c]).run Try.prog w = .ok v' w' ∧ w'.ownsRow base 38 3 v' (n + 1) (rowL encP (l ++ [p])) ∧ w.grownBy w' v.ownBlock := by
  obtain ⟨i0, hi, hz0, hz1, hz2⟩ := info_parts infoPP
  obtain ⟨v', w', hr, h2, h3, h4, h5⟩ := run_append_own_at (P := Try.prog) w base 33 ty 38 i0 _ 3 24 Try.underlying33 hi hz0 hz1 hz2 rfl (by decide) v n _ hown ⟨g, 0, none⟩ 1 c (encP p) rfl
    (fun j u hj => by
      rw [add_at, blk_cell hg, List.getElem?_toArray]; exact hj) (encP_one p) (by simp only [maxLen]; omega) (by omega) hbase
  exact ⟨v', w', hr, by rw [rowL_append]; simpa [rowL] using h2, h3⟩
set_option maxRecDepth 100000 in
theorem wpList_appP (w : World) {ops : Array Oper} {rest : List Oper} {o : Oper} {a : Act} {Q : Exit → Act → World → Prop} (hgd : o.guard = none) (s x : Operand)
    (ho : o.op = .call { callee := .builtin .append, args := #[s, x], argTypes := #[33, 33] })
    (base : Nat) (v : Value) (n : Nat) (l : List Pc) (hs : a.eval s = v) (hown : w.ownsRow base 38 3 v n (rowL encP l)) (g c : Nat) (p : Pc) (hx : a.eval x = .slice (some ⟨g, 0, none⟩) 1 c) (hg : w.heap[g]? = some (.cells (encP p).toArray 38 (0, 0)))
    (h63 : n + 1 ≤ 1000) (hbase : base ≤ w.heap.size)
    (h : ∀ v' w', w'.ownsRow base 38 3 v' (n + 1) (rowL encP (l ++ [p])) → w.grownBy w' v.ownBlock → wpList Try.prog ops Q rest (a.put o.dst v') w') : wpList Try.prog ops Q (o :: rest) a w :=
  wpList_plain hgd fun _ hK => by
    obtain ⟨v', w', hr, h2, h3⟩ := run_appP w o.type base v n l hown g c p hg h63 hbase
    unfold Oper.wp execOp
    simp only [ho, resolve, invoke, builtin, Sem.run_bind, Sem.run_pure, Result.andThen_ok, List.map_toArray, List.map_cons, List.map_nil, hs, hx, hr]
    exact hK _ _ (h v' w' h2 h3)
theorem infoPR : (Try.prog.info? 39).map (fun i => (i.zero, i.size, i.bytes)) = some (some (.agg (pcA 0 0 0)), 3, 24) := by kernel_rfl
/-- A slice of one piece. -/
theorem wpList_oneR {ops : Array Oper} {rest : List Oper} {o : Oper} {a : Act} {w : World} {Q : Exit → Act → World → Prop} (hgd : o.guard = none) (x : Operand) (ho : o.op = .buildSlice 35 1 #[(0, x)]) (k y z : Int) (hx : a.eval x = .agg (pcA k y z))
    (h : wpList Try.prog ops Q rest (a.put o.dst (.slice (some ⟨w.heap.size, 0, none⟩) 1 1)) (w.alloc (.cells (pcA k y z) 39))) : wpList Try.prog ops Q (o :: rest) a w := by
  obtain ⟨i0, hi, hz0, hz1, hz2⟩ := info_parts infoPR
  exact wpList_plain hgd fun _ hK => wp_one_of 35 x ho 39 i0 _ 3 Try.underlying35 hi hz0 hz1 (by decide) (by decide) _ hx rfl (hK _ _ h)
set_option maxRecDepth 100000 in
theorem run_appR (w : World) (ty : TypeId) (base : Nat) (v : Value) (n : Nat) (l : List Pc) (hown : w.ownsRow base 39 3 v n (rowL encP l)) (g c : Nat) (p : Pc) (hg : w.heap[g]? = some (.cells (encP p).toArray 39 (0, 0)))
    (h63 : n + 1 ≤ 1000) (hbase : base ≤ w.heap.size) :
    ∃ v' w', (Builtin.append_ #[35, 35] ty #[v, .slice (some ⟨g, 0, none⟩) 1 c]).run Try.prog w = .ok v' w' ∧ w'.ownsRow base 39 3 v' (n + 1) (rowL encP (l ++ [p])) ∧ w.grownBy w' v.ownBlock := by
  obtain ⟨i0, hi, hz0, hz1, hz2⟩ := info_parts infoPR
  obtain ⟨v', w', hr, h2, h3, h4, h5⟩ := run_append_own_at (P := Try.prog) w base 35 ty 39 i0 _ 3 24 Try.underlying35 hi hz0 hz1 hz2 rfl (by decide) v n _ hown ⟨g, 0, none⟩ 1 c (encP p) rfl
    (fun j u hj => by
      rw [add_at, blk_cell hg, List.getElem?_toArray]; exact hj) (encP_one p) (by simp only [maxLen]; omega) (by omega) hbase
  exact ⟨v', w', hr, by rw [rowL_append]; simpa [rowL] using h2, h3⟩
set_option maxRecDepth 100000 in
theorem wpList_appR (w : World) {ops : Array Oper} {rest : List Oper} {o : Oper} {a : Act} {Q : Exit → Act → World → Prop} (hgd : o.guard = none) (s x : Operand)
    (ho : o.op = .call { callee := .builtin .append, args := #[s, x], argTypes := #[35, 35] })
    (base : Nat) (v : Value) (n : Nat) (l : List Pc) (hs : a.eval s = v) (hown : w.ownsRow base 39 3 v n (rowL encP l)) (g c : Nat) (p : Pc) (hx : a.eval x = .slice (some ⟨g, 0, none⟩) 1 c) (hg : w.heap[g]? = some (.cells (encP p).toArray 39 (0, 0)))
    (h63 : n + 1 ≤ 1000) (hbase : base ≤ w.heap.size)
    (h : ∀ v' w', w'.ownsRow base 39 3 v' (n + 1) (rowL encP (l ++ [p])) → w.grownBy w' v.ownBlock → wpList Try.prog ops Q rest (a.put o.dst v') w') : wpList Try.prog ops Q (o :: rest) a w :=
  wpList_plain hgd fun _ hK => by
    obtain ⟨v', w', hr, h2, h3⟩ := run_appR w o.type base v n l hown g c p hg h63 hbase
    unfold Oper.wp execOp
    simp only [ho, resolve, invoke, builtin, Sem.run_bind, Sem.run_pure, Result.andThen_ok, List.map_toArray, List.map_cons, List.map_nil, hs, hx, hr]
    exact hK _ _ (h v' w' h2 h3)
/-- Pieces that a call owns, behind a slice. -/
def PcAt (w : World) (E : TypeId) (base : Nat) (v : Value) (l : List Pc) : Prop := w.ownsRow base E 3 v l.length (rowL encP l)
end Go.Proofs.Ythkohckofodmnaa
