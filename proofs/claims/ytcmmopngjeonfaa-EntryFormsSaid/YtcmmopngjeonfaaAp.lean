/- append of bytes, in a region that draws its order: what it keeps of every block. -/
import Derived.Test.YtcmmopngjeonfaaNm
import Derived.Test.YtcmmopngjeonfaaW
import Derived.Test.YtcmmopngjeonfaaRk
import Derived.Deep.Onto
namespace Go.Proofs.Ytcmmopngjeonfaa
open Go.ChangeShapes Go.WideShapes Go.ChangeAt Go.RowKit
set_option linter.unusedVariables false
/-- Each block's first n cells are as they were, and a block of fewer than k cells is. -/
structure KeepB (n k : Nat) (w w' : World) : Prop where
  os : w'.os = w.os
  tape : w'.tape = w.tape
  output : w'.output = w.output
  size : w.heap.size ≤ w'.heap.size
  first : ∀ (g : Nat) (C : Array Value) (t : TypeId) (fr : Nat × Nat), w.heap[g]? = some (.cells C t fr) → ∃ C' : Array Value, w'.heap[g]? = some (.cells C' t fr) ∧ C'.size = C.size ∧ ∀ i, i < n → C'[i]? = C[i]?
  small : ∀ (g : Nat) (C : Array Value) (t : TypeId) (fr : Nat × Nat), w.heap[g]? = some (.cells C t fr) → C.size < k → w'.heap[g]? = some (.cells C t fr)
theorem KeepB.grown {n k : Nat} {w w' : World} (h : w.grownBy w' none) : KeepB n k w w' :=
  ⟨h.os, h.tape, h.output, h.size, fun g C t fr hg => ⟨C, by rw [h.block g (room_lt hg) (by simp)]; exact hg, rfl, fun _ _ => rfl⟩, fun g C t fr hg _ => by rw [h.block g (room_lt hg) (by simp)]; exact hg⟩
theorem FullAt.keep {n k : Nat} {w w' : World} {base : Nat} {v : Value} {xs : List Int} (h : FullAt w base v xs) (hk : KeepB n k w w') (hl : xs.length < k) : FullAt w' base v xs := by
  obtain ⟨q, C, rfl, hb, hq, hc⟩ := h
  exact ⟨q, C, rfl, hb, hk.small q C _ _ hq (by rw [FullAt.size hc]; exact hl), hc⟩
theorem own_keep {n k m : Nat} {w w' : World} {base : Nat} {t : TypeId} {v : Value} {xs : List Value} (h : w.ownsRow base t 1 v m xs) (hk : KeepB n k w w') (hl : m ≤ n) : w'.ownsRow base t 1 v m xs := by
  refine ⟨h.1, ?_⟩
  rcases h.2 with h0 | ⟨g, cap, cur, e, hb, hg, hnc, hm, hs, ht⟩
  · exact Or.inl h0
  · obtain ⟨C', h1, h2, h3⟩ := hk.first g cur t _ hg
    refine Or.inr ⟨g, cap, C', e, hb, h1, hnc, hm, by rw [h2]; exact hs, ?_⟩
    rw [← ht]
    apply List.ext_getElem?
    intro i
    rw [List.getElem?_take, List.getElem?_take]
    split
    · rw [Array.getElem?_toList, Array.getElem?_toList]; exact h3 i (by omega)
    · rfl
set_option maxRecDepth 100000 in
theorem run_app_keep (w : World) (ty : TypeId) (base : Nat) (v : Value) (n : Nat) (xs : List Int) (hown : w.ownsRow base 5 1 v n (Bs xs)) (A : Option Addr) (m c : Nat) (ys : List Int) (hy : Byt w A ys) (hm : ys.length = m)
    (h63 : n + m ≤ 1000000) (hbase : base ≤ w.heap.size) :
    ∃ v' w', (Builtin.append_ #[41, 41] ty #[v, .slice A m c]).run Try.prog w = .ok v' w' ∧ w'.ownsRow base 5 1 v' (n + m) (Bs (xs ++ ys)) ∧ w.grownBy w' v.ownBlock ∧ KeepB n (n + m) w w' := by
  obtain ⟨i0, hi, hz0, hz1, hz2⟩ := info_parts info5
  rcases hown.2 with ⟨rfl, h0⟩ | ⟨g, cap, cur, rfl, hb, hg, hnc, hcm, hcs, htake⟩
  · obtain ⟨v', w', hr, h2, h3, _⟩ := run_app_byt w ty base _ n xs hown A m c ys hy hm h63 hbase
    exact ⟨v', w', hr, h2, h3, KeepB.grown h3⟩
  · by_cases hm0 : m = 0
    · have hys : ys = [] := List.length_eq_zero_iff.1 (by omega)
      subst hys
      obtain ⟨v', w', hr, h2, h3, _⟩ := run_app_byt w ty base _ n xs hown A m c [] hy hm h63 hbase
      have hw : w' = w := by
        have e : (Builtin.append_ #[41, 41] ty #[.slice (some ⟨g, 0, none⟩) n cap, .slice A m c]).run Try.prog w = .ok (.slice (some ⟨g, 0, none⟩) n cap) w := by
          subst hm0
          cases A <;> simp [Builtin.append_, run_underlying Try.underlying41, sizeOf, typeInfo, hi, Builtin.lenOf, Builtin.firstCells, hnc, storeCells, loadCells, loadCellsFrom]
        rw [hr] at e; injection e
      subst hw
      exact ⟨v', w', hr, h2, h3, KeepB.grown (World.grownBy.refl _ _)⟩
    · have hA : ∃ a, A = some a := by
        cases ys with
        | nil => simp at hm; omega
        | cons y l => obtain ⟨a, e, _⟩ := hy 0 y rfl; exact ⟨a, e⟩
      obtain ⟨a, rfl⟩ := hA
      have hcells : ∀ j u, (Bs ys)[j]? = some u → w.cell? (a.add j) = some u := fun j u hj => by
        unfold Bs at hj
        rw [List.getElem?_map] at hj
        obtain ⟨x, hx, rfl⟩ := Option.map_eq_some_iff.1 hj
        obtain ⟨a', e, hc⟩ := hy j x hx
        injection e with e; subst e; exact hc
      by_cases hroom : n + m ≤ cap
      · obtain ⟨v', w', hr, h2, h3, _⟩ := run_app_byt w ty base _ n xs hown (some a) m c ys hy hm h63 hbase
        have hold := append_old (w := w) (w' := w') 41 ty 5 i0 (.int .u8 0) 1 1 Try.underlying41 hi hz0 hz1 hz2 rfl (by decide) _ n _ (hown.mono (Nat.zero_le _)) a m c (Bs ys) (by rw [Bs_length]; omega) hcells (Bs_one _) (by simp only [maxLen]; omega) (by omega) hr
        refine ⟨v', w', hr, h2, h3, ⟨h3.os, h3.tape, h3.output, h3.size, fun q C t fr hq => ?_, fun q C t fr hq hsm => ?_⟩⟩
        · by_cases e : q = g
          · subst e
            rw [hg] at hq
            injection hq with hq; injection hq with e1 e2 e3
            subst e1; subst e2; subst e3
            rcases hold.2 with ⟨h', _⟩ | ⟨g', cap', cur', h', _, hg', _, _, hcs', ht'⟩
            · cases h'
            · injection h' with e1 e2 e3
              injection e1 with e1; injection e1 with e1
              subst e1; subst e3
              refine ⟨cur', hg', by rw [hcs', hcs], fun i hi => ?_⟩
              have h5 := congrArg (fun l => l[i]?) (ht'.trans htake.symm)
              simp only [List.getElem?_take] at h5
              rw [if_pos (by omega), if_pos (by omega), Array.getElem?_toList, Array.getElem?_toList] at h5
              exact h5
          · exact ⟨C, by rw [h3.block q (room_lt hq) (fun e' => e (by injection e'))]; exact hq, rfl, fun _ _ => rfl⟩
        · have e : q ≠ g := fun e => by
            subst e
            rw [hg] at hq
            injection hq with hq; injection hq with e1 _ _
            subst e1; omega
          rw [h3.block q (room_lt hq) (fun e' => e (by injection e'))]; exact hq
      · have hge := grownCap_ge w (n + m) cap 5
        have hcm2 : grownCap w (n + m) cap 5 ≤ maxLen := grownCap_le_maxLen w (n + m) cap _ (by simp only [maxLen]; omega)
        have hr := run_append_grow (P := Try.prog) w 41 ty 5 i0 (.int .u8 0) Try.underlying41 hi hz0 ⟨g, 0, none⟩ n cap (Bs xs) (by rw [hown.1, hz1]) (fun j u hj => hown.cells (g := g) rfl _ _ hj) a m c (Bs ys) (by rw [Bs_length, hz1]; omega) hcells (by omega) (by omega)
          (by rw [hz2]; have := nextslicecap_le (show cap < n + m by omega); omega)
        have hlen : (Bs (xs ++ ys)).length = (n + m) * 1 := by have := hown.1; rw [Bs_length] at this; rw [Bs_length, List.length_append]; omega
        have hgn : w.grownBy (w.drew.alloc (.cells ((Bs xs).toArray ++ (Bs ys).toArray ++ Builtin.zeroCells (Value.int .u8 0).cells (grownCap w (n + m) cap 5 - (n + m))) 5)) none := ⟨rfl, rfl, rfl, by simp, fun k hk _ => heap_alloc_old w.drew _ hk⟩
        refine ⟨_, _, hr, ⟨hlen, .inr ⟨w.heap.size, _, _, rfl, hbase, heap_alloc_new w.drew _, hge, hcm2, ?_, ?_⟩⟩, ⟨hgn.os, hgn.tape, hgn.output, hgn.size, fun k hk _ => hgn.block k hk (by simp)⟩, KeepB.grown hgn⟩
        · have hxl := hown.1
          rw [Bs_length] at hxl
          simp only [Array.size_append, List.size_toArray, size_zeroCells, Bs_length, hm]
          show xs.length + m + (_ - (n + m)) * 1 = _ * 1
          omega
        · simp only [Array.toList_append, List.append_assoc]
          rw [← List.append_assoc, ← hlen, Bs_append]
          exact List.take_left
set_option maxRecDepth 100000 in
theorem wp_app_keep (w : World) {o : Oper} {a : Act} {K : Act → World → Prop} {Q : Exit → Act → World → Prop} (s x : Operand)
    (ho : o.op = .call { callee := .builtin .append, args := #[s, x], argTypes := #[41, 41] })
    (base : Nat) (v : Value) (n : Nat) (xs : List Int) (hs : a.eval s = v) (hown : w.ownsRow base 5 1 v n (Bs xs)) (A : Option Addr) (m c : Nat) (ys : List Int) (hx : a.eval x = .slice A m c) (hy : Byt w A ys) (hm : ys.length = m)
    (h63 : n + m ≤ 1000000) (hbase : base ≤ w.heap.size)
    (h : ∀ v' w', w'.ownsRow base 5 1 v' (n + m) (Bs (xs ++ ys)) → w.grownBy w' v.ownBlock → KeepB n (n + m) w w' → K (a.put o.dst v') w') : o.wp Try.prog a w K Q := by
  obtain ⟨v', w', hr, h2, h3, h4⟩ := run_app_keep w o.type base v n xs hown A m c ys hy hm h63 hbase
  unfold Oper.wp execOp
  simp only [ho, resolve, invoke, builtin, Sem.run_bind, Sem.run_pure, Result.andThen_ok, List.map_toArray, List.map_cons, List.map_nil, hs, hx, hr]
  exact h v' w' h2 h3 h4
/-- append to a slice that is its whole block: nothing that is there is touched. -/
theorem run_app_full' (w : World) (ty : TypeId) (base : Nat) (v : Value) (xs : List Int) (hf : FullAt w base v xs) (A : Option Addr) (m c : Nat) (ys : List Int) (hy : Byt w A ys) (hm : ys.length = m) (h0 : 0 < m)
    (h63 : xs.length + m ≤ 1000000) (hbase : base ≤ w.heap.size) :
    ∃ v' w', (Builtin.append_ #[41, 41] ty #[v, .slice A m c]).run Try.prog w = .ok v' w' ∧ w'.ownsRow base 5 1 v' (xs.length + m) (Bs (xs ++ ys)) ∧ w.grownBy w' none := by
  have hown := hf.own (by simp only [maxLen]; omega)
  obtain ⟨q, C, rfl, hb, hq, hc⟩ := hf
  obtain ⟨v', w', hr, h2, h3, h4⟩ := run_app_keep w ty base _ _ xs hown A m c ys hy hm h63 hbase
  refine ⟨v', w', hr, h2, ⟨h3.os, h3.tape, h3.output, h3.size, fun k hk _ => ?_⟩⟩
  by_cases e : k = q
  · subst e
    rw [hq, h4.small k C _ _ hq (by rw [FullAt.size hc]; omega)]
  · exact h3.block k hk (fun e' => e (by injection e'))
set_option maxRecDepth 100000 in
theorem wp_app_full' (w : World) {o : Oper} {a : Act} {K : Act → World → Prop} {Q : Exit → Act → World → Prop} (s x : Operand)
    (ho : o.op = .call { callee := .builtin .append, args := #[s, x], argTypes := #[41, 41] })
    (base : Nat) (v : Value) (xs : List Int) (hs : a.eval s = v) (hf : FullAt w base v xs) (A : Option Addr) (m c : Nat) (ys : List Int) (hx : a.eval x = .slice A m c) (hy : Byt w A ys) (hm : ys.length = m) (h0 : 0 < m)
    (h63 : xs.length + m ≤ 1000000) (hbase : base ≤ w.heap.size)
    (h : ∀ v' w', w'.ownsRow base 5 1 v' (xs.length + m) (Bs (xs ++ ys)) → w.grownBy w' none → K (a.put o.dst v') w') : o.wp Try.prog a w K Q := by
  obtain ⟨v', w', hr, h2, h3⟩ := run_app_full' w o.type base v xs hf A m c ys hy hm h0 h63 hbase
  unfold Oper.wp execOp
  simp only [ho, resolve, invoke, builtin, Sem.run_bind, Sem.run_pure, Result.andThen_ok, List.map_toArray, List.map_cons, List.map_nil, hs, hx, hr]
  exact h v' w' h2 h3
end Go.Proofs.Ytcmmopngjeonfaa
