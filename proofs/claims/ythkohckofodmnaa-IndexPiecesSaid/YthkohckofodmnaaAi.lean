/- Rows of ints behind a slice; append of ints, also in a region that draws its order: what it keeps of every block. (K4's and Ap's laws of bytes, for ints.) -/
import Derived.Test.YthkohckofodmnaaAp
namespace Go.Proofs.Ythkohckofodmnaa
open Go.ChangeShapes Go.WideShapes Go.ChangeAt Go.RowKit
set_option linter.unusedVariables false
/-- The cells of ints. -/
def Is (xs : List Int) : List Value := xs.map (.int .i64)
/-- Ints lie behind a slice. -/
def Nts (w : World) (A : Option Addr) (xs : List Int) : Prop := ∀ i x, xs[i]? = some x → ∃ a, A = some a ∧ w.cell? (a.add i) = some (.int .i64 x)
theorem Is_at {xs : List Int} {i : Nat} {x : Int} (h : xs[i]? = some x) : (Is xs)[i]? = some (.int .i64 x) := by unfold Is; rw [List.getElem?_map, h]; rfl
theorem Is_length (xs : List Int) : (Is xs).length = xs.length := by unfold Is; simp
theorem Nts.keep {w w' : World} {A : Option Addr} {xs : List Int} (h : Nts w A xs) (hb : Below w.heap.size w w') : Nts w' A xs := fun i x hi =>
  let ⟨a, e, hs⟩ := h i x hi; ⟨a, e, keepC hb hs⟩
theorem Nts.alloc {w : World} {A : Option Addr} {xs : List Int} (h : Nts w A xs) (o : Obj) : Nts (w.alloc o) A xs := fun i x hi =>
  let ⟨a, e, hs⟩ := h i x hi; ⟨a, e, keepA hs o⟩
theorem Nts.take {w : World} {A : Option Addr} {xs : List Int} (h : Nts w A xs) (k : Nat) : Nts w A (xs.take k) := fun i x hi => h i x (by
  rw [List.getElem?_take] at hi; split at hi; exact hi; cases hi)
theorem nts_blk {W : World} {r : Nat} {C : Array Value} {t : TypeId} {fr : Nat × Nat} {bs : List Int} (h : W.heap[r]? = some (.cells C t fr)) (hc : C.toList = Is bs) : Nts W (some ⟨r, 0, none⟩) bs := by
  intro i x hi
  refine ⟨_, rfl, ?_⟩
  rw [add_at, cell_of_row _ _ _ _ _ _ h, ← Array.getElem?_toList, hc]
  exact Is_at hi
/-- Ntses that a call owns. -/
theorem nts_own {W : World} {B : Nat} {t : TypeId} {sv : Value} {n : Nat} {bs : List Int} (h : W.ownsRow B t 1 sv n (Is bs)) (hn : bs.length = n) :
    ∃ A d, sv = .slice A bs.length d ∧ bs.length ≤ d ∧ d ≤ 9223372036854775807 ∧ Nts W A bs := by
  subst hn
  rcases h.2 with ⟨rfl, h0⟩ | ⟨g, cap, cur, rfl, hb, hg, hn', hm, hs, ht⟩
  · refine ⟨none, 0, by rw [h0], by omega, by omega, fun i s hi => ?_⟩
    rw [List.length_eq_zero_iff.1 h0] at hi; cases hi
  · refine ⟨some ⟨g, 0, none⟩, cap, rfl, hn', by simp only [maxLen] at hm; omega, fun i s hi => ⟨_, rfl, ?_⟩⟩
    exact h.cells (g := g) rfl _ _ (Is_at hi)
theorem infoI : (Try.prog.info? 3).map (fun i => (i.zero, i.size, i.bytes)) = some (some (.int .i64 0), 1, 8) := by kernel_rfl
theorem Is_one (l : List Int) : ∀ u ∈ Is l, u.oneCell' = true := by
  intro u hu; unfold Is at hu; obtain ⟨x, _, rfl⟩ := List.mem_map.1 hu; rfl
theorem Is_append (l m : List Int) : Is (l ++ m) = Is l ++ Is m := List.map_append
set_option maxRecDepth 100000 in
theorem run_app_nts (w : World) (ty : TypeId) (base : Nat) (v : Value) (n : Nat) (xs : List Int) (hown : w.ownsRow base 3 1 v n (Is xs)) (A : Option Addr) (m c : Nat) (ys : List Int) (hy : Nts w A ys) (hm : ys.length = m)
    (h63 : n + m ≤ 1000000) (hbase : base ≤ w.heap.size) :
    ∃ v' w', (Builtin.append_ #[22, 22] ty #[v, .slice A m c]).run Try.prog w = .ok v' w' ∧ w'.ownsRow base 3 1 v' (n + m) (Is (xs ++ ys)) ∧ w.grownBy w' v.ownBlock ∧
      (v'.ownBlock = v.ownBlock ∨ v'.ownBlock = some w.heap.size) := by
  obtain ⟨i0, hi, hz0, hz1, hz2⟩ := info_parts infoI
  rcases A with _ | a
  · have hys : ys = [] := by
      cases ys with
      | nil => rfl
      | cons y l => obtain ⟨a, e, _⟩ := hy 0 y rfl; cases e
    subst hys
    subst hm
    refine ⟨v, w, ?_, by simpa using hown, World.grownBy.refl w _, .inl rfl⟩
    rcases hown.2 with ⟨rfl, rfl⟩ | ⟨g, cap, cur, rfl, _, _, hnc, _⟩
    · simp [Builtin.append_, run_underlying Try.underlying22, sizeOf, typeInfo, hi, Builtin.lenOf, Builtin.firstCells]
    · simp [Builtin.append_, run_underlying Try.underlying22, sizeOf, typeInfo, hi, Builtin.lenOf, Builtin.firstCells, hnc, storeCells]
  · obtain ⟨v', w', hr, h2, h3, h4, h5⟩ := run_append_own_at (P := Try.prog) w base 22 ty 3 i0 (.int .i64 0) 1 8 Try.underlying22 hi hz0 hz1 hz2 rfl (by decide) v n _ hown a m c (Is ys) (by rw [Is_length]; omega)
      (fun j u hj => by
        unfold Is at hj
        rw [List.getElem?_map] at hj
        obtain ⟨x, hx, rfl⟩ := Option.map_eq_some_iff.1 hj
        obtain ⟨a', e, hc⟩ := hy j x hx
        injection e with e; subst e; exact hc) (Is_one _) (by simp only [maxLen]; omega) (by omega) hbase
    exact ⟨v', w', hr, by rw [Is_append]; exact h2, h3, h5⟩
set_option maxRecDepth 100000 in
theorem wp_app_nts (w : World) {o : Oper} {a : Act} {K : Act → World → Prop} {Q : Exit → Act → World → Prop} (s x : Operand)
    (ho : o.op = .call { callee := .builtin .append, args := #[s, x], argTypes := #[22, 22] })
    (base : Nat) (v : Value) (n : Nat) (xs : List Int) (hs : a.eval s = v) (hown : w.ownsRow base 3 1 v n (Is xs)) (A : Option Addr) (m c : Nat) (ys : List Int) (hx : a.eval x = .slice A m c) (hy : Nts w A ys) (hm : ys.length = m)
    (h63 : n + m ≤ 1000000) (hbase : base ≤ w.heap.size)
    (h : ∀ v' w', w'.ownsRow base 3 1 v' (n + m) (Is (xs ++ ys)) → w.grownBy w' v.ownBlock → (v'.ownBlock = v.ownBlock ∨ v'.ownBlock = some w.heap.size) → K (a.put o.dst v') w') : o.wp Try.prog a w K Q := by
  obtain ⟨v', w', hr, h2, h3, h4⟩ := run_app_nts w o.type base v n xs hown A m c ys hy hm h63 hbase
  unfold Oper.wp execOp
  simp only [ho, resolve, invoke, builtin, Sem.run_bind, Sem.run_pure, Result.andThen_ok, List.map_toArray, List.map_cons, List.map_nil, hs, hx, hr]
  exact h v' w' h2 h3 h4
set_option maxRecDepth 100000 in
theorem wpList_app_nts (w : World) {ops : Array Oper} {rest : List Oper} {o : Oper} {a : Act} {Q : Exit → Act → World → Prop} (hgd : o.guard = none) (s x : Operand)
    (ho : o.op = .call { callee := .builtin .append, args := #[s, x], argTypes := #[22, 22] })
    (base : Nat) (v : Value) (n : Nat) (xs : List Int) (hs : a.eval s = v) (hown : w.ownsRow base 3 1 v n (Is xs)) (A : Option Addr) (m c : Nat) (ys : List Int) (hx : a.eval x = .slice A m c) (hy : Nts w A ys) (hm : ys.length = m)
    (h63 : n + m ≤ 1000000) (hbase : base ≤ w.heap.size)
    (h : ∀ v' w', w'.ownsRow base 3 1 v' (n + m) (Is (xs ++ ys)) → w.grownBy w' v.ownBlock → (v'.ownBlock = v.ownBlock ∨ v'.ownBlock = some w.heap.size) → wpList Try.prog ops Q rest (a.put o.dst v') w') : wpList Try.prog ops Q (o :: rest) a w :=
  wpList_plain hgd fun _ hK => wp_app_nts w s x ho base v n xs hs hown A m c ys hx hy hm h63 hbase fun v' w' h2 h3 h4 => hK _ _ (h v' w' h2 h3 h4)
set_option maxRecDepth 100000 in
theorem run_app_keepI (w : World) (ty : TypeId) (base : Nat) (v : Value) (n : Nat) (xs : List Int) (hown : w.ownsRow base 3 1 v n (Is xs)) (A : Option Addr) (m c : Nat) (ys : List Int) (hy : Nts w A ys) (hm : ys.length = m)
    (h63 : n + m ≤ 1000000) (hbase : base ≤ w.heap.size) :
    ∃ v' w', (Builtin.append_ #[22, 22] ty #[v, .slice A m c]).run Try.prog w = .ok v' w' ∧ w'.ownsRow base 3 1 v' (n + m) (Is (xs ++ ys)) ∧ w.grownBy w' v.ownBlock ∧ KeepB n (n + m) w w' := by
  obtain ⟨i0, hi, hz0, hz1, hz2⟩ := info_parts infoI
  rcases hown.2 with ⟨rfl, h0⟩ | ⟨g, cap, cur, rfl, hb, hg, hnc, hcm, hcs, htake⟩
  · obtain ⟨v', w', hr, h2, h3, _⟩ := run_app_nts w ty base _ n xs hown A m c ys hy hm h63 hbase
    exact ⟨v', w', hr, h2, h3, KeepB.grown h3⟩
  · by_cases hm0 : m = 0
    · have hys : ys = [] := List.length_eq_zero_iff.1 (by omega)
      subst hys
      obtain ⟨v', w', hr, h2, h3, _⟩ := run_app_nts w ty base _ n xs hown A m c [] hy hm h63 hbase
      have hw : w' = w := by
        have e : (Builtin.append_ #[22, 22] ty #[.slice (some ⟨g, 0, none⟩) n cap, .slice A m c]).run Try.prog w = .ok (.slice (some ⟨g, 0, none⟩) n cap) w := by
          subst hm0
          cases A <;> simp [Builtin.append_, run_underlying Try.underlying22, sizeOf, typeInfo, hi, Builtin.lenOf, Builtin.firstCells, hnc, storeCells, loadCells, loadCellsFrom]
        rw [hr] at e; injection e
      subst hw
      exact ⟨v', w', hr, h2, h3, KeepB.grown (World.grownBy.refl _ _)⟩
    · have hA : ∃ a, A = some a := by
        cases ys with
        | nil => simp at hm; omega
        | cons y l => obtain ⟨a, e, _⟩ := hy 0 y rfl; exact ⟨a, e⟩
      obtain ⟨a, rfl⟩ := hA
      have hcells : ∀ j u, (Is ys)[j]? = some u → w.cell? (a.add j) = some u := fun j u hj => by
        unfold Is at hj
        rw [List.getElem?_map] at hj
        obtain ⟨x, hx, rfl⟩ := Option.map_eq_some_iff.1 hj
        obtain ⟨a', e, hc⟩ := hy j x hx
        injection e with e; subst e; exact hc
      by_cases hroom : n + m ≤ cap
      · obtain ⟨v', w', hr, h2, h3, _⟩ := run_app_nts w ty base _ n xs hown (some a) m c ys hy hm h63 hbase
        have hold := append_old (w := w) (w' := w') 22 ty 3 i0 (.int .i64 0) 1 8 Try.underlying22 hi hz0 hz1 hz2 rfl (by decide) _ n _ (hown.mono (Nat.zero_le _)) a m c (Is ys) (by rw [Is_length]; omega) hcells (Is_one _) (by simp only [maxLen]; omega) (by omega) hr
        refine ⟨v', w', hr, h2, h3, ⟨h3.os, h3.tape, h3.output, h3.size, fun q C t fr hq => ?_, fun q C t fr hq hsm => ?_⟩⟩
        · by_cases e : q = g
          · subst e
            rw [hg] at hq
            injection hq with hq; injection hq with e1 e2 e3
            subst e1; subst e2; subst e3
            rcases hold.2 with ⟨h', _⟩ | ⟨g', cap', cur', h', _, hg', _, _, hcs', ht'⟩
            · cases h'
            · injection h' with e1 e2 e3
              injection e1 with e1; injection e1 with e1
              subst e1; subst e3
              refine ⟨cur', hg', by rw [hcs', hcs], fun i hi => ?_⟩
              have h5 := congrArg (fun l => l[i]?) (ht'.trans htake.symm)
              simp only [List.getElem?_take] at h5
              rw [if_pos (by omega), if_pos (by omega), Array.getElem?_toList, Array.getElem?_toList] at h5
              exact h5
          · exact ⟨C, by rw [h3.block q (room_lt hq) (fun e' => e (by injection e'))]; exact hq, rfl, fun _ _ => rfl⟩
        · have e : q ≠ g := fun e => by
            subst e
            rw [hg] at hq
            injection hq with hq; injection hq with e1 _ _
            subst e1; omega
          rw [h3.block q (room_lt hq) (fun e' => e (by injection e'))]; exact hq
      · have hge := grownCap_ge w (n + m) cap 3
        have hcm2 : grownCap w (n + m) cap 3 ≤ maxLen := grownCap_le_maxLen w (n + m) cap _ (by simp only [maxLen]; omega)
        have hr := run_append_grow (P := Try.prog) w 22 ty 3 i0 (.int .i64 0) Try.underlying22 hi hz0 ⟨g, 0, none⟩ n cap (Is xs) (by rw [hown.1, hz1]) (fun j u hj => hown.cells (g := g) rfl _ _ hj) a m c (Is ys) (by rw [Is_length, hz1]; omega) hcells (by omega) (by omega)
          (by rw [hz2]; have := nextslicecap_le (show cap < n + m by omega); omega)
        have hlen : (Is (xs ++ ys)).length = (n + m) * 1 := by have := hown.1; rw [Is_length] at this; rw [Is_length, List.length_append]; omega
        have hgn : w.grownBy (w.drew.alloc (.cells ((Is xs).toArray ++ (Is ys).toArray ++ Builtin.zeroCells (Value.int .i64 0).cells (grownCap w (n + m) cap 3 - (n + m))) 3)) none := ⟨rfl, rfl, rfl, by simp, fun k hk _ => heap_alloc_old w.drew _ hk⟩
        refine ⟨_, _, hr, ⟨hlen, .inr ⟨w.heap.size, _, _, rfl, hbase, heap_alloc_new w.drew _, hge, hcm2, ?_, ?_⟩⟩, ⟨hgn.os, hgn.tape, hgn.output, hgn.size, fun k hk _ => hgn.block k hk (by simp)⟩, KeepB.grown hgn⟩
        · have hxl := hown.1
          rw [Is_length] at hxl
          simp only [Array.size_append, List.size_toArray, size_zeroCells, Is_length, hm]
          show xs.length + m + (_ - (n + m)) * 1 = _ * 1
          omega
        · simp only [Array.toList_append, List.append_assoc]
          rw [← List.append_assoc, ← hlen, Is_append]
          exact List.take_left
set_option maxRecDepth 100000 in
theorem wp_app_keepI (w : World) {o : Oper} {a : Act} {K : Act → World → Prop} {Q : Exit → Act → World → Prop} (s x : Operand)
    (ho : o.op = .call { callee := .builtin .append, args := #[s, x], argTypes := #[22, 22] })
    (base : Nat) (v : Value) (n : Nat) (xs : List Int) (hs : a.eval s = v) (hown : w.ownsRow base 3 1 v n (Is xs)) (A : Option Addr) (m c : Nat) (ys : List Int) (hx : a.eval x = .slice A m c) (hy : Nts w A ys) (hm : ys.length = m)
    (h63 : n + m ≤ 1000000) (hbase : base ≤ w.heap.size)
    (h : ∀ v' w', w'.ownsRow base 3 1 v' (n + m) (Is (xs ++ ys)) → w.grownBy w' v.ownBlock → KeepB n (n + m) w w' → K (a.put o.dst v') w') : o.wp Try.prog a w K Q := by
  obtain ⟨v', w', hr, h2, h3, h4⟩ := run_app_keepI w o.type base v n xs hown A m c ys hy hm h63 hbase
  unfold Oper.wp execOp
  simp only [ho, resolve, invoke, builtin, Sem.run_bind, Sem.run_pure, Result.andThen_ok, List.map_toArray, List.map_cons, List.map_nil, hs, hx, hr]
  exact h v' w' h2 h3 h4
/-- append to an empty slice whose block has no cell: nothing that is there is touched. -/
theorem wp_app_none (w : World) {o : Oper} {a : Act} {K : Act → World → Prop} {Q : Exit → Act → World → Prop} (s x : Operand)
    (ho : o.op = .call { callee := .builtin .append, args := #[s, x], argTypes := #[22, 22] })
    (base g : Nat) (hs : a.eval s = .slice (some ⟨g, 0, none⟩) 0 0) (hb : base ≤ g) (hg : w.heap[g]? = some (.cells #[] 3 (0, 0))) (A : Option Addr) (m c : Nat) (ys : List Int) (hx : a.eval x = .slice A m c) (hy : Nts w A ys) (hm : ys.length = m) (h0 : 0 < m)
    (h63 : m ≤ 1000000) (hbase : base ≤ w.heap.size)
    (h : ∀ v' w', w'.ownsRow base 3 1 v' m (Is ys) → w.grownBy w' none → K (a.put o.dst v') w') : o.wp Try.prog a w K Q := by
  have hown : w.ownsRow base 3 1 (.slice (some ⟨g, 0, none⟩) 0 0) 0 (Is []) := ⟨rfl, Or.inr ⟨g, 0, #[], rfl, hb, hg, Nat.le_refl _, by simp only [maxLen]; omega, rfl, rfl⟩⟩
  obtain ⟨v', w', hr, h2, h3, h4⟩ := run_app_keepI w o.type base _ 0 [] hown A m c ys hy hm (by omega) hbase
  unfold Oper.wp execOp
  simp only [ho, resolve, invoke, builtin, Sem.run_bind, Sem.run_pure, Result.andThen_ok, List.map_toArray, List.map_cons, List.map_nil, hs, hx, hr]
  refine h v' w' (by simpa using h2) ⟨h3.os, h3.tape, h3.output, h3.size, fun k hk _ => ?_⟩
  by_cases e : k = g
  · subst e
    rw [hg, h4.small k #[] _ _ hg (by show 0 < 0 + m; omega)]
  · exact h3.block k hk (fun e' => e (by injection e'))
end Go.Proofs.Ythkohckofodmnaa
