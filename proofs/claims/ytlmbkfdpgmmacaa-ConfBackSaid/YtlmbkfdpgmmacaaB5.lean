/- append of bytes to a row of bytes that the call owns. -/
import Derived.Test.YtlmbkfdpgmmacaaB3
namespace Go.Proofs.Ytlmbkfdpgmmacaa
open Go.ChangeShapes Go.WideShapes Go.ChangeAt Go.RowKit
set_option linter.unusedVariables false
theorem Bs_length (xs : List Int) : (Bs xs).length = xs.length := by unfold Bs; simp
theorem own_new (W : World) (base : Nat) (t : TypeId) (n : Nat) (C : Array Value) (xs : List Value) (hb : base ≤ W.heap.size) (hn : C.size = n) (hm : n ≤ maxLen) (hc : C.toList = xs) :
    (W.alloc (.cells C t)).ownsRow base t 1 (.slice (some ⟨W.heap.size, 0, none⟩) n n) n xs := by
  subst hc
  refine ⟨by simp [hn], Or.inr ⟨W.heap.size, n, C, rfl, hb, heap_alloc_new W _, Nat.le_refl _, hm, by omega, ?_⟩⟩
  exact List.take_of_length_le (by simp [hn])
theorem run_app_byt (w : World) (ty : TypeId) (base : Nat) (v : Value) (n : Nat) (xs : List Int) (hown : w.ownsRow base 5 1 v n (Bs xs)) (A : Option Addr) (m c : Nat) (ys : List Int) (hy : Byt w A ys) (hm : ys.length = m)
    (h63 : n + m ≤ 1000000) (hbase : base ≤ w.heap.size) :
    ∃ v' w', (Builtin.append_ #[24, 24] ty #[v, .slice A m c]).run Try.prog w = .ok v' w' ∧ w'.ownsRow base 5 1 v' (n + m) (Bs (xs ++ ys)) ∧ w.grownBy w' v.ownBlock ∧
      (v'.ownBlock = v.ownBlock ∨ v'.ownBlock = some w.heap.size) := by
  obtain ⟨i0, hi, hz0, hz1, hz2⟩ := info_parts info5
  rcases A with _ | a
  · have hys : ys = [] := by
      cases ys with
      | nil => rfl
      | cons y l => obtain ⟨a, e, _⟩ := hy 0 y rfl; cases e
    subst hys
    subst hm
    refine ⟨v, w, ?_, by simpa using hown, World.grownBy.refl w _, .inl rfl⟩
    rcases hown.2 with ⟨rfl, rfl⟩ | ⟨g, cap, cur, rfl, _, _, hnc, _⟩
    · simp [Builtin.append_, run_underlying Try.underlying24, sizeOf, typeInfo, hi, Builtin.lenOf, Builtin.firstCells]
    · simp [Builtin.append_, run_underlying Try.underlying24, sizeOf, typeInfo, hi, Builtin.lenOf, Builtin.firstCells, hnc, storeCells]
  · obtain ⟨v', w', hr, h2, h3, h4, h5⟩ := run_append_own_at (P := Try.prog) w base 24 ty 5 i0 (.int .u8 0) 1 1 Try.underlying24 hi hz0 hz1 hz2 rfl (by decide) v n _ hown a m c (Bs ys) (by rw [Bs_length]; omega)
      (fun j u hj => by
        unfold Bs at hj
        rw [List.getElem?_map] at hj
        obtain ⟨x, hx, rfl⟩ := Option.map_eq_some_iff.1 hj
        obtain ⟨a', e, hc⟩ := hy j x hx
        injection e with e; subst e; exact hc) (Bs_one _) (by simp only [maxLen]; omega) (by omega) hbase
    exact ⟨v', w', hr, by rw [Bs_append]; exact h2, h3, h5⟩
theorem wp_app_byt (w : World) {o : Oper} {a : Act} {K : Act → World → Prop} {Q : Exit → Act → World → Prop} (s x : Operand)
    (ho : o.op = .call { callee := .builtin .append, args := #[s, x], argTypes := #[24, 24] })
    (base : Nat) (v : Value) (n : Nat) (xs : List Int) (hs : a.eval s = v) (hown : w.ownsRow base 5 1 v n (Bs xs)) (A : Option Addr) (m c : Nat) (ys : List Int) (hx : a.eval x = .slice A m c) (hy : Byt w A ys) (hm : ys.length = m)
    (h63 : n + m ≤ 1000000) (hbase : base ≤ w.heap.size)
    (h : ∀ v' w', w'.ownsRow base 5 1 v' (n + m) (Bs (xs ++ ys)) → w.grownBy w' v.ownBlock → (v'.ownBlock = v.ownBlock ∨ v'.ownBlock = some w.heap.size) → K (a.put o.dst v') w') : o.wp Try.prog a w K Q := by
  obtain ⟨v', w', hr, h2, h3, h4⟩ := run_app_byt w o.type base v n xs hown A m c ys hy hm h63 hbase
  unfold Oper.wp execOp
  simp only [ho, resolve, invoke, builtin, Sem.run_bind, Sem.run_pure, Result.andThen_ok, List.map_toArray, List.map_cons, List.map_nil, hs, hx, hr]
  exact h v' w' h2 h3 h4
theorem wpList_app_byt (w : World) {ops : Array Oper} {rest : List Oper} {o : Oper} {a : Act} {Q : Exit → Act → World → Prop} (hgd : o.guard = none) (s x : Operand)
    (ho : o.op = .call { callee := .builtin .append, args := #[s, x], argTypes := #[24, 24] })
    (base : Nat) (v : Value) (n : Nat) (xs : List Int) (hs : a.eval s = v) (hown : w.ownsRow base 5 1 v n (Bs xs)) (A : Option Addr) (m c : Nat) (ys : List Int) (hx : a.eval x = .slice A m c) (hy : Byt w A ys) (hm : ys.length = m)
    (h63 : n + m ≤ 1000000) (hbase : base ≤ w.heap.size)
    (h : ∀ v' w', w'.ownsRow base 5 1 v' (n + m) (Bs (xs ++ ys)) → w.grownBy w' v.ownBlock → (v'.ownBlock = v.ownBlock ∨ v'.ownBlock = some w.heap.size) → wpList Try.prog ops Q rest (a.put o.dst v') w') : wpList Try.prog ops Q (o :: rest) a w :=
  wpList_plain hgd fun _ hK => wp_app_byt w s x ho base v n xs hs hown A m c ys hx hy hm h63 hbase fun v' w' h2 h3 h4 => hK _ _ (h v' w' h2 h3 h4)
theorem step_app_byt (w : World) {ops : Array Oper} {o : Oper} {a : Act} {K : Act → World → Prop} {Q : Exit → Act → World → Prop} {E : Prop} (hgd : o.guard = none) (s x : Operand)
    (ho : o.op = .call { callee := .builtin .append, args := #[s, x], argTypes := #[24, 24] })
    (base : Nat) (v : Value) (n : Nat) (xs : List Int) (hs : a.eval s = v) (hown : w.ownsRow base 5 1 v n (Bs xs)) (A : Option Addr) (m c : Nat) (ys : List Int) (hx : a.eval x = .slice A m c) (hy : Byt w A ys) (hm : ys.length = m)
    (h63 : n + m ≤ 1000000) (hbase : base ≤ w.heap.size)
    (h : ∀ v' w', w'.ownsRow base 5 1 v' (n + m) (Bs (xs ++ ys)) → w.grownBy w' v.ownBlock → (v'.ownBlock = v.ownBlock ∨ v'.ownBlock = some w.heap.size) → K (a.put o.dst v') w') :
    if Region.wanted o (yielded ops a.tmps) = true then Oper.wp Try.prog o a w K Q else E := by
  have hw : Region.wanted o (yielded ops a.tmps) = true := by simp [Region.wanted, hgd]
  rw [if_pos hw]
  exact wp_app_byt w s x ho base v n xs hs hown A m c ys hx hy hm h63 hbase h
theorem byt_own' {W : World} {B : Nat} {t : TypeId} {sv : Value} {n : Nat} {bs : List Int} (h : W.ownsRow B t 1 sv n (Bs bs)) (hn : bs.length = n) :
    ∃ A d, sv = .slice A n d ∧ n ≤ d ∧ d ≤ 9223372036854775807 ∧ Byt W A bs := by
  rcases h.2 with ⟨rfl, h0⟩ | ⟨g, cap, cur, rfl, hb, hg, hn', hm, hs, ht⟩
  · refine ⟨none, 0, by rw [h0], by omega, by omega, fun i s hi => ?_⟩
    rw [List.length_eq_zero_iff.1 (show bs.length = 0 by omega)] at hi; cases hi
  · refine ⟨some ⟨g, 0, none⟩, cap, rfl, hn', by simp only [maxLen] at hm; omega, fun i s hi => ⟨_, rfl, ?_⟩⟩
    exact h.cells (g := g) rfl _ _ (by unfold Bs; rw [List.getElem?_map, hi]; rfl)
theorem byt_lit1 (W : World) (x : Int) : Byt (W.alloc (.cells #[.int .u8 x] 5)) (some ⟨W.heap.size, 0, none⟩) [x] := by
  intro i y hi
  refine ⟨_, rfl, ?_⟩
  cases i with
  | zero => injection hi with hi; subst hi; exact blk_cell (heap_alloc_new W _) 0
  | succ i => simp at hi
theorem Byt.alloc {w : World} {A : Option Addr} {xs : List Int} (h : Byt w A xs) (o : Obj) : Byt (w.alloc o) A xs := fun i x hi =>
  let ⟨a, e, hs⟩ := h i x hi; ⟨a, e, keepA hs o⟩
end Go.Proofs.Ytlmbkfdpgmmacaa
