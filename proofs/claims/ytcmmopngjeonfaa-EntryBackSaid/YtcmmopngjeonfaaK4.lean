/- append of bytes to a row of bytes that the call owns: whatever lies behind the source. -/
import Derived.Test.YtcmmopngjeonfaaO1
import Derived.Deep.AppendLies
import Derived.Deep.RegionLaw
namespace Go.Proofs.Ytcmmopngjeonfaa
open Go.ChangeShapes Go.WideShapes Go.ChangeAt Go.RowKit
set_option linter.unusedVariables false
theorem Bs_one (l : List Int) : ∀ u ∈ Bs l, u.oneCell' = true := by
  intro u hu; unfold Bs at hu; obtain ⟨x, _, rfl⟩ := List.mem_map.1 hu; rfl
theorem Bs_append (l m : List Int) : Bs (l ++ m) = Bs l ++ Bs m := List.map_append
theorem growN {W W' : World} (hb : Below W.heap.size W W') : W.grownBy W' none := ⟨hb.os, hb.tape, hb.output, hb.size, fun k hk _ => hb.block k hk⟩
theorem ownB {W W' : World} {base e sz n : Nat} {v : Value} {xs : List Value} (h : W.ownsRow base e sz v n xs) (hb : Below W.heap.size W W') : W'.ownsRow base e sz v n xs :=
  h.kept (growN hb) (by cases v.ownBlock <;> simp)
theorem grownB {w W W' : World} {v : Value} {e sz n : Nat} {xs : List Value} (hB : Below w.heap.size w W) (hown : W.ownsRow w.heap.size e sz v n xs) (hg : W.grownBy W' v.ownBlock) : Below w.heap.size w W' :=
  hB.grown hg hB.size (fun k hk => (hown.lt k hk).1)
theorem own_new (W : World) (base : Nat) (t : TypeId) (n : Nat) (C : Array Value) (xs : List Value) (hb : base ≤ W.heap.size) (hn : C.size = n) (hm : n ≤ maxLen) (hc : C.toList = xs) :
    (W.alloc (.cells C t)).ownsRow base t 1 (.slice (some ⟨W.heap.size, 0, none⟩) n n) n xs := by
  subst hc
  refine ⟨by simp [hn], Or.inr ⟨W.heap.size, n, C, rfl, hb, heap_alloc_new W _, Nat.le_refl _, hm, by omega, ?_⟩⟩
  exact List.take_of_length_le (by simp [hn])
set_option maxRecDepth 100000 in
theorem run_app_byt (w : World) (ty : TypeId) (base : Nat) (v : Value) (n : Nat) (xs : List Int) (hown : w.ownsRow base 5 1 v n (Bs xs)) (A : Option Addr) (m c : Nat) (ys : List Int) (hy : Byt w A ys) (hm : ys.length = m)
    (h63 : n + m ≤ 1000000) (hbase : base ≤ w.heap.size) :
    ∃ v' w', (Builtin.append_ #[41, 41] ty #[v, .slice A m c]).run Try.prog w = .ok v' w' ∧ w'.ownsRow base 5 1 v' (n + m) (Bs (xs ++ ys)) ∧ w.grownBy w' v.ownBlock ∧
      (v'.ownBlock = v.ownBlock ∨ v'.ownBlock = some w.heap.size) := by
  obtain ⟨i0, hi, hz0, hz1, hz2⟩ := info_parts info5
  rcases A with _ | a
  · have hys : ys = [] := by
      cases ys with
      | nil => rfl
      | cons y l => obtain ⟨a, e, _⟩ := hy 0 y rfl; cases e
    subst hys
    subst hm
    refine ⟨v, w, ?_, by simpa using hown, World.grownBy.refl w _, .inl rfl⟩
    rcases hown.2 with ⟨rfl, rfl⟩ | ⟨g, cap, cur, rfl, _, _, hnc, _⟩
    · simp [Builtin.append_, run_underlying Try.underlying41, sizeOf, typeInfo, hi, Builtin.lenOf, Builtin.firstCells]
    · simp [Builtin.append_, run_underlying Try.underlying41, sizeOf, typeInfo, hi, Builtin.lenOf, Builtin.firstCells, hnc, storeCells]
  · obtain ⟨v', w', hr, h2, h3, h4, h5⟩ := run_append_own_at (P := Try.prog) w base 41 ty 5 i0 (.int .u8 0) 1 1 Try.underlying41 hi hz0 hz1 hz2 rfl (by decide) v n _ hown a m c (Bs ys) (by rw [Bs_length]; omega)
      (fun j u hj => by
        unfold Bs at hj
        rw [List.getElem?_map] at hj
        obtain ⟨x, hx, rfl⟩ := Option.map_eq_some_iff.1 hj
        obtain ⟨a', e, hc⟩ := hy j x hx
        injection e with e; subst e; exact hc) (Bs_one _) (by simp only [maxLen]; omega) (by omega) hbase
    exact ⟨v', w', hr, by rw [Bs_append]; exact h2, h3, h5⟩
set_option maxRecDepth 100000 in
theorem wp_app_byt (w : World) {o : Oper} {a : Act} {K : Act → World → Prop} {Q : Exit → Act → World → Prop} (s x : Operand)
    (ho : o.op = .call { callee := .builtin .append, args := #[s, x], argTypes := #[41, 41] })
    (base : Nat) (v : Value) (n : Nat) (xs : List Int) (hs : a.eval s = v) (hown : w.ownsRow base 5 1 v n (Bs xs)) (A : Option Addr) (m c : Nat) (ys : List Int) (hx : a.eval x = .slice A m c) (hy : Byt w A ys) (hm : ys.length = m)
    (h63 : n + m ≤ 1000000) (hbase : base ≤ w.heap.size)
    (h : ∀ v' w', w'.ownsRow base 5 1 v' (n + m) (Bs (xs ++ ys)) → w.grownBy w' v.ownBlock → (v'.ownBlock = v.ownBlock ∨ v'.ownBlock = some w.heap.size) → K (a.put o.dst v') w') : o.wp Try.prog a w K Q := by
  obtain ⟨v', w', hr, h2, h3, h4⟩ := run_app_byt w o.type base v n xs hown A m c ys hy hm h63 hbase
  unfold Oper.wp execOp
  simp only [ho, resolve, invoke, builtin, Sem.run_bind, Sem.run_pure, Result.andThen_ok, List.map_toArray, List.map_cons, List.map_nil, hs, hx, hr]
  exact h v' w' h2 h3 h4
set_option maxRecDepth 100000 in
theorem wpList_app_byt (w : World) {ops : Array Oper} {rest : List Oper} {o : Oper} {a : Act} {Q : Exit → Act → World → Prop} (hgd : o.guard = none) (s x : Operand)
    (ho : o.op = .call { callee := .builtin .append, args := #[s, x], argTypes := #[41, 41] })
    (base : Nat) (v : Value) (n : Nat) (xs : List Int) (hs : a.eval s = v) (hown : w.ownsRow base 5 1 v n (Bs xs)) (A : Option Addr) (m c : Nat) (ys : List Int) (hx : a.eval x = .slice A m c) (hy : Byt w A ys) (hm : ys.length = m)
    (h63 : n + m ≤ 1000000) (hbase : base ≤ w.heap.size)
    (h : ∀ v' w', w'.ownsRow base 5 1 v' (n + m) (Bs (xs ++ ys)) → w.grownBy w' v.ownBlock → (v'.ownBlock = v.ownBlock ∨ v'.ownBlock = some w.heap.size) → wpList Try.prog ops Q rest (a.put o.dst v') w') : wpList Try.prog ops Q (o :: rest) a w :=
  wpList_plain hgd fun _ hK => wp_app_byt w s x ho base v n xs hs hown A m c ys hx hy hm h63 hbase fun v' w' h2 h3 h4 => hK _ _ (h v' w' h2 h3 h4)
set_option maxRecDepth 100000 in
theorem step_app_byt (w : World) {ops : Array Oper} {o : Oper} {a : Act} {K : Act → World → Prop} {Q : Exit → Act → World → Prop} {E : Prop} (hgd : o.guard = none) (s x : Operand)
    (ho : o.op = .call { callee := .builtin .append, args := #[s, x], argTypes := #[41, 41] })
    (base : Nat) (v : Value) (n : Nat) (xs : List Int) (hs : a.eval s = v) (hown : w.ownsRow base 5 1 v n (Bs xs)) (A : Option Addr) (m c : Nat) (ys : List Int) (hx : a.eval x = .slice A m c) (hy : Byt w A ys) (hm : ys.length = m)
    (h63 : n + m ≤ 1000000) (hbase : base ≤ w.heap.size)
    (h : ∀ v' w', w'.ownsRow base 5 1 v' (n + m) (Bs (xs ++ ys)) → w.grownBy w' v.ownBlock → (v'.ownBlock = v.ownBlock ∨ v'.ownBlock = some w.heap.size) → K (a.put o.dst v') w') :
    if Region.wanted o (yielded ops a.tmps) = true then Oper.wp Try.prog o a w K Q else E := by
  have hw : Region.wanted o (yielded ops a.tmps) = true := by simp [Region.wanted, hgd]
  rw [if_pos hw]
  exact wp_app_byt w s x ho base v n xs hs hown A m c ys hx hy hm h63 hbase h
/-- A row of bytes that the call owns, not empty. -/
theorem own_at {W : World} {base : Nat} {t : TypeId} {v : Value} {n : Nat} {xs : List Int} (h : W.ownsRow base t 1 v n (Bs xs)) (hn : 0 < n) :
    ∃ g cap, v = .slice (some ⟨g, 0, none⟩) n cap ∧ n ≤ cap ∧ cap ≤ 9223372036854775807 ∧ base ≤ g ∧ g < W.heap.size ∧ (∀ k x, xs[k]? = some x → W.cell? ⟨g, k, none⟩ = some (.int .u8 x)) ∧ (∀ k, W.frozen? ⟨g, k, none⟩ = false) := by
  rcases h.2 with ⟨_, h0⟩ | ⟨g, cap, cur, e, hb, hg, hnc, hm, hs, ht⟩
  · omega
  · subst e
    refine ⟨g, cap, rfl, hnc, by simp only [maxLen] at hm; omega, hb, (h.lt g rfl).2, fun k x hx => ?_, fun k => blk_free hg k⟩
    have := h.cells (g := g) rfl _ _ (Bs_at hx)
    rwa [add_at] at this
theorem set_Bs (xs : List Int) (k : Nat) (x : Int) : (Bs xs).set k (.int .u8 x) = Bs (xs.set k x) := by unfold Bs; rw [List.map_set]
/-- A row of bytes that the call owns, with one byte set. -/
theorem own_set_at {W : World} {base e n k g cap : Nat} {xs : List Value} (h : W.ownsRow base e 1 (.slice (some ⟨g, 0, none⟩) n cap) n xs) (hk : k < n) (u : Value) :
    (W.setCell ⟨g, k, none⟩ u).ownsRow base e 1 (.slice (some ⟨g, 0, none⟩) n cap) n (xs.set k u) := by
  refine ⟨by rw [List.length_set]; exact h.1, ?_⟩
  rcases h.2 with ⟨h0, _⟩ | ⟨g', cap', cur, e', hb, hg, hn, hm, hs, ht⟩
  · cases h0
  · injection e' with e1 e2 e3
    injection e1 with e1; injection e1 with e1
    subst e1; subst e3
    refine Or.inr ⟨g, cap, cur.setIfInBounds k u, rfl, hb, heap_setCell_same' hg u, hn, hm, by simp [hs], ?_⟩
    rw [Array.toList_setIfInBounds, List.take_set, ht]
end Go.Proofs.Ytcmmopngjeonfaa
