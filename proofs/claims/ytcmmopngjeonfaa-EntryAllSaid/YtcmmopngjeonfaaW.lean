/- Operations on values of many cells, as one step each: alloc, make, a slice of one element, append of it, a struct's making, load and store. Of no function. -/
import Derived.Test.YtcmmopngjeonfaaH
import Derived.Maps.AppendAt
import Derived.OrdersHeld
namespace Go.Proofs.Ytcmmopngjeonfaa
open Go.ChangeShapes Go.WideShapes Go.ChangeAt Go.RowKit
set_option linter.unusedVariables false
section
variable {P : Program} {o : Oper} {a : Act} {w w' : World} {K : Act → World → Prop} {Q : Exit → Act → World → Prop}
theorem wp_run {v : Value} (h : (execOp a.eval o).run P w = .ok (.value v) w') (hK : K (a.put o.dst v) w') : o.wp P a w K Q := by
  simp only [Oper.wp, h, Oper.upon]; exact hK
/-- A new variable of a type whose zero is known. -/
theorem wp_alloc_of (t : TypeId) (ho : o.op = .alloc t) (i : TypeInfo) (z : Value) (hi : P.info? t = some i) (hz : i.zero = some z)
    (hK : K (a.put o.dst (.pointer (some ⟨w.heap.size, 0, none⟩))) (w.alloc (.cells z.cells t))) : o.wp P a w K Q := by
  refine wp_run (v := .pointer (some ⟨w.heap.size, 0, none⟩)) ?_ hK
  unfold execOp
  simp [ho, Instr.alloc, zeroValue, typeInfo, hi, hz, newVar, newRow]
/-- make of n elements. -/
theorem wp_make_of (t : TypeId) (x y : Operand) (ho : o.op = .makeSlice t x y) (e : TypeId) (i : TypeInfo) (z : Value) (size : Nat) (ht : P.underlying t = some (.slice e)) (hi : P.info? e = some i) (hz : i.zero = some z) (hs : i.size = size)
    (n : Nat) (k1 k2 : IntKind) (hx : a.eval x = .int k1 n) (hy : a.eval y = .int k2 n) (hb : i.bytes * n ≤ 281474976710656) (hn : n ≤ maxLen)
    (hK : ∀ w', w'.ownsRow 0 e size (.slice (some ⟨w.heap.size, 0, none⟩) n n) n (madeCells z.cells (n * size)).toList → w.grownBy w' none → w'.heap.size = w.heap.size + 1 → K (a.put o.dst (.slice (some ⟨w.heap.size, 0, none⟩) n n)) w') : o.wp P a w K Q := by
  subst hs
  have h63' : (n : Int) ≤ 9223372036854775807 := by simp [maxLen] at hn; omega
  have hb' : (i.bytes : Int) * (n : Int) ≤ 281474976710656 := by
    have h : ((i.bytes * n : Nat) : Int) ≤ 281474976710656 := by omega
    rwa [Int.natCast_mul] at h
  have hr := run_make (P := P) w t e i z ht hi hz k1 k2 n n (by omega) (Int.le_refl _) hb' h63'
  simp only [Int.toNat_natCast] at hr
  refine wp_run (v := .slice (some ⟨w.heap.size, 0, none⟩) n n) (w' := w.alloc (.cells (madeCells z.cells (n * i.size)) e)) ?_ (hK _ (World.ownsRow_lit w _ n (Nat.zero_le _) hn (size_madeCells _ _)) (World.grownBy_alloc w _ none) (by simp))
  unfold execOp
  simp only [ho, hx, hy, Sem.run_bind, hr, Result.andThen_ok, Sem.run_pure]
theorem set_all (vs : List Value) : ∀ (k off : Nat) (cs : Array Value), off + k + vs.length ≤ cs.size →
    ((vs.zipIdx k).foldl (fun (cs : Array Value) (x : Value × Nat) => cs.setIfInBounds (off + x.2) x.1) cs).toList = splice cs.toList (off + k) vs := by
  induction vs with
  | nil => intro k off cs _; simp [splice]
  | cons v r ih =>
    intro k off cs h
    simp only [List.zipIdx_cons, List.foldl_cons]
    simp only [List.length_cons] at h
    rw [ih (k + 1) off _ (by simp; omega), Array.toList_setIfInBounds]
    unfold splice
    apply List.ext_getElem?
    intro i
    rw [List.getElem?_append, List.getElem?_append, List.getElem?_append, List.getElem?_append]
    simp only [List.length_take, List.length_set, List.getElem?_take, List.getElem?_drop, List.getElem?_set, List.length_cons, List.getElem?_cons, Array.length_toList]
    have e1 : min (off + (k + 1)) cs.size = off + k + 1 := by omega
    have e2 : min (off + k) cs.size = off + k := by omega
    rw [e1, e2]
    by_cases c1 : i < off + k
    · simp [c1, show i < off + k + 1 by omega, show ¬ off + k = i by omega, show i < off + (k + 1) by omega]
    · by_cases c2 : i = off + k
      · subst c2; simp [show off + k < cs.size by omega, show off + k < off + (k + 1) by omega]
      · have c3 : ¬ i < off + k + 1 := by omega
        simp only [c1, c3, if_false]
        by_cases c4 : i - (off + k + 1) < r.length
        · simp [c4, show i - (off + k) < r.length + 1 by omega, show ¬ i - (off + k) = 0 by omega, show i - (off + k) - 1 = i - (off + k + 1) by omega]
        · simp only [c4, if_false, show ¬ i - (off + k) < r.length + 1 by omega]
          rw [if_neg (by omega)]
          congr 1; omega
theorem fill_cons {place : Nat → Option (Nat × Nat)} {cells : Array Value} {i off size : Nat} {v : Value} {rest : List (Nat × Value)} (hp : place i = some (off, size)) (hs : v.cells.size = size) (hf : off + size ≤ cells.size) :
    Instr.fill place cells ((i, v) :: rest) = Instr.fill place (splice cells.toList off v.cells.toList).toArray rest := by
  rw [Instr.fill, hp]
  dsimp only
  rw [if_neg (by simp [hs]; omega)]
  congr 1
  have := set_all v.cells.toList 0 off cells (by simp [hs]; omega)
  rw [Nat.add_zero] at this
  rw [← this, Array.toArray_toList, ← Array.foldl_toList]
  congr 1
  simp only [Array.zipIdx, Array.toList_mapIdx]
  apply List.ext_getElem?
  intro j
  simp [List.getElem?_zipIdx]
theorem splice_all {α : Type} (C vs : List α) (h : C.length = vs.length) : splice C 0 vs = vs := by
  unfold splice; simp; omega
/-- A slice of one element, new. -/
theorem wp_one_of (t : TypeId) (x : Operand) (ho : o.op = .buildSlice t 1 #[(0, x)]) (e : TypeId) (i : TypeInfo) (z : Value) (size : Nat) (ht : P.underlying t = some (.slice e)) (hi : P.info? e = some i) (hz : i.zero = some z) (hs : i.size = size) (hp : 0 < size) (hl : size ≤ 16777216)
    (v : Value) (hx : a.eval x = v) (hv : v.cells.size = size)
    (hK : K (a.put o.dst (.slice (some ⟨w.heap.size, 0, none⟩) 1 1)) (w.alloc (.cells v.cells e))) : o.wp P a w K Q := by
  refine wp_run (v := .slice (some ⟨w.heap.size, 0, none⟩) 1 1) ?_ hK
  unfold execOp
  have hf : Instr.fill (fun i => some (i * size, size)) ((Array.range (1 * size)).map (z.cells[· % z.cells.size]!)) [(0, v)] = some v.cells := by
    rw [fill_cons (off := 0) (size := size) (by simp) hv (by simp), splice_all _ _ (by simp [hv])]
    simp [Instr.fill]
  simp only [Nat.one_mul] at hf
  simp [ho, Instr.buildSlice, run_underlying ht, sizeOf, typeInfo, zeroValue, hi, hz, hs, hx, show ¬ 16777216 < size by omega, show ¬ size = 0 by omega, hf, newRow]
/-- Behind an append the old slice reads as it did. -/
theorem append_old (t ty e : TypeId) (i : TypeInfo) (z : Value) (size bytes : Nat) (ht : P.underlying t = some (.slice e)) (hi : P.info? e = some i) (hz : i.zero = some z)
    (hsize : i.size = size) (hby : i.bytes = bytes) (hzs : z.cells.size = size) (hsz : 0 < size)
    (v : Value) (n : Nat) (xs : List Value) (hown : w.ownsRow 0 e size v n xs) (ad : Addr) (m c : Nat) (news : List Value) (hl : news.length = m * size) (hnews : ∀ j u, news[j]? = some u → w.cell? (ad.add j) = some u) (h1 : ∀ u ∈ news, u.oneCell' = true)
    (h63 : n + m ≤ maxLen) (hbytes : (n + m) * bytes ≤ 140737488355328) {v' : Value}
    (hr : (Builtin.append_ #[t, t] ty #[v, .slice (some ad) m c]).run P w = .ok v' w') : w'.ownsRow 0 e size v n xs := by
  rcases hown.2 with ⟨rfl, rfl⟩ | ⟨g, cap, cur, rfl, hb, hg, hnc, hcm, hcs, htake⟩
  · exact ⟨hown.1, Or.inl ⟨rfl, rfl⟩⟩
  · by_cases hroom : n + m ≤ cap
    · obtain ⟨w2, hr2, ho2, hg2⟩ := run_append_fits (P := P) w 0 t ty e i size ht hi hsize g n cap xs hown ad m c news hl hnews h1 hroom
      rw [hr] at hr2
      injection hr2 with e1 e2
      subst e2
      rcases ho2.2 with ⟨h', _⟩ | ⟨g', cap', cur', h', _, hg', _, _, hcs', ht'⟩
      · cases h'
      · injection h' with q1 q2 q3
        injection q1 with q1; injection q1 with q1
        subst q1; subst q3
        refine ⟨hown.1, Or.inr ⟨g, cap, cur', rfl, hb, hg', hnc, hcm, hcs', ?_⟩⟩
        have := congrArg (List.take (n * size)) ht'
        rw [List.take_take, Nat.add_mul, show min (n * size) (n * size + m * size) = n * size by omega, ← hown.1, List.take_left] at this
        rw [← hown.1]; exact this
    · have holds : ∀ j u, xs[j]? = some u → w.cell? ((⟨g, 0, none⟩ : Addr).add j) = some u := hown.cells (g := g) rfl
      subst hsize; subst hby
      have hr2 := run_append_grow (P := P) w t ty e i z ht hi hz ⟨g, 0, none⟩ n cap xs hown.1 holds ad m c news hl hnews (by omega) (by simp only [maxLen] at h63; omega) (growslice_fits (by omega) hbytes)
      rw [hr] at hr2
      injection hr2 with e1 e2
      subst e2
      refine ⟨hown.1, Or.inr ⟨g, cap, cur, rfl, hb, ?_, hnc, hcm, hcs, htake⟩⟩
      exact (Below.heap_alloc w.drew _ g (room_lt hg)).trans hg
/-- append of one element out of such a slice, to a row of one's own. -/
theorem wp_push_of (s x : Operand) (t : TypeId) (ho : o.op = .call { callee := .builtin .append, args := #[s, x], argTypes := #[t, t] })
    (e : TypeId) (i : TypeInfo) (z : Value) (size bytes : Nat) (ht : P.underlying t = some (.slice e)) (hi : P.info? e = some i) (hz : i.zero = some z)
    (hsize : i.size = size) (hby : i.bytes = bytes) (hzs : z.cells.size = size) (hsz : 0 < size)
    (v : Value) (n : Nat) (xs : List Value) (hs : a.eval s = v) (Own : Nat → Prop) (hown : RowAt w Own e size v n xs)
    (ad : Addr) (m c : Nat) (news : List Value) (hx : a.eval x = .slice (some ad) m c) (hl : news.length = m * size) (hnews : ∀ j u, news[j]? = some u → w.cell? (ad.add j) = some u) (h1 : ∀ u ∈ news, u.oneCell' = true)
    (h63 : n + m ≤ maxLen) (hbytes : (n + m) * bytes ≤ 140737488355328)
    (h : ∀ v' w', RowAt w' (fun k => Own k ∨ w.heap.size ≤ k) e size v' (n + m) (xs ++ news) → w.grownBy w' v.ownBlock → RowAt w' Own e size v n xs → K (a.put o.dst v') w') : o.wp P a w K Q := by
  obtain ⟨v', w', hr, h2, h3, h4, h5⟩ := run_append_own_at (P := P) w 0 t o.type e i z size bytes ht hi hz hsize hby hzs hsz v n xs hown.1 ad m c news hl hnews h1 h63 hbytes (Nat.zero_le _)
  unfold Oper.wp execOp
  simp only [ho, resolve, invoke, builtin, Sem.run_bind, Sem.run_pure, Result.andThen_ok, List.map_toArray, List.map_cons, List.map_nil, hs, hx, hr]
  refine h v' w' ⟨h2, fun g hg => ?_⟩ h3 ⟨append_old t o.type e i z size bytes ht hi hz hsize hby hzs hsz v n xs hown.1 ad m c news hl hnews h1 h63 hbytes hr, hown.2⟩
  rcases h5 with h5 | h5
  · exact Or.inl (hown.2 g (by rw [← h5]; exact hg))
  · rw [h5] at hg; injection hg with hg; exact Or.inr (by omega)
/-- copy of a whole row into another one of as many elements. -/
theorem wp_copy_rows (d s : Operand) (dT sT : TypeId) (ho : o.op = .call { callee := .builtin .copy, args := #[d, s], argTypes := #[dT, sT] })
    (e : TypeId) (size : Nat) (ht : P.underlying dT = some (.slice e)) (hi : (P.info? e).map (·.size) = some size)
    (v u : Value) (n : Nat) (ys xs : List Value) (OwnD OwnS : Nat → Prop) (hd : a.eval d = v) (hs : a.eval s = u) (hv : RowAt w OwnD e size v n ys) (hu : RowAt w OwnS e size u n xs) (h1 : ∀ x ∈ xs, x.oneCell' = true)
    (h : ∀ w', RowAt w' OwnD e size v n xs → w.grownBy w' v.ownBlock → K (a.put o.dst (goInt n)) w') : o.wp P a w K Q := by
  cases hq : P.info? e with
  | none => rw [hq] at hi; cases hi
  | some i =>
    have hisz : i.size = size := by simpa [hq] using hi
    obtain ⟨A, cd, rfl, _, _⟩ := hv.val
    obtain ⟨B, cs, rfl, _, _⟩ := hu.val
    have hxl := hu.len
    have hyl := hv.len
    by_cases hn : n = 0
    · subst hn
      have hx0 : xs = [] := List.eq_nil_of_length_eq_zero (by simpa using hxl)
      have hy0 : ys = [] := List.eq_nil_of_length_eq_zero (by simpa using hyl)
      subst hx0; subst hy0
      refine wp_run (w' := w) (v := goInt 0) ?_ (h w hv (World.grownBy.refl w _))
      unfold execOp
      cases A <;> cases B <;> simp [ho, resolve, invoke, builtin, hd, hs, Builtin.copy_, run_underlying ht, Builtin.lenOf, Builtin.firstCells, sizeOf, typeInfo, hq, loadCells, loadCellsFrom, storeCells]
    · obtain ⟨g, _, e1, og, hg, _, _, hc, hf⟩ := hv.pos (by omega)
      obtain ⟨g', _, e2, _, _, _, _, hc', _⟩ := hu.pos (by omega)
      injection e1 with e1 _ e1'; injection e2 with e2 _ e2'
      subst e1; subst e2; subst e1'; subst e2'
      have hl := run_loadCells_list (P := P) w ⟨g', 0, none⟩ xs (fun j x hj => by
        have hlt := (List.getElem?_eq_some_iff.1 hj).1
        rw [Addr.add_mid, Nat.zero_add, hc' j (by omega)]; exact hj)
      have hst := run_storeCells_cells (P := P) g 0 xs 0 w (fun j hj => by simp only [Nat.zero_add]; rw [hc j (by omega), List.getElem?_eq_getElem (by omega)]; rfl) (fun j hj => hf _) h1
      rw [hxl] at hl
      refine wp_run (w' := w.setCells g 0 xs) (v := goInt n) ?_ (h _ ?_ ?_)
      · unfold execOp
        simp only [Nat.add_zero] at hst
        simp [ho, resolve, invoke, builtin, hd, hs, Builtin.copy_, run_underlying ht, Builtin.lenOf, Builtin.firstCells, sizeOf, typeInfo, hq, hisz, hl, hst]
      · have := hv.storedMany 0 xs (by omega)
        rwa [splice_all _ _ (by omega)] at this
      · obtain ⟨h2, h3, h4⟩ := setCells_env g xs 0 w
        exact ⟨h2, h3, h4, by rw [size_setCells]; exact Nat.le_refl _, fun k _ hk => setCells_other g xs 0 w k (fun e => hk (by rw [e]; rfl))⟩
end
end Go.Proofs.Ytcmmopngjeonfaa
