/- Appends whose source may be nothing, and what each keeps; the document's frames as values: laid, loaded, stored, built, appended. -/
import Derived.Test.YtbcnjilhibkcnaaMb
namespace Go.Proofs.Ytbcnjilhibkcnaa
open Go.ChangeShapes Go.WideShapes Go.ChangeAt Go.RowKit
set_option linter.unusedVariables false
/-- What an append reads: m elements, as cells. -/
def Src (w : World) (u : Value) (m : Nat) (news : List Value) : Prop := (u = .slice none 0 0 ∧ m = 0) ∨ ∃ ad c, u = .slice (some ad) m c ∧ ∀ j x, news[j]? = some x → w.cell? (ad.add j) = some x
theorem Src.own {w : World} {base e sz n : Nat} {v : Value} {xs : List Value} (h : w.ownsRow base e sz v n xs) : Src w v n xs := by
  rcases h.2 with ⟨e1, e2⟩ | ⟨g, cap, cur, rfl, _⟩
  · exact .inl ⟨e1, e2⟩
  · exact .inr ⟨_, cap, rfl, h.cells (g := g) rfl⟩
/-- Rows of at most N elements stay. -/
def Keeps (e sz N : Nat) (w w' : World) : Prop := ∀ v n xs, n ≤ N → w.ownsRow 0 e sz v n xs → w'.ownsRow 0 e sz v n xs
theorem Keeps.refl (e sz N : Nat) (w : World) : Keeps e sz N w w := fun _ _ _ _ h => h
theorem Keeps.none {e sz N : Nat} {w w' : World} (h : w.grownBy w' Option.none) : Keeps e sz N w w' := fun v n xs _ ho => ho.kept h (by cases v.ownBlock <;> simp)
theorem Keeps.of {w w' : World} {e sz n : Nat} {v : Value} {xs : List Value} (hsz : 0 < sz) (h : w.ownsRow 0 e sz v n xs) (h' : w'.ownsRow 0 e sz v n xs) (hg : w.grownBy w' v.ownBlock) : Keeps e sz n w w' := by
  intro v2 n2 xs2 hn ho
  by_cases hb : v2.ownBlock = Option.none ∨ v2.ownBlock ≠ v.ownBlock
  · exact ho.kept hg hb
  · rcases ho.2 with ⟨rfl, _⟩ | ⟨g, cap, cur, rfl, hb0, hgg, hnc, hcm, hcs, ht⟩
    · exact absurd (.inl rfl) hb
    · rcases h.2 with ⟨rfl, _⟩ | ⟨g2, cap2, cur2, rfl, _, hgg2, hnc2, hcm2, hcs2, ht2⟩
      · exact absurd (.inr (by simp [Value.ownBlock])) hb
      · have eg : g = g2 := by
          rcases Nat.decEq g g2 with e | e
          · exact absurd (.inr (by simp [Value.ownBlock]; exact e)) hb
          · exact e
        subst eg
        rw [hgg] at hgg2
        injection hgg2 with hgg2; injection hgg2 with hgg2
        subst hgg2
        rcases h'.2 with ⟨e1, _⟩ | ⟨g3, cap3, cur3, e1, _, hgg3, hnc3, hcm3, hcs3, ht3⟩
        · cases e1
        · injection e1 with e1 e2 e3
          injection e1 with e1; injection e1 with e1
          subst e1; subst e3
          have ec : cap = cap2 := Nat.eq_of_mul_eq_mul_right hsz (by rw [← hcs, ← hcs2])
          subst ec
          refine ⟨ho.1, .inr ⟨g, cap, cur3, rfl, hb0, hgg3, hnc, hcm, hcs3, ?_⟩⟩
          have h1 : n2 * sz ≤ n * sz := Nat.mul_le_mul_right _ hn
          have e4 : (cur3.toList.take (n * sz)).take (n2 * sz) = (cur.toList.take (n * sz)).take (n2 * sz) := by rw [ht3, ht2]
          rw [List.take_take, List.take_take, Nat.min_eq_left h1] at e4
          rw [e4]; exact ht
section
variable {P : Program} {o : Oper} {a : Act} {w : World} {K : Act → World → Prop} {Q : Exit → Act → World → Prop}
theorem wp_app_src (s x : Operand) (t : TypeId) (ho : o.op = .call { callee := .builtin .append, args := #[s, x], argTypes := #[t, t] })
    (e : TypeId) (i : TypeInfo) (z : Value) (size bytes : Nat) (ht : P.underlying t = some (.slice e)) (hi : P.info? e = some i) (hz : i.zero = some z)
    (hsize : i.size = size) (hby : i.bytes = bytes) (hzs : z.cells.size = size) (hsz : 0 < size)
    (v : Value) (n : Nat) (xs : List Value) (hs : a.eval s = v) (hown : w.ownsRow 0 e size v n xs)
    (u : Value) (m : Nat) (news : List Value) (hx : a.eval x = u) (hsrc : Src w u m news) (hl : news.length = m * size) (h1 : ∀ y ∈ news, y.oneCell' = true)
    (h63 : n + m ≤ maxLen) (hbytes : (n + m) * bytes ≤ 140737488355328)
    (h : ∀ v' w', w'.ownsRow 0 e size v' (n + m) (xs ++ news) → w.grownBy w' v.ownBlock → (v'.ownBlock = v.ownBlock ∨ v'.ownBlock = some w.heap.size) → Keeps e size n w w' → K (a.put o.dst v') w') : o.wp P a w K Q := by
  rcases hsrc with ⟨rfl, rfl⟩ | ⟨ad, c, rfl, hnews⟩
  · have hn0 : news = [] := List.eq_nil_of_length_eq_zero (by simpa using hl)
    subst hn0
    have hr := run_append_owned_none (P := P) (w := w) 0 t o.type e i size ht hi v n xs hown
    unfold Oper.wp execOp
    simp only [ho, resolve, invoke, builtin, Sem.run_bind, Sem.run_pure, Result.andThen_ok, List.map_toArray, List.map_cons, List.map_nil, hs, hx, hr]
    exact h v w (by simpa using hown) (World.grownBy.refl w _) (.inl rfl) (Keeps.refl _ _ _ _)
  · obtain ⟨v', w', hr, h2, h3, h4, h5⟩ := run_append_own_at (P := P) w 0 t o.type e i z size bytes ht hi hz hsize hby hzs hsz v n xs hown ad m c news hl hnews h1 h63 hbytes (Nat.zero_le _)
    unfold Oper.wp execOp
    simp only [ho, resolve, invoke, builtin, Sem.run_bind, Sem.run_pure, Result.andThen_ok, List.map_toArray, List.map_cons, List.map_nil, hs, hx, hr]
    exact h v' w' h2 h3 h5 (Keeps.of hsz hown (append_old t o.type e i z size bytes ht hi hz hsize hby hzs hsz v n xs hown ad m c news hl hnews h1 h63 hbytes hr) h3)
end
/-! Frames. -/
section
variable {ops : Array Oper} {rest : List Oper} {o : Oper} {a : Act} {w : World} {K : Act → World → Prop} {Q : Exit → Act → World → Prop}
theorem wpList_allocE (hgd : o.guard = none) (ho : o.op = .alloc 64)
    (h : wpList Try.prog ops Q rest (a.put o.dst (.pointer (some ⟨w.heap.size, 0, none⟩))) (w.alloc (.cells (enA zE) 64))) : wpList Try.prog ops Q (o :: rest) a w := by
  obtain ⟨i0, hi, hz0, hz1, hz2⟩ := info_parts infoE
  rw [← zE_cells] at h
  exact wpList_plain hgd fun _ hK => wp_alloc_of 64 ho i0 _ hi hz0 (hK _ _ h)
theorem wpList_loadE (hgd : o.guard = none) (x : Operand) (ho : o.op = .load 64 x) (b off : Nat) (hx : a.eval x = .pointer (some ⟨b, off, none⟩)) (y : Ent) (h56 : y.1.bs.length = 56) (hr : w.rangeAt b off (enE y))
    (h : wpList Try.prog ops Q rest (a.put o.dst (.agg (enA y))) w) : wpList Try.prog ops Q (o :: rest) a w :=
  wpList_load_mid hgd 64 x ho b off hx (enE y) _ hr Try.underlying64 rfl (by rw [enE_length h56]; exact sizeE) h
theorem wpList_storeE (hgd : o.guard = none) (x y : Operand) (ho : o.op = .store 64 x y) (g : Nat) (hx : a.eval x = .pointer (some ⟨g, 0, none⟩)) (u v : Ent) (hy : a.eval y = .agg (enA u)) (h56 : u.1.bs.length = 56) (h56' : v.1.bs.length = 56) (hg : w.heap[g]? = some (.cells (enA v) 64 (0, 0)))
    (h : wpList Try.prog ops Q rest (a.put o.dst undef) (w.setRow g (enA u))) : wpList Try.prog ops Q (o :: rest) a w :=
  wpList_store_row hgd 64 x y ho g _ hx hy _ _ hg (by rw [enA_size h56]; exact sizeE) (by rw [enA_size h56, enA_size h56']) (enA_one _) h
theorem wp_oneE (x : Operand) (ho : o.op = .buildSlice 42 1 #[(0, x)]) (y : Ent) (h56 : y.1.bs.length = 56) (hx : a.eval x = .agg (enA y))
    (h : K (a.put o.dst (.slice (some ⟨w.heap.size, 0, none⟩) 1 1)) (w.alloc (.cells (enA y) 64))) : o.wp Try.prog a w K Q := by
  obtain ⟨i0, hi, hz0, hz1, hz2⟩ := info_parts infoE
  exact wp_one_of 42 x ho 64 i0 _ 59 Try.underlying42 hi hz0 hz1 (by decide) (by decide) _ hx (by show (enA y).size = 59; exact enA_size h56) h
theorem wp_app_E (s x : Operand) (ho : o.op = .call { callee := .builtin .append, args := #[s, x], argTypes := #[42, 42] })
    (v : Value) (n : Nat) (xs : List Value) (hs : a.eval s = v) (hown : w.ownsRow 0 64 59 v n xs) (u : Value) (m : Nat) (news : List Value) (hx : a.eval x = u) (hsrc : Src w u m news) (hl : news.length = m * 59) (h1 : ∀ y ∈ news, y.oneCell' = true) (h63 : n + m ≤ 1000)
    (h : ∀ v' w', w'.ownsRow 0 64 59 v' (n + m) (xs ++ news) → w.grownBy w' v.ownBlock → (v'.ownBlock = v.ownBlock ∨ v'.ownBlock = some w.heap.size) → Keeps 64 59 n w w' → K (a.put o.dst v') w') : o.wp Try.prog a w K Q := by
  obtain ⟨i0, hi, hz0, hz1, hz2⟩ := info_parts infoE
  exact wp_app_src s x 42 ho 64 i0 _ 59 80 Try.underlying42 hi hz0 hz1 hz2 (by rw [zE_cells]; show (enA zE).size = 59; exact enA_size zW_len) (by decide) v n xs hs hown u m news hx hsrc hl h1 (by simp only [maxLen]; omega) (by omega) h
theorem wpList_app_E (hgd : o.guard = none) (s x : Operand) (ho : o.op = .call { callee := .builtin .append, args := #[s, x], argTypes := #[42, 42] })
    (v : Value) (n : Nat) (xs : List Value) (hs : a.eval s = v) (hown : w.ownsRow 0 64 59 v n xs) (u : Value) (m : Nat) (news : List Value) (hx : a.eval x = u) (hsrc : Src w u m news) (hl : news.length = m * 59) (h1 : ∀ y ∈ news, y.oneCell' = true) (h63 : n + m ≤ 1000)
    (h : ∀ v' w', w'.ownsRow 0 64 59 v' (n + m) (xs ++ news) → w.grownBy w' v.ownBlock → (v'.ownBlock = v.ownBlock ∨ v'.ownBlock = some w.heap.size) → Keeps 64 59 n w w' → wpList Try.prog ops Q rest (a.put o.dst v') w') : wpList Try.prog ops Q (o :: rest) a w :=
  wpList_plain hgd fun _ hK => wp_app_E s x ho v n xs hs hown u m news hx hsrc hl h1 h63 fun v' w' h1 h2 h3 h4 => hK _ _ (h v' w' h1 h2 h3 h4)
theorem wpList_oneE (hgd : o.guard = none) (x : Operand) (ho : o.op = .buildSlice 42 1 #[(0, x)]) (y : Ent) (h56 : y.1.bs.length = 56) (hx : a.eval x = .agg (enA y))
    (h : wpList Try.prog ops Q rest (a.put o.dst (.slice (some ⟨w.heap.size, 0, none⟩) 1 1)) (w.alloc (.cells (enA y) 64))) : wpList Try.prog ops Q (o :: rest) a w :=
  wpList_plain hgd fun _ hK => wp_oneE x ho y h56 hx (hK _ _ h)
end
theorem new_en (w : World) (y : Ent) : ((w.alloc (.cells (enA zE) 64)).setRow w.heap.size (enA y)).heap[w.heap.size]? = some (.cells (enA y) 64 (0, 0)) :=
  setRow_heap _ _ _ _ _ _ (heap_alloc_new w _)
theorem new_en_below (w : World) (y : Ent) : Below w.heap.size w ((w.alloc (.cells (enA zE) 64)).setRow w.heap.size (enA y)) :=
  below_setRow ((Below.refl _ _).alloc (Nat.le_refl _) _) (Nat.le_refl _) _
theorem range_en {w : World} {g : Nat} {y : Ent} {t : TypeId} {fr : Nat × Nat} (h : w.heap[g]? = some (.cells (enA y) t fr)) : w.rangeAt g 0 (enE y) := fun j v hj => by
  rw [Nat.zero_add, blk_cell h]; unfold enA; simpa using hj
theorem own_oneE {w : World} {y : Ent} (h56 : y.1.bs.length = 56) : (w.alloc (.cells (enA y) 64)).ownsRow 0 64 59 (.slice (some ⟨w.heap.size, 0, none⟩) 1 1) 1 (rowL enE [y]) := by
  have := World.ownsRow_lit (base := 0) (e := 64) (size := 59) w (enA y) 1 (Nat.zero_le _) (by simp only [maxLen]; omega) (by rw [enA_size h56])
  rwa [show (enA y).toList = rowL enE [y] by unfold enA rowL; simp [rowL]] at this
/-- A cache whose row is another one now. -/
theorem RV.next {w W : World} {h F : Nat} {L2 : List Ent} {R : Nat → Prop} {vo v' : Value} (hb : W.heap[h]? = some (.cells #[.int .i64 F, vo] 44 (0, 0))) (ho : W.ownsRow 0 64 59 v' L2.length (rowL enE L2)) (hv : ∀ k, v'.ownBlock = some k → w.heap.size ≤ k) (hR : R h) (hlt : h < w.heap.size) (hok : EntsOk L2) (few : F ≤ 50) (h51 : L2.length ≤ 51) :
    RV (W.setCell ⟨h, 1, none⟩ v') h F L2 (New R w (W.setCell ⟨h, 1, none⟩ v')) v' := by
  have hs : (W.setCell ⟨h, 1, none⟩ v').heap.size = W.heap.size := by show (W.heap.modify _ _).size = _; simp
  refine ⟨by rw [heap_setCell_same' hb]; rfl, ownSet ho v' (fun e => by have := hv h e; omega), .inl hR, fun k hk => ⟨.inr ⟨hv k hk, by rw [hs]; exact (ho.lt k hk).2⟩, fun e => by have := hv k hk; omega⟩, hok, few, h51⟩
end Go.Proofs.Ytbcnjilhibkcnaa
