/- Texts appended to a row of texts of one's own. -/
import Derived.Test.YtflldlhfeiamnaaEi
namespace Go.Proofs.Ytflldlhfeiamnaa
open Go.ChangeShapes Go.WideShapes Go.ChangeAt Go.RowKit
set_option linter.unusedVariables false
theorem infoT : (Try.prog.info? 25).map (fun i => (i.zero, i.size, i.bytes)) = some (some (.slice none 0 0), 1, 24) := by kernel_rfl
/-- The texts that some cells name. -/
def Named (w : World) (base : Nat) (ys : List Value) (ls : List (List Int)) : Prop := ys.length = ls.length ∧ ∀ (i : Nat) (b : List Int), ls[i]? = some b → ∃ u, ys[i]? = some u ∧ w.ownsRow base 5 1 u b.length (Bs b)
theorem own_one {w : World} {base : Nat} {t : TypeId} {sz n : Nat} {v : Value} {xs : List Value} (h : w.ownsRow base t sz v n xs) : v.oneCell' = true := by
  rcases h.2 with ⟨rfl, _⟩ | ⟨g, cap, cur, rfl, _⟩ <;> rfl
theorem Named.one {w : World} {base : Nat} {ys : List Value} {ls : List (List Int)} (h : Named w base ys ls) : ∀ u ∈ ys, u.oneCell' = true := fun u hu => by
  obtain ⟨i, hi⟩ := List.mem_iff_getElem?.1 hu
  have hlt := (List.getElem?_eq_some_iff.1 hi).1
  obtain ⟨u', h1, h2⟩ := h.2 i _ (List.getElem?_eq_getElem (by rw [← h.1]; exact hlt))
  rw [hi] at h1
  injection h1 with h1
  subst h1
  exact own_one h2
theorem run_app_txs (w : World) (ty : TypeId) (base : Nat) (v : Value) (ls : List (List Int)) (hown : OwnTx w base v ls) (ad : Addr) (m c : Nat) (ys : List Value) (ms : List (List Int)) (hm : ms.length = m) (hys : Named w base ys ms) (hc : ∀ j u, ys[j]? = some u → w.cell? (ad.add j) = some u)
    (h63 : ls.length + m ≤ 1000000) (hbase : base ≤ w.heap.size) :
    ∃ v' w', (Builtin.append_ #[24, 24] ty #[v, .slice (some ad) m c]).run Try.prog w = .ok v' w' ∧ OwnTx w' base v' (ls ++ ms) ∧ w.grownBy w' v.ownBlock ∧ Near w v.ownBlock v' := by
  obtain ⟨i0, hi, hz0, hz1, hz2⟩ := info_parts infoT
  obtain ⟨xs, h1, h2⟩ := hown
  obtain ⟨v', w', hr, h3, h4, h5, h6⟩ := run_append_own_at (P := Try.prog) w base 24 ty 25 i0 (.slice none 0 0) 1 24 Try.underlying24 hi hz0 hz1 hz2 rfl (by decide) v ls.length xs h1 ad m c ys (by rw [hys.1]; omega) hc hys.one (by simp only [maxLen]; omega) (by omega) hbase
  have kept : ∀ {u : Value} {b : List Int}, w.ownsRow base 5 1 u b.length (Bs b) → w'.ownsRow base 5 1 u b.length (Bs b) := fun h => h.kept h4 (own_far types_ne h1 h)
  refine ⟨v', w', hr, ⟨xs ++ ys, by rw [List.length_append, hm]; exact h3, fun i b hb => ?_⟩, h4, ?_⟩
  · have hxl : xs.length = ls.length := by have := h1.1; omega
    by_cases hlt : i < ls.length
    · rw [List.getElem?_append_left hlt] at hb
      obtain ⟨u, e, h7⟩ := h2 i b hb
      exact ⟨u, by rw [List.getElem?_append_left (by omega)]; exact e, kept h7⟩
    · rw [List.getElem?_append_right (by omega)] at hb
      obtain ⟨u, e, h7⟩ := hys.2 _ b hb
      exact ⟨u, by rw [List.getElem?_append_right (by omega), hxl]; exact e, kept h7⟩
  · rcases h6 with h6 | h6
    · exact Or.inl h6
    · exact Or.inr fun k hk => by rw [h6] at hk; injection hk with hk; omega
theorem wpList_app_txs (w : World) {ops : Array Oper} {rest : List Oper} {o : Oper} {a : Act} {Q : Exit → Act → World → Prop} (hgd : o.guard = none) (s x : Operand)
    (ho : o.op = .call { callee := .builtin .append, args := #[s, x], argTypes := #[24, 24] })
    (base : Nat) (v : Value) (ls : List (List Int)) (hs : a.eval s = v) (hown : OwnTx w base v ls) (ad : Addr) (m c : Nat) (hx : a.eval x = .slice (some ad) m c) (ys : List Value) (ms : List (List Int)) (hm : ms.length = m) (hys : Named w base ys ms) (hc : ∀ j u, ys[j]? = some u → w.cell? (ad.add j) = some u)
    (h63 : ls.length + m ≤ 1000000) (hbase : base ≤ w.heap.size)
    (h : ∀ v' w', OwnTx w' base v' (ls ++ ms) → w.grownBy w' v.ownBlock → Near w v.ownBlock v' → wpList Try.prog ops Q rest (a.put o.dst v') w') : wpList Try.prog ops Q (o :: rest) a w := by
  refine wpList_plain hgd fun _ hK => ?_
  obtain ⟨v', w', hr, h2, h3, h4⟩ := run_app_txs w o.type base v ls hown ad m c ys ms hm hys hc h63 hbase
  unfold Oper.wp execOp
  simp only [ho, resolve, invoke, builtin, Sem.run_bind, Sem.run_pure, Result.andThen_ok, List.map_toArray, List.map_cons, List.map_nil, hs, hx, hr]
  exact hK _ _ (h v' w' h2 h3 h4)
theorem OwnTx.low {w : World} {base : Nat} {v : Value} {ls : List (List Int)} (h : OwnTx w base v ls) : ∀ k, v.ownBlock = some k → base ≤ k := fun k hk => by
  obtain ⟨xs, h1, _⟩ := h
  exact (h1.lt k hk).1
theorem OwnTx.alloc {w : World} {base : Nat} {v : Value} {ls : List (List Int)} (h : OwnTx w base v ls) (o : Obj) : OwnTx (w.alloc o) base v ls := by
  obtain ⟨xs, h1, h2⟩ := h
  exact ⟨xs, h1.alloc o, fun i b hi => let ⟨u, e, h3⟩ := h2 i b hi; ⟨u, e, h3.alloc o⟩⟩
theorem named_one {w : World} {base : Nat} {u : Value} {b : List Int} (h : w.ownsRow base 5 1 u b.length (Bs b)) : Named w base [u] [b] := ⟨rfl, fun i b' hi => by
  cases i with
  | zero => injection hi with hi; subst hi; exact ⟨u, rfl, h⟩
  | succ i => cases hi⟩
/-- A row of no texts, with room. -/
theorem own_room (w : World) (base : Nat) (C : Array Value) (cap : Nat) (hb : base ≤ w.heap.size) (hm : cap ≤ maxLen) (hs : C.size = cap) : OwnTx (w.alloc (.cells C 25)) base (.slice (some ⟨w.heap.size, 0, none⟩) 0 cap) [] :=
  ⟨[], World.ownsRow_made w C cap hb hm (by omega), fun i b hi => by cases hi⟩
def putX (lb : Int) (e s : Nat) (l : List Wr) : List (List Int) := if MayL l then putL lb e s l else []
/-- A record's blocks, in part. -/
def putK (lb : Int) (e s : Nat) (l : List Wr) (k : Nat) : List (List Int) := sumd (headR lb e s l) :: (l.take k).map fun x => sumd (bearB e s x.bs)
theorem putK_snoc {lb : Int} {e s : Nat} {l : List Wr} {k : Nat} {x : Wr} (hx : l[k]? = some x) : putK lb e s l (k + 1) = putK lb e s l k ++ [sumd (bearB e s x.bs)] := by
  unfold putK; rw [take_snoc' hx, List.map_append]; rfl
theorem putK_length {lb : Int} {e s : Nat} {l : List Wr} {k : Nat} (h : k ≤ l.length) : (putK lb e s l k).length = 1 + k := by unfold putK; simp; omega
theorem putK_all {lb : Int} {e s : Nat} {l : List Wr} {k : Nat} (h : l.length ≤ k) : putK lb e s l k = putL lb e s l := by unfold putK putL; rw [List.take_of_length_le h]
end Go.Proofs.Ytflldlhfeiamnaa
