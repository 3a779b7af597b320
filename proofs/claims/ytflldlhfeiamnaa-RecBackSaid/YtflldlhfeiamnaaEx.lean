/- Tables of texts of one's own: taken apart, copied, one text set. -/
import Derived.Test.YtflldlhfeiamnaaEw
namespace Go.Proofs.Ytflldlhfeiamnaa
open Go.ChangeShapes Go.WideShapes Go.ChangeAt Go.RowKit
set_option linter.unusedVariables false
theorem OwnTx.parts {w : World} {base : Nat} {v : Value} {ls : List (List Int)} (h : OwnTx w base v ls) (hn : 0 < ls.length) :
    ∃ g cap xs, v = .slice (some ⟨g, 0, none⟩) ls.length cap ∧ ls.length ≤ cap ∧ cap ≤ 9223372036854775807 ∧ base ≤ g ∧ g < w.heap.size ∧ Named w base xs ls ∧ (∀ (j : Nat) (u : Value), xs[j]? = some u → w.cell? ⟨g, j, none⟩ = some u) ∧ ∀ j, w.frozen? ⟨g, j, none⟩ = false := by
  obtain ⟨xs, h1, h2⟩ := h
  rcases h1.2 with ⟨_, h0⟩ | ⟨g, cap, cur, rfl, hb, hg, hn', hm, hs, ht⟩
  · omega
  · refine ⟨g, cap, xs, rfl, hn', by simp only [maxLen] at hm; omega, hb, room_lt hg, ⟨by have := h1.1; omega, h2⟩, fun j u hj => ?_, fun j => blk_free hg j⟩
    have := h1.cells (g := g) rfl _ _ hj
    rwa [add_at] at this
theorem OwnTx.set {w : World} {base : Nat} {g n cap : Nat} {ls : List (List Int)} (h : OwnTx w base (.slice (some ⟨g, 0, none⟩) n cap) ls) (hn : ls.length = n) {k : Nat} (hk : k < n) {u : Value} {b : List Int} (hu : w.ownsRow base 5 1 u b.length (Bs b)) :
    OwnTx (w.setCell ⟨g, k, none⟩ u) base (.slice (some ⟨g, 0, none⟩) n cap) (ls.set k b) := by
  obtain ⟨xs, h1, h2⟩ := h
  have hxl : xs.length = ls.length := by have := h1.1; omega
  have far : ∀ {u' : Value} {b' : List Int}, w.ownsRow base 5 1 u' b'.length (Bs b') → (w.setCell ⟨g, k, none⟩ u).ownsRow base 5 1 u' b'.length (Bs b') := fun {u'} {b'} hr =>
    ownSet hr u (a := ⟨g, k, none⟩) (by rcases own_far types_ne h1 hr with e | e
                                        · rw [e]; simp
                                        · exact e)
  refine ⟨xs.set k u, by rw [List.length_set, hn]; rw [hn] at h1; exact own_set_at h1 hk u, fun i b' hb' => ?_⟩
  by_cases e : i = k
  · subst e
    rw [List.getElem?_set_self (by omega)] at hb'
    injection hb' with hb'
    subst hb'
    exact ⟨u, List.getElem?_set_self (by omega), far hu⟩
  · rw [List.getElem?_set_ne (fun h => e h.symm)] at hb'
    obtain ⟨u', e', hr⟩ := h2 i b' hb'
    exact ⟨u', by rw [List.getElem?_set_ne (fun h => e h.symm)]; exact e', far hr⟩
theorem putL_64 {lb : Int} {e s : Nat} {l : List Wr} (hm : MayL l) (hok : WrsOk l) {b : List Int} (hb : b ∈ putL lb e s l) : b.length = 64 := by
  obtain ⟨i, hi⟩ := List.mem_iff_getElem?.1 hb
  exact (putL_sealed hm hok hi).1
/-- A new table of no texts. -/
theorem own_empty (w : World) (base : Nat) (hb : base ≤ w.heap.size) : OwnTx (w.alloc (.cells #[] 25)) base (.slice (some ⟨w.heap.size, 0, none⟩) 0 0) [] :=
  ⟨[], own_new w base 25 0 #[] [] hb rfl (by decide) rfl, fun i b hi => by cases hi⟩
theorem Named.keep {w w' : World} {base : Nat} {ys : List Value} {ls : List (List Int)} (h : Named w base ys ls) (hb : Below w.heap.size w w') : Named w' base ys ls :=
  ⟨h.1, fun i b hi => let ⟨u, e, h3⟩ := h.2 i b hi; ⟨u, e, ownB h3 hb⟩⟩
theorem Named.at64 {w : World} {base : Nat} {ys : List Value} {ls : List (List Int)} (h : Named w base ys ls) {k : Nat} {b : List Int} (hb : ls[k]? = some b) (h64 : b.length = 64) : ∃ g d, ys[k]? = some (.slice (some ⟨g, 0, none⟩) 64 d) ∧ w.ownsRow base 5 1 (.slice (some ⟨g, 0, none⟩) 64 d) b.length (Bs b) := by
  obtain ⟨u, e, h1⟩ := h.2 k b hb
  obtain ⟨g, cap, e1, _⟩ := own_at h1 (by omega)
  rw [h64] at e1
  subst e1
  exact ⟨g, cap, e, h1⟩
/-- A table of texts of one's own and one text more, wherever it lies: what a reader sees. -/
theorem wpList_app_tx1 (w : World) {ops : Array Oper} {rest : List Oper} {o : Oper} {a : Act} {Q : Exit → Act → World → Prop} (hgd : o.guard = none) (s x : Operand)
    (ho : o.op = .call { callee := .builtin .append, args := #[s, x], argTypes := #[24, 24] })
    (base : Nat) (v : Value) (ls : List (List Int)) (hs : a.eval s = v) (hown : OwnTx w base v ls) (ad : Addr) (hx : a.eval x = .slice (some ad) 1 1) (g' m c : Nat) (C : Array Value) (fr : Nat × Nat) (b : List Int) (hu : w.cell? (ad.add 0) = some (.slice (some ⟨g', 0, none⟩) m c)) (hb : b.length = m) (hmc : m ≤ c) (hc : c ≤ 9223372036854775807) (hg : w.heap[g']? = some (.cells C 5 fr)) (hC : C.toList = Bs b)
    (h63 : ls.length + 1 ≤ 1000000) (hbase : base ≤ w.heap.size)
    (h : ∀ A' d' w', Tx w' A' (ls ++ [b]) → ls.length + 1 ≤ d' → d' ≤ 9223372036854775807 → w.grownBy w' v.ownBlock → wpList Try.prog ops Q rest (a.put o.dst (.slice A' (ls.length + 1) d')) w') : wpList Try.prog ops Q (o :: rest) a w := by
  refine wpList_plain hgd fun _ hK => ?_
  obtain ⟨i0, hi, hz0, hz1, hz2⟩ := info_parts infoT
  obtain ⟨xs, h1, h2⟩ := hown
  obtain ⟨v', w', hr, h3, h4, h5, h6⟩ := run_append_own_at (P := Try.prog) w base 24 o.type 25 i0 (.slice none 0 0) 1 24 Try.underlying24 hi hz0 hz1 hz2 rfl (by decide) v ls.length xs h1 ad 1 1 [.slice (some ⟨g', 0, none⟩) m c] rfl (fun j u hj => by
    cases j with
    | zero => injection hj with hj; subst hj; exact hu
    | succ j => cases hj) (fun u hu => by simp at hu; subst hu; rfl) (by simp only [maxLen]; omega) (by omega) hbase
  unfold Oper.wp execOp
  simp only [ho, resolve, invoke, builtin, Sem.run_bind, Sem.run_pure, Result.andThen_ok, List.map_toArray, List.map_cons, List.map_nil, hs, hx, hr]
  have hxl : xs.length = ls.length := by have := h1.1; omega
  rcases h3.2 with ⟨_, h0⟩ | ⟨g, cap, cur, rfl, hbg, hgg, hn', hm, hss, ht⟩
  · omega
  refine hK _ _ (h _ cap w' ?_ hn' (by simp only [maxLen] at hm; omega) h4)
  have hgv : v.ownBlock ≠ some g' := by
    rcases h1.2 with ⟨rfl, _⟩ | ⟨g1, _, _, rfl, _, hg1, _⟩
    · simp [Value.ownBlock]
    · intro e
      have e' : some g1 = some g' := e
      injection e' with e'
      subst e'
      rw [hg1] at hg
      injection hg with hg
      injection hg with _ e2 _
      exact types_ne e2
  have hg' : w'.heap[g']? = some (.cells C 5 fr) := by rw [h4.block g' (room_lt hg) (fun e => hgv e.symm)]; exact hg
  intro i bb hbb
  by_cases hlt : i < ls.length
  · rw [List.getElem?_append_left hlt] at hbb
    obtain ⟨u, e, h7⟩ := h2 i bb hbb
    have h8 : w'.ownsRow base 5 1 u bb.length (Bs bb) := h7.kept h4 (own_far types_ne h1 h7)
    obtain ⟨B, d, rfl, q1, q2, q3⟩ := byt_own h8 rfl
    exact ⟨_, B, d, rfl, h3.cells (g := g) rfl _ _ (by rw [List.getElem?_append_left (by omega)]; exact e), q1, q2, q3⟩
  · rw [List.getElem?_append_right (by omega)] at hbb
    have hi0 : i - ls.length = 0 := by
      have := (List.getElem?_eq_some_iff.1 hbb).1; simp at this; omega
    rw [hi0] at hbb
    injection hbb with hbb
    subst hbb
    refine ⟨_, some ⟨g', 0, none⟩, c, rfl, h3.cells (g := g) rfl _ _ (by rw [List.getElem?_append_right (by omega), hxl, hi0, hb]; rfl), by omega, hc, byt_blk hg' hC⟩
/-- A copied table, one text laid anew and one of its bytes turned. -/
theorem tx_turned {w : World} {base base' g7 cap7 n B k gk capk i : Nat} {ys : List Value} {pl : List (List Int)} {b : List Int} {y : Int} (hT : w.ownsRow base 25 1 (.slice (some ⟨g7, 0, none⟩) n cap7) n ys) (hN : Named w base ys pl)
    (hlow : ∀ u ∈ ys, ∀ g, u.ownBlock = some g → g < B) (hgk : B ≤ gk) (hk : w.ownsRow base' 5 1 (.slice (some ⟨gk, 0, none⟩) 64 capk) 64 (Bs b)) (hb : b.length = 64) (hkn : k < n) (hi : i < 64) :
    Tx ((w.setCell ⟨g7, k, none⟩ (.slice (some ⟨gk, 0, none⟩) 64 capk)).setCell ⟨gk, i, none⟩ (.int .u8 y)) (some ⟨g7, 0, none⟩) (pl.set k (b.set i y)) := by
  have hpl : pl.length = n := by have := hT.1; have := hN.1; omega
  have hne : gk ≠ g7 := by
    rcases own_far types_ne hT hk with h | h
    · simp [Value.ownBlock] at h
    · exact fun e => h (by rw [e]; rfl)
  have hT2 : (w.setCell ⟨g7, k, none⟩ (.slice (some ⟨gk, 0, none⟩) 64 capk)).ownsRow base 25 1 (.slice (some ⟨g7, 0, none⟩) n cap7) n (ys.set k (.slice (some ⟨gk, 0, none⟩) 64 capk)) := own_set_at hT hkn _
  have hT3 := ownSet hT2 (.int .u8 y) (a := ⟨gk, i, none⟩) (by show some g7 ≠ some gk; exact fun e => hne (by injection e with e; exact e.symm))
  have hk2 := ownSet hk (.slice (some ⟨gk, 0, none⟩) 64 capk) (a := ⟨g7, k, none⟩) (by show some gk ≠ some g7; exact fun e => hne (by injection e with e))
  have hk3 := own_set_at hk2 hi (.int .u8 y)
  rw [set_Bs] at hk3
  have hcap : 64 ≤ capk ∧ capk ≤ 9223372036854775807 := by
    rcases hk.2 with ⟨h, _⟩ | ⟨_, cap, _, e, _, _, h1, h2, _⟩
    · cases h
    · injection e with _ _ e; subst e; exact ⟨h1, by simp only [maxLen] at h2; omega⟩
  intro j bb hbb
  by_cases e : j = k
  · subst e
    rw [List.getElem?_set_self (by omega)] at hbb
    injection hbb with hbb
    subst hbb
    obtain ⟨A', d', e1, _, _, hy⟩ := byt_own hk3 (by rw [List.length_set]; exact hb)
    injection e1 with e1 _ _
    rw [← e1] at hy
    refine ⟨_, some ⟨gk, 0, none⟩, capk, rfl, ?_, by rw [List.length_set, hb]; exact hcap.1, hcap.2, hy⟩
    have := hT3.cells (g := g7) rfl j _ (List.getElem?_set_self (by have := hT.1; omega))
    rw [this, List.length_set, hb]
  · rw [List.getElem?_set_ne (fun h => e h.symm)] at hbb
    obtain ⟨u, e', hr⟩ := hN.2 j bb hbb
    have h1 := ownSet hr (.slice (some ⟨gk, 0, none⟩) 64 capk) (a := ⟨g7, k, none⟩) (by
      rcases own_far types_ne hT hr with h | h
      · rw [h]; simp
      · exact h)
    have h2 := ownSet h1 (.int .u8 y) (a := ⟨gk, i, none⟩) (fun h => by have := hlow u (List.mem_of_getElem? e') gk h; omega)
    obtain ⟨B', d', rfl, q1, q2, q3⟩ := byt_own h2 rfl
    exact ⟨_, B', d', rfl, hT3.cells (g := g7) rfl j _ (by rw [List.getElem?_set_ne (fun h => e h.symm)]; exact e'), q1, q2, q3⟩
end Go.Proofs.Ytflldlhfeiamnaa
