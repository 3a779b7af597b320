/- What settle makes of what is sure. -/
import Derived.Test.YtocmjbfbjiinhaaV10
namespace Go.Proofs.Ytocmjbfbjiinhaa
open Go.ChangeShapes Go.WideShapes Go.ChangeAt Go.RowKit
set_option linter.unusedVariables false
/-- The region's writes, in order, up to its next Barrier: those that are kept are done to what is sure. -/
def settleW : List Wr → Nat → (Nat → Bool) → Nat → List (List (List Int)) → List (List (List Int))
  | [], _, _, _, s => s
  | x :: l, r, kept, nth, s => if x.r = r then (if x.i = 65535 then s else settleW l r kept (nth + 1) (if kept nth then setAt s x.r x.i x.b else s)) else settleW l r kept nth s
theorem settleW_next (l : List Wr) (r : Nat) (kept : Nat → Bool) (nth : Nat) (s : List (List (List Int))) : ∀ n k, l.length - k = n → k ≤ l.length → settleW (l.drop k) r kept nth s = settleW (l.drop (nextI l r k)) r kept nth s := by
  intro n
  induction n with
  | zero =>
    intro k h1 h2
    obtain rfl : k = l.length := by omega
    rw [nextI_end]
  | succ n ih =>
    intro k h1 h2
    have hlt : k < l.length := by omega
    have hx : l[k]? = some l[k] := List.getElem?_eq_getElem hlt
    by_cases e : l[k].r = r
    · rw [nextI_here hx e]
    · rw [nextI_on hx e, ← ih (k + 1) (by omega) (by omega), List.drop_eq_getElem_cons hlt, settleW, if_neg e]
theorem settleW_at {l : List Wr} {r : Nat} {k : Nat} {x : Wr} (hx : l[k]? = some x) (hr : x.r = r) (kept : Nat → Bool) (nth : Nat) (s : List (List (List Int))) :
    settleW (l.drop k) r kept nth s = if x.i = 65535 then s else settleW (l.drop (k + 1)) r kept (nth + 1) (if kept nth then setAt s x.r x.i x.b else s) := by
  have hlt := (List.getElem?_eq_some_iff.1 hx).1
  rw [List.drop_eq_getElem_cons hlt, (List.getElem?_eq_some_iff.1 hx).2, settleW, if_pos hr]
theorem settleW_end (l : List Wr) (r : Nat) (kept : Nat → Bool) (nth : Nat) (s : List (List (List Int))) : settleW (l.drop l.length) r kept nth s = s := by rw [List.drop_length]; rfl
def DM.settle (m : DM) (r : Nat) (kept : Nat → Bool) : DM :=
  { m with sure := settleW (m.done.drop (m.uns.getD r 0)) r kept 0 m.sure, uns := m.uns.set r m.done.length }
/-- What is sure, while it is settled: lists of the same lengths. -/
structure SureOk (m : DM) (s : List (List (List Int))) : Prop where
  len : s.length = m.now.length
  rows : ∀ (r : Nat) (row : List (List Int)), s[r]? = some row → (∃ row' : List (List Int), m.now[r]? = some row' ∧ row.length = row'.length) ∧ (∀ b ∈ row, BlkOk b)
theorem SureOk.set {m : DM} {s : List (List (List Int))} (h : SureOk m s) {r i : Nat} {b : List Int} (hb : BlkOk b) : SureOk m (setAt s r i b) where
  len := by unfold setAt; rw [List.length_set]; exact h.len
  rows := fun k row hk => by
    obtain ⟨row', h2, h3⟩ := set_row hk
    obtain ⟨⟨row2, h4, h5⟩, _⟩ := h.rows k row' h2
    exact ⟨⟨row2, h4, by omega⟩, set_blks hb (fun k row hk => (h.rows k row hk).2) hk⟩
theorem DM.Ok.sureOk {m : DM} (h : m.Ok) : SureOk m m.sure := ⟨h.sureLen, h.sures⟩
theorem settleW_ok {m : DM} {r : Nat} {kept : Nat → Bool} : ∀ (l : List Wr) (nth : Nat) (s : List (List (List Int))), (∀ x ∈ l, BlkOk x.b) → SureOk m s → SureOk m (settleW l r kept nth s)
  | [], _, _, _, h => h
  | x :: l, nth, s, hl, h => by
    unfold settleW
    have ih := fun nth s => settleW_ok (m := m) (r := r) (kept := kept) l nth s (fun y hy => hl y (by simp [hy]))
    split
    · split
      · exact h
      · exact ih _ _ (by split; exact h.set (hl x (by simp)); exact h)
    · exact ih _ _ h
theorem DM.Ok.withSure {m : DM} (h : m.Ok) {s : List (List (List Int))} (hs : SureOk m s) : ({ m with sure := s } : DM).Ok :=
  { pos := h.pos, few := h.few, sureLen := hs.len, unsLen := h.unsLen, rows := h.rows, sures := hs.rows, dones := h.dones, unss := h.unss, left := h.left }
theorem DM.Ok.settle {m : DM} (h : m.Ok) (r : Nat) (kept : Nat → Bool) : (m.settle r kept).Ok :=
  have hs : SureOk m (settleW (m.done.drop (m.uns.getD r 0)) r kept 0 m.sure) := settleW_ok _ _ _ (fun x hx => (h.dones x (List.mem_of_mem_drop hx)).2) h.sureOk
  { pos := h.pos, few := h.few, sureLen := hs.len, unsLen := by show (m.uns.set _ _).length = _; rw [List.length_set]; exact h.unsLen, rows := h.rows, sures := hs.rows, dones := h.dones
    unss := fun k u hu => by
      have hu' : (m.uns.set r m.done.length)[k]? = some u := hu
      rw [List.getElem?_set] at hu'
      split at hu'
      · split at hu'
        · injection hu' with hu'; show u ≤ m.done.length; omega
        · cases hu'
      · exact h.unss k u hu'
    left := h.left }
theorem DevRaw.setSure {w : World} {O : Nat → DRole} {hp : Nat} {L : DLay} {m : DM} (h : DevRaw w O hp L m) {r i : Nat} {row : List (List Int)} (hr : m.sure[r]? = some row) (hi : i < row.length) (h64 : ∀ x ∈ row, x.length = 64) (b : List Int) (hb : b.length = 64) {g cap g' n' cap' : Nat}
    (hv : L.sSure = .slice (some ⟨g, 0, none⟩) m.sure.length cap) (hc : w.cell? ⟨g, r, none⟩ = some (.slice (some ⟨g', 0, none⟩) n' cap')) (ho : O g' = .sure r) : DevRaw (w.setCells g' (i * 64) (Bs b)) O hp L { m with sure := m.sure.set r (row.set i b) } where
  hd := by rw [setCells_other _ _ _ _ _ (fun e => by rw [← e, h.ohd] at ho; cases ho)]; exact h.hd
  ohd := h.ohd
  now := h.now.keep fun k _ hk => setCells_other _ _ _ _ _ (fun e => by rw [e, ho] at hk; rcases hk with hk | ⟨_, hk⟩ <;> cases hk)
  sure := h.sure.setBlk hr hi h64 b hb hv hc (by rw [ho]; simp) (fun r' hne => by rw [ho]; simp; exact fun e => hne e.symm)
  done := h.done.keep fun k _ hk => setCells_other _ _ _ _ _ (fun e => by rw [e, ho] at hk; cases hk)
  uns := h.uns.keep fun k _ hk => setCells_other _ _ _ _ _ (fun e => by rw [e, ho] at hk; cases hk)
/-- Where uns's r-th lies. -/
theorem DevRaw.unsAt {w : World} {O : Nat → DRole} {hp : Nat} {L : DLay} {m : DM} (h : DevRaw w O hp L m) {r u : Nat} (hu : m.uns[r]? = some u) :
    ∃ g cap, L.sUns = .slice (some ⟨g, 0, none⟩) m.uns.length cap ∧ O g = .uns ∧ g < w.heap.size ∧ w.cell? ⟨g, r, none⟩ = some (.int .i64 u) ∧ w.frozen? ⟨g, r, none⟩ = false := by
  have hlt := (List.getElem?_eq_some_iff.1 hu).1
  obtain ⟨g, cap, hv, ho, hg, hn, hm, hc, hf⟩ := h.uns.pos (by omega)
  refine ⟨g, cap, hv, ho, hg, ?_, hf r⟩
  rw [hc r (by omega)]
  unfold encN
  rw [List.getElem?_map, hu]; rfl
theorem DevRaw.setUns {w : World} {O : Nat → DRole} {hp : Nat} {L : DLay} {m : DM} (h : DevRaw w O hp L m) (r u : Nat) {g cap : Nat} (hv : L.sUns = .slice (some ⟨g, 0, none⟩) m.uns.length cap) (ho : O g = .uns) :
    DevRaw (w.setCell ⟨g, r, none⟩ (.int .i64 u)) O hp L { m with uns := m.uns.set r u } where
  hd := by rw [Below.heap_setCell _ _ _ _ (fun e => by have := h.ohd; rw [e, ho] at this; cases this)]; exact h.hd
  ohd := h.ohd
  now := h.now.keep fun k _ hk => Below.heap_setCell _ _ _ _ (fun e => by subst e; rcases hk with hk | ⟨_, hk⟩ <;> rw [ho] at hk <;> cases hk)
  sure := h.sure.keep fun k _ hk => Below.heap_setCell _ _ _ _ (fun e => by subst e; rcases hk with hk | ⟨_, hk⟩ <;> rw [ho] at hk <;> cases hk)
  done := h.done.keep fun k _ hk => Below.heap_setCell _ _ _ _ (fun e => by subst e; rw [ho] at hk; cases hk)
  uns := by
    have := h.uns
    rw [hv] at this ⊢
    show RowAt _ _ _ 1 _ (m.uns.set r u).length (encN (m.uns.set r u))
    rw [List.length_set]
    unfold encN at this ⊢
    rw [List.map_set]
    exact this.stored r _
/-- The same, whatever is sure. -/
theorem DevRaw.doneAt {w : World} {O : Nat → DRole} {hp : Nat} {L : DLay} {m : DM} (h : DevRaw w O hp L m) (h64 : ∀ x ∈ m.done, x.b.length = 64) {i : Nat} {x : Wr} (hx : m.done[i]? = some x) :
    ∃ g cap, L.sDone = .slice (some ⟨g, 0, none⟩) m.done.length cap ∧ O g = .done ∧ m.done.length ≤ cap ∧ cap ≤ 9223372036854775807 ∧ w.cell? ⟨g, i * 65, none⟩ = some (.complex .f64 (Fx.fb x.r) (Fx.fb x.i)) ∧ w.rangeAt g (i * 65 + 1) (Bs x.b) ∧ w.rangeAt g (i * 65) (Wr.cs x) := by
  have hlt := (List.getElem?_eq_some_iff.1 hx).1
  have h64' := h64 x (List.mem_of_getElem? hx)
  obtain ⟨g, cap, hv, ho, hg, hn, hm, hc, hf⟩ := h.done.pos (by omega)
  have all : ∀ j, j < 65 → w.cell? ⟨g, i * 65 + j, none⟩ = (Wr.cs x)[j]? := fun j hj => by rw [hc _ (by omega), encW_at h64 hx j hj]
  refine ⟨g, cap, hv, ho, hn, hm, all 0 (by omega), fun j v hj => ?_, fun j v hj => ?_⟩
  · have hl := (List.getElem?_eq_some_iff.1 hj).1
    rw [Bs_length] at hl
    rw [show i * 65 + 1 + j = i * 65 + (j + 1) by omega, all _ (by omega)]
    exact hj
  · have hl := (List.getElem?_eq_some_iff.1 hj).1
    unfold Wr.cs at hl
    simp [Bs_length] at hl
    rw [all _ (by omega)]; exact hj
end Go.Proofs.Ytocmjbfbjiinhaa
