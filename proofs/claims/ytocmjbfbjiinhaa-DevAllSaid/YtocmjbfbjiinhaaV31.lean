/- What a Crash leaves of each region, row by row. -/
import Derived.Test.YtocmjbfbjiinhaaV28
namespace Go.Proofs.Ytocmjbfbjiinhaa
open Go.ChangeShapes Go.WideShapes Go.ChangeAt Go.RowKit
set_option linter.unusedVariables false
/-- One region's row behind those of its writes that are kept. -/
def rowW : List Wr → Nat → (Nat → Bool) → Nat → List (List Int) → List (List Int)
  | [], _, _, _, s => s
  | x :: l, r, kept, nth, s => if x.r = r then (if x.i = 65535 then s else rowW l r kept (nth + 1) (if kept nth then s.set x.i x.b else s)) else rowW l r kept nth s
theorem setAt_row (s : List (List (List Int))) (r i : Nat) (b : List Int) : (setAt s r i b).getD r [] = (s.getD r []).set i b := by
  unfold setAt
  by_cases h : r < s.length
  · simp [List.getD, h]
  · simp [List.getD, List.getElem?_eq_none (by omega : s.length ≤ r), List.set_eq_of_length_le (by omega : s.length ≤ r)]
theorem setAt_other (s : List (List (List Int))) (r i : Nat) (b : List Int) {k : Nat} (h : k ≠ r) : (setAt s r i b).getD k [] = s.getD k [] := by
  unfold setAt
  simp [List.getD, Ne.symm h]
theorem settleW_row : ∀ (l : List Wr) (r : Nat) (kept : Nat → Bool) (nth : Nat) (s : List (List (List Int))), (settleW l r kept nth s).getD r [] = rowW l r kept nth (s.getD r [])
  | [], _, _, _, _ => rfl
  | x :: l, r, kept, nth, s => by
    unfold settleW rowW
    by_cases e : x.r = r
    · rw [if_pos e, if_pos e]
      split
      · rfl
      · rw [settleW_row]
        split
        · rw [e, setAt_row]
        · rfl
    · rw [if_neg e, if_neg e, settleW_row]
theorem settleW_other : ∀ (l : List Wr) (r : Nat) (kept : Nat → Bool) (nth : Nat) (s : List (List (List Int))) (k : Nat), k ≠ r → (settleW l r kept nth s).getD k [] = s.getD k []
  | [], _, _, _, _, _, _ => rfl
  | x :: l, r, kept, nth, s, k, hk => by
    unfold settleW
    by_cases e : x.r = r
    · rw [if_pos e]
      split
      · rfl
      · rw [settleW_other _ _ _ _ _ _ hk]
        split
        · rw [e, setAt_other _ _ _ _ hk]
        · rfl
    · rw [if_neg e, settleW_other _ _ _ _ _ _ hk]
/-- How many writes of its own a region has not yet settled. -/
def pend (l : List Wr) (r : Nat) : Nat := (l.filter (fun x => x.r == r)).length
theorem rowW_none : ∀ (l : List Wr) (r : Nat) (kept : Nat → Bool) (nth : Nat) (s : List (List Int)), (∀ k, kept k = false) → rowW l r kept nth s = s
  | [], _, _, _, _, _ => rfl
  | x :: l, r, kept, nth, s, h => by
    unfold rowW
    rw [h nth]
    split
    · split
      · rfl
      · exact rowW_none l r kept _ _ h
    · exact rowW_none l r kept _ _ h
theorem rowW_congr : ∀ (l : List Wr) (r : Nat) (f g : Nat → Bool) (nth : Nat) (s : List (List Int)), (∀ k, nth ≤ k → k < nth + pend l r → f k = g k) → rowW l r f nth s = rowW l r g nth s
  | [], _, _, _, _, _, _ => rfl
  | x :: l, r, f, g, nth, s, h => by
    unfold rowW
    by_cases e : x.r = r
    · have hp : pend (x :: l) r = pend l r + 1 := by unfold pend; simp [e]
      rw [if_pos e, if_pos e, h nth (Nat.le_refl _) (by omega)]
      split
      · rfl
      · exact rowW_congr l r f g _ _ fun k h1 h2 => h k (by omega) (by omega)
    · have hp : pend (x :: l) r = pend l r := by unfold pend; simp [e]
      rw [if_neg e, if_neg e]
      exact rowW_congr l r f g _ _ fun k h1 h2 => h k h1 (by omega)
theorem rowW_skip (l : List Wr) (x : Wr) (r : Nat) (kept : Nat → Bool) (h : x.r ≠ r ∨ x.i = 65535) : ∀ (nth : Nat) (s : List (List Int)), rowW (l ++ [x]) r kept nth s = rowW l r kept nth s := by
  induction l with
  | nil =>
    intro nth s
    show rowW [x] r kept nth s = s
    unfold rowW
    split
    · rename_i e
      rcases h with h | h
      · exact absurd e h
      · rw [if_pos h]
    · rfl
  | cons y l ih =>
    intro nth s
    show rowW (y :: (l ++ [x])) r kept nth s = _
    unfold rowW
    split
    · split
      · rfl
      · exact ih _ _
    · exact ih _ _
theorem rowW_snoc (l : List Wr) (x : Wr) (r : Nat) (kept : Nat → Bool) (hc : ∀ y ∈ l, y.r = r → y.i ≠ 65535) (h : x.r = r) (hi : x.i ≠ 65535) : ∀ (nth : Nat) (s : List (List Int)), rowW (l ++ [x]) r kept nth s = if kept (nth + pend l r) then (rowW l r kept nth s).set x.i x.b else rowW l r kept nth s := by
  induction l with
  | nil =>
    intro nth s
    show rowW [x] r kept nth s = _
    unfold rowW
    rw [if_pos h, if_neg hi]
    rfl
  | cons y l ih =>
    intro nth s
    have hc' : ∀ y ∈ l, y.r = r → y.i ≠ 65535 := fun z hz => hc z (by simp [hz])
    show rowW (y :: (l ++ [x])) r kept nth s = _
    by_cases e : y.r = r
    · have hp : pend (y :: l) r = pend l r + 1 := by unfold pend; simp [e]
      have hy := hc y (by simp) e
      have u1 : rowW (y :: (l ++ [x])) r kept nth s = rowW (l ++ [x]) r kept (nth + 1) (if kept nth then s.set y.i y.b else s) := by rw [rowW, if_pos e, if_neg hy]
      have u2 : rowW (y :: l) r kept nth s = rowW l r kept (nth + 1) (if kept nth then s.set y.i y.b else s) := by rw [rowW, if_pos e, if_neg hy]
      rw [u1, u2, ih hc', hp, show nth + 1 + pend l r = nth + (pend l r + 1) by omega]
    · have hp : pend (y :: l) r = pend l r := by unfold pend; simp [e]
      have u1 : rowW (y :: (l ++ [x])) r kept nth s = rowW (l ++ [x]) r kept nth s := by rw [rowW, if_neg e]
      have u2 : rowW (y :: l) r kept nth s = rowW l r kept nth s := by rw [rowW, if_neg e]
      rw [u1, u2, ih hc', hp]
/-- The region's row of what is sure, and what was written since. -/
def sureRow (m : DM) (r : Nat) : List (List Int) := m.sure.getD r []
def nowRow (m : DM) (r : Nat) : List (List Int) := m.now.getD r []
def since (m : DM) (r : Nat) : List Wr := m.done.drop (m.uns.getD r 0)
theorem settle_same (m : DM) (r : Nat) (kept : Nat → Bool) : sureRow (m.settle r kept) r = rowW (since m r) r kept 0 (sureRow m r) := settleW_row _ _ _ _ _
theorem settle_other (m : DM) (r : Nat) (kept : Nat → Bool) {k : Nat} (hk : k ≠ r) : sureRow (m.settle r kept) k = sureRow m k ∧ since (m.settle r kept) k = since m k := by
  refine ⟨settleW_other _ _ _ _ _ _ hk, ?_⟩
  unfold since DM.settle
  simp [List.getD, Ne.symm hk]
theorem settle_since {m : DM} (h : m.Ok) {r : Nat} (hr : r < m.now.length) (kept : Nat → Bool) : since (m.settle r kept) r = [] := by
  unfold since DM.settle
  have : r < m.uns.length := by rw [h.unsLen]; exact hr
  simp [List.getD, this]
theorem crash1_same {m : DM} (h : m.Ok) {r : Nat} (hr : r < m.now.length) (bs : List Int) : nowRow (m.crash1 r bs) r = rowW (since m r) r (bitAt bs) 0 (sureRow m r) := by
  rw [← settle_same]
  unfold nowRow DM.crash1
  simp [List.getD, hr]
  rfl
theorem crash1_other (m : DM) (r : Nat) (bs : List Int) {k : Nat} (hk : k ≠ r) : nowRow (m.crash1 r bs) k = nowRow m k ∧ sureRow (m.crash1 r bs) k = sureRow m k ∧ since (m.crash1 r bs) k = since m k := by
  have := settle_other m r (bitAt bs) hk
  refine ⟨?_, this.1, this.2⟩
  unfold nowRow DM.crash1
  simp [List.getD, Ne.symm hk]
theorem crashN_rows {m : DM} (h : m.Ok) (ks : List (List Int)) : ∀ n, n ≤ m.now.length → (∀ r, r < n → nowRow (crashN m ks n) r = rowW (since m r) r (bitAt (ks.getD r [])) 0 (sureRow m r)) ∧ ∀ r, n ≤ r → nowRow (crashN m ks n) r = nowRow m r ∧ sureRow (crashN m ks n) r = sureRow m r ∧ since (crashN m ks n) r = since m r
  | 0, _ => ⟨fun r hr => by omega, fun r _ => ⟨rfl, rfl, rfl⟩⟩
  | n + 1, hn => by
    obtain ⟨h1, h2⟩ := crashN_rows h ks n (by omega)
    have hok := crashN_ok h ks n (by omega)
    have hl : n < (crashN m ks n).now.length := by rw [(crashN_len m ks n).1]; omega
    show (∀ r, r < n + 1 → nowRow ((crashN m ks n).crash1 n (ks.getD n [])) r = _) ∧ ∀ r, n + 1 ≤ r → nowRow ((crashN m ks n).crash1 n (ks.getD n [])) r = _ ∧ _ ∧ _
    refine ⟨fun r hr => ?_, fun r hr => ?_⟩
    · by_cases e : r = n
      · subst e
        rw [crash1_same hok hl, (h2 r (Nat.le_refl _)).2.1, (h2 r (Nat.le_refl _)).2.2]
      · rw [(crash1_other _ _ _ e).1]
        exact h1 r (by omega)
    · have e : r ≠ n := by omega
      obtain ⟨g1, g2, g3⟩ := crash1_other (crashN m ks n) n (ks.getD n []) e
      obtain ⟨f1, f2, f3⟩ := h2 r (by omega)
      exact ⟨g1.trans f1, g2.trans f2, g3.trans f3⟩
/-- WHAT A CRASH LEAVES. -/
theorem crash_row {m : DM} (h : m.Ok) (ks : List (List Int)) {r : Nat} (hr : r < m.now.length) : nowRow (m.crash ks) r = rowW (since m r) r (bitAt (ks.getD r [])) 0 (sureRow m r) := (crashN_rows h ks _ (Nat.le_refl _)).1 r hr
/-- What is so of a device between its deeds: what is, is what is sure and all that was written since. -/
structure Told (m : DM) : Prop where
  clean : ∀ r, r < m.now.length → ∀ x ∈ since m r, x.r = r → x.i ≠ 65535
  full : ∀ r, r < m.now.length → rowW (since m r) r (fun _ => true) 0 (sureRow m r) = nowRow m r
theorem Told.make (zs : List Int) : Told (DM.make zs) where
  clean := fun r _ x hx => by unfold since DM.make at hx; simp at hx
  full := fun r _ => by
    have : since (DM.make zs) r = [] := by unfold since DM.make; simp
    rw [this]; rfl
theorem since_write {m : DM} (h : m.Ok) {k : Nat} (hk : k < m.now.length) (r i : Nat) (b : List Int) : since (m.write r i b) k = since m k ++ [⟨r, i, b⟩] := by
  unfold since DM.write
  show List.drop (m.uns.getD k 0) (m.done ++ _) = _
  obtain ⟨u, hu⟩ : ∃ u, m.uns[k]? = some u := ⟨_, List.getElem?_eq_getElem (by rw [h.unsLen]; exact hk)⟩
  have hle := h.unss k u hu
  have hg : m.uns.getD k 0 = u := by rw [List.getD, hu]; rfl
  rw [hg, List.drop_append_of_le_length hle]
theorem Told.write {m : DM} (h : Told m) (hm : m.Ok) (r i : Nat) (b : List Int) (hi : i ≠ 65535) : Told (m.write r i b) where
  clean := fun k hk x hx => by
    have hk' : k < m.now.length := by have : (m.write r i b).now.length = m.now.length := by show (setAt _ _ _ _).length = _; unfold setAt; simp
                                      omega
    rw [since_write hm hk'] at hx
    rcases List.mem_append.1 hx with h1 | h1
    · exact h.clean k hk' x h1
    · rw [List.mem_singleton.1 h1]; intro _; exact hi
  full := fun k hk => by
    have hk' : k < m.now.length := by have : (m.write r i b).now.length = m.now.length := by show (setAt _ _ _ _).length = _; unfold setAt; simp
                                      omega
    have hs : sureRow (m.write r i b) k = sureRow m k := rfl
    rw [since_write hm hk', hs]
    by_cases e : r = k
    · subst e
      rw [rowW_snoc _ _ _ _ (h.clean r hk') rfl hi, h.full r hk', if_pos rfl]
      exact (setAt_row _ _ _ _).symm
    · rw [rowW_skip _ _ _ _ (Or.inl e), h.full k hk']
      exact (setAt_other _ _ _ _ (Ne.symm e)).symm
theorem barrier_rows {m : DM} (h : Told m) (hm : m.Ok) {r : Nat} (hr : r < m.now.length) : sureRow (m.barrier r) r = nowRow m r ∧ (∀ k, k ≠ r → sureRow (m.barrier r) k = sureRow m k) ∧ (∀ k, nowRow (m.barrier r) k = nowRow m k) ∧ since (m.barrier r) r = [] ∧ ∀ k, k < m.now.length → k ≠ r → since (m.barrier r) k = since m k ++ [⟨r, 65535, List.replicate 64 0⟩] := by
  have hw : ∀ k, k < m.now.length → since ({ m with done := m.done ++ [⟨r, 65535, List.replicate 64 0⟩] } : DM) k = since m k ++ [⟨r, 65535, List.replicate 64 0⟩] := fun k hk => since_write hm hk r 65535 _
  have ho : ({ m with done := m.done ++ [⟨r, 65535, List.replicate 64 0⟩] } : DM).Ok := hm.tell hr
  unfold DM.barrier
  refine ⟨?_, fun k hk => (settle_other _ _ _ hk).1, fun k => rfl, settle_since ho hr _, fun k hk hk' => ?_⟩
  · rw [settle_same, hw r hr, rowW_skip _ _ _ _ (Or.inr rfl)]
    exact h.full r hr
  · rw [(settle_other _ _ _ hk').2]
    exact hw k hk
theorem Told.barrier {m : DM} (h : Told m) (hm : m.Ok) {r : Nat} (hr : r < m.now.length) : Told (m.barrier r) := by
  obtain ⟨h1, h2, h3, h4, h5⟩ := barrier_rows h hm hr
  refine ⟨fun k hk x hx => ?_, fun k hk => ?_⟩
  · have hk' : k < m.now.length := hk
    by_cases e : k = r
    · subst e; rw [h4] at hx; cases hx
    · rw [h5 k hk' e] at hx
      rcases List.mem_append.1 hx with g | g
      · exact h.clean k hk' x g
      · rw [List.mem_singleton.1 g]; intro e2; exact absurd e2.symm e
  · have hk' : k < m.now.length := hk
    by_cases e : k = r
    · subst e; rw [h4, h1, h3]; rfl
    · rw [h5 k hk' e, h2 k e, h3, rowW_skip _ _ _ _ (Or.inl (Ne.symm e))]
      exact h.full k hk'
/-- Where nothing survives, each region is as at its last Barrier. -/
theorem crash_none {m : DM} (h : m.Ok) {r : Nat} (hr : r < m.now.length) : nowRow (m.crash []) r = sureRow m r := by
  rw [crash_row h [] hr]
  exact rowW_none _ _ _ _ _ fun k => by unfold bitAt; simp
/-- Where all survives, all is as it was. -/
theorem crash_all {m : DM} (h : m.Ok) (ht : Told m) (ks : List (List Int)) {r : Nat} (hr : r < m.now.length) (hk : ∀ k, k < pend (since m r) r → bitAt (ks.getD r []) k = true) : nowRow (m.crash ks) r = nowRow m r := by
  rw [crash_row h ks hr, ← ht.full r hr]
  exact rowW_congr _ _ _ _ _ _ fun k _ h2 => hk k (by omega)
theorem pend_le (m : DM) (r : Nat) : pend (since m r) r ≤ m.done.length := by
  unfold pend since
  have h1 := List.length_filter_le (fun x : Wr => x.r == r) (m.done.drop (m.uns.getD r 0))
  have h2 := List.length_drop (i := m.uns.getD r 0) (l := m.done)
  omega
end Go.Proofs.Ytocmjbfbjiinhaa
