/- What may be there behind a crash: sets, block by block, and the maps that hold them (for DevBarrier). -/
import Derived.Test.YtocmjbfbjiinhaaV39
namespace Go.Proofs.Ytocmjbfbjiinhaa
open Go.ChangeShapes Go.WideShapes Go.ChangeAt Go.RowKit
set_option linter.unusedVariables false
theorem rowW_mem : ∀ (l : List Wr) (r : Nat) (kept : Nat → Bool) (nth : Nat) (s : List (List Int)) (i : Nat) (b : List Int), (rowW l r kept nth s)[i]? = some b → s[i]? = some b ∨ ∃ x ∈ l, x.r = r ∧ x.i = i ∧ x.b = b
  | [], _, _, _, _, _, _, h => Or.inl h
  | x :: l, r, kept, nth, s, i, b, h => by
    unfold rowW at h
    split at h
    · rename_i e
      split at h
      · exact Or.inl h
      · rcases rowW_mem l r kept _ _ i b h with h1 | ⟨y, hy, h2⟩
        · split at h1
          · rw [List.getElem?_set] at h1
            split at h1
            · rename_i ei
              split at h1
              · injection h1 with h1; exact Or.inr ⟨x, by simp, e, ei, h1⟩
              · cases h1
            · exact Or.inl h1
          · exact Or.inl h1
        · exact Or.inr ⟨y, by simp [hy], h2⟩
    · rcases rowW_mem l r kept _ _ i b h with h1 | ⟨y, hy, h2⟩
      · exact Or.inl h1
      · exact Or.inr ⟨y, by simp [hy], h2⟩
/-- All that may be there is in the sets. -/
structure MayOk (m : DM) (S : Nat → List (List Int)) : Prop where
  sure : ∀ r i b, r < 2 → i < 4 → (sureRow m r)[i]? = some b → b ∈ S (r * 4 + i)
  since : ∀ r i x, r < 2 → i < 4 → x ∈ since m r → x.r = r → x.i = i → x.b ∈ S (r * 4 + i)
theorem MayOk.crash {m : DM} {n : Nat} {S : Nat → List (List Int)} (h : MayOk m S) (hK : K2 m n) (ks : List (List Int)) {r i : Nat} (hr : r < 2) (hi : i < 4) {b : List Int} (hb : (nowRow (m.crash ks) r)[i]? = some b) : b ∈ S (r * 4 + i) := by
  rw [crash_row hK.ok ks (by rw [hK.len]; exact hr)] at hb
  rcases rowW_mem _ _ _ _ _ _ _ hb with h1 | ⟨x, hx, h2, h3, h4⟩
  · exact h.sure r i b hr hi h1
  · rw [← h4]; exact h.since r i x hr hi hx h2 h3
def addS (S : Nat → List (List Int)) (j : Nat) (b : List Int) : Nat → List (List Int) := fun k => if k = j then b :: S k else S k
theorem MayOk.write {m : DM} {n : Nat} {S : Nat → List (List Int)} (h : MayOk m S) (hK : K2 m n) {r i : Nat} (hr : r < 2) (hi : i < 4) (b : List Int) : MayOk (m.write r i b) (addS S (r * 4 + i) b) := by
  refine ⟨fun r' i' b' hr' hi' hb => ?_, fun r' i' x hr' hi' hx h1 h2 => ?_⟩
  · have := h.sure r' i' b' hr' hi' hb
    unfold addS; split
    · exact List.mem_cons_of_mem _ this
    · exact this
  · rw [since_write hK.ok (by rw [hK.len]; exact hr')] at hx
    unfold addS
    rcases List.mem_append.1 hx with hx | hx
    · have := h.since r' i' x hr' hi' hx h1 h2
      split
      · exact List.mem_cons_of_mem _ this
      · exact this
    · have e := List.mem_singleton.1 hx
      subst e
      dsimp only at h1 h2 ⊢
      subst h1; subst h2
      rw [if_pos rfl]; simp
/-- The sets behind a Barrier, the first n of the region's. -/
def barS (S : Nat → List (List Int)) (row : List (List Int)) (r n : Nat) : Nat → List (List Int) := fun j => if r * 4 ≤ j ∧ j < r * 4 + n then [row.getD (j - r * 4) []] else S j
theorem barS_zero (S : Nat → List (List Int)) (row : List (List Int)) (r : Nat) : barS S row r 0 = S := by
  funext j; unfold barS; rw [if_neg (by omega)]
theorem MayOk.barrier {m : DM} {n : Nat} {S : Nat → List (List Int)} (h : MayOk m S) (hK : K2 m n) {r : Nat} (hr : r < 2) (hok : (m.barrier r).Ok) : MayOk (m.barrier r) (barS S (nowRow m r) r 4) := by
  obtain ⟨_, _, e1, e2, e3⟩ := hK.barrier hr hok
  obtain ⟨_, _, _, s0, s1⟩ := barrier_rows hK.told hK.ok (r := r) (by rw [hK.len]; exact hr)
  have hne : ∀ r' i', r' < 2 → i' < 4 → r' ≠ r → ¬ (r * 4 ≤ r' * 4 + i' ∧ r' * 4 + i' < r * 4 + 4) := fun r' i' h1 h2 h3 => by omega
  refine ⟨fun r' i' b' hr' hi' hb => ?_, fun r' i' x hr' hi' hx h1 h2 => ?_⟩
  · by_cases e : r' = r
    · subst e
      rw [e1] at hb
      unfold barS
      rw [if_pos (by omega), show r' * 4 + i' - r' * 4 = i' by omega, List.getD, hb]; simp
    · rw [e2 r' e] at hb
      unfold barS
      rw [if_neg (hne r' i' hr' hi' e)]
      exact h.sure r' i' b' hr' hi' hb
  · by_cases e : r' = r
    · subst e; rw [s0] at hx; cases hx
    · rw [s1 r' (by rw [hK.len]; exact hr') e] at hx
      unfold barS
      rw [if_neg (hne r' i' hr' hi' e)]
      rcases List.mem_append.1 hx with hx | hx
      · exact h.since r' i' x hr' hi' hx h1 h2
      · have e4 := List.mem_singleton.1 hx
        subst e4
        exact absurd h1.symm e
theorem MayOk.make : MayOk (DM.make [4, 4]) (fun _ => [fullV []]) := by
  refine ⟨fun r i b hr hi hb => ?_, fun r i x hr hi hx => ?_⟩
  · have : sureRow (DM.make [4, 4]) r = List.replicate 4 (fullV []) := by match r, hr with | 0, _ => rfl | 1, _ => rfl
    rw [this, List.getElem?_replicate, if_pos hi] at hb
    injection hb with hb; rw [← hb]; simp
  · unfold Go.Proofs.Ytocmjbfbjiinhaa.since DM.make at hx; simp at hx
/-- The maps: cell j of block gm names a map that has all of S j, where Done j. -/
structure Mays (W : World) (gm : Nat) (P : Nat → Prop) (c : Nat) (S : Nat → List (List Int)) (Done : Nat → Prop) : Prop where
  blk : ∃ C, W.heap[gm]? = some (.cells C 50 (0, 0)) ∧ C.size = 8 ∧ ∀ j, j < 8 → Done j → ∃ b, C[j]? = some (.map (some b)) ∧ P b ∧ MapHas W b c (S j)
section
variable {W W' : World} {gm c c' : Nat} {P P' : Nat → Prop} {S S' : Nat → List (List Int)} {Done Done' : Nat → Prop}
theorem Mays.lt (h : Mays W gm P c S Done) : gm < W.heap.size := by obtain ⟨C, h1, _⟩ := h.blk; exact room_lt h1
theorem Mays.keep (h : Mays W gm P c S Done) (hg : W'.heap[gm]? = W.heap[gm]?) (hb : ∀ b, P b → (∃ es clock, W.heap[b]? = some (.map es clock)) → W'.heap[b]? = W.heap[b]?) : Mays W' gm P c S Done := by
  obtain ⟨C, h1, h2, h3⟩ := h.blk
  refine ⟨C, hg.trans h1, h2, fun j hj hd => ?_⟩
  obtain ⟨b, h4, h5, h6⟩ := h3 j hj hd
  exact ⟨b, h4, h5, h6.keep (hb b h5 h6.isMap)⟩
theorem Mays.weak (h : Mays W gm P c S Done) (hP : ∀ k, P k → P' k) (hc : c ≤ c') (hD : ∀ j, Done' j → Done j) : Mays W gm P' c' S Done' := by
  obtain ⟨C, h1, h2, h3⟩ := h.blk
  refine ⟨C, h1, h2, fun j hj hd => ?_⟩
  obtain ⟨b, h4, h5, h6⟩ := h3 j hj (hD j hd)
  exact ⟨b, h4, hP b h5, h6.mono hc⟩
theorem Mays.below (h : Mays W gm P c S Done) (hb : Below W.heap.size W W') : Mays W' gm P c S Done :=
  h.keep (hb.block _ h.lt) fun b _ ⟨es, clock, hm⟩ => hb.block b (room_lt hm)
theorem Mays.same (h : Mays W gm P c S Done) (hs : Same P W W') (hg : P gm) : Mays W' gm P c S Done := h.keep (hs.blk _ hg) fun b hb _ => hs.blk b hb
/-- Strings elsewhere are stored. -/
theorem Mays.strs (h : Mays W gm P c S Done) {g : Nat} {X : List Value} (hx : Strs W g X) (hne : g ≠ gm) (ht : Touch (fun x => x = g) W W') : Mays W' gm P c S Done := by
  refine h.keep (ht.block _ h.lt (fun e => hne e.symm)) fun b _ ⟨es, clock, hm⟩ => ht.block b (room_lt hm) (fun e => ?_)
  subst e
  unfold Strs at hx
  rw [hm] at hx; cases hx
theorem Mays.cell (h : Mays W gm P c S Done) {j : Nat} (hj : j < 8) (hd : Done j) : ∃ b, W.cell? ⟨gm, j, none⟩ = some (.map (some b)) ∧ P b ∧ MapHas W b c (S j) := by
  obtain ⟨C, h1, h2, h3⟩ := h.blk
  obtain ⟨b, h4, h5, h6⟩ := h3 j hj hd
  exact ⟨b, (blk_cell h1 j).trans h4, h5, h6⟩
theorem Mays.any (h : Mays W gm P c S Done) {j : Nat} (hj : j < 8) : (∃ v, W.cell? ⟨gm, j, none⟩ = some v) ∧ W.frozen? ⟨gm, j, none⟩ = false := by
  obtain ⟨C, h1, h2, h3⟩ := h.blk
  exact ⟨⟨_, (blk_cell h1 j).trans (Array.getElem?_eq_getElem (by omega))⟩, blk_free h1 j⟩
/-- A new map is laid, and named by cell j. -/
theorem Mays.put (h : Mays W gm P c S Done) {j b : Nat} (hj : j < 8) (hb : P b) (hm : MapHas W b c (S' j)) (hS : ∀ k, k < 8 → k ≠ j → S' k = S k) (hD : ∀ k, k < 8 → Done' k → k = j ∨ Done k) : Mays (W.setCell ⟨gm, j, none⟩ (.map (some b))) gm P c S' Done' := by
  obtain ⟨C, h1, h2, h3⟩ := h.blk
  have hother : ∀ k, k ≠ gm → (W.setCell ⟨gm, j, none⟩ (.map (some b))).heap[k]? = W.heap[k]? := fun k hk => by
    rw [World.setCell]; simp only [Array.getElem?_modify]; rw [if_neg (fun e => hk e.symm)]
  have hmk : ∀ k c' T, MapHas W k c' T → MapHas (W.setCell ⟨gm, j, none⟩ (.map (some b))) k c' T := fun k c' T hk => hk.keep (hother k (fun e => by
    obtain ⟨es, clock, hm'⟩ := hk.isMap
    subst e
    rw [h1] at hm'; cases hm'))
  refine ⟨_, heap_setCell_same' h1 _, by simp [h2], fun k hk hd => ?_⟩
  by_cases e : j = k
  · subst e
    exact ⟨b, by rw [Array.getElem?_setIfInBounds, if_pos rfl, if_pos (by omega)], hb, hmk b c _ hm⟩
  · obtain ⟨b', h4, h5, h6⟩ := h3 k hk ((hD k hk hd).resolve_left (Ne.symm e))
    exact ⟨b', by rw [Array.getElem?_setIfInBounds, if_neg e]; exact h4, h5, by rw [hS k hk (Ne.symm e)]; exact hmk b' c _ h6⟩
/-- One string more in the map that cell j names. -/
theorem Mays.add (h : Mays W gm P c S Done) {j b : Nat} {x : List Int} (hj : j < 8) (hd : Done j) (hc : W.cell? ⟨gm, j, none⟩ = some (.map (some b))) (hm : MapHas W' b (c + 1) (x :: S j)) (hg : W.grownBy W' (some b)) (hb : ∃ es clock, W.heap[b]? = some (.map es clock))
    (hall : ∀ k T, k = b → MapHas W k c T → MapHas W' k (c + 1) T) : Mays W' gm P (c + 1) (addS S j x) Done := by
  obtain ⟨C, h1, h2, h3⟩ := h.blk
  obtain ⟨es, clock, hbm⟩ := hb
  have hne : gm ≠ b := fun e => by rw [e, hbm] at h1; cases h1
  refine ⟨C, (hg.block gm (room_lt h1) (fun e => hne (by injection e))).trans h1, h2, fun k hk hd' => ?_⟩
  obtain ⟨b', h4, h5, h6⟩ := h3 k hk hd'
  by_cases e : k = j
  · subst e
    have : b' = b := by
      rw [blk_cell h1, h4] at hc
      injection hc with hc; injection hc with hc; injection hc
    subst this
    exact ⟨b', h4, h5, by unfold addS; rw [if_pos rfl]; exact hm⟩
  · refine ⟨b', h4, h5, ?_⟩
    unfold addS
    rw [if_neg e]
    by_cases eb : b' = b
    · exact hall b' _ eb h6
    · obtain ⟨es', clock', hb'⟩ := h6.isMap
      exact (h6.keep (hg.block b' (room_lt hb') (fun e => eb (by injection e)))).mono (by omega)
end
/-- One more, and what was in is in still. -/
theorem MapHas.add2 {W : World} {b c : Nat} {S : List (List Int)} (h : MapHas W b c S) (hc : c < maxLen) (x : List Int) (hx : x.length ≤ 1000) :
    ∃ W', (Instr.mapUpdate 48 (.map (some b)) (.string (strOfNums x)) (.bool true)).run Try.prog W = .ok () W' ∧ MapHas W' b (c + 1) (x :: S) ∧ W.grownBy W' (some b) ∧ ∀ k T, k = b → MapHas W k c T → MapHas W' k (c + 1) T := by
  obtain ⟨W', h1, h2, h3⟩ := h.add hc x hx
  refine ⟨W', h1, h2, h3, fun k T e hT => ?_⟩
  subst e
  obtain ⟨W2, g1, ⟨D, g2, g3⟩, _⟩ := hT.add hc x hx
  rw [h1] at g1
  injection g1 with _ g1
  subst g1
  exact ⟨D, g2, fun y hy => g3 y (by simp [hy])⟩
end Go.Proofs.Ytocmjbfbjiinhaa
