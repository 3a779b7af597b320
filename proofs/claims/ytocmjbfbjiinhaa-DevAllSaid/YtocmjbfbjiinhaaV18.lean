/- Contract: copied. -/
import Derived.Test.YtocmjbfbjiinhaaV17
namespace Go.Proofs.Ytocmjbfbjiinhaa
open Go.ChangeShapes Go.WideShapes Go.ChangeAt Go.RowKit
set_option linter.unusedVariables false
theorem rowsAt_snoc {α : Type} {w' : World} {OT : Nat → Prop} {OR : Nat → Nat → Prop} {ET ER : TypeId} {sz : Nat} {enc : List α → List Value} {v' u : Value} {rows : List (List α)} {row : List α} {vs : List Value}
    (h1 : RowAt w' OT ET 1 v' (rows.length + 1) (vs ++ [u])) (h2 : ∀ r row, rows[r]? = some row → ∃ u, vs[r]? = some u ∧ RowAt w' (OR r) ER sz u row.length (enc row)) (hu : RowAt w' (OR rows.length) ER sz u row.length (enc row)) (hl : vs.length = rows.length) :
    RowsAt w' OT OR ET ER sz enc v' (rows ++ [row]) := by
  refine ⟨vs ++ [u], by rw [List.length_append]; exact h1, fun r row' hr => ?_⟩
  by_cases e : r < rows.length
  · rw [List.getElem?_append_left e] at hr
    obtain ⟨u', h3, h4⟩ := h2 r row' hr
    exact ⟨u', by rw [List.getElem?_append_left (by omega)]; exact h3, h4⟩
  · have hlt := (List.getElem?_eq_some_iff.1 hr).1
    simp only [List.length_append, List.length_cons, List.length_nil] at hlt
    have er : r = rows.length := by omega
    subst er
    rw [List.getElem?_append_right (Nat.le_refl _)] at hr
    simp at hr
    subst hr
    exact ⟨u, by rw [List.getElem?_append_right (by omega), hl]; simp, hu⟩
/-- Rows of blocks that lie in the blocks from lo on, below hi. -/
def TabIn (w : World) (lo hi : Nat) (v : Value) (rows : List (List (List Int))) : Prop :=
  hi ≤ w.heap.size ∧ ∃ T : Nat → Nat, RowsAt w (fun k => lo ≤ k ∧ k < hi ∧ T k = 0) (fun r k => lo ≤ k ∧ k < hi ∧ T k = r + 1) 64 73 64 encB v rows
theorem TabIn.keep {w w' : World} {lo hi : Nat} {v : Value} {rows : List (List (List Int))} (h : TabIn w lo hi v rows) (hk : ∀ k, k < w.heap.size → lo ≤ k → k < hi → w'.heap[k]? = w.heap[k]?) (hs : w.heap.size ≤ w'.heap.size) : TabIn w' lo hi v rows := by
  obtain ⟨h1, T, h2⟩ := h
  refine ⟨by omega, T, h2.keep fun k hk' ho => hk k hk' ?_ ?_⟩
  · rcases ho with ho | ⟨r, ho⟩; exact ho.1; exact ho.1
  · rcases ho with ho | ⟨r, ho⟩; exact ho.2.1; exact ho.2.1
theorem infoRow : (Try.prog.info? 64).map (fun i => (i.zero, i.size, i.bytes)) = some (some (.slice none 0 0), 1, 24) := by kernel_rfl
set_option maxRecDepth 100000 in
set_option maxHeartbeats 1600000 in
theorem copied_any {w : World} {OT : Nat → Prop} {OR : Nat → Nat → Prop} {v : Value} {rows : List (List (List Int))} (h : RowsAt w OT OR 64 73 64 encB v rows) (hl : rows.length ≤ 8) (hrow : ∀ (r : Nat) (row : List (List Int)), rows[r]? = some row → row.length ≤ 1000) :
    Calls Try.prog 38 #[v] w fun e w' => (∃ v', e = .returned v' ∧ TabIn w' w.heap.size w'.heap.size v' rows) ∧ Below w.heap.size w w' := by
  obtain ⟨A, cap, hv, hc1, hc2⟩ := h.val
  have HH := Lib.hid h
  have HV := Lib.hid hv
  have HRL := Lib.hid hrow
  rw [hv]
  clear h hv hrow
  generalize hR : rows.length = R at *
  have HR := Lib.hid hR
  clear hR
  go_enter Try.func38, Try.ntmps38
  go_wp2_with fail
  go_loopw [3, 8] (fun v3 i wr => ∃ k : Nat, i = .int .i64 k ∧ k ≤ R ∧ TabIn wr w.heap.size wr.heap.size v3 (rows.take k) ∧ Below w.heap.size w wr) (fun _ i _ => R - (intOf i).toNat)
  case atStart => exact ⟨0, rfl, Nat.zero_le _, ⟨Nat.le_refl _, fun _ => 0, RowsAt.nil _ _ _ _ _ _ _⟩, Below.refl _ _⟩
  case round =>
    obtain ⟨k, rfl, hk, ht, hb⟩ := hrel
    have HB := Lib.hid hb
    by_cases hlt : k < R
    · obtain ⟨row, hr⟩ : ∃ row, rows[k]? = some row := ⟨_, List.getElem?_eq_getElem (by rw [HR.out]; exact hlt)⟩
      have hn := HRL.out k row hr
      obtain ⟨g, cap', u, hv, _, hg, hc, _, hra⟩ := (HH.out.keep (w' := wr) fun k hk _ => hb.block k hk).row hr
      have hv' := HV.out
      rw [hv] at hv'
      injection hv' with e1 e2 e3
      subst e1; subst e3
      have hcl := Lib.hid (cloneB_any hra (by omega) (encB_one row))
      obtain ⟨hs0, T, ht⟩ := ht
      have htl : (rows.take k).length = k := List.length_take_of_le (by rw [HR.out]; omega)
      obtain ⟨vs, t1, t2⟩ := ht
      rw [htl] at t1
      have HT1 := Lib.hid t1
      have HT2 := Lib.hid t2
      have HTL := Lib.hid htl
      have HROW := Lib.hid hr
      have hkk : (k : Int) < R := by omega
      obtain ⟨A3, c3, rfl, _, _⟩ := t1.val
      obtain ⟨i0, hi0, hz0, hz1, hz2⟩ := info_parts infoRow
      have HI := Lib.hid (And.intro hi0 (And.intro hz0 (And.intro hz1 hz2)))
      clear t1 t2 htl hra hv e2 hb hr hi0 hz0 hz1 hz2
      go_wp2_with fail
      refine hcl.out.mono ?_
      rintro e w2 ⟨⟨v', rfl, hv2⟩, hb2⟩
      obtain ⟨A4, c4, rfl, _, _⟩ := hv2.val
      have HV2 := Lib.hid hv2
      have HB2 := Lib.hid hb2
      have hs2 := hb2.size
      clear hv2 hb2
      go_wp2_with (at_builtin; refine wpList_push_of rfl (.tmp 12) (.tmp 15) 60 rfl 64 i0 _ 1 24 Try.underlying60 HI.out.1 HI.out.2.1 HI.out.2.2.1 HI.out.2.2.2 rfl (by decide) (.slice A3 k c3) k vs rfl _ ((HT1.out.below HB2.out).below ((Below.refl _ _).alloc (Nat.le_refl _) _)) ⟨w2.heap.size, 0, none⟩ 1 1 [.slice A4 row.length c4] rfl rfl (World.news_of_block (heap_alloc_new w2 _)) (fun u hu => by rw [List.mem_singleton.1 hu]; rfl) (by simp only [maxLen]; omega) (by omega) ?_; intro v' w3 hrow3 hgr3 _; have HR3 := Lib.hid hrow3; have HG3 := Lib.hid hgr3; clear hrow3 hgr3)
      go_roundw
      case rel =>
        have hs3 := HG3.out.size
        simp only [World.size_alloc] at hs3
        have blk : ∀ x, x < w2.heap.size → (Value.slice A3 k c3).ownBlock ≠ some x → w3.heap[x]? = w2.heap[x]? := fun x hx hne => by
          rw [HG3.out.block x (by simp; omega) (fun e => hne e.symm), Below.heap_alloc w2 _ x hx]
        have tb : ∀ x, (Value.slice A3 k c3).ownBlock = some x → w.heap.size ≤ x ∧ x < wr.heap.size ∧ T x = 0 := HT1.out.2
        refine ⟨k + 1, by go_num, by omega, ⟨Nat.le_refl _, fun x => if x < wr.heap.size then T x else if x < w2.heap.size then k + 1 else 0, ?_⟩, ?_⟩
        · rw [List.take_add_one, HROW.out]
          refine rowsAt_snoc (vs := vs) (u := .slice A4 row.length c4) ?_ ?_ ?_ ?_
          · rw [HTL.out]
            refine HR3.out.owner fun x hx ho => ?_
            rcases ho with ⟨h1, h2, h3⟩ | ho
            · exact ⟨h1, by omega, by dsimp only; rw [if_pos h2]; exact h3⟩
            · simp at ho
              refine ⟨by have := HB.out.size; omega, hx, ?_⟩
              dsimp only
              rw [if_neg (by omega), if_neg (by omega)]
          · intro r row' hr'
            obtain ⟨u', h3, h4⟩ := HT2.out r row' hr'
            refine ⟨u', h3, (h4.keep (w' := w3) fun x hx ho => ?_).owner fun x hx ho => ?_⟩
            · rw [blk x (by omega) (fun e => by have := (tb x e).2.2; omega)]; exact HB2.out.block x hx
            · exact ⟨ho.1, by omega, by dsimp only; rw [if_pos ho.2.1]; exact ho.2.2⟩
          · rw [HTL.out]
            have := HV2.out
            have hlt2 := fun x hx => (this.1.lt x hx).2
            refine ⟨(this.keep (w' := w3) fun x hx ho => blk x hx (fun e => by have := (tb x e).2.1; omega)).1, fun x hx => ?_⟩
            have h5 := this.2 x hx
            have h6 := hlt2 x hx
            refine ⟨by have := HB.out.size; omega, by omega, ?_⟩
            dsimp only
            rw [if_neg (by omega), if_pos h6]
          · have := HT1.out.len; rw [HTL.out]; omega
        · exact (keepB HB.out HB2.out).trans (((Below.refl _ _).alloc (by have := HB.out.size; omega) _).grown HG3.out (by simp; have := HB.out.size; omega) (fun x hx => (tb x hx).1))
      case measure => simp [intOf]; omega
    · obtain rfl : k = R := by omega
      have HT := Lib.hid ht
      obtain ⟨_, T, hh⟩ := ht
      obtain ⟨A3, c3, e3, _, _⟩ := hh.val
      rw [List.length_take_of_le (by rw [HR.out]; exact Nat.le_refl _)] at e3
      subst e3
      clear hh hb
      go_wp2
      go_ret
      have := HT.out
      rw [List.take_of_length_le (by rw [HR.out]; exact Nat.le_refl _)] at this
      exact ⟨⟨_, rfl, this⟩, HB.out⟩
end Go.Proofs.Ytocmjbfbjiinhaa
