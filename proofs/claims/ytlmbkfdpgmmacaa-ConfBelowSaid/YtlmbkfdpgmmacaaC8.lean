/- Contract: slices.SortFunc by the order of labels, of at most seven places. -/
import Derived.Test.YtlmbkfdpgmmacaaC7
namespace Go.Proofs.Ytlmbkfdpgmmacaa
open Go.ChangeShapes Go.WideShapes Go.ChangeAt Go.RowKit
open Go.Sort (swp insInner insOuter insertionSort)
set_option linter.unusedVariables false
section
variable {α : Type} [Inhabited α] (lt : α → α → Bool)
theorem ins_go (a j : Nat) (d : Array α) (hj : a < j + 1) (hl : lt d[j + 1]! d[j]! = true) : insInner lt a (j + 1) d = insInner lt a j (swp d (j + 1) j) := by
  rw [insInner, if_pos (by simp [hl]; omega)]
theorem ins_stop (a j : Nat) (d : Array α) (h : j ≤ a ∨ lt d[j]! d[j - 1]! = false) : insInner lt a j d = d := by
  cases j with
  | zero => rfl
  | succ j =>
    rw [insInner, if_neg]
    rcases h with h | h
    · simp; omega
    · simp only [Nat.add_sub_cancel] at h; simp [h]
theorem outer_go (a b i : Nat) (d : Array α) (h : i < b) : insOuter lt a b i d = insOuter lt a b (i + 1) (insInner lt a i d) := by rw [insOuter, if_pos h]
theorem outer_stop (a b i : Nat) (d : Array α) (h : ¬ i < b) : insOuter lt a b i d = d := by rw [insOuter, if_neg h]
end
/-- The row holds d from place o on, and else what it held. -/
structure RowC (C0 C : Array Value) (o : Nat) (d : Array Int) : Prop where
  size : C.size = C0.size
  fit : o + d.size ≤ C0.size
  here : ∀ i, i < d.size → C[o + i]? = some (.int .i64 d[i]!)
  else_ : ∀ i, (i < o ∨ o + d.size ≤ i) → C[i]? = C0[i]?
theorem RowC.swap {C0 C : Array Value} {o : Nat} {d : Array Int} (h : RowC C0 C o d) {i j : Nat} (hi : i < d.size) (hj : j < d.size) (hij : i ≠ j) :
    RowC C0 ((C.setIfInBounds (o + i) (.int .i64 d[j]!)).setIfInBounds (o + j) (.int .i64 d[i]!)) o (swp d i j) := by
  have hs : (swp d i j).size = d.size := Go.Sort.size_swp d i j
  refine ⟨by simp [h.size], by rw [hs]; exact h.fit, fun k hk => ?_, fun k hk => ?_⟩
  · rw [hs] at hk
    have hlt : o + k < C.size := by have := h.size; have := h.fit; omega
    rw [Array.getElem?_setIfInBounds, Array.getElem?_setIfInBounds]
    by_cases e1 : k = j
    · subst e1
      rw [if_pos rfl, if_pos (by simpa using hlt), Go.Sort.swp_right d i k hk]
    · rw [if_neg (by omega)]
      by_cases e2 : k = i
      · subst e2
        rw [if_pos rfl, if_pos (by simpa using hlt), Go.Sort.swp_left d k j hk hij]
      · rw [if_neg (by omega), Go.Sort.swp_other d i j k e2 e1]
        exact h.here k hk
  · rw [hs] at hk
    rw [Array.getElem?_setIfInBounds, Array.getElem?_setIfInBounds, if_neg (by omega), if_neg (by omega)]
    exact h.else_ k hk
structure InW (w0 wr : World) (g o : Nat) (C0 C : Array Value) (m : Nat) (d : Array Int) : Prop where
  sz : d.size = m
  blk : wr.heap[g]? = some (.cells C 3 (0, 0))
  row : RowC C0 C o d
  gr : w0.grownBy wr (some g)
theorem InW.below {w0 wr w' : World} {g o : Nat} {C0 C : Array Value} {m : Nat} {d : Array Int} (h : InW w0 wr g o C0 C m d) (hb : Below wr.heap.size wr w') : InW w0 w' g o C0 C m d :=
  ⟨h.sz, (hb.block g (by
    rcases Nat.lt_or_ge g wr.heap.size with h1 | h1
    · exact h1
    · have := h.blk; rw [Array.getElem?_eq_none h1] at this; cases this)).trans h.blk, h.row, h.gr.trans ⟨hb.os, hb.tape, hb.output, hb.size, fun k hk _ => hb.block k hk⟩⟩
theorem setBy (W : World) (g i : Nat) (u : Value) : W.grownBy (W.setCell ⟨g, i, none⟩ u) (some g) := ⟨rfl, rfl, rfl, by simp, fun k hk hne => by
  rw [World.setCell]; simp only [Array.getElem?_modify]; rw [if_neg (fun e => hne (by rw [e]))]⟩
theorem setByD (W : World) (g i : Nat) (u : Value) : W.grownBy (W.setCell ⟨g, i, none⟩ u).drew (some g) := ⟨rfl, rfl, rfl, by simp, fun k hk hne => by
  show (W.setCell ⟨g, i, none⟩ u).heap[k]? = _
  rw [World.setCell]; simp only [Array.getElem?_modify]; rw [if_neg (fun e => hne (by rw [e]))]⟩
def Vals (cs : List Sh) (d : Array Int) : Prop := ∀ i, i < d.size → InR cs d[i]!
theorem Vals.swap {cs : List Sh} {d : Array Int} (h : Vals cs d) {i j : Nat} (hi : i < d.size) (hj : j < d.size) (hij : i ≠ j) : Vals cs (swp d i j) := fun k hk => by
  rw [Go.Sort.size_swp] at hk
  by_cases e1 : k = j
  · subst e1; rw [Go.Sort.swp_right d i k hk]; exact h i hi
  · by_cases e2 : k = i
    · subst e2; rw [Go.Sort.swp_left d k j hk hij]; exact h j hj
    · rw [Go.Sort.swp_other d i j k e2 e1]; exact h k hk
set_option maxRecDepth 100000 in
set_option maxHeartbeats 3200000 in
theorem sort_any (cs : List Sh) (A : Option Addr) (dd : Nat) (p : Addr) (hm : mayConfV cs = true) (ho : ShsOk cs) (g o m c : Nat) (C0 : Array Value) (d : Array Int) (w : World)
    (hmc : m ≤ c) (hm7 : m ≤ 7) (hI : InW w w g o C0 C0 m d) (hv : Vals cs d) (hcap : ∀ W, w.grownBy W (some g) → Cap W p A cs dd) :
    Calls Try.prog 49 #[.slice (some ⟨g, o, none⟩) m c, .int .i64 0, .int .i64 m, .func (.func 27) #[] #[.pointer (some p)]] w fun e w' => e = .returned (.tuple #[]) ∧ ∃ C, InW w w' g o C0 C m (insertionSort (ltB cs) d 0 m) := by
  have HCAP := Lib.hid hcap
  have hlen := (may_len hm).2
  have HM := Lib.hid hm
  have HI0 := Lib.hid hI
  clear hcap hm hI
  go_enter Try.func49, Try.ntmps49
  go_wp2
  go_loopw [8] (fun vi wr => ∃ (i : Nat) (C : Array Value) (dk : Array Int), vi = .int .i64 i ∧ 0 < i ∧ i ≤ 8 ∧ InW w wr g o C0 C m dk ∧ Vals cs dk ∧ Hid (insOuter (ltB cs) 0 m i dk = insertionSort (ltB cs) d 0 m)) (fun vi _ => 9 - (intOf vi).toNat)
  case atStart => exact ⟨1, C0, d, rfl, by omega, by omega, HI0.out, hv, rfl⟩
  case round =>
    obtain ⟨i, C, dk, rfl, hi0, hi8, hIk, hvk, HO⟩ := hrel
    have HIK := Lib.hid hIk
    clear hIk
    by_cases hlt : i < m
    · go_wp2
      go_loopw [9] (fun vj wr2 => ∃ (j : Nat) (C2 : Array Value) (dj : Array Int), vj = .int .i64 j ∧ j ≤ i ∧ InW w wr2 g o C0 C2 m dj ∧ Vals cs dj ∧ Hid (insInner (ltB cs) 0 j dj = insInner (ltB cs) 0 i dk)) (fun vj _ => (intOf vj).toNat)
      case atStart => exact ⟨i, C, dk, rfl, Nat.le_refl _, HIK.out, hvk, rfl⟩
      case round =>
        obtain ⟨j, C2, dj, rfl, hji, hIj, hvj, HJ⟩ := hrel
        have out : (j ≤ 0 ∨ ltB cs dj[j]! dj[j - 1]! = false) → Hid (insOuter (ltB cs) 0 m (i + 1) dj = insertionSort (ltB cs) d 0 m) := fun hs => by
          show _ = _
          rw [← HO.out, outer_go _ _ _ _ _ hlt, ← HJ.out, ins_stop _ _ _ _ hs]
        have OUT := Lib.hid out
        clear out
        by_cases hja : 0 < j
        · obtain ⟨jp, rfl⟩ : ∃ jp, j = jp + 1 := ⟨j - 1, by omega⟩
          have HIJ := Lib.hid hIj
          clear hIj
          have hsz := HIJ.out.sz
          have hjd : jp + 1 < dj.size := by omega
          have v1 := hvj (jp + 1) hjd
          have v0 := hvj jp (by omega)
          have cj : wr.cell? ⟨g, o + (jp + 1), none⟩ = some (.int .i64 dj[jp + 1]!) := (blk_cell HIJ.out.blk _).trans (HIJ.out.row.here _ hjd)
          have cp : wr.cell? ⟨g, o + jp, none⟩ = some (.int .i64 dj[jp]!) := (blk_cell HIJ.out.blk _).trans (HIJ.out.row.here _ (by omega))
          have hc := cmp_lt HM.out v1 v0
          have HX : Hid (∀ W, w.grownBy W (some g) → Calls Try.prog 27 #[.int .i64 dj[jp + 1]!, .int .i64 dj[jp]!, .pointer (some p)] W fun e w' => e = .returned (.int .i64 (cmpV cs dj[jp + 1]! dj[jp]!)) ∧ Below W.heap.size W w') :=
            fun W hW => below_lit cs A dd p _ _ W ho v1 v0 (by omega) (HCAP.out W hW)
          have OUT2 : Hid (ltB cs dj[jp + 1]! dj[jp]! = false → Hid (insOuter (ltB cs) 0 m (i + 1) dj = insertionSort (ltB cs) d 0 m)) := fun h => OUT.out (Or.inr (by simpa using h))
          have GO : Hid (ltB cs dj[jp + 1]! dj[jp]! = true → insInner (ltB cs) 0 jp (swp dj (jp + 1) jp) = insInner (ltB cs) 0 i dk) := fun h => by rw [← HJ.out, ins_go _ _ _ _ (by omega) h]
          have SW : Hid (RowC C0 ((C2.setIfInBounds (o + (jp + 1)) (.int .i64 dj[jp]!)).setIfInBounds (o + jp) (.int .i64 dj[jp + 1]!)) o (swp dj (jp + 1) jp)) := HIJ.out.row.swap hjd (by omega) (by omega)
          have SV : Hid (Vals cs (swp dj (jp + 1) jp)) := hvj.swap hjd (by omega) (by omega)
          have HVJ := Lib.hid hvj
          clear v1 v0 hvj OUT
          generalize dj[jp + 1]! = xj at *
          generalize dj[jp]! = xp at *
          have hwp : IntKind.i64.wrap (jp : Int) = (jp : Int) := IntWalk.i64_in _ (by omega)
          have jz : (jp : Int) + 1 < (m : Int) := by omega
          have jz1 : (jp : Int) < (m : Int) := by omega
          have p0 : (0 : Int) ≤ (jp : Int) + 1 := by omega
          have p1 : (0 : Int) < (jp : Int) + 1 := by omega
          have e0 : ((jp : Int) + 1).toNat = jp + 1 := by omega
          have q1 : ∀ g : Later wr, g.w.cell? _ = _ := fun g => keepC g.below cj
          have q0 : ∀ g : Later wr, g.w.cell? _ = _ := fun g => keepC g.below cp
          have HCC := Lib.hid (And.intro cj cp)
          clear cj cp
          by_cases hlv : cmpV cs xj xp < 0
          · have HLT : Hid (ltB cs xj xp = true) := by rw [← hc]; exact decide_eq_true hlv
            have HLV := Lib.hid hlv
            clear hc
            generalize cmpV cs xj xp = r at *
            go_wp2_with fail
            refine wp_region_later (by kernel_rfl) (by kernel_rfl) ?_
            repeat (go_big_quiet_step ((go_at_call 27; exact quiet_later (HX.out _ (HIJ.out.below (Later.below _)).gr))))
            refine wpQuiet_nil ?_
            intro _ hw'
            obtain ⟨nq, hw''⟩ := hw'
            subst hw''
            have HIJ2 := Lib.hid (HIJ.out.below nq.below)
            have cj := q1 nq
            have cp := q0 nq
            clear q1 q0
            generalize Later.w nq = V at *
            clear nq
            have fj : V.frozen? ⟨g, o + (jp + 1), none⟩ = false := blk_free HIJ2.out.blk _
            have fp : V.frozen? ⟨g, o + jp, none⟩ = false := blk_free HIJ2.out.blk _
            go_wp2_with fail
            obtain ⟨j1, hj1⟩ : ∃ j1, j1 = jp + 1 := ⟨_, rfl⟩
            rw [← hj1] at cj fj e0
            have J1 := Lib.hid hj1
            clear hj1
            go_region
            all_goals go_wp2
            have hblk := HIJ2.out.blk
            refine ⟨⟨jp, _, swp dj (jp + 1) jp, rfl, by omega, ⟨by rw [Go.Sort.size_swp]; exact hsz, ?_, SW.out, ?_⟩, SV.out, GO.out HLT.out⟩, by simp [intOf]⟩
            · rw [J1.out]
              exact heap_setCell_same' (heap_setCell_same' hblk _) _
            · exact (HIJ2.out.gr.trans (setBy V g _ _)).trans (setByD _ g _ _)
          · have HLT : Hid (ltB cs xj xp = false) := by rw [← hc]; exact decide_eq_false hlv
            have HLV := Lib.hid hlv
            have hlv' : ¬ cmpV cs xj xp < 0 := hlv
            clear hc hlv
            generalize cmpV cs xj xp = r at *
            go_wp2_with fail
            refine wp_region_later (by kernel_rfl) (by kernel_rfl) ?_
            repeat (go_big_quiet_step ((go_at_call 27; exact quiet_later (HX.out _ (HIJ.out.below (Later.below _)).gr))))
            refine wpQuiet_nil ?_
            intro _ hw'
            obtain ⟨nq, hw''⟩ := hw'
            subst hw''
            have HIJ2 := Lib.hid (HIJ.out.below nq.below)
            clear q1 q0
            generalize Later.w nq = V at *
            clear nq
            go_wp2_with fail
            go_roundw
            case rel => exact ⟨i + 1, C2, dj, by go_num, by omega, by omega, HIJ2.out, HVJ.out, OUT2.out HLT.out⟩
            case measure => simp [intOf]; omega
        · obtain rfl : j = 0 := by omega
          have HIJ := Lib.hid hIj
          clear hIj
          go_wp2_with fail
          refine wp_region_later (by kernel_rfl) (by kernel_rfl) ?_
          repeat (first | go_big_quiet_step (fail) | (refine BigFrame.wpQuiet_skip (by rfl) ?_; simp only [Act.put, List.setIfInBounds_toArray, List.set_cons_zero, List.set_cons_succ]))
          refine wpQuiet_nil ?_
          intro _ hw'
          obtain ⟨nq, hw''⟩ := hw'
          subst hw''
          have HIJ2 := Lib.hid (HIJ.out.below nq.below)
          generalize Later.w nq = V at *
          clear nq
          go_wp2_with fail
          go_roundw
          case rel => exact ⟨i + 1, C2, dj, by go_num, by omega, by omega, HIJ2.out, hvj, OUT.out (Or.inl (Nat.le_refl _))⟩
          case measure => simp [intOf]; omega
    · go_wp2
      go_end0
      refine ⟨rfl, C, ?_⟩
      have := HO.out
      rw [outer_stop _ _ _ _ _ hlt] at this
      rw [← this]; exact HIK.out
theorem pdq_any (cs : List Sh) (A : Option Addr) (dd : Nat) (p : Addr) (hm : mayConfV cs = true) (ho : ShsOk cs) (g o m c : Nat) (C0 : Array Value) (d : Array Int) (w : World) (r : Int)
    (hmc : m ≤ c) (hm7 : m ≤ 7) (hI : InW w w g o C0 C0 m d) (hv : Vals cs d) (hcap : ∀ W, w.grownBy W (some g) → Cap W p A cs dd) :
    Calls Try.prog 41 #[.slice (some ⟨g, o, none⟩) m c, .int .i64 0, .int .i64 m, .int .i64 r, .func (.func 27) #[] #[.pointer (some p)]] w fun e w' => e = .returned (.tuple #[]) ∧ ∃ C, InW w w' g o C0 C m (insertionSort (ltB cs) d 0 m) := by
  have H := Lib.hid (sort_any cs A dd p hm ho g o m c C0 d w hmc hm7 hI hv hcap)
  clear hcap hm hI hv
  generalize insertionSort (ltB cs) d 0 m = d' at *
  go_enter Try.func41, Try.ntmps41
  go_wp2
  refine wp_loop_rounds 1 ?_
  rw [rounds_succ]
  go_wp2_with fail
  refine H.out.mono ?_
  rintro e w' ⟨rfl, hw⟩
  go_wp2_with fail
  (try simp only [Exit.inBlock, Exit.then])
  refine bodyPost_ret (results_none rfl _ _ _) rfl ?_
  exact ⟨rfl, hw⟩
theorem sortFunc_any (cs : List Sh) (A : Option Addr) (dd : Nat) (p : Addr) (hm : mayConfV cs = true) (ho : ShsOk cs) (g o m c : Nat) (C0 : Array Value) (d : Array Int) (w : World)
    (hmc : m ≤ c) (hm7 : m ≤ 7) (hI : InW w w g o C0 C0 m d) (hv : Vals cs d) (hcap : ∀ W, w.grownBy W (some g) → Cap W p A cs dd) :
    Calls Try.prog 26 #[.slice (some ⟨g, o, none⟩) m c, .func (.func 27) #[] #[.pointer (some p)]] w fun e w' => e = .returned (.tuple #[]) ∧ ∃ C, InW w w' g o C0 C m (insertionSort (ltB cs) d 0 m) := by
  have H := Lib.hid (fun r => pdq_any cs A dd p hm ho g o m c C0 d w r hmc hm7 hI hv hcap)
  have HL := Lib.hid (len_any m hm7)
  clear hcap hm hI hv
  generalize insertionSort (ltB cs) d 0 m = d' at *
  go_enter Try.func26, Try.ntmps26
  go_wp2_with fail
  refine (HL.out _).mono ?_
  rintro e w' ⟨⟨r, rfl⟩, rfl⟩
  go_wp2_with fail
  refine (H.out r).mono ?_
  rintro e w' ⟨rfl, hw⟩
  go_wp2_with fail
  go_end0
  exact ⟨rfl, hw⟩
end Go.Proofs.Ytlmbkfdpgmmacaa
