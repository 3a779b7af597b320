/- Contract: a Barrier that is done. -/
import Derived.Test.YtocmjbfbjiinhaaV13
namespace Go.Proofs.Ytocmjbfbjiinhaa
open Go.ChangeShapes Go.WideShapes Go.ChangeAt Go.RowKit
set_option linter.unusedVariables false
set_option maxRecDepth 100000 in
set_option maxHeartbeats 1600000 in
theorem barrier_yes {w : World} {F : Nat → Prop} {hp : Nat} {m : DM} (h : Dev w F hp m) (r : Nat) (hr : r < m.now.length) (hst : stopped m = false) (hmax : m.done.length < 1000000) :
    Calls Try.prog 13 #[.pointer (some ⟨hp, 0, none⟩), .int .i64 r] w fun e w' => e = .returned (.bool true) ∧ DevStep w w' F hp (m.barrier r) := by
  obtain ⟨O, L, h, hF, hlt⟩ := h
  have hO : ∀ k, O k ≠ .none → k < w.heap.size := fun k hk => hlt k ((hF k).2 hk)
  have HH := Lib.hid h
  have few := h.ok.few
  have hRm := Lib.hid (hasRegion_any h r (by constructor <;> omega))
  have hbt : hasR m r = true := by unfold hasR; simp; omega
  rw [hbt] at hRm
  clear hbt
  have hS := Lib.hid (stopped_any h)
  rw [hst] at hS
  have HO := Lib.hid hO
  have HF := Lib.hid hF
  have HR := Lib.hid hr
  clear h hst hlt hO hF
  generalize hN : m.done.length = N at *
  have HN := Lib.hid hN
  clear hN
  go_enter Try.func13, Try.ntmps13
  go_wp2_with fail
  refine hRm.out.mono ?_
  rintro e w' ⟨rfl, rfl⟩
  go_wp2_with fail
  refine hS.out.mono ?_
  rintro e w' ⟨rfl, rfl⟩
  go_wp2_with fail
  go_upto_region 5 with fail
  go_cut [4] (fun s wx => ∃ v : Value, s = .bool false ∧ Touch (fun k => k = hp ∨ O k = .done) w wx ∧ (∀ k, v.ownBlock = some k → O k = .done ∨ w.heap.size ≤ k) ∧ DevRaw wx (growO O w.heap.size v) hp { L with sDone := v } { m with done := m.done ++ [⟨r, 65535, List.replicate 64 0⟩] })
  case first =>
    have srefl : ∀ (i : Nat) (W : World), SB5 L.sDone i W W := fun i W => by unfold SB5; split <;> exact World.grownBy.refl W _
    have hBd : ∀ k, L.sDone.ownBlock = some k → k < w.heap.size := fun k hk => (HH.out.done.1.lt k hk).2
    have hJ0 : Touch (fun k => O k = .done) w w.drew ∧ RowAt w.drew (fun k => O k = .done) 75 65 L.sDone N (encW m.done) := ⟨(Touch.refl _ _).drew, by have := HH.out.done; rw [← HN.out]; exact this⟩
    have hpn : ¬ O hp = .done := by rw [HH.out.ohd]; simp
    refine wp_region_rgi (VB5 hp w.heap.size (fun k => O k = .done) L.sDone N (encW m.done) ⟨r, 65535, List.replicate 64 0⟩) (fun W => Touch (fun k => O k = .done) w W ∧ RowAt W (fun k => O k = .done) 75 65 L.sDone N (encW m.done)) (SB5 L.sDone) (by kernel_rfl) (by kernel_rfl) (fun i j v w w' hij h hg => h.on hBd hij hg) hJ0 ?_
    clear hJ0
    simp only [RAll]
    refine ⟨?_, ?_, ?_, ?_, ?_, ?_, ?_, ?_, ?_, ?_, ?_, ?_, ?_⟩
    · refine RStep.of rfl fun T W hag hJ hd => ?_   -- 0: 11 := Op.move (Operand.tmp 0)
      have e0 : T.getD 0 undef = _ := (agree_at hag 0 (by kernel_rfl)).trans rfl
      clear hag hd
      go_simp
      first | exact ⟨_, rfl, rfl⟩ | exact ⟨_, rfl, rfl, hJ, srefl _ _⟩
    · refine RStep.of rfl fun T W hag hJ hd => ?_   -- 1: 12 := Op.move (Operand.tmp 0)
      have e0 : T.getD 0 undef = _ := (agree_at hag 0 (by kernel_rfl)).trans rfl
      clear hag hd
      go_simp
      first | exact ⟨_, rfl, rfl⟩ | exact ⟨_, rfl, rfl, hJ, srefl _ _⟩
    · refine RStep.of rfl fun T W hag hJ hd => ?_   -- 2: 13 := Op.nilCheck (Operand.tmp 12)
      have d12 : T.getD 12 undef = _ := hd ⟨1, .data⟩ (by simp) rfl _ rfl
      clear hag hd
      go_simp
      first | exact ⟨_, rfl, rfl⟩ | exact ⟨_, rfl, rfl, hJ, srefl _ _⟩
    · refine RStep.of rfl fun T W hag hJ hd => ?_   -- 3: 14 := Op.fieldAddr 63 (Operand.tmp 13) 2
      have d13 : T.getD 13 undef = _ := hd ⟨2, .data⟩ (by simp) rfl _ rfl
      clear hag hd
      go_simp
      first | exact ⟨_, rfl, rfl⟩ | exact ⟨_, rfl, rfl, hJ, srefl _ _⟩
    · refine RStep.of rfl fun T W hag hJ hd => ?_   -- 4: 15 := Op.load 61 (Operand.tmp 14)
      have d14 : T.getD 14 undef = _ := hd ⟨3, .data⟩ (by simp) rfl _ rfl
      have fct0 := (keepT hJ.1 HH.out.c2 hpn)
      clear hag hd
      go_simp
      first | exact ⟨_, rfl, rfl⟩ | exact ⟨_, rfl, rfl, hJ, srefl _ _⟩
    · refine RStep.of rfl fun T W hag hJ hd => ?_   -- 5: 16 := Op.move (Operand.tmp 1)
      have e1 : T.getD 1 undef = _ := (agree_at hag 1 (by kernel_rfl)).trans rfl
      clear hag hd
      go_simp
      first | exact ⟨_, rfl, rfl⟩ | exact ⟨_, rfl, rfl, hJ, srefl _ _⟩
    · refine RStep.of rfl fun T W hag hJ hd => ?_   -- 6: 17 := Op.call { callee := Callee.value (Operand.func 33), args := #[Operand.
      have d16 : T.getD 16 undef = _ := hd ⟨5, .data⟩ (by simp) rfl _ rfl
      clear hag hd
      go_simp
      refine (place_any W r 65535).mono ?_; rintro e w' ⟨rfl, rfl⟩
      exact ⟨_, rfl, rfl, hJ, srefl _ _⟩
    · refine RStep.of rfl fun T W hag hJ hd => ?_   -- 7: 18 := Op.build 75 #[(0, Operand.tmp 17)]
      have d17 : T.getD 17 undef = _ := hd ⟨6, .data⟩ (by simp) rfl _ rfl
      refine wp_build_eq 75 _ rfl (Wr.cs ⟨r, 65535, List.replicate 64 0⟩).toArray ?_ ?_
      · simp only [List.map_toArray, List.map_cons, List.map_nil]
        rw [show (⟨T, []⟩ : Act).eval (.tmp 17) = _ from d17]
        exact built75_one r 65535
      · exact ⟨_, rfl, rfl, hJ, srefl _ _⟩
    · refine RStep.of rfl fun T W hag hJ hd => ?_   -- 8: 19 := Op.buildSlice 61 1 #[(0, Operand.tmp 18)]
      have d18 : T.getD 18 undef = _ := hd ⟨7, .data⟩ (by simp) rfl _ rfl
      obtain ⟨i0, hi0, hz0, hz1, hz2⟩ := info_parts info75
      refine wp_one_of 61 (.tmp 18) rfl 75 i0 _ 65 Try.underlying61 hi0 hz0 hz1 (by decide) (by decide) _ d18 (by simp only [Value.cells, List.size_toArray]; exact Wr.cs_length zeroBlk.1) ?_
      refine ⟨_, rfl, ⟨W.heap.size, rfl, hJ.1.size, heap_alloc_new W _⟩, ⟨hJ.1.alloc _, hJ.2.keep fun k hk _ => Below.heap_alloc W _ k hk⟩, ?_⟩
      exact World.grownBy_alloc W _ _
    · refine RStep.of rfl fun T W hag hJ hd => ?_   -- 9: 20 := Op.call { callee := Callee.builtin Builtin.append, args := #[Operand.t
      have d15 : T.getD 15 undef = L.sDone := hd ⟨4, .data⟩ (by simp) rfl _ rfl
      obtain ⟨p, (d19 : T.getD 19 undef = _), hp1, hp2⟩ := hd ⟨8, .data⟩ (by simp) rfl _ rfl
      obtain ⟨i0, hi0, hz0, hz1, hz2⟩ := info_parts info75
      refine wp_push_of (.tmp 15) (.tmp 19) 61 rfl 75 i0 _ 65 80 Try.underlying61 hi0 hz0 hz1 hz2 (by simp [Value.cells]) (by decide) L.sDone N (encW m.done) d15 _ hJ.2 ⟨p, 0, none⟩ 1 1 (Wr.cs ⟨r, 65535, List.replicate 64 0⟩) d19 (by rw [Wr.cs_length zeroBlk.1]) (fun j u hj => by rw [Addr.add_mid, blk_cell hp2, Nat.zero_add, List.getElem?_toArray]; exact hj) (Wr.cs_one _) (by simp only [maxLen]; omega) (by omega) ?_
      intro v' w' hrow hgr hold
      refine ⟨_, rfl, hrow.owner ?_, ⟨?_, hold⟩, hgr⟩
      · intro k _ hk; rcases hk with hk | hk
        · exact Or.inl hk
        · exact Or.inr (by have := hJ.1.size; omega)
      · exact hJ.1.trans' (Touch.of_grown hgr) fun k hk => Or.inl (hold.2 k hk.symm)
    · refine RStep.of rfl fun T W hag hJ hd => ?_   -- 10: 21 := Op.nilCheck (Operand.tmp 11)
      have d11 : T.getD 11 undef = _ := hd ⟨0, .data⟩ (by simp) rfl _ rfl
      clear hag hd
      go_simp
      first | exact ⟨_, rfl, rfl⟩ | exact ⟨_, rfl, rfl, hJ, srefl _ _⟩
    · refine RStep.of rfl fun T W hag hJ hd => ?_   -- 11: 22 := Op.fieldAddr 63 (Operand.tmp 21) 2
      have d21 : T.getD 21 undef = _ := hd ⟨10, .data⟩ (by simp) rfl _ rfl
      clear hag hd
      go_simp
      first | exact ⟨_, rfl, rfl⟩ | exact ⟨_, rfl, rfl, hJ, srefl _ _⟩
    · refine RLast.of rfl fun T W hag hJ hd => ?_   -- 12: None := Op.store 61 (Operand.tmp 22) (Operand.tmp 20)
      have d22 : T.getD 22 undef = _ := hd 11 _ (by simp) rfl
      have x20 : RowAt W (fun k => O k = .done ∨ w.heap.size ≤ k) 75 65 (T.getD 20 undef) (N + 1) (encW m.done ++ Wr.cs ⟨r, 65535, List.replicate 64 0⟩) := hd 9 _ (by simp) rfl
      obtain ⟨v, d20⟩ : ∃ v, T.getD 20 undef = v := ⟨_, rfl⟩
      rw [d20] at x20
      obtain ⟨A2, cq, rfl, hc1, hc2⟩ := x20.val
      have hdW : W.heap[hp]? = _ := (hJ.1.block hp HH.out.lt hpn).trans HH.out.hd
      have hnew : DevRaw (W.setCell ⟨hp, 2, none⟩ (.slice A2 (N + 1) cq)) (growO O w.heap.size (.slice A2 (N + 1) cq)) hp { L with sDone := .slice A2 (N + 1) cq } { m with done := m.done ++ [⟨r, 65535, List.replicate 64 0⟩] } := by
        refine HH.out.toDevRaw.push ⟨r, 65535, List.replicate 64 0⟩ (.slice A2 (N + 1) cq) ?_ ?_ ?_
        · exact heap_setCell_same' hdW _
        · intro k hk hne hod
          rw [Below.heap_setCell _ _ _ _ hne]; exact hJ.1.block k hk hod
        · rw [HN.out]
          exact x20.keep fun k hk ho => Below.heap_setCell _ _ _ _ (fun e => by
            subst e
            rcases ho with ho | ho
            · exact hpn ho
            · have := HH.out.lt; omega)
      have htc : Touch (fun k => k = hp ∨ O k = .done) w (W.setCell ⟨hp, 2, none⟩ (.slice A2 (N + 1) cq)) := Touch.setCell (F := fun k => k = hp ∨ O k = .done) (hJ.1.mono fun k _ h => Or.inr h) (p := ⟨hp, 2, none⟩) (Or.inl rfl) _
      have HM := Lib.hid (And.intro htc (And.intro (fun k hk => x20.2 k hk : ∀ k, (Value.slice A2 (N + 1) cq).ownBlock = some k → O k = .done ∨ w.heap.size ≤ k) hnew))
      have c2 : W.cell? ⟨hp, 2, none⟩ = some L.sDone := blk_cell hdW 2
      have f2 : W.frozen? ⟨hp, 2, none⟩ = false := blk_free hdW 2
      have d20' := d20
      have d22' := d22
      rw [Array.getD_eq_getD_getElem?] at d20' d22'
      have HAG := Lib.hid hag
      clear hag hd hdW hnew htc x20
      go_simp
      obtain ⟨f, hf, hT⟩ := agree_fn HAG.out
      generalize (W.setCell ⟨hp, 2, none⟩ (.slice A2 (N + 1) cq)) = W2 at *
      clear HAG hf d20 d22 d20' d22' c2 f2
      rw [hT]
      clear hT
      simp only [List.filterMap_cons, List.filterMap_nil, List.foldl_cons, List.foldl_nil, List.setIfInBounds_toArray, List.set_cons_succ, List.set_cons_zero]
      rename_i hJc hKc
      refine hKc _ _ (hJc _ _ ?_)
      repeat apply Exists.intro
      exact ⟨⟨_, rfl, HM.out⟩, rfl⟩
  case rest =>
    obtain ⟨v, rfl, hT3, hv3, hd3⟩ := hcut
    obtain ⟨w3, rfl⟩ : ∃ w3, w3 = wc := ⟨wc, rfl⟩
    have hd4 : DevAt w3 (growO O w.heap.size v) hp { L with sDone := v } { m with done := m.done ++ [⟨r, 65535, List.replicate 64 0⟩] } := ⟨hd3, HH.out.ok.tell HR.out⟩
    have hset := Lib.hid (settle_any hd4 r HR.out (by show (m.done ++ _).length ≤ _; rw [List.length_append, HN.out]; simp; omega) 35 #[] (fun _ => true) (fun args W => run_enter Try.func35 (by kernel_rfl) rfl args W) (fun W n _ _ => barrierOne_any W n))
    have HT3 := Lib.hid hT3
    have HV3 := Lib.hid hv3
    have HD4 := Lib.hid hd4
    clear hT3 hv3 hd3 hd4
    go_wp2_with fail
    refine hset.out.mono ?_
    rintro e w4 ⟨rfl, hd5, ht5⟩
    have HM := Lib.hid (And.intro hd5 ht5)
    clear hd5 ht5
    go_wp2
    go_ret
    refine ⟨rfl, fun k => growO O w.heap.size v k ≠ .none, ⟨_, _, HM.out.1, fun k => Iff.rfl, fun k hk => ?_⟩, ?_, fun k hk => ?_⟩
    · have h1 := HM.out.2.size
      have h2 := HT3.out.size
      rcases growO_some hk with h3 | ⟨h3, h4⟩
      · have := HO.out k h3; omega
      · have := (HD4.out.done.1.lt k h4).2; omega
    · refine (HT3.out.mono fun k _ hk => ?_).trans' HM.out.2 fun k hk => ?_
      · rcases hk with rfl | hk
        · exact (HF.out _).2 (by rw [HH.out.ohd]; simp)
        · exact (HF.out k).2 (by rw [hk]; simp)
      · have hk' : growO O w.heap.size v k ≠ .none := by rcases hk with hk | hk <;> rw [hk] <;> simp
        rcases growO_some hk' with h3 | ⟨h3, h4⟩
        · exact Or.inl ((HF.out k).2 h3)
        · exact Or.inr h3
    · rcases growO_some hk with h3 | ⟨h3, h4⟩
      · exact Or.inl ((HF.out k).2 h3)
      · exact Or.inr h3
end Go.Proofs.Ytocmjbfbjiinhaa
