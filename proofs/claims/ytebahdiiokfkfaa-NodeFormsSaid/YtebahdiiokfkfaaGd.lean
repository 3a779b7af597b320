/- Contract: node.May. -/
import Derived.Test.YtebahdiiokfkfaaGc
import Derived.Test.YtebahdiiokfkfaaSf
namespace Go.Proofs.Ytebahdiiokfkfaa
open Go.ChangeShapes Go.WideShapes Go.ChangeAt Go.RowKit
set_option linter.unusedVariables false
def none5 : List Int := [-1, -1, -1, -1, -1]
/-- May a node be? -/
def MayN (k : Int) (n : Nd) : Prop := (1 ≤ n.g ∧ 0 ≤ n.l ∧ n.l ≤ 1000) ∧ ((k = 1 ∧ (0 ≤ n.s ∧ n.s ≤ 1120) ∧ n.t = [] ∧ PlM n.ps) ∨ (k = 2 ∧ n.l ≤ 1 ∧ n.s = 0 ∧ n.t = [] ∧ n.ps = none5) ∨ (k = 3 ∧ TgM n.t ∧ n.s = n.t.length ∧ n.ps = none5))
instance (k : Int) (n : Nd) : Decidable (MayN k n) := by unfold MayN; infer_instance
theorem str_nil {t : List Int} (h : AllB t) : ((strOfNums t).toList == ([] : List UInt8)) = decide (t = []) := by
  have e : (strOfNums []).toList = ([] : List UInt8) := by rw [strOfNums_toList]; rfl
  rw [← e]; exact str_beq h (fun x hx => by cases hx)
theorem guard5 : Try.prog.eqGuardType Try.prog.depth 41 = false := by kernel_rfl
theorem wpList_eql5 {ops : Array Oper} {rest : List Oper} {o : Oper} {a : Act} {w : World} {Q : Exit → Act → World → Prop} (hgd : o.guard = none) (x y : Operand) (t : TypeId) (ho : o.op = .binOp .eql 41 x y t) (n : Nd) (hx : a.eval x = .agg (plA n)) (hy : a.eval y = .agg #[.int .i64 (-1), .int .i64 (-1), .int .i64 (-1), .int .i64 (-1), .int .i64 (-1)])
    (h : wpList Try.prog ops Q rest (a.put o.dst (.bool (decide (n.ps = none5)))) w) : wpList Try.prog ops Q (o :: rest) a w :=
  wpList_plain hgd fun _ hK => by
    have hg := run_eqGuard_agg (P := Try.prog) w .eql 41 x y (plA n) #[.int .i64 (-1), .int .i64 (-1), .int .i64 (-1), .int .i64 (-1), .int .i64 (-1)] guard5
    have hr := eq5_any n w
    unfold Oper.wp execOp
    simp only [ho, hx, hy, Sem.run_bind, hg, hr, Result.andThen_ok]
    exact hK _ _ h
set_option maxRecDepth 100000 in
set_option maxHeartbeats 6400000 in
theorem may_any (k : Int) (n : Nd) (w : World) (hn : NdOk n) : Calls Try.prog 11 #[.int .i64 k, .agg (ndA n)] w fun e w' => e = .returned (.bool (decide (MayN k n))) ∧ Below w.heap.size w w' := by
  have HN := Lib.hid (NdAt.new w n)
  have HB := Lib.hid (bel1 (w := w) (Obj.cells (ndA n) 25))
  have hs := str_nil hn.t
  have HP := Lib.hid (toplaces_any n)
  have HM := Lib.hid (placesmay_any n)
  have HT := Lib.hid (fun w => targetmay_any n.t w hn.t)
  have HZ := Lib.hid noplaces_any
  have hsz := strOfNums_size n.t
  have hL := Lib.hid hn.l
  go_enter Try.func11, Try.ntmps11
  go_wp2_with fail
  obtain ⟨c0, c1, c2, c7, c8⟩ := HN.out.cells
  generalize w.alloc (Obj.cells (ndA n) 25) = W at *
  refine wp_scope_fwd' [1, 2, 3, 4, 0] fun F here on => ?_
  have HH := Lib.hid here
  have HO := Lib.hid on
  clear here on
  have HTN : Hid (∀ b, decide (n.t = []) = b → (n.t = [] ↔ b = true)) := fun b h => by subst h; simp
  generalize hbt : decide (n.t = []) = bt at hs
  have HTB := Lib.hid (HTN.out bt hbt)
  clear hbt HTN c7
  have HL1 := Lib.hid (show (decide (MayN k n)) = decide ((1 ≤ n.g ∧ 0 ≤ n.l ∧ n.l ≤ 1000) ∧ ((k = 1 ∧ (0 ≤ n.s ∧ n.s ≤ 1120) ∧ n.t = [] ∧ PlM n.ps) ∨ (k = 2 ∧ n.l ≤ 1 ∧ n.s = 0 ∧ n.t = [] ∧ n.ps = none5) ∨ (k = 3 ∧ TgM n.t ∧ n.s = n.t.length ∧ n.ps = none5))) from rfl)
  by_cases h1 : n.g < 1
  · have hq := h1
    have HF : Hid (decide (MayN k n) = false) := decide_eq_false fun h => by unfold MayN at h; omega
    go_wp2_with fail
    go_step3
    repeat refine HO.out _ _ _ _ _ (by decide) ?_
    refine HH.out _ _ _ _ _ rfl ?_
    go_wp2_with fail
    simp only [jumps_ret]
    go_ret
    exact ⟨ret_bool HF.out.symm, HB.out⟩
  by_cases h2 : n.l < 0
  · have hq := h2
    have HF : Hid (decide (MayN k n) = false) := decide_eq_false fun h => by unfold MayN at h; omega
    go_wp2_with fail
    go_step3
    repeat refine HO.out _ _ _ _ _ (by decide) ?_
    refine HH.out _ _ _ _ _ rfl ?_
    go_wp2_with fail
    simp only [jumps_ret]
    go_ret
    exact ⟨ret_bool HF.out.symm, HB.out⟩
  by_cases h3 : 1000 < n.l
  · have hq := h3
    have HF : Hid (decide (MayN k n) = false) := decide_eq_false fun h => by unfold MayN at h; omega
    go_wp2_with fail
    go_step3
    repeat refine HO.out _ _ _ _ _ (by decide) ?_
    refine HH.out _ _ _ _ _ rfl ?_
    go_wp2_with fail
    simp only [jumps_ret]
    go_ret
    exact ⟨ret_bool HF.out.symm, HB.out⟩
  by_cases k1 : k = 1
  · subst k1
    by_cases h4 : n.s < 0
    · have hq := h4
      have HF : Hid (decide (MayN 1 n) = false) := decide_eq_false fun h => by unfold MayN at h; omega
      go_wp2_with fail
      go_step3
      repeat refine HO.out _ _ _ _ _ (by decide) ?_
      refine HH.out _ _ _ _ _ rfl ?_
      go_wp2_with fail
      go_step3
      repeat refine HO.out _ _ _ _ _ (by decide) ?_
      refine HH.out _ _ _ _ _ rfl ?_
      go_wp2_with fail
      simp only [jumps_ret]
      go_ret
      exact ⟨ret_bool HF.out.symm, HB.out⟩
    by_cases h5 : 1120 < n.s
    · have hq := h5
      have HF : Hid (decide (MayN 1 n) = false) := decide_eq_false fun h => by unfold MayN at h; omega
      go_wp2_with fail
      go_step3
      repeat refine HO.out _ _ _ _ _ (by decide) ?_
      refine HH.out _ _ _ _ _ rfl ?_
      go_wp2_with fail
      go_step3
      repeat refine HO.out _ _ _ _ _ (by decide) ?_
      refine HH.out _ _ _ _ _ rfl ?_
      go_wp2_with fail
      simp only [jumps_ret]
      go_ret
      exact ⟨ret_bool HF.out.symm, HB.out⟩
    cases bt
    · have hq := h5
      have HF : Hid (decide (MayN 1 n) = false) := decide_eq_false fun h => by have h9 := HTB.out; unfold MayN at h; rcases h.2 with h6 | h6 | h6 <;> simp_all
      go_wp2_with fail
      go_step3
      repeat refine HO.out _ _ _ _ _ (by decide) ?_
      refine HH.out _ _ _ _ _ rfl ?_
      go_wp2_with fail
      go_step3
      repeat refine HO.out _ _ _ _ _ (by decide) ?_
      refine HH.out _ _ _ _ _ rfl ?_
      go_wp2_with fail
      simp only [jumps_ret]
      go_ret
      exact ⟨ret_bool HF.out.symm, HB.out⟩
    have HF : Hid (decide (PlM n.ps) = decide (MayN 1 n)) := by
      have h9 := HTB.out.2 rfl
      unfold Hid; rw [decide_eq_decide]; unfold MayN
      constructor
      · intro h; exact ⟨⟨by omega, by omega, by omega⟩, Or.inl ⟨rfl, ⟨by omega, by omega⟩, h9, h⟩⟩
      · rintro ⟨_, h | h | h⟩
        · exact h.2.2.2
        · exact absurd h.1 (by omega)
        · exact absurd h.1 (by omega)
    go_wp2_with fail
    go_step3
    repeat refine HO.out _ _ _ _ _ (by decide) ?_
    refine HH.out _ _ _ _ _ rfl ?_
    go_wp2_with (refine wpList_loadN rfl (.tmp 3) rfl w.heap.size rfl n HN.out ?_)
    refine (HP.out _).mono ?_; rintro e w1 ⟨rfl, hb1⟩
    have HB1 := Lib.hid (keepB HB.out hb1)
    clear hb1
    go_wp2_with fail
    refine (HM.out _).mono ?_; rintro e w2 ⟨rfl, hb2⟩
    have HB2 := Lib.hid (keepB HB1.out hb2)
    clear hb2
    go_wp2_with fail
    simp only [jumps_ret]
    go_ret
    exact ⟨ret_bool HF.out, HB2.out⟩
  by_cases k2 : k = 2
  · subst k2
    by_cases h4 : 1 < n.l
    · have hq := h4
      have HF : Hid (decide (MayN 2 n) = false) := decide_eq_false fun h => by unfold MayN at h; omega
      go_wp2_with fail
      go_step3
      repeat refine HO.out _ _ _ _ _ (by decide) ?_
      refine HH.out _ _ _ _ _ rfl ?_
      go_wp2_with fail
      go_step3
      repeat refine HO.out _ _ _ _ _ (by decide) ?_
      refine HH.out _ _ _ _ _ rfl ?_
      go_wp2_with fail
      simp only [jumps_ret]
      go_ret
      exact ⟨ret_bool HF.out.symm, HB.out⟩
    by_cases h5 : ¬ n.s = 0
    · have hq := h5
      have HF : Hid (decide (MayN 2 n) = false) := decide_eq_false fun h => by unfold MayN at h; omega
      go_wp2_with fail
      go_step3
      repeat refine HO.out _ _ _ _ _ (by decide) ?_
      refine HH.out _ _ _ _ _ rfl ?_
      go_wp2_with fail
      go_step3
      repeat refine HO.out _ _ _ _ _ (by decide) ?_
      refine HH.out _ _ _ _ _ rfl ?_
      go_wp2_with fail
      simp only [jumps_ret]
      go_ret
      exact ⟨ret_bool HF.out.symm, HB.out⟩
    have h5 : n.s = 0 := by omega
    cases bt
    · have hq := h5
      have HF : Hid (decide (MayN 2 n) = false) := decide_eq_false fun h => by have h9 := HTB.out; unfold MayN at h; rcases h.2 with h6 | h6 | h6 <;> simp_all
      go_wp2_with fail
      go_step3
      repeat refine HO.out _ _ _ _ _ (by decide) ?_
      refine HH.out _ _ _ _ _ rfl ?_
      go_wp2_with fail
      go_step3
      repeat refine HO.out _ _ _ _ _ (by decide) ?_
      refine HH.out _ _ _ _ _ rfl ?_
      go_wp2_with fail
      simp only [jumps_ret]
      go_ret
      exact ⟨ret_bool HF.out.symm, HB.out⟩
    have HF : Hid (decide (n.ps = none5) = decide (MayN 2 n)) := by
      have h9 := HTB.out.2 rfl
      unfold Hid; rw [decide_eq_decide]; unfold MayN
      constructor
      · intro h; exact ⟨⟨by omega, by omega, by omega⟩, Or.inr (Or.inl ⟨rfl, by omega, h5, h9, h⟩)⟩
      · rintro ⟨_, h | h | h⟩
        · exact absurd h.1 (by omega)
        · exact h.2.2.2.2
        · exact absurd h.1 (by omega)
    go_wp2_with fail
    go_step3
    repeat refine HO.out _ _ _ _ _ (by decide) ?_
    refine HH.out _ _ _ _ _ rfl ?_
    go_wp2_with fail
    go_step3
    repeat refine HO.out _ _ _ _ _ (by decide) ?_
    refine HH.out _ _ _ _ _ rfl ?_
    go_wp2_with (refine wpList_loadN rfl (.tmp 3) rfl w.heap.size rfl n HN.out ?_)
    refine (HP.out _).mono ?_; rintro e w1 ⟨rfl, hb1⟩
    have HB1 := Lib.hid (keepB HB.out hb1)
    clear hb1
    go_wp2_with fail
    refine (HZ.out _).mono ?_; rintro e w2 ⟨rfl, hb2⟩
    have HB2 := Lib.hid (keepB HB1.out hb2)
    clear hb2
    go_wp2_with (refine wpList_eql5 rfl (.tmp 67) (.tmp 68) _ rfl n rfl rfl ?_)
    simp only [jumps_ret]
    go_ret
    exact ⟨ret_bool HF.out, HB2.out⟩
  by_cases k3 : k = 3
  · subst k3
    have HLN := Lib.hid hsz
    by_cases h4 : ¬ TgM n.t
    · have HT0 := Lib.hid (decide_eq_false h4)
      rw [HT0.out] at HT
      have HF : Hid (decide (MayN 3 n) = false) := decide_eq_false fun h => by unfold MayN at h; rcases h.2 with h6 | h6 | h6; exact absurd h6.1 (by omega); exact absurd h6.1 (by omega); exact h4 h6.2.1
      clear h4
      go_wp2_with fail
      go_step3
      repeat refine HO.out _ _ _ _ _ (by decide) ?_
      refine HH.out _ _ _ _ _ rfl ?_
      go_wp2_with fail
      refine (HT.out _).mono ?_; rintro e w1 ⟨rfl, rfl⟩
      go_wp2_with fail
      go_step3
      repeat refine HO.out _ _ _ _ _ (by decide) ?_
      refine HH.out _ _ _ _ _ rfl ?_
      go_wp2_with fail
      simp only [jumps_ret]
      go_ret
      exact ⟨ret_bool HF.out.symm, HB.out⟩
    have h4 : TgM n.t := Decidable.not_not.1 h4
    have HT0 := Lib.hid (decide_eq_true h4)
    rw [HT0.out] at HT
    by_cases h5 : ¬ n.s = n.t.length
    · have HF : Hid (decide (MayN 3 n) = false) := decide_eq_false fun h => by unfold MayN at h; rcases h.2 with h6 | h6 | h6; exact absurd h6.1 (by omega); exact absurd h6.1 (by omega); exact h5 h6.2.2.1
      rw [← HLN.out] at h5
      clear h4 hsz HLN HL1 HTB HT0
      have h5a : (n.s != ((strOfNums n.t).size : Int)) = true := by simpa using h5
      clear h5
      go_wp2_with fail
      go_step3
      repeat refine HO.out _ _ _ _ _ (by decide) ?_
      refine HH.out _ _ _ _ _ rfl ?_
      go_wp2_with fail
      refine (HT.out _).mono ?_; rintro e w1 ⟨rfl, rfl⟩
      go_wp2_with fail
      go_step3
      repeat refine HO.out _ _ _ _ _ (by decide) ?_
      refine HH.out _ _ _ _ _ rfl ?_
      go_wp2_with fail
      simp only [jumps_ret]
      go_ret
      exact ⟨ret_bool HF.out.symm, HB.out⟩
    have h5 : n.s = n.t.length := by omega
    have HF : Hid (decide (n.ps = none5) = decide (MayN 3 n)) := by
      unfold Hid; rw [decide_eq_decide]; unfold MayN
      constructor
      · intro h; exact ⟨⟨by omega, by omega, by omega⟩, Or.inr (Or.inr ⟨rfl, h4, h5, h⟩)⟩
      · rintro ⟨_, h | h | h⟩
        · exact absurd h.1 (by omega)
        · exact absurd h.1 (by omega)
        · exact h.2.2.2
    rw [← HLN.out] at h5
    have h5a : (n.s != ((strOfNums n.t).size : Int)) = false := by simpa using h5
    clear h4 hsz h5 HLN HL1 HTB HT0
    go_wp2_with fail
    go_step3
    repeat refine HO.out _ _ _ _ _ (by decide) ?_
    refine HH.out _ _ _ _ _ rfl ?_
    go_wp2_with fail
    refine (HT.out _).mono ?_; rintro e w1 ⟨rfl, rfl⟩
    go_wp2_with fail
    go_step3
    go_wp2_with (refine wpList_loadN rfl (.tmp 3) rfl w.heap.size rfl n HN.out ?_)
    refine (HP.out _).mono ?_; rintro e w1 ⟨rfl, hb1⟩
    have HB1 := Lib.hid (keepB HB.out hb1)
    clear hb1
    go_wp2_with fail
    refine (HZ.out _).mono ?_; rintro e w2 ⟨rfl, hb2⟩
    have HB2 := Lib.hid (keepB HB1.out hb2)
    clear hb2
    go_wp2_with (refine wpList_eql5 rfl (.tmp 67) (.tmp 68) _ rfl n rfl rfl ?_)
    simp only [jumps_ret]
    go_ret
    exact ⟨ret_bool HF.out, HB2.out⟩
  have HF : Hid (decide (MayN k n) = false) := decide_eq_false fun h => by unfold MayN at h; omega
  go_wp2_with fail
  go_step3
  repeat refine HO.out _ _ _ _ _ (by decide) ?_
  refine HH.out _ _ _ _ _ rfl ?_
  go_wp2_with fail
  simp only [jumps_ret]
  go_ret
  exact ⟨ret_bool HF.out.symm, HB.out⟩
end Go.Proofs.Ytebahdiiokfkfaa
