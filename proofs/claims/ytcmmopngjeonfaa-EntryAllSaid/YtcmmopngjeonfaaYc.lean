/- Contracts: entry.May, the reference's MayEntry. -/
import Derived.Test.YtcmmopngjeonfaaYb
namespace Go.Proofs.Ytcmmopngjeonfaa
open Go.ChangeShapes Go.WideShapes Go.ChangeAt Go.RowKit
set_option linter.unusedVariables false
/-- May a name be? -/
def MayE (n : En) : Prop := (MayI n.l n.a n.g ∧ NmM n.t) ∧ (1 ≤ n.p ∧ n.p < 200) ∧ 1 ≤ n.n
instance (n : En) : Decidable (MayE n) := by unfold MayE; infer_instance
theorem EnAt.dir {w : World} {p : Nat} {n : En} (h : EnAt w p n) : w.rangeAt p 0 [.int .i64 n.l, .int .i64 n.a, .int .u32 n.g] := fun j v hj => by
  rw [h.cell]
  match j, hj with
  | 0, hj => injection hj with hj; subst hj; rfl
  | 1, hj => injection hj with hj; subst hj; rfl
  | 2, hj => injection hj with hj; subst hj; rfl
section
variable {ops : Array Oper} {rest : List Oper} {o : Oper} {ac : Act} {w : World} {Q : Exit → Act → World → Prop}
theorem wpList_loadDir (hgd : o.guard = none) (x : Operand) (ho : o.op = .load 24 x) (p : Nat) (hx : ac.eval x = .pointer (some ⟨p, 0, none⟩)) (n : En) (hg : EnAt w p n)
    (h : wpList Try.prog ops Q rest (ac.put o.dst (idV n.l n.a n.g)) w) : wpList Try.prog ops Q (o :: rest) ac w :=
  wpList_load_mid hgd 24 x ho p 0 hx _ _ hg.dir Try.underlying24 rfl idsize h
theorem wp_loadDir {K : Act → World → Prop} (x : Operand) (ho : o.op = .load 24 x) (p : Nat) (hx : ac.eval x = .pointer (some ⟨p, 0, none⟩)) (n : En) (hg : EnAt w p n)
    (h : K (ac.put o.dst (idV n.l n.a n.g)) w) : o.wp Try.prog ac w K Q :=
  wp_load_mid 24 x ho p 0 hx _ _ hg.dir Try.underlying24 rfl idsize h
end
set_option maxRecDepth 100000 in
set_option maxHeartbeats 6400000 in
theorem enmay_any (n : En) (w : World) (hn : EnOk n) : Calls Try.prog 13 #[.agg (enA n)] w fun e w' => e = .returned (.bool (decide (MayE n))) ∧ Below w.heap.size w w' := by
  have HN := Lib.hid (EnAt.new w n)
  have HB := Lib.hid (bel1 (w := w) (Obj.cells (enA n) 26))
  have HI := Lib.hid (fun w => imay_any n.l n.a n.g w hn.l hn.a hn.g)
  have HM := Lib.hid (fun w => mayname_any n.t w hn.t)
  go_enter Try.func13, Try.ntmps13
  go_wp2_with fail
  generalize w.alloc (Obj.cells (enA n) 26) = W at *
  refine wp_scope_fwd' [0] fun F here on => ?_
  have HH := Lib.hid here
  clear here on
  by_cases hI : MayI n.l n.a n.g
  · have HDI := Lib.hid (decide_eq_true hI)
    rw [HDI.out] at HI
    by_cases hM : NmM n.t
    · have HDM := Lib.hid (decide_eq_true hM)
      rw [HDM.out] at HM
      have HL : Hid (decide (MayE n) = decide ((1 ≤ n.p ∧ n.p < 200) ∧ 1 ≤ n.n)) := by
        unfold Hid; rw [decide_eq_decide]; unfold MayE; exact ⟨fun h => h.2, fun h => ⟨⟨hI, hM⟩, h⟩⟩
      clear hI hM
      go_wp2_with (refine wpList_loadDir rfl (.tmp 3) rfl w.heap.size rfl n HN.out ?_)
      refine (HI.out _).mono ?_; rintro e w1 ⟨rfl, hb1⟩
      have HN1 := Lib.hid (HN.out.below hb1)
      have HB1 := Lib.hid (keepB HB.out hb1)
      clear hb1 HN HB
      obtain ⟨c3, c4, c5⟩ := HN1.out.cells
      go_wp2_with fail
      refine (HM.out _).mono ?_; rintro e w2 ⟨rfl, rfl⟩
      by_cases h1 : n.p < 1
      · have HF : Hid (decide (MayE n) = false) := HL.out.trans (decide_eq_false (by omega))
        go_wp2_with fail
        go_step3
        refine HH.out _ _ _ _ _ rfl ?_
        go_wp2_with fail
        simp only [jumps_ret]
        go_ret
        exact ⟨ret_bool HF.out.symm, HB1.out⟩
      by_cases h2 : 200 ≤ n.p
      · have HF : Hid (decide (MayE n) = false) := HL.out.trans (decide_eq_false (by omega))
        go_wp2_with fail
        go_step3
        refine HH.out _ _ _ _ _ rfl ?_
        go_wp2_with fail
        simp only [jumps_ret]
        go_ret
        exact ⟨ret_bool HF.out.symm, HB1.out⟩
      by_cases h3 : n.n < 1
      · have HF : Hid (decide (MayE n) = false) := HL.out.trans (decide_eq_false (by omega))
        go_wp2_with fail
        go_step3
        refine HH.out _ _ _ _ _ rfl ?_
        go_wp2_with fail
        simp only [jumps_ret]
        go_ret
        exact ⟨ret_bool HF.out.symm, HB1.out⟩
      have HF : Hid (decide (MayE n) = true) := HL.out.trans (decide_eq_true (by omega))
      go_wp2_with fail
      simp only [jumps_ret]
      go_ret
      exact ⟨ret_bool HF.out.symm, HB1.out⟩
    · have HDM := Lib.hid (decide_eq_false hM)
      rw [HDM.out] at HM
      have HF : Hid (decide (MayE n) = false) := decide_eq_false fun h => hM h.1.2
      clear hI hM
      go_wp2_with (refine wpList_loadDir rfl (.tmp 3) rfl w.heap.size rfl n HN.out ?_)
      refine (HI.out _).mono ?_; rintro e w1 ⟨rfl, hb1⟩
      have HN1 := Lib.hid (HN.out.below hb1)
      have HB1 := Lib.hid (keepB HB.out hb1)
      clear hb1 HN HB
      obtain ⟨c3, c4, c5⟩ := HN1.out.cells
      go_wp2_with fail
      refine (HM.out _).mono ?_; rintro e w2 ⟨rfl, rfl⟩
      go_wp2_with fail
      go_step3
      refine HH.out _ _ _ _ _ rfl ?_
      go_wp2_with fail
      simp only [jumps_ret]
      go_ret
      exact ⟨ret_bool HF.out.symm, HB1.out⟩
  · have HDI := Lib.hid (decide_eq_false hI)
    rw [HDI.out] at HI
    have HF : Hid (decide (MayE n) = false) := decide_eq_false fun h => hI h.1.1
    clear hI
    go_wp2_with (refine wpList_loadDir rfl (.tmp 3) rfl w.heap.size rfl n HN.out ?_)
    refine (HI.out _).mono ?_; rintro e w1 ⟨rfl, hb1⟩
    have HB1 := Lib.hid (keepB HB.out hb1)
    clear hb1 HN HB
    go_wp2_with fail
    go_step3
    refine HH.out _ _ _ _ _ rfl ?_
    go_wp2_with fail
    simp only [jumps_ret]
    go_ret
    exact ⟨ret_bool HF.out.symm, HB1.out⟩
set_option maxRecDepth 100000 in
set_option maxHeartbeats 6400000 in
theorem renmay_any (n : En) (w : World) (hn : EnOk n) (hl : n.t.length ≤ 100) : Calls Try.prog 14 #[.agg (enA n)] w fun e w' => e = .returned (.bool (decide (MayE n))) ∧ Below w.heap.size w w' := by
  have HN := Lib.hid (EnAt.new w n)
  have HB := Lib.hid (bel1 (w := w) (Obj.cells (enA n) 26))
  have HI := Lib.hid (fun w => irmay_any n.l n.a n.g w)
  have HM := Lib.hid (fun w => rmayname_any n.t w hn.t hl)
  have HA := Lib.hid (fun w => mayat_any n.p w)
  go_enter Try.func14, Try.ntmps14
  go_upto_region 1 with fail
  generalize w.alloc (Obj.cells (enA n) 26) = W at *
  by_cases hI : MayI n.l n.a n.g
  · have HDI := Lib.hid (decide_eq_true hI)
    rw [HDI.out] at HI
    by_cases hM : NmM n.t
    · have HDM := Lib.hid (decide_eq_true hM)
      rw [HDM.out] at HM
      by_cases hA : 1 ≤ n.p ∧ n.p < 200
      · have HDA := Lib.hid (decide_eq_true hA)
        rw [HDA.out] at HA
        have HF : Hid (decide (MayE n) = decide (1 ≤ n.n)) := by
          unfold Hid; rw [decide_eq_decide]; unfold MayE; exact ⟨fun h => h.2.2, fun h => ⟨⟨hI, hM⟩, hA, h⟩⟩
        clear hI hM hA
        go_wp2_with (refine wpList_loadDir rfl (.tmp 3) rfl w.heap.size rfl n HN.out ?_)
        refine (HI.out _).mono ?_; rintro e w1 ⟨rfl, hb1⟩
        have HN1 := Lib.hid (HN.out.below hb1)
        have HB1 := Lib.hid (keepB HB.out hb1)
        clear hb1 HN HB
        obtain ⟨c3, c4, c5⟩ := HN1.out.cells
        go_wp2_with fail
        refine (HM.out _).mono ?_; rintro e w2 ⟨rfl, rfl⟩
        go_wp2_with fail
        refine (HA.out _).mono ?_; rintro e w2 ⟨rfl, rfl⟩
        go_wp2_with fail
        go_ret
        exact ⟨ret_bool HF.out.symm, HB1.out⟩
      · have HDA := Lib.hid (decide_eq_false hA)
        rw [HDA.out] at HA
        have HF : Hid (decide (MayE n) = false) := decide_eq_false fun h => hA h.2.1
        clear hI hM hA
        go_wp2_with (refine wpList_loadDir rfl (.tmp 3) rfl w.heap.size rfl n HN.out ?_)
        refine (HI.out _).mono ?_; rintro e w1 ⟨rfl, hb1⟩
        have HN1 := Lib.hid (HN.out.below hb1)
        have HB1 := Lib.hid (keepB HB.out hb1)
        clear hb1 HN HB
        obtain ⟨c3, c4, c5⟩ := HN1.out.cells
        go_wp2_with fail
        refine (HM.out _).mono ?_; rintro e w2 ⟨rfl, rfl⟩
        go_wp2_with fail
        refine (HA.out _).mono ?_; rintro e w2 ⟨rfl, rfl⟩
        go_wp2_with fail
        go_ret
        exact ⟨ret_bool HF.out.symm, HB1.out⟩
    · have HDM := Lib.hid (decide_eq_false hM)
      rw [HDM.out] at HM
      have HF : Hid (decide (MayE n) = false) := decide_eq_false fun h => hM h.1.2
      clear hI hM
      go_wp2_with (refine wpList_loadDir rfl (.tmp 3) rfl w.heap.size rfl n HN.out ?_)
      refine (HI.out _).mono ?_; rintro e w1 ⟨rfl, hb1⟩
      have HN1 := Lib.hid (HN.out.below hb1)
      have HB1 := Lib.hid (keepB HB.out hb1)
      clear hb1 HN HB
      obtain ⟨c3, c4, c5⟩ := HN1.out.cells
      go_wp2_with fail
      refine (HM.out _).mono ?_; rintro e w2 ⟨rfl, rfl⟩
      go_wp2_with fail
      go_ret
      exact ⟨ret_bool HF.out.symm, HB1.out⟩
  · have HDI := Lib.hid (decide_eq_false hI)
    rw [HDI.out] at HI
    have HF : Hid (decide (MayE n) = false) := decide_eq_false fun h => hI h.1.1
    clear hI
    go_wp2_with (refine wpList_loadDir rfl (.tmp 3) rfl w.heap.size rfl n HN.out ?_)
    refine (HI.out _).mono ?_; rintro e w1 ⟨rfl, hb1⟩
    have HB1 := Lib.hid (keepB HB.out hb1)
    clear hb1 HN HB
    go_wp2_with fail
    go_ret
    exact ⟨ret_bool HF.out.symm, HB1.out⟩
end Go.Proofs.Ytcmmopngjeonfaa
