/- Contracts: what does nothing. -/
import Derived.Test.YtocmjbfbjiinhaaV23
namespace Go.Proofs.Ytocmjbfbjiinhaa
open Go.ChangeShapes Go.WideShapes Go.ChangeAt Go.RowKit
set_option linter.unusedVariables false
theorem write_no {w : World} {O : Nat → DRole} {hp : Nat} {L : DLay} {m : DM} (h : DevAt w O hp L m) (r i : Int) (hr : i64 r) (hi : i64 i) (A : Option Addr) (n c : Nat) (hb : hasB m r i = false ∨ n ≠ 64) (hn : n ≤ 1000000) :
    Calls Try.prog 21 #[.pointer (some ⟨hp, 0, none⟩), .int .i64 r, .int .i64 i, .slice A n c] w fun e w' => e = .returned (.bool false) ∧ w = w' := by
  have hB := Lib.hid (hasBlock_any h r i hr hi)
  clear h
  cases hq : hasB m r i
  · rw [hq] at hB
    clear hb hq
    go_enter Try.func21, Try.ntmps21
    go_wp2_with fail
    refine hB.out.mono ?_
    rintro e w' ⟨rfl, rfl⟩
    go_wp2
    go_ret
    exact ⟨rfl, rfl⟩
  · rw [hq] at hB
    have hn64 : n ≠ 64 := by rcases hb with hb | hb; rw [hq] at hb; cases hb; exact hb
    have h1 : ((n : Int) != 64) = true := by rw [bne_iff_ne]; omega
    clear hb hq hn64
    go_enter Try.func21, Try.ntmps21
    go_wp2_with fail
    refine hB.out.mono ?_
    rintro e w' ⟨rfl, rfl⟩
    go_wp2
    go_ret
    exact ⟨rfl, rfl⟩
theorem write_stopped {w : World} {O : Nat → DRole} {hp : Nat} {L : DLay} {m : DM} (h : DevAt w O hp L m) (r i : Int) (hr : i64 r) (hi : i64 i) (A : Option Addr) (c : Nat) (hb : hasB m r i = true) (hst : stopped m = true) :
    Calls Try.prog 21 #[.pointer (some ⟨hp, 0, none⟩), .int .i64 r, .int .i64 i, .slice A 64 c] w fun e w' => e = .returned (.bool true) ∧ w = w' := by
  have hB := Lib.hid (hasBlock_any h r i hr hi)
  have hS := Lib.hid (stopped_any h)
  rw [hb] at hB
  rw [hst] at hS
  clear h hb hst
  go_enter Try.func21, Try.ntmps21
  go_wp2_with fail
  refine hB.out.mono ?_
  rintro e w' ⟨rfl, rfl⟩
  go_wp2_with fail
  refine hS.out.mono ?_
  rintro e w' ⟨rfl, rfl⟩
  go_wp2
  go_ret
  exact ⟨rfl, rfl⟩
theorem write_nil (w : World) (r i : Int) (A : Option Addr) (n c : Nat) :
    Calls Try.prog 21 #[.pointer none, .int .i64 r, .int .i64 i, .slice A n c] w fun e w' => e = .returned (.bool false) ∧ w = w' := by
  go_enter Try.func21, Try.ntmps21
  go_wp2_with fail
  refine (hasBlock_nil _ _ _).mono ?_
  rintro e w' ⟨rfl, rfl⟩
  go_wp2
  go_ret
  exact ⟨rfl, rfl⟩
theorem barrier_no {w : World} {O : Nat → DRole} {hp : Nat} {L : DLay} {m : DM} (h : DevAt w O hp L m) (r : Int) (hr : i64 r) (hb : hasR m r = false) :
    Calls Try.prog 13 #[.pointer (some ⟨hp, 0, none⟩), .int .i64 r] w fun e w' => e = .returned (.bool false) ∧ w = w' := by
  have hB := Lib.hid (hasRegion_any h r hr)
  rw [hb] at hB
  clear h hb
  go_enter Try.func13, Try.ntmps13
  go_wp2_with fail
  refine hB.out.mono ?_
  rintro e w' ⟨rfl, rfl⟩
  go_wp2
  go_ret
  exact ⟨rfl, rfl⟩
theorem barrier_stopped {w : World} {O : Nat → DRole} {hp : Nat} {L : DLay} {m : DM} (h : DevAt w O hp L m) (r : Int) (hr : i64 r) (hb : hasR m r = true) (hst : stopped m = true) :
    Calls Try.prog 13 #[.pointer (some ⟨hp, 0, none⟩), .int .i64 r] w fun e w' => e = .returned (.bool true) ∧ w = w' := by
  have hB := Lib.hid (hasRegion_any h r hr)
  have hS := Lib.hid (stopped_any h)
  rw [hb] at hB
  rw [hst] at hS
  clear h hb hst
  go_enter Try.func13, Try.ntmps13
  go_wp2_with fail
  refine hB.out.mono ?_
  rintro e w' ⟨rfl, rfl⟩
  go_wp2_with fail
  refine hS.out.mono ?_
  rintro e w' ⟨rfl, rfl⟩
  go_wp2
  go_ret
  exact ⟨rfl, rfl⟩
theorem barrier_nil (w : World) (r : Int) : Calls Try.prog 13 #[.pointer none, .int .i64 r] w fun e w' => e = .returned (.bool false) ∧ w = w' := by
  go_enter Try.func13, Try.ntmps13
  go_wp2_with fail
  refine (hasRegion_nil _ _).mono ?_
  rintro e w' ⟨rfl, rfl⟩
  go_wp2
  go_ret
  exact ⟨rfl, rfl⟩
theorem crash_nil (w : World) (A : Option Addr) (n c : Nat) : Calls Try.prog 18 #[.pointer none, .slice A n c] w fun e w' => e = .returned (.tuple #[]) ∧ w = w' := by
  go_enter Try.func18, Try.ntmps18
  go_wp2
  exact bodyPost_ret (results_none rfl _ _ _) rfl ⟨rfl, rfl⟩
theorem copy_nil (w : World) : Calls Try.prog 20 #[.pointer none] w fun e w' => e = .returned (.pointer none) ∧ w = w' := by
  go_enter Try.func20, Try.ntmps20
  go_wp2
  go_ret
  exact ⟨rfl, rfl⟩
theorem new_no (A : Option Addr) (zs : List Int) (c : Nat) (w : World) (hB : AllI zs) (hy : Nts w A zs) (hl : zs.length ≤ 1000000) (hm : mayV zs = false) :
    Calls Try.prog 11 #[.slice A zs.length c] w fun e w' => e = .returned (.tuple #[.pointer none, .bool false]) ∧ w = w' := by
  have hF := Lib.hid (may_any A zs c w hB hy hl)
  rw [hm] at hF
  clear hB hy hm
  generalize zs.length = n at *
  go_enter Try.func11, Try.ntmps11
  go_wp2_with fail
  refine hF.out.mono ?_
  rintro e w' ⟨rfl, rfl⟩
  go_wp2
  go_ret2
  exact ⟨rfl, rfl⟩
/-- A Write, whatever it is. -/
def DM.doWrite (m : DM) (r i : Int) (bs : List Int) : DM := if hasB m r i = true ∧ bs.length = 64 ∧ stopped m = false then m.write r.toNat i.toNat bs else m
def okWrite (m : DM) (r i : Int) (bs : List Int) : Bool := hasB m r i && decide (bs.length = 64)
theorem hasB_row {m : DM} {r i : Int} (h : hasB m r i = true) : ∃ (rn j : Nat) (row : List (List Int)), r = (rn : Int) ∧ i = (j : Int) ∧ m.now[rn]? = some row ∧ j < row.length := by
  unfold hasB hasR at h
  simp only [Bool.and_eq_true, decide_eq_true_eq] at h
  obtain ⟨⟨h1, h2⟩, h3, h4⟩ := h
  refine ⟨r.toNat, i.toNat, m.now[r.toNat]'(by omega), by omega, by omega, List.getElem?_eq_getElem _, ?_⟩
  have : rowLen m.now r.toNat = (m.now[r.toNat]'(by omega)).length := rowLen_of (List.getElem?_eq_getElem _)
  omega
theorem DevStep.refl {w : World} {F : Nat → Prop} {hp : Nat} {m : DM} (h : Dev w F hp m) : DevStep w w F hp m := ⟨F, h, Touch.refl _ _, fun k hk => Or.inl hk⟩
theorem write_any {w : World} {F : Nat → Prop} {hp : Nat} {m : DM} (h : Dev w F hp m) (r i : Int) (hr : i64 r) (hi : i64 i) (A : Option Addr) (bs : List Int) (c : Nat) (hB : AllB bs) (hy : Byt w A bs) (hl : bs.length ≤ 1000000) (hmax : m.done.length ≤ 1000000) :
    Calls Try.prog 21 #[.pointer (some ⟨hp, 0, none⟩), .int .i64 r, .int .i64 i, .slice A bs.length c] w fun e w' => e = .returned (.bool (okWrite m r i bs)) ∧ DevStep w w' F hp (m.doWrite r i bs) := by
  obtain ⟨O, L, h1, h2, h3⟩ := h
  by_cases hb : hasB m r i = true ∧ bs.length = 64
  · have ho : okWrite m r i bs = true := by unfold okWrite; rw [hb.1, hb.2]; rfl
    rw [ho]
    cases hst : stopped m
    · obtain ⟨rn, j, row, rfl, rfl, hrow, hj⟩ := hasB_row hb.1
      have : m.doWrite rn j bs = m.write rn j bs := by unfold DM.doWrite; rw [if_pos ⟨hb.1, hb.2, hst⟩]; rfl
      rw [this, hb.2]
      exact write_yes ⟨O, L, h1, h2, h3⟩ rn j hrow hj A bs c ⟨hb.2, hB⟩ hy hst hmax
    · have : m.doWrite r i bs = m := by unfold DM.doWrite; rw [if_neg (by rw [hst]; simp)]
      rw [this, hb.2]
      refine (write_stopped h1 r i hr hi A c hb.1 hst).mono ?_
      rintro e w' ⟨rfl, rfl⟩
      exact ⟨rfl, DevStep.refl ⟨O, L, h1, h2, h3⟩⟩
  · have ho : okWrite m r i bs = false := by
      unfold okWrite
      cases hq : hasB m r i
      · rfl
      · have : ¬ bs.length = 64 := fun e => hb ⟨hq, e⟩
        simp [this]
    have hd : m.doWrite r i bs = m := by unfold DM.doWrite; rw [if_neg (fun h => hb ⟨h.1, h.2.1⟩)]
    rw [ho, hd]
    refine (write_no h1 r i hr hi A bs.length c ?_ hl).mono ?_
    · cases hq : hasB m r i
      · exact Or.inl rfl
      · exact Or.inr (fun e => hb ⟨hq, e⟩)
    · rintro e w' ⟨rfl, rfl⟩
      exact ⟨rfl, DevStep.refl ⟨O, L, h1, h2, h3⟩⟩
def DM.doBarrier (m : DM) (r : Int) : DM := if hasR m r = true ∧ stopped m = false then m.barrier r.toNat else m
theorem barrier_any {w : World} {F : Nat → Prop} {hp : Nat} {m : DM} (h : Dev w F hp m) (r : Int) (hr : i64 r) (hmax : m.done.length < 1000000) :
    Calls Try.prog 13 #[.pointer (some ⟨hp, 0, none⟩), .int .i64 r] w fun e w' => e = .returned (.bool (hasR m r)) ∧ DevStep w w' F hp (m.doBarrier r) := by
  obtain ⟨O, L, h1, h2, h3⟩ := h
  cases hb : hasR m r
  · have hd : m.doBarrier r = m := by unfold DM.doBarrier; rw [hb, if_neg (by simp)]
    rw [hd]
    refine (barrier_no h1 r hr hb).mono ?_
    rintro e w' ⟨rfl, rfl⟩
    exact ⟨rfl, DevStep.refl ⟨O, L, h1, h2, h3⟩⟩
  · cases hst : stopped m
    · have hd : m.doBarrier r = m.barrier r.toNat := by unfold DM.doBarrier; rw [hb, hst, if_pos (by simp)]
      rw [hd]
      have hb' := hb
      unfold hasR at hb'
      simp only [Bool.and_eq_true, decide_eq_true_eq] at hb'
      obtain ⟨rn, rfl⟩ : ∃ rn : Nat, r = (rn : Int) := ⟨r.toNat, by omega⟩
      exact barrier_yes ⟨O, L, h1, h2, h3⟩ rn (by omega) hst hmax
    · have hd : m.doBarrier r = m := by unfold DM.doBarrier; rw [hst, if_neg (by simp)]
      rw [hd]
      refine (barrier_stopped h1 r hr hb hst).mono ?_
      rintro e w' ⟨rfl, rfl⟩
      exact ⟨rfl, DevStep.refl ⟨O, L, h1, h2, h3⟩⟩
/-- What Read answers. -/
def ReadAns (m : DM) (r i : Int) (w0 : World) (v : Value) (w : World) : Prop :=
  (hasB m r i = false ∧ v = .tuple #[.slice none 0 0, .bool false]) ∨
  (hasB m r i = true ∧ ∃ (q : Nat) (b : List Int), (m.now.getD r.toNat [])[i.toNat]? = some b ∧ BlkOk b ∧ v = .tuple #[.slice (some ⟨q, 0, none⟩) 64 64, .bool true] ∧ w0.heap.size ≤ q ∧ w.heap[q]? = some (.cells (Bs b).toArray 73 (0, 0)))
theorem read_any {w : World} {F : Nat → Prop} {hp : Nat} {m : DM} (h : Dev w F hp m) (r i : Int) (hr : i64 r) (hi : i64 i) :
    Calls Try.prog 26 #[.pointer (some ⟨hp, 0, none⟩), .int .i64 r, .int .i64 i] w fun e w' => (∃ v, e = .returned v ∧ ReadAns m r i w v w') ∧ Below w.heap.size w w' := by
  obtain ⟨O, L, h1, h2, h3⟩ := h
  cases hb : hasB m r i
  · refine (read_no h1 r i hr hi hb).mono ?_
    rintro e w' ⟨rfl, rfl⟩
    exact ⟨⟨_, rfl, Or.inl ⟨hb, rfl⟩⟩, Below.refl _ _⟩
  · obtain ⟨rn, j, row, rfl, rfl, hrow, hj⟩ := hasB_row hb
    obtain ⟨b, hbk⟩ : ∃ b, row[j]? = some b := ⟨_, List.getElem?_eq_getElem hj⟩
    refine (read_yes h1 rn j hrow hbk).mono ?_
    rintro e w' ⟨⟨q, rfl, hq, hc⟩, hbel⟩
    refine ⟨⟨_, rfl, Or.inr ⟨hb, q, b, ?_, (h1.ok.rows _ _ hrow).2 b (List.mem_of_getElem? hbk), rfl, hq, hc⟩⟩, hbel⟩
    rw [Int.toNat_natCast, Int.toNat_natCast, List.getD, hrow]
    exact hbk
end Go.Proofs.Ytocmjbfbjiinhaa
