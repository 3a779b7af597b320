/- Two rows of four strings; numbers' last bits. -/
import Derived.Test.YtocmjbfbjiinhaaV31
import Derived.Test.YtocmjbfbjiinhaaV30
import Derived.Laws.BitsLemmas
namespace Go.Proofs.Ytocmjbfbjiinhaa
open Go.ChangeShapes Go.WideShapes Go.ChangeAt Go.RowKit
set_option linter.unusedVariables false
theorem i64_and1 (n : Int) : bits .and .i64 n 1 = n % 2 := by
  have h1 : (BitVec.ofInt 64 1).toNat = 2 ^ 1 - 1 := by decide
  have key : (BitVec.ofInt 64 n &&& BitVec.ofInt 64 1).toNat = (n % ((2 ^ 64 : Nat) : Int)).toNat % 2 ^ 1 := by
    rw [BitVec.toNat_and, BitVec.toNat_ofInt, h1, Nat.and_two_pow_sub_one_eq_mod]
  show IntKind.i64.wrap ((BitVec.ofInt 64 n &&& BitVec.ofInt 64 1).toNat : Nat) = n % 2
  rw [key, IntKind.wrap_i64]
  omega
theorem i64_and3 (n : Int) : bits .and .i64 n 3 = n % 4 := by
  have h1 : (BitVec.ofInt 64 3).toNat = 2 ^ 2 - 1 := by decide
  have key : (BitVec.ofInt 64 n &&& BitVec.ofInt 64 3).toNat = (n % ((2 ^ 64 : Nat) : Int)).toNat % 2 ^ 2 := by
    rw [BitVec.toNat_and, BitVec.toNat_ofInt, h1, Nat.and_two_pow_sub_one_eq_mod]
  show IntKind.i64.wrap ((BitVec.ofInt 64 n &&& BitVec.ofInt 64 3).toNat : Nat) = n % 4
  rw [key, IntKind.wrap_i64]
  omega
theorem and1_nat (n : Int) : ∃ r : Nat, r < 2 ∧ bits .and .i64 n 1 = (r : Int) := ⟨(n % 2).toNat, by omega, by rw [i64_and1]; omega⟩
theorem and3_nat (n : Int) : ∃ r : Nat, r < 4 ∧ bits .and .i64 n 3 = (r : Int) := ⟨(n % 4).toNat, by omega, by rw [i64_and3]; omega⟩
/-- A row of blocks, as strings. -/
def sv (row : List (List Int)) : List Value := row.map fun b => .string (strOfNums b)
theorem sv_length (row : List (List Int)) : (sv row).length = row.length := by unfold sv; simp
theorem sv_one (row : List (List Int)) : ∀ v ∈ sv row, v.oneCell' = true := fun v hv => by
  obtain ⟨b, _, rfl⟩ := List.mem_map.1 hv; rfl
/-- Two rows. -/
def two (X : Nat → List (List Int)) : List Value := sv (X 0) ++ sv (X 1)
structure Four (X : Nat → List (List Int)) : Prop where
  a : (X 0).length = 4
  b : (X 1).length = 4
theorem Four.at_ {X : Nat → List (List Int)} (h : Four X) {r : Nat} (hr : r < 2) : (X r).length = 4 := by
  match r, hr with
  | 0, _ => exact h.a
  | 1, _ => exact h.b
theorem two_length {X : Nat → List (List Int)} (h : Four X) : (two X).length = 8 := by
  unfold two; rw [List.length_append, sv_length, sv_length, h.a, h.b]
theorem two_congr {X Y : Nat → List (List Int)} (h0 : X 0 = Y 0) (h1 : X 1 = Y 1) : two X = two Y := by unfold two; rw [h0, h1]
theorem two_get {X : Nat → List (List Int)} (h : Four X) {r i : Nat} (hr : r < 2) (hi : i < 4) {b : List Int} (hb : (X r)[i]? = some b) : (two X)[r * 4 + i]? = some (.string (strOfNums b)) := by
  have ha := h.a
  unfold two
  match r, hr with
  | 0, _ =>
    rw [List.getElem?_append_left (by rw [sv_length]; omega)]
    unfold sv
    rw [show 0 * 4 + i = i by omega, List.getElem?_map, hb]; rfl
  | 1, _ =>
    rw [List.getElem?_append_right (by rw [sv_length]; omega), sv_length, ha, show 1 * 4 + i - 4 = i by omega]
    unfold sv
    rw [List.getElem?_map, hb]; rfl
theorem two_set {X Y : Nat → List (List Int)} (h : Four X) {r i : Nat} (hr : r < 2) (hi : i < 4) (b : List Int) (hY : Y r = (X r).set i b) (ho : ∀ k, k ≠ r → Y k = X k) : (two X).set (r * 4 + i) (.string (strOfNums b)) = two Y := by
  have ha := h.a
  unfold two
  match r, hr with
  | 0, _ =>
    rw [hY, ho 1 (by omega), List.set_append_left _ _ (by rw [sv_length]; omega), show 0 * 4 + i = i by omega]
    unfold sv
    rw [List.map_set]
  | 1, _ =>
    rw [hY, ho 0 (by omega), List.set_append_right _ _ (by rw [sv_length]; omega), sv_length, ha, show 1 * 4 + i - 4 = i by omega]
    unfold sv
    rw [List.map_set]
theorem two_splice {X Y : Nat → List (List Int)} (h : Four X) {r : Nat} (hr : r < 2) (hY : (Y r).length = 4) (ho : ∀ k, k ≠ r → Y k = X k) : splice (two X) (r * 4) (sv (Y r)) = two Y := by
  have ha := h.a
  have hb := h.b
  unfold two splice
  match r, hr with
  | 0, _ =>
    rw [ho 1 (by omega)]
    simp [sv_length, hY, ha]
  | 1, _ =>
    rw [ho 0 (by omega)]
    rw [List.take_append_of_le_length (by rw [sv_length]; omega), List.take_of_length_le (by rw [sv_length]; omega), List.drop_eq_nil_of_le (by simp [sv_length, ha, hb, hY])]
    simp
theorem two_row {X : Nat → List (List Int)} (h : Four X) {r : Nat} (hr : r < 2) {j : Nat} {v : Value} (hv : (sv (X r))[j]? = some v) : (two X)[r * 4 + j]? = some v := by
  have hj := (List.getElem?_eq_some_iff.1 hv).1
  rw [sv_length, h.at_ hr] at hj
  have ha := h.a
  unfold two
  match r, hr with
  | 0, _ => rw [List.getElem?_append_left (by rw [sv_length]; omega), show 0 * 4 + j = j by omega]; exact hv
  | 1, _ => rw [List.getElem?_append_right (by rw [sv_length]; omega), sv_length, ha, show 1 * 4 + j - 4 = j by omega]; exact hv
/-- Eight strings, the first k of them set. -/
def upto (k : Nat) (s : ByteArray) : List Value := List.replicate k (.string s) ++ List.replicate (8 - k) (.string .empty)
theorem upto_set (k : Nat) (s : ByteArray) (h : k < 8) : (upto k s).set k (.string s) = upto (k + 1) s := by
  unfold upto
  rw [List.set_append_right _ _ (by simp), List.length_replicate, Nat.sub_self, show 8 - k = (8 - (k + 1)) + 1 by omega, List.replicate_succ, List.set_cons_zero, show k + 1 = k + 1 from rfl, List.replicate_succ', List.append_assoc]
  rfl
theorem upto_length (k : Nat) (s : ByteArray) (h : k ≤ 8) : (upto k s).length = 8 := by unfold upto; simp; omega
theorem upto_two (X : Nat → List (List Int)) (z : List Int) (h0 : X 0 = List.replicate 4 z) (h1 : X 1 = List.replicate 4 z) : upto 8 (strOfNums z) = two X := by
  unfold two sv upto
  rw [h0, h1, List.map_replicate]; simp [List.replicate]
/-- What is so while writes and Barriers are done to two regions of four blocks. -/
structure K2 (m : DM) (n : Nat) : Prop where
  ok : m.Ok
  told : Told m
  dims : dims m = [4, 4]
  stops : m.stops = false
  done : m.done.length ≤ n
theorem K2.len {m : DM} {n : Nat} (h : K2 m n) : m.now.length = 2 := by have := congrArg List.length h.dims; simpa [Go.Proofs.Ytocmjbfbjiinhaa.dims] using this
theorem K2.four {m : DM} {n : Nat} (h : K2 m n) : Four (nowRow m) ∧ Four (sureRow m) := by
  have hl := h.len
  have hd := h.dims
  have rows : ∀ r, r < 2 → (nowRow m r).length = 4 := fun r hr => by
    have e1 : (Go.Proofs.Ytocmjbfbjiinhaa.dims m)[r]? = some 4 := by rw [hd]; match r, hr with | 0, _ => rfl | 1, _ => rfl
    unfold Go.Proofs.Ytocmjbfbjiinhaa.dims at e1
    rw [List.getElem?_map] at e1
    unfold nowRow
    rw [List.getD]
    cases hq : m.now[r]? with
    | none => rw [hq] at e1; cases e1
    | some row => rw [hq] at e1; injection e1
  refine ⟨⟨rows 0 (by omega), rows 1 (by omega)⟩, ?_⟩
  have sr : ∀ r, r < 2 → (sureRow m r).length = 4 := fun r hr => by
    obtain ⟨srow, hs⟩ : ∃ x, m.sure[r]? = some x := ⟨_, List.getElem?_eq_getElem (by rw [h.ok.sureLen, hl]; exact hr)⟩
    obtain ⟨⟨row', h1, h2⟩, _⟩ := h.ok.sures r srow hs
    have := rows r hr
    unfold nowRow at this
    unfold sureRow
    rw [List.getD, hs]
    rw [List.getD, h1] at this
    exact h2.trans this
  exact ⟨sr 0 (by omega), sr 1 (by omega)⟩
theorem K2.hasB {m : DM} {n : Nat} (h : K2 m n) {r i : Nat} (hr : r < 2) (hi : i < 4) : hasB m r i = true := by
  have h2 : rowLen m.now r = 4 := by
    rw [rowLen_dims, h.dims]; match r, hr with | 0, _ => rfl | 1, _ => rfl
  unfold Go.Proofs.Ytocmjbfbjiinhaa.hasB hasR
  rw [Int.toNat_natCast, h2, h.len]
  simp; omega
theorem K2.hasR {m : DM} {n : Nat} (h : K2 m n) {r : Nat} (hr : r < 2) : hasR m r = true := by
  unfold Go.Proofs.Ytocmjbfbjiinhaa.hasR
  rw [h.len]; simp; omega
theorem K2.stopped {m : DM} {n : Nat} (h : K2 m n) : stopped m = false := by unfold Go.Proofs.Ytocmjbfbjiinhaa.stopped; rw [h.stops]; rfl
theorem K2.make : K2 (DM.make [4, 4]) 0 := ⟨DM.make_ok (by decide), Told.make _, by decide, rfl, Nat.le_refl _⟩
theorem K2.write {m : DM} {n : Nat} (h : K2 m n) {r i : Nat} (hr : r < 2) (hi : i < 4) (b : List Int) (hb : BlkOk b) (hok : (m.write r i b).Ok) : m.doWrite r i b = m.write r i b ∧ K2 (m.write r i b) (n + 1) ∧ nowRow (m.write r i b) r = (nowRow m r).set i b ∧ (∀ k, k ≠ r → nowRow (m.write r i b) k = nowRow m k) ∧ ∀ k, sureRow (m.write r i b) k = sureRow m k := by
  refine ⟨?_, ⟨hok, h.told.write h.ok r i b (by omega), (dims_write _ _ _ _).trans h.dims, h.stops, ?_⟩, setAt_row _ _ _ _, fun k hk => setAt_other _ _ _ _ hk, fun k => rfl⟩
  · unfold DM.doWrite
    rw [if_pos ⟨h.hasB hr hi, hb.1, h.stopped⟩]
    rfl
  · show (m.done ++ _).length ≤ _
    have := h.done
    rw [List.length_append]; simp; omega
theorem K2.barrier {m : DM} {n : Nat} (h : K2 m n) {r : Nat} (hr : r < 2) (hok : (m.barrier r).Ok) : m.doBarrier r = m.barrier r ∧ K2 (m.barrier r) (n + 1) ∧ sureRow (m.barrier r) r = nowRow m r ∧ (∀ k, k ≠ r → sureRow (m.barrier r) k = sureRow m k) ∧ ∀ k, nowRow (m.barrier r) k = nowRow m k := by
  have hl : r < m.now.length := by rw [h.len]; exact hr
  obtain ⟨h1, h2, h3, _, _⟩ := barrier_rows h.told h.ok hl
  refine ⟨?_, ⟨hok, h.told.barrier h.ok hl, h.dims, h.stops, ?_⟩, h1, h2, h3⟩
  · unfold DM.doBarrier
    rw [if_pos ⟨h.hasR hr, h.stopped⟩]
    rfl
  · show (m.done ++ _).length ≤ _
    have := h.done
    rw [List.length_append]; simp; omega
end Go.Proofs.Ytocmjbfbjiinhaa
