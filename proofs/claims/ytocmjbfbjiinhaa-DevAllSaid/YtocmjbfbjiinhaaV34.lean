/- Two regions of four blocks behind a Crash; texts that keep all. -/
import Derived.Test.YtocmjbfbjiinhaaV33
namespace Go.Proofs.Ytocmjbfbjiinhaa
open Go.ChangeShapes Go.WideShapes Go.ChangeAt Go.RowKit
set_option linter.unusedVariables false
theorem four_dims {m : DM} (hd : dims m = [4, 4]) : Four (nowRow m) := by
  have rows : ∀ r, r < 2 → (nowRow m r).length = 4 := fun r hr => by
    have e1 : (dims m)[r]? = some 4 := by rw [hd]; match r, hr with | 0, _ => rfl | 1, _ => rfl
    unfold dims at e1
    rw [List.getElem?_map] at e1
    unfold nowRow
    rw [List.getD]
    cases hq : m.now[r]? with
    | none => rw [hq] at e1; cases e1
    | some row => rw [hq] at e1; injection e1
  exact ⟨rows 0 (by omega), rows 1 (by omega)⟩
theorem hasB_four {m : DM} (hd : dims m = [4, 4]) {r i : Nat} (hr : r < 2) (hi : i < 4) : hasB m r i = true := by
  have h2 : rowLen m.now r = 4 := by
    rw [rowLen_dims, hd]; match r, hr with | 0, _ => rfl | 1, _ => rfl
  have hl : m.now.length = 2 := by have := congrArg List.length hd; simpa [dims] using this
  unfold hasB hasR
  rw [Int.toNat_natCast, h2, hl]
  simp; omega
theorem get_four {m : DM} (hok : m.Ok) (hd : dims m = [4, 4]) {r i : Nat} (hr : r < 2) (hi : i < 4) : ∃ b, (nowRow m r)[i]? = some b ∧ (m.now.getD (r : Int).toNat [])[(i : Int).toNat]? = some b ∧ BlkOk b := by
  have h4 := (four_dims hd).at_ hr
  obtain ⟨b, hb⟩ : ∃ b, (nowRow m r)[i]? = some b := ⟨_, List.getElem?_eq_getElem (by rw [h4]; exact hi)⟩
  refine ⟨b, hb, by rw [Int.toNat_natCast, Int.toNat_natCast]; exact hb, ?_⟩
  unfold nowRow at hb
  have hl : m.now.length = 2 := by have := congrArg List.length hd; simpa [dims] using this
  obtain ⟨row, hrow⟩ : ∃ x, m.now[r]? = some x := ⟨_, List.getElem?_eq_getElem (by rw [hl]; exact hr)⟩
  rw [List.getD, hrow] at hb
  exact (hok.rows r row hrow).2 b (List.mem_of_getElem? hb)
def k5 : List Int := [255, 255, 255, 255, 255]
theorem k5_bits : ∀ k, k < 40 → bitAt k5 k = true := by decide
theorem k5_ok : AllB k5 := fun x hx => by simp [k5] at hx; omega
theorem K2.all {m : DM} {n : Nat} (h : K2 m n) (hn : n ≤ 40) {r : Nat} (hr : r < 2) : nowRow (m.crash [k5, k5]) r = nowRow m r := by
  refine crash_all h.ok h.told _ (by rw [h.len]; exact hr) fun k hk => ?_
  have h1 := pend_le m r
  have h2 := h.done
  have e : ([k5, k5] : List (List Int)).getD r [] = k5 := by match r, hr with | 0, _ => rfl | 1, _ => rfl
  rw [e]
  exact k5_bits k (by omega)
theorem K2.none {m : DM} {n : Nat} (h : K2 m n) {r : Nat} (hr : r < 2) : nowRow (m.crash []) r = sureRow m r := crash_none h.ok (by rw [h.len]; exact hr)
/-- The texts of a Crash at which all survives. -/
structure Keeps (W : World) (B : Nat) : Prop where
  a : W.heap[B]? = some (.cells (Bs k5).toArray 5 (0, 0))
  b : W.heap[B + 1]? = some (.cells (Bs k5).toArray 5 (0, 0))
  c : W.heap[B + 2]? = some (.cells #[.slice (some ⟨B, 0, none⟩) 5 5, .slice (some ⟨B + 1, 0, none⟩) 5 5] 31 (0, 0))
theorem Keeps.texts {W : World} {B : Nat} (h : Keeps W B) (F : Nat → Prop) (ha : ¬ F B) (hb : ¬ F (B + 1)) (hc : ¬ F (B + 2)) : TxtsF W F (some ⟨B + 2, 0, none⟩) [k5, k5] := fun i bs hi => by
  have hlt := (List.getElem?_eq_some_iff.1 hi).1
  have c3 : ∀ W', Touch F W W' → W'.heap[B + 2]? = some (.cells #[.slice (some ⟨B, 0, none⟩) 5 5, .slice (some ⟨B + 1, 0, none⟩) 5 5] 31 (0, 0)) := fun W' ht => (ht.block _ (room_lt h.c) hc).trans h.c
  match i, hlt, hi with
  | 0, _, hi =>
    injection hi with hi
    subst hi
    refine ⟨_, some ⟨B, 0, none⟩, 5, rfl, fun W' ht => ⟨?_, byt_blk ((ht.block _ (room_lt h.a) ha).trans h.a) (by simp)⟩, k5_ok, Nat.le_refl _, by omega⟩
    rw [Addr.add_mid, blk_cell (c3 W' ht)]; rfl
  | 1, _, hi =>
    injection hi with hi
    subst hi
    refine ⟨_, some ⟨B + 1, 0, none⟩, 5, rfl, fun W' ht => ⟨?_, byt_blk ((ht.block _ (room_lt h.b) hb).trans h.b) (by simp)⟩, k5_ok, Nat.le_refl _, by omega⟩
    rw [Addr.add_mid, blk_cell (c3 W' ht)]; rfl
/-- What is protected there. -/
def PA (g8 B : Nat) : Nat → Prop := fun k => k = g8 ∨ k = B ∨ k = B + 1 ∨ k = B + 2
theorem alloc3 (w : World) (o1 o2 o3 : Obj) : (((w.alloc o1).alloc o2).alloc o3).heap[w.heap.size]? = some o1 ∧ (((w.alloc o1).alloc o2).alloc o3).heap[w.heap.size + 1]? = some o2 ∧ (((w.alloc o1).alloc o2).alloc o3).heap[w.heap.size + 2]? = some o3 ∧ (((w.alloc o1).alloc o2).alloc o3).heap.size = w.heap.size + 3 ∧ Below w.heap.size w (((w.alloc o1).alloc o2).alloc o3) := by
  refine ⟨?_, ?_, ?_, by simp, ((((Below.refl _ _).alloc (Nat.le_refl _) _).alloc (by simp) _).alloc (by simp; omega) _)⟩
  · rw [Below.heap_alloc _ _ _ (by simp; omega)]; exact heap_alloc2_old _ _ _
  · rw [Below.heap_alloc _ _ _ (by simp)]; exact heap_alloc2_new _ _ _
  · have := heap_alloc_new ((w.alloc o1).alloc o2) o3
    simpa using this
end Go.Proofs.Ytocmjbfbjiinhaa
