/- Contract: node.appendNumber (bytes appended to a Block's own body). -/
import Derived.Test.YtcmmopngjeonfaaGd
import Derived.ArgAppend
namespace Go.Proofs.Ytcmmopngjeonfaa
open Go.ChangeShapes Go.WideShapes Go.ChangeAt Go.RowKit
set_option linter.unusedVariables false
/-- Bytes, and noughts behind them, as a body. -/
def pad (ys : List Int) : List Int := ys ++ List.replicate (56 - ys.length) 0
theorem pad_len {ys : List Int} (h : ys.length ≤ 56) : (pad ys).length = 56 := by unfold pad; simp; omega
theorem pad_nil : pad [] = zBs := rfl
theorem pad_allB {ys : List Int} (h : AllB ys) : AllB (pad ys) := AllB.append h fun x hx => by rw [List.eq_of_mem_replicate hx]; omega
theorem pad_set {ys : List Int} {y : Int} (h : ys.length < 56) : (pad ys).set ys.length y = pad (ys ++ [y]) := by
  unfold pad
  rw [List.length_append, List.length_singleton, show 56 - ys.length = (56 - (ys.length + 1)) + 1 by omega, List.replicate_succ, List.set_append_right _ _ (Nat.le_refl _)]
  simp
theorem be_at (n : Nat) : ∀ (s i : Nat), i < s → (be n s)[i]? = some ((n / 256 ^ (s - 1 - i) % 256 : Nat) : Int)
  | 0, i, h => absurd h (by omega)
  | s + 1, 0, h => by simp [be]
  | s + 1, i + 1, h => by
    show (be n s)[i]? = _
    rw [be_at n s i (by omega), show s + 1 - 1 - (i + 1) = s - 1 - i by omega]
theorem setCells_one (w : World) (b o : Nat) (u : Value) : w.setCells b o [u] = w.setCell ⟨b, o, none⟩ u := by
  simp [World.setCells]
theorem run_app_room1 (w : World) (ty : TypeId) (g : Nat) (k : Int) (ys : List Int) (y : Int) (a : Addr) (hg : w.heap[g]? = some (.cells (blkA k (pad ys)) 29 (0, 0))) (hl : ys.length < 56) (ha : w.cell? a = some (.int .u8 y)) :
    (Builtin.append_ #[41, 41] ty #[.slice (some ⟨g, 1, none⟩) ys.length 56, .slice (some a) 1 1]).run Try.prog w = .ok (.slice (some ⟨g, 1, none⟩) (ys.length + 1) 56) (w.setCell ⟨g, 1 + ys.length, none⟩ (.int .u8 y)) := by
  obtain ⟨i0, hi, hz0, hz1, hz2⟩ := info_parts info5
  have hp := pad_len (ys := ys) (by omega)
  have h := run_append_room_cells (P := Try.prog) w 41 ty 5 i0 Try.underlying41 hi g 1 ys.length 56 a 1 1 [.int .u8 y] (by rw [hz1]; rfl)
    (fun j u hj => by
      match j, hj with
      | 0, hj => injection hj with hj; subst hj; unfold Addr.add; simpa using ha) (fun u hu => by simp only [List.mem_singleton] at hu; subst hu; rfl) (by omega)
    (fun j hj => by
      simp only [List.length_singleton] at hj
      rw [hz1, blk_cell hg, Array.getElem?_eq_getElem (by rw [blkA_size hp]; omega)]; rfl)
    (fun j hj => blk_free hg _)
  rw [hz1, Nat.mul_one, setCells_one] at h
  exact h
theorem wpList_app_room1 {ops : Array Oper} {rest : List Oper} {o : Oper} {ac : Act} {w : World} {Q : Exit → Act → World → Prop} (hgd : o.guard = none) (s x : Operand)
    (ho : o.op = .call { callee := .builtin .append, args := #[s, x], argTypes := #[41, 41] })
    (g : Nat) (k : Int) (n : Nat) (ys : List Int) (y : Int) (a : Addr) (hn : ys.length = n) (hs : ac.eval s = .slice (some ⟨g, 1, none⟩) n 56) (hx : ac.eval x = .slice (some a) 1 1) (hg : w.heap[g]? = some (.cells (blkA k (pad ys)) 29 (0, 0))) (hl : n < 56) (ha : w.cell? a = some (.int .u8 y))
    (h : ∀ w', w'.heap[g]? = some (.cells (blkA k (pad (ys ++ [y]))) 29 (0, 0)) → w.grownBy w' (some g) → wpList Try.prog ops Q rest (ac.put o.dst (.slice (some ⟨g, 1, none⟩) (n + 1) 56)) w') : wpList Try.prog ops Q (o :: rest) ac w :=
  wpList_plain hgd fun _ hK => by
    subst hn
    have hr := run_app_room1 w o.type g k ys y a hg hl ha
    unfold Oper.wp execOp
    simp only [ho, resolve, invoke, builtin, Sem.run_bind, Sem.run_pure, Result.andThen_ok, List.map_toArray, List.map_cons, List.map_nil, hs, hx, hr]
    refine hK _ _ (h _ ?_ ⟨rfl, rfl, rfl, by simp [World.setCell], fun j _ hj => heap_setCell_other _ _ _ _ (fun e => hj (by simp [e]))⟩)
    rw [heap_setCell_same' hg, blkA_setB, pad_set hl]
theorem grownBy_trans {w w1 w2 : World} {r : Option Nat} (h : w.grownBy w1 r) (h2 : w1.grownBy w2 r) : w.grownBy w2 r :=
  ⟨h2.os.trans h.os, h2.tape.trans h.tape, h2.output.trans h.output, Nat.le_trans h.size h2.size, fun k hk hr => by rw [h2.block k (Nat.lt_of_lt_of_le hk h.size) hr]; exact h.block k hk hr⟩
theorem grownBy_alloc' {w w1 : World} {r : Option Nat} (h : w.grownBy w1 r) (o : Obj) : w.grownBy (w1.alloc o) r :=
  ⟨h.os, h.tape, h.output, by rw [size_alloc']; exact Nat.le_succ_of_le h.size, fun k hk hr => by rw [heap_alloc_old w1 o (Nat.lt_of_lt_of_le hk h.size)]; exact h.block k hk hr⟩
end Go.Proofs.Ytcmmopngjeonfaa
