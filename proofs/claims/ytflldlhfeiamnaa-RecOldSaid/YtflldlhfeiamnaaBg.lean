/- Blocks compared; what is opened of what was sealed. -/
import Derived.Test.YtflldlhfeiamnaaBf
import Derived.Test.YtflldlhfeiamnaaS4
namespace Go.Proofs.Ytflldlhfeiamnaa
open Go.ChangeShapes Go.WideShapes Go.ChangeAt Go.RowKit
set_option linter.unusedVariables false
def u8s (bs : List Int) : List UInt8 := bs.map fun n => UInt8.ofNat n.toNat
theorem Bs_cell {bs : List Int} (h : AllB bs) : Bs bs = (u8s bs).map Extern.Stop.cell := by
  unfold Bs u8s
  rw [List.map_map]
  refine List.map_congr_left fun x hx => ?_
  have hb := h x hx
  simp only [Function.comp_apply, Extern.Stop.cell, UInt8.toNat_ofNat']
  congr 1
  show x = ((x.toNat % 256 : Nat) : Int)
  omega
theorem two_of {α : Type} : ∀ {l : List α}, l.length = 2 → ∃ a b, l = [a, b]
  | [a, b], _ => ⟨a, b, rfl⟩
  | [], h => by cases h
  | [_], h => by cases h
  | _ :: _ :: _ :: _, h => by simp at h
theorem opK_seal (l k : Int) (n : Nat) (bs : List Int) : opK (sealB l k n bs) = k := rfl
theorem opBs_seal {l k : Int} {n : Nat} {bs : List Int} (h : bs.length = 56) : opBs (sealB l k n bs) = bs := by
  show (bs ++ be (sumV (headB l k n bs)) 4).take 56 = bs
  rw [← h]; exact List.take_left
theorem seal_take {l k : Int} {n : Nat} {bs : List Int} (h : bs.length = 56) : (sealB l k n bs).take 60 = headB l k n bs := by
  unfold sealB; rw [← headB_length (l := l) (k := k) (t := n) h]; exact List.take_left
theorem seal_drop {l k : Int} {n : Nat} {bs : List Int} (h : bs.length = 56) : (sealB l k n bs).drop 60 = be (sumV (headB l k n bs)) 4 := by
  unfold sealB; rw [← headB_length (l := l) (k := k) (t := n) h]; exact List.drop_left
theorem opens_iff {l l' k : Int} {n m : Nat} {bs : List Int} (h : bs.length = 56) (hk : 0 ≤ k ∧ k ≤ 7) (hn : n < 200) (hm : m < 200) : Opens l' m (sealB l k n bs) ↔ l' = l ∧ m = n := by
  constructor
  · rintro ⟨_, _, h3⟩
    rw [opK_seal, opBs_seal h, Int.toNat_natCast] at h3
    have e1 : l' = l := by have := congrArg (fun x : List Int => x.getD 1 0) h3; exact this
    have e2 : be m 2 = be n 2 := by have := congrArg (fun x : List Int => (x.drop 2).take 2) h3; exact this
    exact ⟨e1, be2_inj (by omega) (by omega) e2⟩
  · rintro ⟨rfl, rfl⟩
    exact ⟨sealB_length h, by rw [opK_seal]; exact ⟨hk, by omega⟩, by rw [opK_seal, opBs_seal h, Int.toNat_natCast]⟩
theorem opens_turned {l k : Int} {n : Nat} {bs : List Int} (h : bs.length = 56) (hl : 0 ≤ l ∧ l ≤ 255) (hk : 0 ≤ k ∧ k ≤ 7) (hB : AllB bs) {i : Nat} {x y : Int} (hx : (sealB l k n bs)[i]? = some x) (hy : 0 ≤ y ∧ y < 256) (hne : y ≠ x) : ¬ Opens l n ((sealB l k n bs).set i y) := by
  rintro ⟨_, _, h3⟩
  have hi : i < 64 := by rw [← sealB_length (l := l) (k := k) (t := n) h]; exact (List.getElem?_eq_some_iff.1 hx).1
  have hxb := sealB_allB (t := n) hl hk hB x (List.mem_of_getElem? hx)
  have h56 : (opBs ((sealB l k n bs).set i y)).length = 56 := opBs_len (by rw [List.length_set, sealB_length h])
  rw [Int.toNat_natCast] at h3
  have t1 := congrArg (List.take 60) h3
  have t2 := congrArg (List.drop 60) h3
  rw [seal_take h56, List.take_set, seal_take h] at t1
  rw [seal_drop h56, t1] at t2
  by_cases h60 : i < 60
  · have hx' : (headB l k n bs)[i]? = some x := by rw [← seal_take h, List.getElem?_take, if_pos h60]; exact hx
    rw [List.drop_set_of_lt h60, seal_drop h] at t2
    exact hne ((turn_iff hx' hxb hy).1 (be4_inj (sumV_lt _) (sumV_lt _) t2))
  · have e : (headB l k n bs).set i y = headB l k n bs := List.set_eq_of_length_le (by rw [headB_length h]; omega)
    rw [e, ← seal_drop h] at t2
    have := congrArg (fun z : List Int => z[i - 60]?) t2
    simp only [List.getElem?_drop] at this
    rw [show 60 + (i - 60) = i by omega, hx, List.getElem?_set_self (by rw [sealB_length h]; exact hi)] at this
    injection this with this
    exact hne this.symm
theorem eql24 (k j : Int) (bs cs : List Int) (hb : bs.length = 56) (hc : cs.length = 56) (hB : AllB bs) (hC : AllB cs) (w : World) :
    (Op.equalIn 10000 44 (.agg (blkA k bs)) (.agg (blkA j cs))).run Try.prog w = .ok (decide (k = j ∧ bs = cs)) w := by
  have hS : Try.prog.underlying 44 = some (.struct (Try.prog.fieldsOf 44)) := by kernel_rfl
  have hp : Try.prog.stoodInHeld 44 = false := by kernel_rfl
  have u3 := Try.underlying3
  have a3 := Try.isAgg3
  have z3 := Try.sizeOf3
  have a22 := Try.isAgg42
  have z22 := Try.sizeOf42
  rw [show (10000 : Nat) = 9999 + 1 from rfl, run_equalIn_struct w 9999 44 _ _ hS hp]
  clear hS hp
  have p1 : ∀ (k : Int) (bs : List Int) w, bs.length = 56 → (part 42 (blkA k bs) 1).run Try.prog w = .ok (.agg (Bs bs).toArray) w := fun k bs w h => by
    have e : (blkA k bs).extract 1 57 = (Bs bs).toArray := by
      have hl : (Bs bs).length = 56 := by rw [Bs_length, h]
      unfold blkA blkL
      simp [← hl]
    simp [part, a22, z22, e, blkA_size h]
  have p0 : ∀ (k : Int) (bs : List Int) w, (part 3 (blkA k bs) 0).run Try.prog w = .ok (.int .i64 k) w := fun k bs w => by
    simp [part, a3, blkA, blkL]
  have he : ∀ w, (Op.equalIn 9999 42 (.agg (Bs bs).toArray) (.agg (Bs cs).toArray)).run Try.prog w = .ok (decide (bs = cs)) w := fun w => by
    have h := run_equalIn_bytes (P := Try.prog) w 9997 42 5 56 Try.underlying42 Try.underlying5 (fun w => Try.sizeOf5 w) (u8s bs) (u8s cs) (by unfold u8s; simp [hb]) (by unfold u8s; simp [hc])
    rw [← Bs_cell hB, ← Bs_cell hC] at h
    rw [show (9999 : Nat) = 9997 + 2 from rfl, h]
    congr 1
    rw [Bool.eq_iff_iff]
    simp only [beq_iff_eq, decide_eq_true_eq]
    exact ⟨map_byte_inj hB hC, fun h => by rw [h]⟩
  have hf : (Try.prog.fieldsOf 44).toList.map (fun f => (f.name, f.type, f.offset)) = [("Kind", 3, 0), ("Body", 42, 1)] := by kernel_rfl
  revert hf
  generalize (Try.prog.fieldsOf 44).toList = fs
  intro hf
  obtain ⟨f0, f1, rfl⟩ := two_of (show fs.length = 2 by simpa using congrArg List.length hf)
  simp only [List.map_cons, List.map_nil, List.cons.injEq, Prod.mk.injEq, and_true] at hf
  obtain ⟨⟨n0, t0, o0⟩, ⟨n1, t1, o1⟩⟩ := hf
  have q0 : ∀ (k : Int) (bs : List Int) w, (part f0.type (blkA k bs) f0.offset).run Try.prog w = .ok (.int .i64 k) w := fun k bs w => by rw [t0, o0]; exact p0 k bs w
  have q1 : ∀ (k : Int) (bs : List Int) w, bs.length = 56 → (part f1.type (blkA k bs) f1.offset).run Try.prog w = .ok (.agg (Bs bs).toArray) w := fun k bs w h => by rw [t1, o1]; exact p1 k bs w h
  have e0 : ∀ w, (Op.equalIn 9999 f0.type (.int .i64 k) (.int .i64 j)).run Try.prog w = .ok (k == j) w := fun w => by
    rw [t0]; exact run_equalIn_int (P := Try.prog) w 9998 3 .i64 .i64 k j Try.underlying3
  have e1 : ∀ w, (Op.equalIn 9999 f1.type (.agg (Bs bs).toArray) (.agg (Bs cs).toArray)).run Try.prog w = .ok (decide (bs = cs)) w := fun w => by
    rw [t1]; exact he w
  have m0 : f0.name ≠ "_" := by rw [n0]; decide
  have m1 : f1.name ≠ "_" := by rw [n1]; decide
  clear p0 p1 he n0 t0 o0 n1 t1 o1 u3 a3 z3 a22 z22
  simp only [Op.eqFields, if_pos m0, if_pos m1, Sem.run_bind, q0, Result.andThen_ok, e0]
  by_cases hk : k = j
  · subst hk
    by_cases hq : bs = cs
    · subst hq; simp [e1, Sem.run_bind, q1 _ _ _ hb]
    · simp [e1, Sem.run_bind, q1 _ _ _ hb, q1 _ _ _ hc, hq]
  · simp [hk]
end Go.Proofs.Ytflldlhfeiamnaa
