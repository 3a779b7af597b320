/- Contract: node.Put. -/
import Derived.Test.YtcmmopngjeonfaaGf
import Derived.Test.YtcmmopngjeonfaaSf
import Derived.Lib.BufferWrite
namespace Go.Proofs.Ytcmmopngjeonfaa
open Go.ChangeShapes Go.WideShapes Go.ChangeAt Go.RowKit
set_option linter.unusedVariables false
/-- A node's bytes. -/
def headN (n : Nd) : List Int := (be n.g.toNat 4 ++ be n.l.toNat 2) ++ be n.s.toNat 4
def plB : List Int → List Int
  | [] => []
  | x :: xs => be (x + 1).toNat 2 ++ plB xs
theorem plB_append (xs ys : List Int) : plB (xs ++ ys) = plB xs ++ plB ys := by
  induction xs with
  | nil => rfl
  | cons x xs ih => show be (x + 1).toNat 2 ++ plB (xs ++ ys) = (be (x + 1).toNat 2 ++ plB xs) ++ plB ys; rw [ih, List.append_assoc]
theorem plB_snoc (xs : List Int) (x : Int) : plB (xs ++ [x]) = plB xs ++ be (x + 1).toNat 2 := by rw [plB_append]; show plB xs ++ (be (x + 1).toNat 2 ++ []) = _; rw [List.append_nil]
theorem plB_length : ∀ xs : List Int, (plB xs).length = 2 * xs.length
  | [] => rfl
  | x :: xs => by show (be (x + 1).toNat 2 ++ plB xs).length = _; rw [List.length_append, be_length, plB_length xs, List.length_cons]; omega
theorem plB_allB : ∀ xs : List Int, AllB (plB xs)
  | [] => fun x hx => by cases hx
  | x :: xs => AllB.append (be_allB _ _) (plB_allB xs)
theorem headN_length (n : Nd) : (headN n).length = 10 := by unfold headN; simp [be_length]
theorem headN_allB (n : Nd) : AllB (headN n) := AllB.append (AllB.append (be_allB _ _) (be_allB _ _)) (be_allB _ _)
def frontN (n : Nd) : List Int := headN n ++ plB n.ps ++ [(n.t.length : Int)]
def bytesN (n : Nd) : List Int := frontN n ++ n.t
theorem frontN_length (n : Nd) : (frontN n).length = 21 := by unfold frontN; rw [List.length_append, List.length_append, headN_length, plB_length, ps_len0]; rfl
where ps_len0 : n.ps.length = 5 := rfl
theorem MayN.tl {k : Int} {n : Nd} (h : MayN k n) : n.t.length ≤ 32 := by
  rcases h.2 with h1 | h1 | h1
  · rw [h1.2.2.1]; decide
  · rw [h1.2.2.2.1]; decide
  · exact h1.2.1.1.2
theorem MayN.sz {k : Int} {n : Nd} (h : MayN k n) : 0 ≤ n.s ∧ n.s ≤ 1120 := by
  have ht := h.tl
  rcases h.2 with h1 | h1 | h1 <;> omega
theorem plM_none5' : PlM none5 := by decide
theorem MayN.pl' {k : Int} {n : Nd} (h : MayN k n) : PlM n.ps := by
  rcases h.2 with h1 | h1 | h1
  · exact h1.2.2.2
  · rw [h1.2.2.2.2]; exact plM_none5'
  · rw [h1.2.2.2]; exact plM_none5'
theorem MayN.at_ {k : Int} {n : Nd} (h : MayN k n) {i : Nat} (hi : i < 5) : -1 ≤ n.ps.getD i 0 ∧ n.ps.getD i 0 < 200 := by
  rcases h.pl' i hi with h1 | h1 <;> omega
def putK (k : Int) (n : Nd) : Int := if MayN k n then k else 0
def putBs (k : Int) (n : Nd) : List Int := if MayN k n then pad (bytesN n) else zBs
theorem bytesN_length (n : Nd) : (bytesN n).length = 21 + n.t.length := by unfold bytesN; rw [List.length_append, frontN_length]
theorem bytesN_allB {n : Nd} (h : AllB n.t) (hl : n.t.length ≤ 255) : AllB (bytesN n) := by
  refine AllB.append (AllB.append (AllB.append (headN_allB n) (plB_allB _)) fun x hx => ?_) h
  rw [List.mem_singleton] at hx; subst hx; omega
theorem putBs_len {k : Int} {n : Nd} : (putBs k n).length = 56 := by
  unfold putBs; split
  · rename_i h; have := h.tl; exact pad_len (by rw [bytesN_length]; omega)
  · exact zBs_len
theorem putBs_allB {k : Int} {n : Nd} (ht : AllB n.t) : AllB (putBs k n) := by
  unfold putBs; split
  · rename_i h; have := h.tl; exact pad_allB (bytesN_allB ht (by omega))
  · exact zBs_allB
theorem byteCells_nums {t : List Int} (h : AllB t) : Lib.byteCells (strOfNums t).data.toList = Bs t := by
  rw [strOfNums_data]
  unfold Lib.byteCells Bs
  rw [List.map_map]
  refine List.map_congr_left fun x hx => ?_
  have := h x hx
  simp only [Function.comp_apply, UInt8.toNat_ofNat']
  congr 1
  omega
/-- copy of a string behind the bytes that a body has. -/
theorem run_copyT (w : World) (ty : TypeId) (g : Nat) (k : Int) (ys t : List Int) (hg : w.heap[g]? = some (.cells (blkA k (pad ys)) 29 (0, 0))) (hl : ys.length + t.length ≤ 56) (ht : AllB t) :
    (Builtin.copy_ #[41, 9] ty #[.slice (some ⟨g, 1 + ys.length, none⟩) (56 - ys.length) (56 - ys.length), .string (strOfNums t)]).run Try.prog w = .ok (goInt t.length) (w.setRow g (blkA k (pad (ys ++ t)))) := by
  obtain ⟨i0, hi, hz0, hz1, hz2⟩ := info_parts info5
  have hp := pad_len (ys := ys) (by omega)
  have h := Lib.run_copy_row_string (P := Try.prog) w 41 9 ty 5 g (1 + ys.length) (56 - ys.length) (56 - ys.length) (strOfNums t) (blkA k (pad ys)) 29 Try.underlying41 (by rw [hi]; simp [hz1]) hg (by rw [strOfNums_size]; omega) (by rw [strOfNums_size, blkA_size hp]; omega)
  rw [h, strOfNums_size, byteCells_nums ht]
  congr 2
  rw [blkA_list]
  unfold blkA blkL pad
  congr 1
  simp only [Bs_append, List.length_append]
  rw [show 1 + ys.length = ys.length + 1 by omega, List.take_succ_cons, show ys.length + 1 + t.length = (ys.length + t.length) + 1 by omega, List.drop_succ_cons]
  have e1 : (Bs ys ++ Bs (List.replicate (56 - ys.length) 0)).take ys.length = Bs ys := by rw [List.take_append_of_le_length (by rw [Bs_length]; omega)]; exact List.take_of_length_le (by rw [Bs_length]; omega)
  have e2 : (Bs ys ++ Bs (List.replicate (56 - ys.length) 0)).drop (ys.length + t.length) = Bs (List.replicate (56 - (ys.length + t.length)) 0) := by
    rw [List.drop_append, List.drop_of_length_le (by rw [Bs_length]; omega), List.nil_append, Bs_length, show ys.length + t.length - ys.length = t.length by omega]
    unfold Bs
    rw [← List.map_drop, List.drop_replicate]
    congr 2; omega
  rw [e1, e2]
  simp [List.append_assoc]
end Go.Proofs.Ytcmmopngjeonfaa
