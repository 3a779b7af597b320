/- Contracts: block.Seal and the reference's. -/
import Derived.Test.YtflldlhfeiamnaaBa
import Derived.Laws.MakeOwn
import Derived.Deep.Onto
namespace Go.Proofs.Ytflldlhfeiamnaa
open Go.ChangeShapes Go.WideShapes Go.ChangeAt Go.RowKit
set_option linter.unusedVariables false
/-- A block as a value: its kind, its body. -/
def blkL (k : Int) (bs : List Int) : List Value := .int .i64 k :: Bs bs
def MayB (k t : Int) : Prop := (0 ≤ k ∧ k ≤ 7) ∧ 0 ≤ t ∧ t < 200
instance (k t : Int) : Decidable (MayB k t) := by unfold MayB; infer_instance
def headB (l k : Int) (t : Nat) (bs : List Int) : List Int := [k, l] ++ be t 2 ++ bs
def sealB (l k : Int) (t : Nat) (bs : List Int) : List Int := headB l k t bs ++ be (sumV (headB l k t bs)) 4
theorem headB_length {l k : Int} {t : Nat} {bs : List Int} (h : bs.length = 56) : (headB l k t bs).length = 60 := by unfold headB; simp [be_length, h]
theorem sealB_length {l k : Int} {t : Nat} {bs : List Int} (h : bs.length = 56) : (sealB l k t bs).length = 64 := by unfold sealB; rw [List.length_append, headB_length h, be_length]
theorem headB_allB {l k : Int} {t : Nat} {bs : List Int} (hl : 0 ≤ l ∧ l ≤ 255) (hk : 0 ≤ k ∧ k ≤ 7) (hB : AllB bs) : AllB (headB l k t bs) := by
  unfold headB
  refine AllB.append (AllB.append (fun x hx => ?_) (be_allB _ _)) hB
  simp only [List.mem_cons, List.not_mem_nil, or_false] at hx
  rcases hx with rfl | rfl <;> omega
theorem sealB_allB {l k : Int} {t : Nat} {bs : List Int} (hl : 0 ≤ l ∧ l ≤ 255) (hk : 0 ≤ k ∧ k ≤ 7) (hB : AllB bs) : AllB (sealB l k t bs) :=
  AllB.append (headB_allB hl hk hB) (be_allB _ _)
theorem add_off (g o i : Nat) : (⟨g, o, none⟩ : Addr).add i = ⟨g, o + i, none⟩ := by unfold Addr.add; split <;> simp_all
/-- The body of a block in memory. -/
theorem byt_body {W : World} {g : Nat} {C : Array Value} {t : TypeId} {fr : Nat × Nat} {k : Int} {bs : List Int} (h : W.heap[g]? = some (.cells C t fr)) (hc : C.toList = blkL k bs) : Byt W (some ⟨g, 1, none⟩) bs := by
  intro i x hi
  refine ⟨_, rfl, ?_⟩
  rw [add_off, cell_of_row _ _ _ _ _ _ h, ← Array.getElem?_toList, hc, Nat.add_comm]
  exact Bs_at hi
theorem blk_kind {W : World} {g : Nat} {C : Array Value} {t : TypeId} {fr : Nat × Nat} {k : Int} {bs : List Int} (h : W.heap[g]? = some (.cells C t fr)) (hc : C.toList = blkL k bs) : W.cell? ⟨g, 0, none⟩ = some (.int .i64 k) := by
  rw [cell_of_row _ _ _ _ _ _ h, ← Array.getElem?_toList, hc]; rfl
end Go.Proofs.Ytflldlhfeiamnaa
