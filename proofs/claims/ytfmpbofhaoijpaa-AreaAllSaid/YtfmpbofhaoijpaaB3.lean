/- The law ConfBack: what its walk needs, and Config's contract. -/
import Derived.Test.YtfmpbofhaoijpaaB2
namespace Go.Proofs.Ytfmpbofhaoijpaa
open Go.ChangeShapes Go.WideShapes Go.ChangeAt Go.RowKit
set_option linter.unusedVariables false
/-- Config's contract, as it is to be proved. -/
def ConfigC : Prop := ∀ (pb : Nat) (A : Option Addr) (bs : List Int) (c nn : Nat) (W : World), PickAt W pb A bs c nn → bs.length ≤ 60 → AllB bs →
  Calls Try.prog 7 #[.pointer (some ⟨pb, 0, none⟩), .int .i64 8] W fun e w' => ∃ v cs, e = .returned v ∧ mayConfV cs = true ∧ w'.ownsRow W.heap.size 35 5 v cs.length (cellsL cs) ∧ W.grownBy w' (some pb)
/-- Behind a callee that writes to a fresh block alone. -/
theorem belowG {b : Nat} {w W W' : World} {pb : Nat} (hb : Below b w W) (hg : W.grownBy W' (some pb)) (hp : b ≤ pb) (hs : b ≤ W.heap.size) : Below b w W' := by
  refine hb.trans ⟨hg.os, hg.tape, hg.output, hg.size, fun k hk => hg.block k (by omega) (fun e => by injection e; omega)⟩
theorem may_ok {cs : List Sh} (h : mayConfV cs = true) : ShsOk cs := fun s hs => by
  have := (may_nums (may_each h s hs)).1
  simp only [mayV, decide_eq_true_eq] at this
  simp only [ShOk, i64]
  omega
theorem allB_put {cs : List Sh} (h : mayConfV cs = true) : AllB (putL cs) := fun x hx => by
  have hl := may_len h
  rw [putL_eq h] at hx
  simp only [List.mem_cons, List.mem_flatMap, shB] at hx
  rcases hx with rfl | rfl | rfl | ⟨s, hs, hx⟩
  · omega
  · omega
  · omega
  · obtain ⟨hm, h1, h2, h3, h4, h5, h6⟩ := may_nums (may_each h s hs)
    have hp : 0 ≤ putV s.l s.c ∧ putV s.l s.c < 64 := by
      have h' := hm
      simp only [mayV, decide_eq_true_eq] at h'
      unfold putV
      rw [if_pos hm]
      omega
    simp only [List.not_mem_nil, or_false] at hx
    rcases hx with rfl | rfl | rfl | rfl <;> omega
theorem tkL_put {cs : List Sh} (h : mayConfV cs = true) : tkL (putL cs) = cs ∧ tkE (putL cs) = 0 := by
  unfold tkL tkE; rw [take_put h]; exact ⟨rfl, rfl⟩
theorem tkE_more {cs : List Sh} (h : mayConfV cs = true) (m : Int) : tkE (putL cs ++ [m]) = 1 := by
  unfold tkE; rw [take_more h]; rfl
theorem tkE_cut {cs : List Sh} (h : mayConfV cs = true) {k : Nat} (hk : k < (putL cs).length) : tkE ((putL cs).take k) = 1 := by
  unfold tkE; rw [take_cut h hk]; rfl
end Go.Proofs.Ytfmpbofhaoijpaa
