/- The law ConfBack: what its walk needs, and Config's contract. -/
import Derived.Test.YtlmbkfdpgmmacaaB2
namespace Go.Proofs.Ytlmbkfdpgmmacaa
open Go.ChangeShapes Go.WideShapes Go.ChangeAt Go.RowKit
set_option linter.unusedVariables false
/-- Config's contract, as it is to be proved. -/
def ConfigC : Prop := ∀ (pb : Nat) (A : Option Addr) (bs : List Int) (c nn : Nat) (W : World), PickAt W pb A bs c nn → bs.length ≤ 60 → AllB bs →
  Calls Try.prog 20 #[.pointer (some ⟨pb, 0, none⟩), .int .i64 8] W fun e w' => ∃ v cs, e = .returned v ∧ mayConfV cs = true ∧ w'.ownsRow W.heap.size 47 5 v cs.length (cellsL cs) ∧ W.grownBy w' (some pb)
/-- Behind a callee that writes to a fresh block alone. -/
theorem belowG {b : Nat} {w W W' : World} {pb : Nat} (hb : Below b w W) (hg : W.grownBy W' (some pb)) (hp : b ≤ pb) (hs : b ≤ W.heap.size) : Below b w W' := by
  refine hb.trans ⟨hg.os, hg.tape, hg.output, hg.size, fun k hk => hg.block k (by omega) (fun e => by injection e; omega)⟩
theorem may_ok {cs : List Sh} (h : mayConfV cs = true) : ShsOk cs := fun s hs => by
  have := (may_nums (may_each h s hs)).1
  simp only [mayV, decide_eq_true_eq] at this
  simp only [ShOk, i64]
  omega
theorem allB_put {cs : List Sh} (h : mayConfV cs = true) : AllB (putL cs) := fun x hx => by
  have hl := may_len h
  rw [putL_eq h] at hx
  simp only [List.mem_cons, List.mem_flatMap, shB] at hx
  rcases hx with rfl | rfl | rfl | ⟨s, hs, hx⟩
  · omega
  · omega
  · omega
  · obtain ⟨hm, h1, h2, h3, h4, h5, h6⟩ := may_nums (may_each h s hs)
    have hp : 0 ≤ putV s.l s.c ∧ putV s.l s.c < 64 := by
      have h' := hm
      simp only [mayV, decide_eq_true_eq] at h'
      unfold putV
      rw [if_pos hm]
      omega
    simp only [List.not_mem_nil, or_false] at hx
    rcases hx with rfl | rfl | rfl | rfl <;> omega
theorem tkL_put {cs : List Sh} (h : mayConfV cs = true) : tkL (putL cs) = cs ∧ tkE (putL cs) = 0 := by
  unfold tkL tkE; rw [take_put h]; exact ⟨rfl, rfl⟩
theorem tkE_more {cs : List Sh} (h : mayConfV cs = true) (m : Int) : tkE (putL cs ++ [m]) = 1 := by
  unfold tkE; rw [take_more h]; rfl
theorem tkE_cut {cs : List Sh} (h : mayConfV cs = true) {k : Nat} (hk : k < (putL cs).length) : tkE ((putL cs).take k) = 1 := by
  unfold tkE; rw [take_cut h hk]; rfl
/-- Bytes that are no config: refused. -/
theorem take_no (A : Option Addr) (bs : List Int) (n c : Nat) (w : World) (hn : bs.length = n) (hl : n ≤ 1000) (hc : n ≤ c) (hc2 : c ≤ 9223372036854775807) (hB : AllB bs) (hy : Byt w A bs) (ht : tkE bs = 1) :
    Calls Try.prog 9 #[.slice A n c] w fun e w' => ∃ v, e = .returned (.tuple #[v, .int .i64 1]) ∧ Below w.heap.size w w' := by
  subst hn
  refine (take_all2 A bs c w (by omega) hc hc2 hB hy).mono ?_
  rintro e w' ⟨A1, d, rfl, _, hb⟩
  exact ⟨_, by rw [ht], hb⟩
theorem take_yes (A : Option Addr) (cs : List Sh) (n m c : Nat) (w : World) (hm : mayConfV cs = true) (hn : (putL cs).length = n) (hk : cs.length = m) (hl : n ≤ 1000) (hc : n ≤ c) (hc2 : c ≤ 9223372036854775807) (hy : Byt w A (putL cs)) :
    Calls Try.prog 9 #[.slice A n c] w fun e w' => ∃ A d, e = .returned (.tuple #[.slice A m d, .int .i64 0]) ∧ Conf w' A cs ∧ Below w.heap.size w w' := by
  subst hn hk
  refine (take_all2 A (putL cs) c w (by omega) hc hc2 (allB_put hm) hy).mono ?_
  rintro e w' ⟨A1, d, rfl, hcf, hb⟩
  obtain ⟨e1, e2⟩ := tkL_put hm
  rw [e1] at hcf ⊢
  rw [e2]
  exact ⟨_, _, rfl, hcf, hb⟩
end Go.Proofs.Ytlmbkfdpgmmacaa
