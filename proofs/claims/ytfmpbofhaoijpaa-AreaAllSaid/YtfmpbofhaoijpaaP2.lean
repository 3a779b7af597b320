/- Contract: a config made out of numbers. -/
import Derived.Test.YtfmpbofhaoijpaaP1
import Derived.Deep.DeepCutAuto
namespace Go.Proofs.Ytfmpbofhaoijpaa
open Go.ChangeShapes Go.WideShapes Go.ChangeAt Go.RowKit
set_option linter.unusedVariables false
/-- The choices are at hand, and all else stands. -/
def PW (w0 : World) (pb : Nat) (A : Option Addr) (bs : List Int) (c : Nat) (W : World) : Prop := (∃ nn, PickAt W pb A bs c nn) ∧ w0.grownBy W (some pb)
section
variable {w0 W W' : World} {pb : Nat} {A : Option Addr} {bs : List Int} {c nn : Nat}
theorem PickAt.lt (h : PickAt W pb A bs c nn) : pb < W.heap.size := by
  rcases Nat.lt_or_ge pb W.heap.size with h1 | h1
  · exact h1
  · have := h.blk; rw [Array.getElem?_eq_none h1] at this; cases this
theorem PW.grown (h : PW w0 pb A bs c W) (hg : W.grownBy W' none) : PW w0 pb A bs c W' := by
  obtain ⟨⟨nn, hp⟩, hg0⟩ := h
  have hg1 : W.grownBy W' (some pb) := ⟨hg.os, hg.tape, hg.output, hg.size, fun k hk _ => hg.block k hk (by simp)⟩
  exact ⟨⟨nn, (hg.block pb hp.lt (by simp)).trans hp.blk, byt_grown hp.byt hg1 hp.far, hp.far, hp.le⟩, hg0.trans hg1⟩
theorem PW.alloc (h : PW w0 pb A bs c W) (o : Obj) : PW w0 pb A bs c (W.alloc o) := h.grown (World.grownBy_alloc W o none)
theorem PW.drew (h : PW w0 pb A bs c W) : PW w0 pb A bs c W.drew := h.grown ⟨rfl, rfl, rfl, Nat.le_refl _, fun _ _ _ => rfl⟩
theorem PW.num (h : PW w0 pb A bs c W) (hp : PickAt W' pb A bs c nn) (hg : W.grownBy W' (some pb)) : PW w0 pb A bs c W' := ⟨⟨nn, hp⟩, h.2.trans hg⟩
theorem PW.lt (h : PW w0 pb A bs c W) : pb < W.heap.size := by obtain ⟨⟨nn, hp⟩, _⟩ := h; exact hp.lt
theorem pw_num (m : Nat) (h : PW w0 pb A bs c W) (hl : bs.length ≤ 60) (hB : AllB bs) (hm : 0 < m) (hm2 : m ≤ 100) :
    Calls Try.prog 14 #[.pointer (some ⟨pb, 0, none⟩), .int .i64 m] W fun e w' => ∃ r : Nat, e = .returned (.int .i64 r) ∧ r < m ∧ PW w0 pb A bs c w' ∧ W.grownBy w' (some pb) := by
  obtain ⟨⟨nn, hp⟩, hg0⟩ := h
  refine (num_any pb A bs c nn m W hp hl hB hm hm2).mono ?_
  rintro e w' ⟨r, nn', rfl, hr, hp', hg⟩
  exact ⟨r, rfl, hr, ⟨⟨nn', hp'⟩, hg0.trans hg⟩, hg⟩
end
def tabT : Array Value := #[.int .i64 8, .int .i64 20, .int .i64 40, .int .i64 4, .int .i64 100]
def tabV (r : Nat) : Int := [8, 20, 40, 4, 100].getD r 0
theorem tab_at {r : Nat} (h : r < 5) : (#[.int .i64 8, .int .i64 20, .int .i64 40, .int .i64 4, .int .i64 100] : Array Value)[r]? = some (.int .i64 (tabV r)) := by
  have : r = 0 ∨ r = 1 ∨ r = 2 ∨ r = 3 ∨ r = 4 := by omega
  rcases this with rfl | rfl | rfl | rfl | rfl <;> rfl
theorem tab_in (r : Nat) (h : r < 5) : 4 ≤ tabV r ∧ tabV r ≤ 200 := by
  have : r = 0 ∨ r = 1 ∨ r = 2 ∨ r = 3 ∨ r = 4 := by omega
  rcases this with rfl | rfl | rfl | rfl | rfl <;> decide
theorem tab_new {X W' : World} {pb : Nat} (hg : (X.alloc (Obj.cells #[.int .i64 8, .int .i64 20, .int .i64 40, .int .i64 4, .int .i64 100] 3)).grownBy W' (some pb)) (h : pb < X.heap.size) :
    W'.heap[X.heap.size]? = some (.cells #[.int .i64 8, .int .i64 20, .int .i64 40, .int .i64 4, .int .i64 100] 3 (0, 0)) :=
  (hg.block X.heap.size (by simp) (fun e => by injection e; omega)).trans (heap_alloc_new X _)
theorem tab_newD {X W' : World} {pb : Nat} (hg : (X.alloc (Obj.cells #[.int .i64 8, .int .i64 20, .int .i64 40, .int .i64 4, .int .i64 100] 3)).drew.grownBy W' (some pb)) (h : pb < X.heap.size) :
    W'.heap[X.heap.size]? = some (.cells #[.int .i64 8, .int .i64 20, .int .i64 40, .int .i64 4, .int .i64 100] 3 (0, 0)) :=
  (hg.block X.heap.size (by simp) (fun e => by injection e; omega)).trans (heap_alloc_new X _)
theorem tab_keep {W W' : World} {pb tb : Nat} {C : Array Value} (ht : W.heap[tb]? = some (.cells C 3 (0, 0))) (hg : W.grownBy W' (some pb)) (hne : tb ≠ pb) : W'.heap[tb]? = some (.cells C 3 (0, 0)) :=
  (hg.block tb (by
    rcases Nat.lt_or_ge tb W.heap.size with h1 | h1
    · exact h1
    · rw [Array.getElem?_eq_none h1] at ht; cases ht) (fun e => by injection e; omega)).trans ht
end Go.Proofs.Ytfmpbofhaoijpaa
