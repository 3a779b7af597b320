/- The same contracts for every label, and the opening test of each law. -/
import Derived.Test.YtlmbkfdpgmmacaaT7
namespace Go.Proofs.Ytlmbkfdpgmmacaa
open Go.ChangeShapes Go.WideShapes Go.ChangeAt Go.RowKit
open Fl
set_option linter.unusedVariables false
def mayV (l c : Int) : Bool := decide (0 ≤ l ∧ l ≤ 3 ∧ 0 ≤ c ∧ c ≤ 15)
def aboveV (l c i j : Int) : Bool := mayV l c && mayV i j && aboveN l.toNat c.toNat i.toNat j.toNat
def lessV (l c i j : Int) : Bool := mayV l c && mayV i j && lessN l.toNat c.toNat i.toNat j.toNat
def joinL (l c i j : Int) : Int := if mayV l c && mayV i j then ((max l.toNat i.toNat : Nat) : Int) else 0
def joinC (l c i j : Int) : Int := if mayV l c && mayV i j then ((c.toNat ||| j.toNat : Nat) : Int) else 0
def meetL (l c i j : Int) : Int := if mayV l c && mayV i j then ((min l.toNat i.toNat : Nat) : Int) else 0
def meetC (l c i j : Int) : Int := if mayV l c && mayV i j then ((c.toNat &&& j.toNat : Nat) : Int) else 0
def putV (l c : Int) : Int := if mayV l c then ((l.toNat * 16 + c.toNat : Nat) : Int) else 0
theorem may_t {l c : Int} (h : mayV l c = true) : ∃ l' c' : Nat, l = l' ∧ c = c' ∧ l' ≤ 3 ∧ c' ≤ 15 := by
  have := of_decide_eq_true h
  exact ⟨l.toNat, c.toNat, by omega, by omega, by omega, by omega⟩
theorem may_f {l c : Int} (h : mayV l c = false) : bad l c := by
  have := of_decide_eq_false h
  unfold bad; omega
theorem may_all (l c : Int) (w : World) (hl : i64 l) (hc : i64 c) :
    Calls Try.prog 44 #[.agg #[.int .i64 l, .int .i64 c]] w fun e w' => e = .returned (.bool (mayV l c)) ∧ Below w.heap.size w w' := by
  cases h : mayV l c
  · exact may_no l c w hl hc (may_f h)
  · obtain ⟨l', c', rfl, rfl, h1, h2⟩ := may_t h
    exact may_yes l' c' w h1 h2
theorem bad2 {l c i j : Int} (h : (mayV l c && mayV i j) = false) : bad l c ∨ bad i j := by
  cases h1 : mayV l c
  · exact Or.inl (may_f h1)
  · rw [h1, Bool.true_and] at h; exact Or.inr (may_f h)
theorem above_all (l c i j : Int) (w : World) (hl : i64 l) (hc : i64 c) (hi : i64 i) (hj : i64 j) :
    Calls Try.prog 25 #[.agg #[.int .i64 l, .int .i64 c], .agg #[.int .i64 i, .int .i64 j]] w fun e w' => e = .returned (.bool (aboveV l c i j)) ∧ Below w.heap.size w w' := by
  unfold aboveV
  cases h : mayV l c && mayV i j
  · rw [Bool.false_and]; exact above_no l c i j w hl hc hi hj (bad2 h)
  · rw [Bool.and_eq_true] at h
    obtain ⟨l', c', rfl, rfl, h1, h2⟩ := may_t h.1
    obtain ⟨i', j', rfl, rfl, g1, g2⟩ := may_t h.2
    exact above_yes l' c' i' j' w h1 h2 g1 g2
theorem less_all (l c i j : Int) (w : World) (hl : i64 l) (hc : i64 c) (hi : i64 i) (hj : i64 j) :
    Calls Try.prog 43 #[.agg #[.int .i64 l, .int .i64 c], .agg #[.int .i64 i, .int .i64 j]] w fun e w' => e = .returned (.bool (lessV l c i j)) ∧ Below w.heap.size w w' := by
  unfold lessV
  cases h : mayV l c && mayV i j
  · rw [Bool.false_and]; exact less_no l c i j w hl hc hi hj (bad2 h)
  · rw [Bool.and_eq_true] at h
    obtain ⟨l', c', rfl, rfl, h1, h2⟩ := may_t h.1
    obtain ⟨i', j', rfl, rfl, g1, g2⟩ := may_t h.2
    exact less_yes l' c' i' j' w h1 h2 g1 g2
theorem put_all (l c : Int) (w : World) (hl : i64 l) (hc : i64 c) :
    Calls Try.prog 32 #[.agg #[.int .i64 l, .int .i64 c]] w fun e w' => e = .returned (.tuple #[.int .u8 (putV l c), .bool (mayV l c)]) ∧ Below w.heap.size w w' := by
  unfold putV
  cases h : mayV l c
  · exact Put_no l c w hl hc (may_f h)
  · obtain ⟨l', c', rfl, rfl, h1, h2⟩ := may_t h
    exact Put_yes l' c' w h1 h2
def takeOk (b : Int) : Bool := decide (b < 64)
def takeL (b : Int) : Int := if takeOk b then b / 16 else 0
def takeC (b : Int) : Int := if takeOk b then b % 16 else 0
theorem take_all (b : Int) (w : World) (h : 0 ≤ b ∧ b < 256) :
    Calls Try.prog 23 #[.int .u8 b] w fun e w' => e = .returned (.tuple #[.agg #[.int .i64 (takeL b), .int .i64 (takeC b)], .bool (takeOk b)]) ∧ Below w.heap.size w w' := by
  unfold takeL takeC
  obtain ⟨n, rfl⟩ : ∃ n : Nat, b = n := ⟨b.toNat, by omega⟩
  cases g : takeOk n
  · have := of_decide_eq_false g
    exact Take_no n w (by omega) (by omega)
  · have := of_decide_eq_true g
    exact Take_yes n w (by omega)
theorem keepB {w W w1 : World} (h : Below w.heap.size w W) (hb : Below W.heap.size W w1) : Below w.heap.size w w1 := h.trans (hb.mono h.size)
theorem keepA {W : World} {a : Addr} {v : Value} (h : W.cell? a = some v) (o : Obj) : (W.alloc o).cell? a = some v := by
  rw [World.cell?_alloc_some W a o (by rw [h]; rfl)]; exact h
end Go.Proofs.Ytlmbkfdpgmmacaa
