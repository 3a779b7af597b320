/- Contract: conf.Take. -/
import Derived.Test.YtfmpbofhaoijpaaC4
namespace Go.Proofs.Ytfmpbofhaoijpaa
open Go.ChangeShapes Go.WideShapes Go.ChangeAt Go.RowKit
set_option linter.unusedVariables false
/-- At 'refuse'. -/
def AtRefuse (w : World) (bs : List Int) (a : Act) (W : World) : Prop := Below w.heap.size w W ∧ takeV bs = none ∧ ∃ t, a = ⟨t, []⟩ ∧ t.size = 69
def frameS (u : Nat → Value) (A : Option Addr) (m c : Nat) (sv : Value) (r left : Nat) : Array Value := #[.slice A m c, u 1, .slice none 0 0, .int .i64 0, sv, .pointer (some ⟨r, 0, none⟩), u 6, .int .i64 (left : Int), u 8, u 9, u 10, u 11, u 12, u 13, u 14, u 15, u 16, u 17, u 18, u 19, u 20, u 21, u 22, u 23, u 24, u 25, u 26, u 27, u 28, u 29, u 30, u 31, u 32, u 33, u 34, u 35, u 36, u 37, u 38, u 39, u 40, u 41, u 42, u 43, u 44, u 45, u 46, u 47, u 48, u 49, u 50, u 51, u 52, u 53, u 54, u 55, u 56, u 57, u 58, u 59, u 60, u 61, u 62, u 63, u 64, u 65, u 66, u 67, u 68]
def frameE (u : Nat → Value) (A : Option Addr) (m c : Nat) (sv : Value) : Array Value := #[.slice A m c, u 1, .slice none 0 0, .int .i64 0, sv, u 5, u 6, u 7, u 8, u 9, u 10, u 11, u 12, u 13, u 14, u 15, u 16, u 17, u 18, u 19, u 20, u 21, u 22, u 23, u 24, u 25, u 26, u 27, u 28, u 29, u 30, u 31, u 32, u 33, u 34, u 35, u 36, u 37, u 38, u 39, u 40, u 41, u 42, u 43, u 44, u 45, u 46, u 47, u 48, u 49, u 50, u 51, u 52, u 53, u 54, u 55, u 56, u 57, u 58, u 59, u 60, u 61, u 62, u 63, u 64, u 65, u 66, u 67, u 68]
structure InS (w : World) (bs : List Int) (W : World) (A : Option Addr) (m c : Nat) (sv : Value) (r left : Nat) (C : Array Value) (cs : List Sh) (rest : List Int) : Prop where
  hr : w.heap.size ≤ r
  blk : W.heap[r]? = some (.cells C 35 (0, 0))
  sz : C.size = 5
  own : W.ownsRow w.heap.size 35 5 sv cs.length (cellsL cs)
  ne : sv.ownBlock ≠ some r
  ok : ShsOk cs
  byt : Byt w A rest
  len : rest.length = m
  cap : m ≤ c
  cap2 : c ≤ 9223372036854775807
  allb : AllB rest
  l2 : cs.length + left ≤ 255
  tv : takeV bs = rowsV left rest cs
  bel : Below w.heap.size w W
theorem frameS_of {T : Array Value} {A : Option Addr} {m c : Nat} {sv : Value} {r left : Nat} (hs : T.size = 69) (h0 : T.getD 0 undef = .slice A m c) (h2 : T.getD 2 undef = .slice none 0 0) (h3 : T.getD 3 undef = .int .i64 0) (h4 : T.getD 4 undef = sv) (h5 : T.getD 5 undef = .pointer (some ⟨r, 0, none⟩)) (h7 : T.getD 7 undef = .int .i64 (left : Int)) :
    T = frameS (fun i => T.getD i undef) A m c sv r left := by
  unfold frameS
  rw [← h0, ← h2, ← h3, ← h4, ← h5, ← h7]
  exact lit_of T 69 hs
theorem frameE_of {T : Array Value} {A : Option Addr} {m c : Nat} {sv : Value} (hs : T.size = 69) (h0 : T.getD 0 undef = .slice A m c) (h2 : T.getD 2 undef = .slice none 0 0) (h3 : T.getD 3 undef = .int .i64 0) (h4 : T.getD 4 undef = sv) :
    T = frameE (fun i => T.getD i undef) A m c sv := by
  unfold frameE
  rw [← h0, ← h2, ← h3, ← h4]
  exact lit_of T 69 hs
def AtShare (w : World) (bs : List Int) (a : Act) (W : World) : Prop := ∃ (T : Array Value) (A : Option Addr) (m c : Nat) (sv : Value) (r left : Nat) (C : Array Value) (cs : List Sh) (rest : List Int), a = ⟨T, []⟩ ∧ (T.size = 69 ∧ T.getD 0 undef = .slice A m c ∧ T.getD 2 undef = .slice none 0 0 ∧ T.getD 3 undef = .int .i64 0 ∧ T.getD 4 undef = sv ∧ T.getD 5 undef = .pointer (some ⟨r, 0, none⟩) ∧ T.getD 7 undef = .int .i64 (left : Int)) ∧ InS w bs W A m c sv r left C cs rest
structure InE (w : World) (bs : List Int) (W : World) (m : Nat) (sv : Value) (cs : List Sh) : Prop where
  own : W.ownsRow w.heap.size 35 5 sv cs.length (cellsL cs)
  ok : ShsOk cs
  l2 : cs.length ≤ 255
  tv : takeV bs = if m = 0 ∧ mayConfV cs = true then some cs else none
  bel : Below w.heap.size w W
def AtEnd (w : World) (bs : List Int) (a : Act) (W : World) : Prop := ∃ T A m c sv cs, a = ⟨T, []⟩ ∧ (T.size = 69 ∧ T.getD 0 undef = .slice A m c ∧ T.getD 2 undef = .slice none 0 0 ∧ T.getD 3 undef = .int .i64 0 ∧ T.getD 4 undef = sv) ∧ InE w bs W m sv cs
theorem block_of_add (a : Addr) (n : Nat) : (a.add n).block = a.block := by unfold Addr.add; split <;> rfl
theorem info47 : (Try.prog.info? 35).map (fun i => (i.zero, i.size, i.bytes)) = some (some (.agg #[.int .i64 0, .int .i64 0, .int .i64 0, .int .i64 0, .int .i64 0]), 5, 40) := by kernel_rfl
theorem takeV_short {bs : List Int} (h : bs.length < 3) : takeV bs = none := by
  match bs, h with
  | [], _ => rfl
  | [_], _ => rfl
  | [_, _], _ => rfl
end Go.Proofs.Ytfmpbofhaoijpaa
