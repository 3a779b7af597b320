/- Bytes as they lie in memory; contracts: conf.Take and the reference's. -/
import Derived.Test.YtfmpbofhaoijpaaC3
import Derived.Laws.BytesArg
import Derived.Test.YtfmpbofhaoijpaaJ
import Derived.WalkMore
import Derived.Scope
namespace Go.Proofs.Ytfmpbofhaoijpaa
open Go.ChangeShapes Go.WideShapes Go.ChangeAt Go.RowKit
set_option linter.unusedVariables false
theorem cutA_mid {w : World} {A : Option Addr} {n c k : Nat} (hk : k ≤ n) :
    (Instr.slice 22 (.slice A n c) (some (.int .i64 (k : Int))) none none).run Try.prog w = .ok (.slice (cutA A c k) (n - k) (c - k)) w := by
  have e : Try.prog.underlying 22 = some (.slice (Try.prog.elem 22)) := by kernel_rfl
  have e5 : Try.prog.elem 22 = 5 := by kernel_rfl
  have z := Try.sizeOf5 w
  rw [run_slice_l w 22 A n c e .i64 k (by omega) (by omega), e5, z]
  simp [Result.andThen, sliced, cutA]
def rowsV : Nat → List Int → List Sh → Option (List Sh)
  | 0, r, acc => if r = [] ∧ mayConfV acc = true then some acc else none
  | n + 1, a :: b :: c :: d :: r, acc => if takeOk a = true then rowsV n r (acc ++ [⟨takeL a, takeC a, b, c, d⟩]) else none
  | _ + 1, _, _ => none
def takeV (bs : List Int) : Option (List Sh) := match bs with
  | x :: y :: n :: r => if x = 76 ∧ y = 70 then rowsV n.toNat r [] else none
  | _ => none
def Sh.cs (s : Sh) : List Value := [.int .i64 s.l, .int .i64 s.c, .int .i64 s.b, .int .i64 s.g, .int .i64 s.f]
def cellsL (cs : List Sh) : List Value := cs.flatMap Sh.cs
theorem cellsL_length (cs : List Sh) : (cellsL cs).length = cs.length * 5 := by
  unfold cellsL
  induction cs with
  | nil => rfl
  | cons s l ih => rw [List.flatMap_cons, List.length_append, ih, List.length_cons]; unfold Sh.cs; simp; omega
theorem cellsL_at {cs : List Sh} : ∀ {i j : Nat} {s : Sh}, cs[i]? = some s → j < 5 → (cellsL cs)[i * 5 + j]? = s.cs[j]? := by
  unfold cellsL
  induction cs with
  | nil => intro i j s h; cases h
  | cons t l ih =>
    intro i j s h hj
    rw [List.flatMap_cons]
    cases i with
    | zero =>
      injection h with h; subst h
      rw [List.getElem?_append_left (by unfold Sh.cs; simp; omega)]; simp
    | succ i =>
      rw [List.getElem?_append_right (by unfold Sh.cs; simp; omega), ← ih (i := i) (j := j) (s := s) (by simpa using h) hj]
      congr 1
      unfold Sh.cs; simp; omega
theorem cellsL_one (cs : List Sh) : ∀ u ∈ cellsL cs, u.oneCell' = true := by
  intro u hu
  unfold cellsL at hu
  obtain ⟨s, _, hs⟩ := List.mem_flatMap.1 hu
  unfold Sh.cs at hs
  simp at hs
  rcases hs with rfl | rfl | rfl | rfl | rfl <;> rfl
theorem cellsL_snoc (cs : List Sh) (s : Sh) : cellsL (cs ++ [s]) = cellsL cs ++ s.cs := by unfold cellsL; simp
/-- A config that the call owns lies so. -/
theorem conf_own {W : World} {B : Nat} {sv : Value} {cs : List Sh} (h : W.ownsRow B 35 5 sv cs.length (cellsL cs)) :
    ∃ A d, sv = .slice A cs.length d ∧ cs.length ≤ d ∧ d ≤ 9223372036854775807 ∧ Conf W A cs := by
  rcases h.2 with ⟨rfl, h0⟩ | ⟨g, cap, cur, rfl, hb, hg, hn, hm, hs, ht⟩
  · refine ⟨none, 0, by rw [h0], by omega, by omega, fun i s hi => ?_⟩
    rw [List.length_eq_zero_iff.1 h0] at hi; cases hi
  · refine ⟨some ⟨g, 0, none⟩, cap, rfl, hn, by simp only [maxLen] at hm; omega, fun i s hi => ⟨_, rfl, ?_⟩⟩
    have hc := h.cells (g := g) rfl
    have e : ∀ j, (⟨g, 0, none⟩ : Addr).add j = ⟨g, j, none⟩ := fun j => by unfold Addr.add; split <;> simp_all
    have k : ∀ j u, j < 5 → s.cs[j]? = some u → W.cell? ⟨g, i * 5 + j, none⟩ = some u := fun j u hj hu => by
      rw [← e]; exact hc _ _ (by rw [cellsL_at hi hj]; exact hu)
    rw [e]
    exact ⟨k 0 _ (by omega) rfl, k 1 _ (by omega) rfl, k 2 _ (by omega) rfl, k 3 _ (by omega) rfl, k 4 _ (by omega) rfl⟩
theorem takeOk_bounds {b : Int} (h0 : 0 ≤ b) (h : takeOk b = true) : i64 (takeL b) ∧ i64 (takeC b) := by
  have := of_decide_eq_true h
  unfold takeL takeC
  rw [if_pos h, if_pos h]
  constructor <;> constructor <;> omega
/-- What Take answers. -/
def TookE (v : Option (List Sh)) (B : Nat) (w' : World) (e : Ending) : Prop := match v with
  | some cs => ∃ sv, e = .returned (.tuple #[sv, .int .i64 0]) ∧ w'.ownsRow B 35 5 sv cs.length (cellsL cs)
  | none => e = .returned (.tuple #[.slice none 0 0, .int .i64 1])
theorem size5 {C : Array Value} (h : C.size = 5) : ∃ a b c d e, C = #[a, b, c, d, e] := by
  obtain ⟨l⟩ := C
  match l, h with
  | [a, b, c, d, e], _ => exact ⟨a, b, c, d, e, rfl⟩
end Go.Proofs.Ytfmpbofhaoijpaa
