/- Plain facts on places; arguments that are pairs of ints. -/
import Derived.Test.YtikdnfdijfopkaaTb
import Derived.Deep.Slices
import Derived.Deep.Fields
import Derived.ChangeSame
import Derived.ProofKit
import Derived.OpenShut
import Derived.Carry
import Derived.Laws.BitsLemmas
namespace Go.Proofs.Ytikdnfdijfopkaa
open Go.ChangeShapes Go.WideShapes Go.ChangeAt Go.RowKit Go.Deep
set_option linter.unusedVariables false
theorem setB_len (S : List Bool) (i : Int) (b : Bool) : (setB S i b).length = S.length := by unfold setB; split <;> simp
theorem setB_in {S : List Bool} {j : Nat} (h : j < S.length) (b : Bool) : setB S (j : Int) b = S.set j b := by unfold setB; rw [if_pos (inB_of h)]; rfl
theorem isB_at {S : List Bool} {j : Nat} {b : Bool} (h : S[j]? = some b) : isB S (j : Int) = b := by
  have hl := (List.getElem?_eq_some_iff.1 h).1
  unfold isB
  rw [inB_of hl, Bool.true_and, Int.toNat_natCast, List.getD_eq_getElem?_getD, h]; rfl
theorem setB_count (S : List Bool) (i : Int) : ((inB S i && !isB S i) = true ∧ (setB S i true).count false + 1 = S.count false) ∨ ((inB S i && !isB S i) = false ∧ (setB S i true).count false = S.count false) := by
  cases hb : inB S i
  · right; unfold setB; simp [hb]
  · obtain ⟨j, rfl, hj⟩ := inB_yes hb
    rw [setB_in hj]
    have h1 := at_of hj
    cases hbj : S.getD j false
    · left; rw [hbj] at h1; rw [isB_at h1]; exact ⟨rfl, count_set_true h1⟩
    · right; rw [hbj] at h1; rw [isB_at h1]; refine ⟨rfl, ?_⟩
      congr 1
      apply List.ext_getElem?
      intro q
      by_cases e : q = j
      · subst e; rw [List.getElem?_set_self hj, h1]
      · rw [List.getElem?_set_ne (fun h => e h.symm)]
theorem list_of' {α : Type} {p : Nat → α → Prop} (n : Nat) (h : ∀ k, k < n → ∃ x, p k x) : ∃ l : List α, l.length = n ∧ ∀ i x, l[i]? = some x → p i x := by
  induction n with
  | zero => exact ⟨[], rfl, fun i x hi => by cases hi⟩
  | succ n ih =>
    obtain ⟨l, h1, h2⟩ := ih (fun k hk => h k (by omega))
    obtain ⟨x, hx⟩ := h n (by omega)
    refine ⟨l ++ [x], by simp [h1], fun i y hi => ?_⟩
    by_cases hin : i < n
    · rw [List.getElem?_append_left (by omega)] at hi; exact h2 i y hi
    · have hlt := (List.getElem?_eq_some_iff.1 hi).1
      simp at hlt
      obtain rfl : i = n := by omega
      rw [List.getElem?_append_right (by omega), h1, Nat.sub_self] at hi
      injection hi with hi
      subst hi
      exact hx
theorem and1 (n : Int) : ∃ r : Nat, r < 2 ∧ bits .and .i64 n 1 = (r : Int) := by
  have h1 : (BitVec.ofInt 64 1).toNat = 2 ^ 1 - 1 := by decide
  have key : (BitVec.ofInt 64 n &&& BitVec.ofInt 64 1).toNat = (n % ((2 ^ 64 : Nat) : Int)).toNat % 2 ^ 1 := by
    rw [BitVec.toNat_and, BitVec.toNat_ofInt, h1, Nat.and_two_pow_sub_one_eq_mod]
  refine ⟨(n % 2).toNat, by omega, ?_⟩
  show IntKind.i64.wrap ((BitVec.ofInt 64 n &&& BitVec.ofInt 64 1).toNat : Nat) = _
  rw [key, IntKind.wrap_i64]
  omega
/-- A pair as an argument has it. -/
structure Pr where
  (k t : Int)
structure PrAt (w : World) (p : Addr) (d : Pr) : Prop where
  c0 : w.cell? p = some (.int .i64 d.k)
  c1 : w.cell? ⟨p.block, p.off + 1, none⟩ = some (.int .i64 d.t)
structure PrOk (d : Pr) : Prop where
  k : -2 ^ 63 ≤ d.k ∧ d.k ≤ 2 ^ 63 - 1
  t : -2 ^ 63 ≤ d.t ∧ d.t ≤ 2 ^ 63 - 1
def Prs (w : World) (A : Option Addr) (l : List Pr) : Prop := ∀ i d, l[i]? = some d → ∃ a, A = some a ∧ PrAt w (a.add (i * 2)) d
def PrsOk (l : List Pr) : Prop := ∀ d ∈ l, PrOk d
theorem PrAt.keep {w w' : World} {p : Addr} {d : Pr} (h : PrAt w p d) (hb : Below w.heap.size w w') : PrAt w' p d := ⟨keepC hb h.c0, keepC hb h.c1⟩
theorem Prs.keep {w w' : World} {A : Option Addr} {l : List Pr} (h : Prs w A l) (hb : Below w.heap.size w w') : Prs w' A l := fun i d hi =>
  let ⟨a, e, hs⟩ := h i d hi; ⟨a, e, hs.keep hb⟩
section
variable {H : Type} {enc : TypeId × Value → H} {w : World} {base : Nat} {spare : Nat → Bool} {held : Bool}
theorem cells_pr : Try.prog.cellsOf 27 = 2 := by kernel_rfl
theorem cells_int3 : Try.prog.cellsOf 3 = 1 := by kernel_rfl
theorem open_pr {fuel : Nat} {cs : List Value} {x : DataW H × List MemPlace} (h : DataW.trod enc Try.prog w base spare held fuel 27 cs = some x) :
    ∃ d : Pr, cs = [.int .i64 d.k, .int .i64 d.t] ∧ PrOk d := by
  obtain ⟨ys, m, _, rfl, hl, hys, hel⟩ := DataW.trod_array Try.underlying27 h
  rw [cells_pr] at hl
  have leaf : ∀ i, i < 2 → ∃ n : Int, cs[i]? = some (.int .i64 n) ∧ -2 ^ 63 ≤ n ∧ n ≤ 2 ^ 63 - 1 := fun i hi => by
    have h1 := hel i hi
    rw [cells_int3, Nat.mul_one] at h1
    obtain ⟨y, hy⟩ : ∃ y, ys[i]? = some y := ⟨_, List.getElem?_eq_getElem (by omega)⟩
    rw [hy] at h1
    obtain ⟨n, e, _, hwf⟩ := DataW.trod_int Try.underlying3 h1
    have := bounds_i64 hwf
    have e' : (cs.drop i)[0]? = some (.int .i64 n) := by rw [← List.getElem?_take_of_lt (show 0 < 1 by omega), e]; rfl
    rw [List.getElem?_drop, Nat.add_zero] at e'
    exact ⟨n, e', by omega, by omega⟩
  obtain ⟨k, e0, k1, k2⟩ := leaf 0 (by omega)
  obtain ⟨t, e1, t1, t2⟩ := leaf 1 (by omega)
  match cs, hl, e0, e1 with
  | [c0, c1], _, e0, e1 =>
    injection e0 with e0
    injection e1 with e1
    subst e0; subst e1
    exact ⟨⟨k, t⟩, rfl, ⟨k1, k2⟩, ⟨t1, t2⟩⟩
theorem open_prs {fuel : Nat} {cs : List Value} {x : DataW H × List MemPlace} (h : DataW.trod enc Try.prog w base spare held fuel 22 cs = some x) :
    ∃ (A : Option Addr) (l : List Pr) (d : Nat), cs = [.slice A l.length d] ∧ l.length ≤ d ∧ d ≤ 9223372036854775807 ∧ Prs w A l ∧ PrsOk l := by
  rcases open_slice Try.underlying22 h with ⟨rfl, _⟩ | ⟨a, len, cap, m, n, D, Pl, rfl, _, hl, hm, hmm, _, hi⟩
  · exact ⟨none, [], 0, rfl, Nat.le_refl _, by omega, (fun i s hi => by cases hi), (fun s hs => by cases hs)⟩
  · have hml : len ≤ m := by rw [hmm]; split <;> omega
    obtain ⟨l, h1, h2⟩ := list_of' (p := fun i d => PrAt w (a.add (i * 2)) d ∧ PrOk d) len (fun k hk => by
      obtain ⟨cs', hc, ht⟩ := hi k (by omega)
      rw [cells_pr] at hc
      obtain ⟨d, rfl, hd⟩ := open_pr ht
      obtain ⟨_, _, hat⟩ := World.cells?_some hc
      have at_ : ∀ j u, j < 2 → [Value.int .i64 d.k, .int .i64 d.t][j]? = some u → w.cell? ((a.add (k * 2)).add j) = some u := fun j u hj hu => by rw [hat j hj, hu]
      have c0 := at_ 0 _ (by omega) rfl
      have c1 := at_ 1 _ (by omega) rfl
      rw [add_sum _ 0] at c1
      exact ⟨d, ⟨c0, c1⟩, hd⟩)
    refine ⟨some a, l, cap, by rw [h1], by omega, by simp only [maxLen] at hm; omega, fun i d hid => ⟨a, rfl, (h2 i d hid).1⟩, fun d hd => ?_⟩
    obtain ⟨i, hi⟩ := List.mem_iff_getElem?.1 hd
    exact (h2 i d hi).2
end
end Go.Proofs.Ytikdnfdijfopkaa
