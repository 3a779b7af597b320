/- Contracts: the order of labels, and slices.SortFunc by it. -/
import Derived.Test.YtfmpbofhaoijpaaC4
import Derived.Sort.LotA
import Derived.BigRegion
namespace Go.Proofs.Ytfmpbofhaoijpaa
open Go.ChangeShapes Go.WideShapes Go.ChangeAt Go.RowKit
set_option linter.unusedVariables false
open Fl in
def rank (l c : Int) : Int := l * 1000 + ((pop c.toNat * 16 + c.toNat : Nat) : Int)
open Fl in
theorem rank_le {l c : Int} (h : mayV l c = true) : 0 ≤ l ∧ l ≤ 3 ∧ 0 ≤ c ∧ c ≤ 15 ∧ pop c.toNat * 16 + c.toNat < 80 := by
  obtain ⟨l', c', rfl, rfl, h1, h2⟩ := may_t h
  have := pop_le c'
  refine ⟨by omega, by omega, by omega, by omega, by simp; omega⟩
theorem less_rank {l c i j : Int} (h : mayV l c = true) (g : mayV i j = true) : lessV l c i j = decide (rank l c < rank i j) := by
  unfold lessV lessN aheadB rank
  have h1 := rank_le h
  have h2 := rank_le g
  rw [h, g]
  by_cases e : l.toNat = i.toNat
  · have : l = i := by omega
    subst this
    simp only [Bool.true_and, if_true]
    rw [Bool.eq_iff_iff]; simp; omega
  · have : l ≠ i := fun h => e (by rw [h])
    rw [if_neg e, Bool.eq_iff_iff]; simp
    omega
theorem rank_inj {l c i j : Int} (h : mayV l c = true) (g : mayV i j = true) (e : rank l c = rank i j) : l = i ∧ c = j := by
  unfold rank at e
  have h1 := rank_le h
  have h2 := rank_le g
  have : l = i := by omega
  subst this
  refine ⟨rfl, ?_⟩
  have e2 : Fl.pop c.toNat * 16 + c.toNat = Fl.pop j.toNat * 16 + j.toNat := by omega
  have : c.toNat % 16 = j.toNat % 16 := by
    have := congrArg (· % 16) e2
    simp only [Nat.mul_add_mod_self_right] at this
    omega
  omega
def gfV (l c i j : Int) : Int := if lessV i j l c then -1 else if lessV l c i j then 1 else 0
def labL (cs : List Sh) (x : Int) : Int := match cs[x.toNat]? with | some s => s.l | none => 0
def labC (cs : List Sh) (x : Int) : Int := match cs[x.toNat]? with | some s => s.c | none => 0
theorem lab_some {cs : List Sh} {x : Int} {s : Sh} (h : cs[x.toNat]? = some s) : labL cs x = s.l ∧ labC cs x = s.c := by
  unfold labL labC; rw [h]; exact ⟨rfl, rfl⟩
def rk (cs : List Sh) (x : Int) : Int := rank (labL cs x) (labC cs x)
def cmpV (cs : List Sh) (x y : Int) : Int := gfV (labL cs x) (labC cs x) (labL cs y) (labC cs y)
def ltB (cs : List Sh) (x y : Int) : Bool := decide (rk cs y < rk cs x)
def InR (cs : List Sh) (x : Int) : Prop := 0 ≤ x ∧ x < cs.length
theorem cmp_lt {cs : List Sh} (hm : mayConfV cs = true) {x y : Int} (hx : InR cs x) (hy : InR cs y) : decide (cmpV cs x y < 0) = ltB cs x y := by
  obtain ⟨s, hs⟩ : ∃ s, cs[x.toNat]? = some s := ⟨_, List.getElem?_eq_getElem (by have := hx.1; have := hx.2; omega)⟩
  obtain ⟨t, ht⟩ : ∃ s, cs[y.toNat]? = some s := ⟨_, List.getElem?_eq_getElem (by have := hy.1; have := hy.2; omega)⟩
  have h1 := (may_nums (may_at hm hs)).1
  have h2 := (may_nums (may_at hm ht)).1
  unfold cmpV gfV ltB rk
  rw [(lab_some hs).1, (lab_some hs).2, (lab_some ht).1, (lab_some ht).2, less_rank h2 h1, less_rank h1 h2]
  by_cases e : rank t.l t.c < rank s.l s.c
  · simp [e]
  · simp only [e, decide_false, Bool.false_eq_true, if_false]
    split <;> simp
/-- The closure's world: its captured variable reads as the config. -/
structure Cap (W : World) (p : Addr) (A : Option Addr) (cs : List Sh) (d : Nat) : Prop where
  box : W.cell? p = some (.slice A cs.length d)
  conf : Conf W A cs
end Go.Proofs.Ytfmpbofhaoijpaa
