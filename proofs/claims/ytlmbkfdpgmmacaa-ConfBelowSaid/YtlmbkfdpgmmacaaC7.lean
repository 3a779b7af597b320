/- Contracts: the order of labels, and slices.SortFunc by it. -/
import Derived.Test.YtlmbkfdpgmmacaaC4
import Derived.Sort.LotA
import Derived.BigRegion
namespace Go.Proofs.Ytlmbkfdpgmmacaa
open Go.ChangeShapes Go.WideShapes Go.ChangeAt Go.RowKit
set_option linter.unusedVariables false
open Fl in
def rank (l c : Int) : Int := l * 1000 + ((pop c.toNat * 16 + c.toNat : Nat) : Int)
open Fl in
theorem rank_le {l c : Int} (h : mayV l c = true) : 0 ≤ l ∧ l ≤ 3 ∧ 0 ≤ c ∧ c ≤ 15 ∧ pop c.toNat * 16 + c.toNat < 80 := by
  obtain ⟨l', c', rfl, rfl, h1, h2⟩ := may_t h
  have := pop_le c'
  refine ⟨by omega, by omega, by omega, by omega, by simp; omega⟩
theorem less_rank {l c i j : Int} (h : mayV l c = true) (g : mayV i j = true) : lessV l c i j = decide (rank l c < rank i j) := by
  unfold lessV lessN aheadB rank
  have h1 := rank_le h
  have h2 := rank_le g
  rw [h, g]
  by_cases e : l.toNat = i.toNat
  · have : l = i := by omega
    subst this
    simp only [Bool.true_and, if_true]
    rw [Bool.eq_iff_iff]; simp; omega
  · have : l ≠ i := fun h => e (by rw [h])
    rw [if_neg e, Bool.eq_iff_iff]; simp
    omega
theorem rank_inj {l c i j : Int} (h : mayV l c = true) (g : mayV i j = true) (e : rank l c = rank i j) : l = i ∧ c = j := by
  unfold rank at e
  have h1 := rank_le h
  have h2 := rank_le g
  have : l = i := by omega
  subst this
  refine ⟨rfl, ?_⟩
  have e2 : Fl.pop c.toNat * 16 + c.toNat = Fl.pop j.toNat * 16 + j.toNat := by omega
  have : c.toNat % 16 = j.toNat % 16 := by
    have := congrArg (· % 16) e2
    simp only [Nat.mul_add_mod_self_right] at this
    omega
  omega
def gfV (l c i j : Int) : Int := if lessV i j l c then -1 else if lessV l c i j then 1 else 0
theorem greatest_any (l c i j : Int) (w : World) (hl : i64 l) (hc : i64 c) (hi : i64 i) (hj : i64 j) :
    Calls Try.prog 28 #[.agg #[.int .i64 l, .int .i64 c], .agg #[.int .i64 i, .int .i64 j]] w fun e w' => e = .returned (.int .i64 (gfV l c i j)) ∧ Below w.heap.size w w' := by
  have H1 := Lib.hid (fun w => less_all i j l c w hi hj hl hc)
  have H2 := Lib.hid (fun w => less_all l c i j w hl hc hi hj)
  unfold gfV
  generalize lessV i j l c = b1 at *
  generalize lessV l c i j = b2 at *
  go_enter Try.func28, Try.ntmps28
  go_wp2_with fail
  refine (H1.out _).mono ?_
  rintro e W ⟨rfl, hb⟩
  have z0 := keep hb (b := w.heap.size) (o := 0) (v := .int .i64 l) (by simp [go_sem])
  have z1 := keep hb (b := w.heap.size) (o := 1) (v := .int .i64 c) (by simp [go_sem])
  have z2 := keep hb (b := w.heap.size + 1) (o := 0) (v := .int .i64 i) (by simp [go_sem])
  have z3 := keep hb (b := w.heap.size + 1) (o := 1) (v := .int .i64 j) (by simp [go_sem])
  have hB : Below w.heap.size w W := ((((Below.refl w.heap.size w).alloc (Nat.le_refl _) _).alloc (by simp) _).trans (hb.mono (by simp; omega)))
  clear hb
  cases b1
  · go_wp2_with fail
    refine (H2.out _).mono ?_
    rintro e W1 ⟨rfl, hb⟩
    cases b2
    · go_wp2_with fail
      go_ret
      exact ⟨rfl, keepB hB hb⟩
    · go_wp2_with fail
      go_ret
      exact ⟨rfl, keepB hB hb⟩
  · go_wp2_with fail
    go_ret
    exact ⟨rfl, hB⟩
def labL (cs : List Sh) (x : Int) : Int := match cs[x.toNat]? with | some s => s.l | none => 0
def labC (cs : List Sh) (x : Int) : Int := match cs[x.toNat]? with | some s => s.c | none => 0
theorem lab_some {cs : List Sh} {x : Int} {s : Sh} (h : cs[x.toNat]? = some s) : labL cs x = s.l ∧ labC cs x = s.c := by
  unfold labL labC; rw [h]; exact ⟨rfl, rfl⟩
def rk (cs : List Sh) (x : Int) : Int := rank (labL cs x) (labC cs x)
def cmpV (cs : List Sh) (x y : Int) : Int := gfV (labL cs x) (labC cs x) (labL cs y) (labC cs y)
def ltB (cs : List Sh) (x y : Int) : Bool := decide (rk cs y < rk cs x)
def InR (cs : List Sh) (x : Int) : Prop := 0 ≤ x ∧ x < cs.length
theorem cmp_lt {cs : List Sh} (hm : mayConfV cs = true) {x y : Int} (hx : InR cs x) (hy : InR cs y) : decide (cmpV cs x y < 0) = ltB cs x y := by
  obtain ⟨s, hs⟩ : ∃ s, cs[x.toNat]? = some s := ⟨_, List.getElem?_eq_getElem (by have := hx.1; have := hx.2; omega)⟩
  obtain ⟨t, ht⟩ : ∃ s, cs[y.toNat]? = some s := ⟨_, List.getElem?_eq_getElem (by have := hy.1; have := hy.2; omega)⟩
  have h1 := (may_nums (may_at hm hs)).1
  have h2 := (may_nums (may_at hm ht)).1
  unfold cmpV gfV ltB rk
  rw [(lab_some hs).1, (lab_some hs).2, (lab_some ht).1, (lab_some ht).2, less_rank h2 h1, less_rank h1 h2]
  by_cases e : rank t.l t.c < rank s.l s.c
  · simp [e]
  · simp only [e, decide_false, Bool.false_eq_true, if_false]
    split <;> simp
/-- The closure's world: its captured variable reads as the config. -/
structure Cap (W : World) (p : Addr) (A : Option Addr) (cs : List Sh) (d : Nat) : Prop where
  box : W.cell? p = some (.slice A cs.length d)
  conf : Conf W A cs
set_option maxHeartbeats 800000 in
theorem below_lit (cs : List Sh) (A : Option Addr) (d : Nat) (p : Addr) (x y : Int) (w : World) (ho : ShsOk cs) (hx : InR cs x) (hy : InR cs y) (hl : cs.length ≤ 1000000) (h : Cap w p A cs d) :
    Calls Try.prog 27 #[.int .i64 x, .int .i64 y, .pointer (some p)] w fun e w' => e = .returned (.int .i64 (cmpV cs x y)) ∧ Below w.heap.size w w' := by
  obtain ⟨i, rfl⟩ : ∃ i : Nat, x = i := ⟨x.toNat, by have := hx.1; omega⟩
  obtain ⟨j, rfl⟩ : ∃ j : Nat, y = j := ⟨y.toNat, by have := hy.1; omega⟩
  have hi : i < cs.length := by have := hx.2; omega
  have hj : j < cs.length := by have := hy.2; omega
  obtain ⟨a, s, rfl, hs, has⟩ := h.conf.at_ hi
  obtain ⟨a', t, ha', ht, hat⟩ := h.conf.at_ hj
  injection ha' with ha'
  subst ha'
  have hos := ho s (List.mem_of_getElem? hs.out)
  have hot := ho t (List.mem_of_getElem? ht.out)
  have HG := Lib.hid (fun w => greatest_any s.l s.c t.l t.c w hos.1 hos.2 hot.1 hot.2)
  have HV : Hid (cmpV cs i j = gfV s.l s.c t.l t.c) := by
    unfold Hid cmpV
    rw [(lab_some (x := (i : Int)) hs.out).1, (lab_some (x := (i : Int)) hs.out).2, (lab_some (x := (j : Int)) ht.out).1, (lab_some (x := (j : Int)) ht.out).2]
  rw [HV.out]
  generalize gfV s.l s.c t.l t.c = r at *
  clear hos hot hx hy
  have hb := h.box
  have q0 : ∀ g : Later w, g.w.cell? _ = _ := fun g => keepC g.below hb
  have q1 : ∀ g : Later w, g.w.cell? _ = _ := fun g => keepC g.below has.c0
  have q2 : ∀ g : Later w, g.w.cell? _ = _ := fun g => keepC g.below has.c1
  have q3 : ∀ g : Later w, g.w.cell? _ = _ := fun g => keepC g.below hat.c0
  have q4 : ∀ g : Later w, g.w.cell? _ = _ := fun g => keepC g.below hat.c1
  clear h hb has hat
  generalize cs.length = n at *
  go_enter Try.func27, Try.ntmps27
  go_wp2_with fail
  refine wp_region_later (by kernel_rfl) (by kernel_rfl) ?_
  repeat (go_big_quiet_step ((go_at_call 28; exact quiet_later (HG.out _))))
  refine wpQuiet_nil ?_
  intro _ hw'
  obtain ⟨nq, hw''⟩ := hw'
  subst hw''
  have hB := nq.below
  clear q0 q1 q2 q3 q4
  generalize Later.w nq = V at *
  clear nq
  go_wp2
  go_ret
  exact ⟨rfl, hB⟩
set_option maxRecDepth 1000000 in
theorem len_any (n : Nat) (h : n ≤ 7) (w : World) :
    Calls Try.prog 42 #[.int .u64 n] w fun e w' => (∃ r : Int, e = .returned (.int .i64 r)) ∧ w = w' := by
  have : n = 0 ∨ n = 1 ∨ n = 2 ∨ n = 3 ∨ n = 4 ∨ n = 5 ∨ n = 6 ∨ n = 7 := by omega
  rcases this with rfl | rfl | rfl | rfl | rfl | rfl | rfl | rfl
  all_goals
    go_enter Try.func42, Try.ntmps42
    go_wp2
    go_ret
    exact ⟨⟨_, rfl⟩, rfl⟩
end Go.Proofs.Ytlmbkfdpgmmacaa
