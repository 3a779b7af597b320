/- Contracts: conf.May and the reference's. -/
import Derived.Test.YtfmpbofhaoijpaaC1
namespace Go.Proofs.Ytfmpbofhaoijpaa
open Go.ChangeShapes Go.WideShapes Go.ChangeAt Go.RowKit
set_option linter.unusedVariables false
theorem belowD {B : Nat} {w W : World} (h : Below B w W) (n : Nat) : Below B w (W.drewN n) := ⟨h.os, h.tape, h.output, h.size, h.block⟩
def okAt (cs : List Sh) (i : Nat) : Bool := match cs[i]? with | some s => mayShV s && !((cs.take i).any (isV s.l s.c)) | none => true
def okV (cs : List Sh) : Bool := (List.range cs.length).all (okAt cs)
def mayConfV (cs : List Sh) : Bool := decide (1 ≤ cs.length) && decide (cs.length ≤ 8) && okV cs
def ShsOk (cs : List Sh) : Prop := ∀ s ∈ cs, ShOk s
theorem okAt_some {cs : List Sh} {i : Nat} {s : Sh} (h : cs[i]? = some s) : okAt cs i = (mayShV s && !((cs.take i).any (isV s.l s.c))) := by
  unfold okAt; rw [h]
theorem okTo_succ (cs : List Sh) (k : Nat) : (List.range (k + 1)).all (okAt cs) = ((List.range k).all (okAt cs) && okAt cs k) := by
  rw [List.range_succ, List.all_append]; simp
theorem ok_f {cs : List Sh} {k : Nat} (hk : k < cs.length) (h : okAt cs k = false) : okV cs = false := by
  unfold okV
  rw [List.all_eq_false]
  exact ⟨k, List.mem_range.2 hk, by simpa using h⟩
theorem Conf.take {w : World} {A : Option Addr} {cs : List Sh} (h : Conf w A cs) (k : Nat) : Conf w A (cs.take k) := fun i s hi => h i s (by
  rw [List.getElem?_take] at hi; split at hi; exact hi; cases hi)
theorem hasTo {A : Option Addr} {cs : List Sh} {d k : Nat} (l c : Int) (w : World) (hk : k ≤ cs.length) (hx : cs.length ≤ 1000000) (ha : Conf w A cs) :
    Calls Try.prog 21 #[.slice A k d, .agg #[.int .i64 l, .int .i64 c]] w fun e w' => e = .returned (.bool ((cs.take k).any (isV l c))) ∧ Below w.heap.size w w' := by
  have h := has_any A (cs.take k) d l c w (by rw [List.length_take]; omega) (ha.take k)
  rwa [List.length_take_of_le hk] at h
set_option maxHeartbeats 1600000 in
theorem may_conf (A : Option Addr) (cs : List Sh) (d : Nat) (w : World) (hx : cs.length ≤ 1000000) (hd : cs.length ≤ d) (hd2 : d ≤ 9223372036854775807) (ho : ShsOk cs) (ha : Conf w A cs) :
    Calls Try.prog 15 #[.slice A cs.length d] w fun e w' => e = .returned (.bool (mayConfV cs)) ∧ Below w.heap.size w w' := by
  generalize hn : cs.length = n at *
  have HN := Lib.hid hn
  clear hn
  by_cases hr : 1 ≤ n ∧ n ≤ 8
  · obtain ⟨hr1, hr2⟩ := hr
    have HM := Lib.hid (show mayConfV cs = okV cs by unfold mayConfV; rw [HN.out]; simp [hr1, hr2])
    go_enter Try.func15, Try.ntmps15
    go_wp2
    go_loopw [15] (fun i wr => ∃ k : Nat, k ≤ n ∧ i = .int .i64 k ∧ (List.range k).all (okAt cs) = true ∧ Below w.heap.size w wr) (fun i _ => n - (intOf i).toNat)
    case atStart => exact ⟨0, Nat.zero_le _, rfl, rfl, Below.refl _ _⟩
    case round =>
      obtain ⟨k, hk, rfl, ht, hB⟩ := hrel
      have HT := Lib.hid ht
      clear ht
      by_cases hlt : k < n
      · obtain ⟨a, x, rfl, hsx, hsa⟩ := (ha.keep hB).at_ (k := k) (by rw [HN.out]; exact hlt)
        have g0 := hsa.c0
        have g1 := hsa.c1
        have g2 := hsa.c2
        have g3 := hsa.c3
        have g4 := hsa.c4
        have HA := Lib.hid (ha.keep hB)
        have HO := Lib.hid (ho x (List.mem_of_getElem? hsx.out))
        clear hsa ha ho
        have TAIL : okAt cs k = (mayShV x && !((cs.take k).any (isV x.l x.c))) := okAt_some hsx.out
        have HTL := Lib.hid TAIL
        clear TAIL
        by_cases hm : mayShV x = true
        · have HM1 := Lib.hid hm
          clear hm
          generalize hhas : (cs.take k).any (isV x.l x.c) = hb
          have HH := Lib.hid hhas
          clear hhas
          go_wp2
          obtain ⟨W, hW⟩ : ∃ W, W = wr.alloc (Obj.cells #[.int .i64 x.l, .int .i64 x.c, .int .i64 x.b, .int .i64 x.g, .int .i64 x.f] 35) := ⟨_, rfl⟩
          rw [← hW]
          have z0 : W.cell? ⟨wr.heap.size, 0, none⟩ = some (.int .i64 x.l) := by rw [hW]; simp [go_sem]
          have z1 : W.cell? ⟨wr.heap.size, 1, none⟩ = some (.int .i64 x.c) := by rw [hW]; simp [go_sem]
          have z2 : W.cell? ⟨wr.heap.size, 2, none⟩ = some (.int .i64 x.b) := by rw [hW]; simp [go_sem]
          have z3 : W.cell? ⟨wr.heap.size, 3, none⟩ = some (.int .i64 x.g) := by rw [hW]; simp [go_sem]
          have z4 : W.cell? ⟨wr.heap.size, 4, none⟩ = some (.int .i64 x.f) := by rw [hW]; simp [go_sem]
          have hBW : Below w.heap.size w W := by rw [hW]; exact hB.alloc hB.size _
          have HC : ∀ g : Later W, Conf g.w (some a) cs := fun g => (HA.out.keep (by rw [hW]; exact (Below.refl _ _).alloc (Nat.le_refl _) _)).keep g.below
          have HC2 := Lib.hid HC
          clear HC hW g0 g1 g2 g3 g4
          generalize wr.heap.size = r at *
          have k0 : ∀ g : Later W, g.w.cell? _ = _ := fun g => g.keep z0
          have k1 : ∀ g : Later W, g.w.cell? _ = _ := fun g => g.keep z1
          have k2 : ∀ g : Later W, g.w.cell? _ = _ := fun g => g.keep z2
          have k3 : ∀ g : Later W, g.w.cell? _ = _ := fun g => g.keep z3
          have k4 : ∀ g : Later W, g.w.cell? _ = _ := fun g => g.keep z4
          cases hb
          all_goals
            refine wp_region_later (by kernel_rfl) (by kernel_rfl) ?_
            repeat (first | go_big_quiet_step ((first | (go_at_call 20; exact quiet_laterB (mayShare_any x HO.out _) HM1.out) | (go_at_call 21; exact quiet_laterB (hasTo x.l x.c _ (by rw [HN.out]; omega) (by rw [HN.out]; omega) (HC2.out _)) HH.out))) | (refine BigFrame.wpQuiet_skip (by rfl) ?_; simp only [Act.put, List.setIfInBounds_toArray, List.set_cons_zero, List.set_cons_succ]))
            refine wpQuiet_nil ?_
            intro _ hw'
            obtain ⟨nq, hw''⟩ := hw'
            subst hw''
            replace hBW := keepB hBW nq.below
            clear k0 k1 k2 k3 k4
            generalize Later.w nq = V at *
            clear nq
            go_wp2
          · go_roundw
            case rel => exact ⟨k + 1, by omega, by go_num, by rw [okTo_succ, HT.out, HTL.out, HM1.out, HH.out]; rfl, by assumption⟩
            case measure => simp [intOf]; omega
          · go_ret
            exact ⟨by rw [HM.out, ok_f (k := k) (by rw [HN.out]; omega) (by rw [HTL.out, HM1.out, HH.out]; rfl)]; rfl, by assumption⟩
        · have HM1 := Lib.hid (show mayShV x = false by simpa using hm)
          clear hm
          go_wp2
          obtain ⟨W, hW⟩ : ∃ W, W = wr.alloc (Obj.cells #[.int .i64 x.l, .int .i64 x.c, .int .i64 x.b, .int .i64 x.g, .int .i64 x.f] 35) := ⟨_, rfl⟩
          rw [← hW]
          have z0 : W.cell? ⟨wr.heap.size, 0, none⟩ = some (.int .i64 x.l) := by rw [hW]; simp [go_sem]
          have z1 : W.cell? ⟨wr.heap.size, 1, none⟩ = some (.int .i64 x.c) := by rw [hW]; simp [go_sem]
          have z2 : W.cell? ⟨wr.heap.size, 2, none⟩ = some (.int .i64 x.b) := by rw [hW]; simp [go_sem]
          have z3 : W.cell? ⟨wr.heap.size, 3, none⟩ = some (.int .i64 x.g) := by rw [hW]; simp [go_sem]
          have z4 : W.cell? ⟨wr.heap.size, 4, none⟩ = some (.int .i64 x.f) := by rw [hW]; simp [go_sem]
          have hBW : Below w.heap.size w W := by rw [hW]; exact hB.alloc hB.size _
          clear hW g0 g1 g2 g3 g4
          generalize wr.heap.size = r at *
          have k0 : ∀ g : Later W, g.w.cell? _ = _ := fun g => g.keep z0
          have k1 : ∀ g : Later W, g.w.cell? _ = _ := fun g => g.keep z1
          have k2 : ∀ g : Later W, g.w.cell? _ = _ := fun g => g.keep z2
          have k3 : ∀ g : Later W, g.w.cell? _ = _ := fun g => g.keep z3
          have k4 : ∀ g : Later W, g.w.cell? _ = _ := fun g => g.keep z4
          refine wp_region_later (by kernel_rfl) (by kernel_rfl) ?_
          repeat (first | go_big_quiet_step ((go_at_call 20; exact quiet_laterB (mayShare_any x HO.out _) HM1.out)) | (refine BigFrame.wpQuiet_skip (by rfl) ?_; simp only [Act.put, List.setIfInBounds_toArray, List.set_cons_zero, List.set_cons_succ]))
          refine wpQuiet_nil ?_
          intro _ hw'
          obtain ⟨nq, hw''⟩ := hw'
          subst hw''
          replace hBW := keepB hBW nq.below
          clear k0 k1 k2 k3 k4
          generalize Later.w nq = V at *
          clear nq
          go_wp2
          go_ret
          exact ⟨by rw [HM.out, ok_f (k := k) (by rw [HN.out]; omega) (by rw [HTL.out, HM1.out]; rfl)]; rfl, by assumption⟩
      · go_wp2
        go_ret
        refine ⟨?_, hB⟩
        rw [HM.out]; unfold okV; rw [HN.out, show n = k by omega, HT.out]; rfl
  · have hf : mayConfV cs = false := by
      unfold mayConfV; rw [HN.out]
      by_cases h1 : 1 ≤ n
      · have : ¬ n ≤ 8 := fun h2 => hr ⟨h1, h2⟩
        simp [h1, this]
      · simp [h1]
    rw [hf]
    clear hf
    by_cases h1 : 1 ≤ n
    · have : 8 < n := by omega
      clear hr
      go_enter Try.func15, Try.ntmps15
      go_wp2
      go_ret
      exact ⟨rfl, Below.refl _ _⟩
    · obtain rfl : n = 0 := by omega
      clear hr h1
      go_enter Try.func15, Try.ntmps15
      go_wp2
      go_ret
      exact ⟨rfl, Below.refl _ _⟩
/-! ### The reference's -/
theorem anyIs_take_succ {cs : List Sh} {i : Nat} {y : Sh} {l c : Int} (h : cs[i]? = some y) : (cs.take (i + 1)).any (isV l c) = ((cs.take i).any (isV l c) || isV l c y) := by
  rw [take_snoc' h, List.any_append]; simp
end Go.Proofs.Ytfmpbofhaoijpaa
