/- Contracts: ino.toNumber, rootNumber, within, May; the reference's Root, MayID. -/
import Derived.Test.YtcmmopngjeonfaaUa
import Derived.Test.YtcmmopngjeonfaaNm
import Derived.Test.YtcmmopngjeonfaaBk
import Derived.Deep.DeepCutAuto
import Derived.StillTailTactics
import Derived.Test.YtcmmopngjeonfaaW
import Derived.Laws.ResultCell
import Derived.Laws.Tables
import Derived.Laws.Rows
namespace Go.Proofs.Ytcmmopngjeonfaa
open Go.ChangeShapes Go.WideShapes Go.ChangeAt Go.RowKit
open Fx
set_option linter.unusedVariables false
/-- An ID as a value. -/
def idV (l a g : Int) : Value := .agg #[.int .i64 l, .int .i64 a, .int .u32 g]
def Within (l a : Int) : Prop := 0 ≤ l ∧ l < 8 ∧ 1 ≤ a ∧ a < 200
def MayI (l a g : Int) : Prop := (l = -1 ∧ a = 0 ∧ g = 0) ∨ (Within l a ∧ 1 ≤ g)
instance (l a : Int) : Decidable (Within l a) := by unfold Within; infer_instance
instance (l a g : Int) : Decidable (MayI l a g) := by unfold MayI; infer_instance
theorem abs64 {l : Int} (h : i64 l) : l.natAbs ≤ 2 ^ 63 := by have := h.1; have := h.2; omega
theorem idsize : (Try.prog.info? 24).map (·.size) = some 3 := by kernel_rfl
/-- The cells of an ID. -/
def idA (l a g : Int) : Array Value := #[.int .i64 l, .int .i64 a, .int .u32 g]
theorem idV_eq (l a g : Int) : idV l a g = .agg (idA l a g) := rfl
theorem idA_one (l a g : Int) : (idA l a g).all (·.oneCell') = true := by unfold idA; simp [Value.oneCell']
/-- An ID lies at a block. -/
def IdAt (w : World) (p : Nat) (l a g : Int) : Prop := w.heap[p]? = some (.cells (idA l a g) 24 (0, 0))
theorem IdAt.below {w w' : World} {p : Nat} {l a g : Int} (h : IdAt w p l a g) (hb : Below w.heap.size w w') : IdAt w' p l a g := kb hb h
theorem IdAt.new (w : World) (l a g : Int) : IdAt (w.alloc (Obj.cells #[.int .i64 l, .int .i64 a, .int .u32 g] 24)) w.heap.size l a g := heap_alloc_new _ _
theorem IdAt.alloc {w : World} {p : Nat} {l a g : Int} (h : IdAt w p l a g) (o : Obj) : IdAt (w.alloc o) p l a g := kb (bel1 o) h
theorem IdAt.grown {w w' : World} {p : Nat} {l a g : Int} (h : IdAt w p l a g) (hg : w.grownBy w' none) : IdAt w' p l a g := by
  unfold IdAt; rw [hg.block p (room_lt h) (by simp)]; exact h
theorem IdAt.set {w : World} {p : Nat} {l a g : Int} (h : IdAt w p l a g) (l' a' g' : Int) : IdAt (w.setRow p (idA l' a' g')) p l' a' g' := setRow_blk h
theorem IdAt.cell {w : World} {p : Nat} {l a g : Int} (h : IdAt w p l a g) (i : Nat) : w.cell? ⟨p, i, none⟩ = (idA l a g)[i]? := blk_cell h i
section
variable {ops : Array Oper} {rest : List Oper} {o : Oper} {ac : Act} {w : World} {Q : Exit → Act → World → Prop}
theorem wpList_storeI (hgd : o.guard = none) (x y : Operand) (ho : o.op = .store 24 x y) (p : Nat) (hx : ac.eval x = .pointer (some ⟨p, 0, none⟩)) (l a g : Int) (hy : ac.eval y = .agg (idA l a g)) (l' a' g' : Int) (hg : IdAt w p l' a' g')
    (h : wpList Try.prog ops Q rest (ac.put o.dst undef) (w.setRow p (idA l a g))) : wpList Try.prog ops Q (o :: rest) ac w :=
  wpList_store_row hgd 24 x y ho p _ hx hy _ _ hg idsize rfl (idA_one _ _ _) h
theorem wpList_loadI (hgd : o.guard = none) (x : Operand) (ho : o.op = .load 24 x) (p : Nat) (hx : ac.eval x = .pointer (some ⟨p, 0, none⟩)) (l a g : Int) (hg : IdAt w p l a g)
    (h : wpList Try.prog ops Q rest (ac.put o.dst (.agg (idA l a g))) w) : wpList Try.prog ops Q (o :: rest) ac w :=
  wpList_load_row hgd 24 x ho p hx _ _ _ _ hg Try.underlying24 rfl idsize h
theorem wp_storeI {K : Act → World → Prop} (x y : Operand) (ho : o.op = .store 24 x y) (p : Nat) (hx : ac.eval x = .pointer (some ⟨p, 0, none⟩)) (l a g : Int) (hy : ac.eval y = .agg (idA l a g)) (l' a' g' : Int) (hg : IdAt w p l' a' g')
    (h : K (ac.put o.dst undef) (w.setRow p (idA l a g))) : o.wp Try.prog ac w K Q :=
  wp_store_row 24 x y ho p _ hx hy _ _ hg idsize rfl (idA_one _ _ _) h
theorem wp_loadI {K : Act → World → Prop} (x : Operand) (ho : o.op = .load 24 x) (p : Nat) (hx : ac.eval x = .pointer (some ⟨p, 0, none⟩)) (l a g : Int) (hg : IdAt w p l a g)
    (h : K (ac.put o.dst (.agg (idA l a g))) w) : o.wp Try.prog ac w K Q :=
  wp_load_row 24 x ho p hx _ _ _ _ hg Try.underlying24 rfl idsize h
theorem wpList_loadIw (hw : Region.wanted o (yielded ops ac.tmps) = true) (x : Operand) (ho : o.op = .load 24 x) (p : Nat) (hx : ac.eval x = .pointer (some ⟨p, 0, none⟩)) (l a g : Int) (hg : IdAt w p l a g)
    (h : wpList Try.prog ops Q rest (ac.put o.dst (.agg (idA l a g))) w) : wpList Try.prog ops Q (o :: rest) ac w :=
  BigFrame.wpList_want hw fun _ hK => wp_load_row 24 x ho p hx _ _ _ _ hg Try.underlying24 rfl idsize (hK _ _ h)
end
theorem results_id {fn : Func} {p : Tmp} (h : fn.results = #[.cell p 24]) (tmps : Array Value) (w : World) (q : Nat) (l a g : Int) (hp : tmps.getD p undef = .pointer (some ⟨q, 0, none⟩)) (hg : IdAt w q l a g) :
    (results fn tmps).run Try.prog w = .ok (idV l a g) w :=
  results_cell_row h tmps w q _ _ _ _ hp hg Try.underlying24 rfl idsize
theorem results_idu {fn : Func} {p u : Tmp} (h : fn.results = #[.cell p 24, .tmp u]) (tmps : Array Value) (w : World) (q : Nat) (l a g : Int) (hp : tmps.getD p undef = .pointer (some ⟨q, 0, none⟩)) (hg : IdAt w q l a g) :
    (results fn tmps).run Try.prog w = .ok (.tuple #[idV l a g, tmps.getD u undef]) w := by
  rw [results_cell_tmp h, hp]
  simp only [asAddr, Sem.run_pure, Result.andThen_ok]
  rw [run_loadVar_row w q _ _ _ _ _ hg Try.underlying24 rfl idsize]
  rfl
theorem rootnum_any (w : World) : Calls Try.prog 34 #[] w fun e w' => e = .returned (.complex .f64 (fi (-1)) (fi 0)) ∧ w = w' := by
  rw [fi_m1, fi_zero]
  go_enter Try.func34, Try.ntmps34
  go_wp2
  go_ret
  exact ⟨rfl, rfl⟩
theorem itonum_any (l a g : Int) (w : World) : Calls Try.prog 29 #[idV l a g] w fun e w' => e = .returned (.complex .f64 (fi l) (fi a)) ∧ Below w.heap.size w w' := by
  unfold fi idV
  have HB := Lib.hid (bel1 (w := w) (Obj.cells #[.int .i64 l, .int .i64 a, .int .u32 g] 24))
  go_enter Try.func29, Try.ntmps29
  go_wp2
  go_ret
  exact ⟨rfl, HB.out⟩
theorem within_any (l a : Int) (w : World) (hl : i64 l) (ha : i64 a) : Calls Try.prog 35 #[.complex .f64 (fi l) (fi a)] w fun e w' => e = .returned (.bool (decide (Within l a))) ∧ w = w' := by
  have h1 := ge_fi l 0 (abs64 hl) (by decide)
  have h2 := lt_fi l 8 (abs64 hl) (by decide)
  have h3 := ge_fi a 1 (abs64 ha) (by decide)
  have h4 := lt_fi a 200 (abs64 ha) (by decide)
  rw [fi_zero] at h1
  rw [fi_8] at h2
  rw [fi_one] at h3
  rw [fi_200] at h4
  have HD : Hid (decide (Within l a) = (((decide (0 ≤ l) && decide (l < 8)) && decide (1 ≤ a)) && decide (a < 200))) := by
    unfold Hid
    rw [Bool.eq_iff_iff]; simp only [Bool.and_eq_true, decide_eq_true_eq]; unfold Within; constructor <;> (intro h; omega)
  generalize fi l = x at *
  generalize fi a = y at *
  set_option linter.unusedSimpArgs false in
  by_cases c1 : 0 ≤ l
  · by_cases c2 : l < 8
    · by_cases c3 : 1 ≤ a
      · by_cases c4 : a < 200
        all_goals
          simp only [c1, c2, c3, c4, decide_true, decide_false, Bool.and_true, Bool.and_false] at h1 h2 h3 h4 HD
          rw [HD.out]
          clear c1 c2 c3 c4 hl ha HD
          go_enter Try.func35, Try.ntmps35
          go_wp2
          go_ret
          exact ⟨rfl, rfl⟩
      · simp only [c1, c2, c3, decide_true, decide_false, Bool.and_true, Bool.and_false, Bool.false_and] at h1 h2 h3 HD
        rw [HD.out]
        clear c1 c2 c3 hl ha HD h4
        go_enter Try.func35, Try.ntmps35
        go_wp2
        go_ret
        exact ⟨rfl, rfl⟩
    · simp only [c1, c2, decide_true, decide_false, Bool.and_true, Bool.and_false, Bool.false_and] at h1 h2 HD
      rw [HD.out]
      clear c1 c2 hl ha HD h3 h4
      go_enter Try.func35, Try.ntmps35
      go_wp2
      go_ret
      exact ⟨rfl, rfl⟩
  · simp only [c1, decide_true, decide_false, Bool.and_true, Bool.and_false, Bool.false_and] at h1 HD
    rw [HD.out]
    clear c1 hl ha HD h2 h3 h4
    go_enter Try.func35, Try.ntmps35
    go_wp2
    go_ret
    exact ⟨rfl, rfl⟩
theorem imay_any (l a g : Int) (w : World) (hl : i64 l) (ha : i64 a) (hg : u32 g) : Calls Try.prog 25 #[idV l a g] w fun e w' => e = .returned (.bool (decide (MayI l a g))) ∧ Below w.heap.size w w' := by
  have HN := Lib.hid (itonum_any l a g)
  have HR := Lib.hid rootnum_any
  have HW := Lib.hid (fun w => within_any l a w hl ha)
  have h1 := eq_fi l (-1) (abs64 hl) (by decide)
  have h2 := eq_fi a 0 (abs64 ha) (by decide)
  have hg0 := hg.1
  have HB := Lib.hid (bel1 (w := w) (Obj.cells #[.int .i64 l, .int .i64 a, .int .u32 g] 24))
  have hz0 : (w.alloc (Obj.cells #[.int .i64 l, .int .i64 a, .int .u32 g] 24)).cell? ⟨w.heap.size, 2, none⟩ = some (.int .u32 g) := by simp [go_sem]
  have HC := Lib.hid hz0
  clear hz0
  unfold idV at HN ⊢
  by_cases c1 : l = -1
  · have q1 : (FloatKind.f64.format.order (fi l) (fi (-1)) == some .eq) = true := by rw [h1, decide_eq_true c1]
    by_cases c2 : a = 0
    · have q2 : (FloatKind.f64.format.order (fi a) (fi 0) == some .eq) = true := by rw [h2, decide_eq_true c2]
      have hd : decide (MayI l a g) = (g == 0) := by
        rw [Bool.eq_iff_iff]; simp only [decide_eq_true_eq, beq_iff_eq]; unfold MayI Within; constructor <;> (intro h; omega)
      rw [hd]
      clear h1 h2 hd c1 c2
      go_enter Try.func25, Try.ntmps25
      go_wp2_with fail
      refine (HN.out _).mono ?_
      rintro e w1 ⟨rfl, hb1⟩
      have hc1 := keep hb1 HC.out
      have HB1 := Lib.hid (keepB HB.out hb1)
      clear hb1 HB HC
      go_wp2_with fail
      refine (HR.out _).mono ?_
      rintro e w2 ⟨rfl, rfl⟩
      generalize fi l = x at *
      generalize fi a = y at *
      generalize fi (-1) = x' at *
      generalize fi 0 = y' at *
      go_wp2_with fail
      go_ret
      exact ⟨rfl, HB1.out⟩
    · have q2 : (FloatKind.f64.format.order (fi a) (fi 0) == some .eq) = false := by rw [h2, decide_eq_false c2]
      have hw : decide (Within l a) = false := decide_eq_false (by unfold Within; omega)
      have hd : decide (MayI l a g) = false := decide_eq_false (by unfold MayI Within; omega)
      rw [hd]
      rw [hw] at HW
      clear h1 h2 hd c1 c2 hw
      go_enter Try.func25, Try.ntmps25
      go_wp2_with fail
      refine (HN.out _).mono ?_
      rintro e w1 ⟨rfl, hb1⟩
      have hc1 := keep hb1 HC.out
      have HB1 := Lib.hid (keepB HB.out hb1)
      clear hb1 HB HC
      go_wp2_with fail
      refine (HR.out _).mono ?_
      rintro e w2 ⟨rfl, rfl⟩
      generalize fi l = x at *
      generalize fi a = y at *
      generalize fi (-1) = x' at *
      generalize fi 0 = y' at *
      go_wp2_with fail
      refine (HW.out _).mono ?_
      rintro e w3 ⟨rfl, rfl⟩
      go_wp2_with fail
      go_ret
      exact ⟨rfl, HB1.out⟩
  · have q1 : (FloatKind.f64.format.order (fi l) (fi (-1)) == some .eq) = false := by rw [h1, decide_eq_false c1]
    have hd : decide (MayI l a g) = (decide (Within l a) && decide (1 ≤ g)) := by
      rw [Bool.eq_iff_iff]; simp only [Bool.and_eq_true, decide_eq_true_eq]; unfold MayI
      exact ⟨fun h => h.elim (fun h => absurd h.1 c1) id, Or.inr⟩
    rw [hd]
    clear h1 h2 hd c1
    cases hw : decide (Within l a)
    all_goals
      rw [hw] at HW
      clear hw
      go_enter Try.func25, Try.ntmps25
      go_wp2_with fail
      refine (HN.out _).mono ?_
      rintro e w1 ⟨rfl, hb1⟩
      have hc1 := keep hb1 HC.out
      have HB1 := Lib.hid (keepB HB.out hb1)
      clear hb1 HB HC
      go_wp2_with fail
      refine (HR.out _).mono ?_
      rintro e w2 ⟨rfl, rfl⟩
      generalize fi l = x at *
      generalize fi a = y at *
      generalize fi (-1) = x' at *
      generalize fi 0 = y' at *
      go_wp2_with fail
      refine (HW.out _).mono ?_
      rintro e w3 ⟨rfl, rfl⟩
      go_wp2_with fail
      go_ret
      exact ⟨rfl, HB1.out⟩
theorem rroot_any (w : World) : Calls Try.prog 15 #[] w fun e w' => e = .returned (idV (-1) 0 0) ∧ Below w.heap.size w w' := by
  have H0 := Lib.hid (IdAt.new w 0 0 0)
  have HB := Lib.hid (bel1 (w := w) (Obj.cells #[.int .i64 0, .int .i64 0, .int .u32 0] 24))
  go_enter Try.func15, Try.ntmps15
  go_wp2_with (refine wpList_storeI rfl (.tmp 0) (.tmp 1) rfl w.heap.size rfl (-1) 0 0 rfl 0 0 0 H0.out ?_)
  refine bodyPost_ret (results_id rfl _ _ w.heap.size (-1) 0 0 rfl (H0.out.set _ _ _)) rfl ?_
  exact ⟨rfl, below_setRow HB.out (Nat.le_refl _) _⟩
end Go.Proofs.Ytcmmopngjeonfaa
