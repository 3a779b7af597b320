/- Names as values: laid, loaded, stored, built, compared. -/
import Derived.Test.YtcmmopngjeonfaaUj
import Derived.Test.YtcmmopngjeonfaaGm
import Derived.Test.YtcmmopngjeonfaaGn
namespace Go.Proofs.Ytcmmopngjeonfaa
open Go.ChangeShapes Go.WideShapes Go.ChangeAt Go.RowKit
set_option linter.unusedVariables false
/-- A name: the folder's ID (l, a, g), the name's bytes, whom it names (p, n). -/
structure En where
  l : Int
  a : Int
  g : Int
  t : List Int
  p : Int
  n : Int
theorem En.ext_iff' (n m : En) : n = m ↔ ((n.l = m.l ∧ n.a = m.a ∧ n.g = m.g) ∧ n.t = m.t ∧ n.p = m.p ∧ n.n = m.n) := by
  cases n; cases m
  simp only [En.mk.injEq]
  constructor <;> (intro h; simp only [h, and_self])
instance (n m : En) : Decidable (n = m) := decidable_of_iff _ (En.ext_iff' n m).symm
/-- Its cells. -/
def enA (n : En) : Array Value := #[.int .i64 n.l, .int .i64 n.a, .int .u32 n.g, .string (strOfNums n.t), .int .i64 n.p, .int .u32 n.n]
structure EnOk (n : En) : Prop where
  l : i64 n.l
  a : i64 n.a
  g : u32 n.g
  t : AllB n.t
  tl : n.t.length ≤ 9223372036854775807
  p : i64 n.p
  n : u32 n.n
def en0 : En := ⟨0, 0, 0, [], 0, 0⟩
theorem en0_ok : EnOk en0 := ⟨⟨by decide, by decide⟩, ⟨by decide, by decide⟩, ⟨by decide, by decide⟩, (fun x hx => by cases hx), by decide, ⟨by decide, by decide⟩, ⟨by decide, by decide⟩⟩
theorem enA_one (n : En) : (enA n).all (·.oneCell') = true := by unfold enA; simp [Value.oneCell']
theorem enA_size (n : En) : (enA n).size = 6 := rfl
theorem infoE : (Try.prog.info? 26).map (fun i => (i.zero, i.size)) = some (some (.agg (enA en0)), 6) := by kernel_rfl
theorem sizeE : (Try.prog.info? 26).map (·.size) = some 6 := by kernel_rfl
theorem builtE : Try.prog.built 26 [] = some (enA en0) := by kernel_rfl
/-- A node lies at a block. -/
def EnAt (w : World) (p : Nat) (n : En) : Prop := w.heap[p]? = some (.cells (enA n) 26 (0, 0))
theorem EnAt.below {w w' : World} {p : Nat} {n : En} (h : EnAt w p n) (hb : Below w.heap.size w w') : EnAt w' p n := kb hb h
theorem EnAt.new (w : World) (n : En) : EnAt (w.alloc (Obj.cells (enA n) 26)) w.heap.size n := heap_alloc_new _ _
theorem EnAt.alloc {w : World} {p : Nat} {n : En} (h : EnAt w p n) (o : Obj) : EnAt (w.alloc o) p n := kb (bel1 o) h
theorem EnAt.grown {w w' : World} {p : Nat} {n : En} {r : Option Nat} (h : EnAt w p n) (hg : w.grownBy w' r) (hr : r ≠ some p) : EnAt w' p n := by
  unfold EnAt; rw [hg.block p (room_lt h) (fun e => hr e.symm)]; exact h
theorem EnAt.set {w : World} {p : Nat} {n : En} (h : EnAt w p n) (m : En) : EnAt (w.setRow p (enA m)) p m := setRow_blk h
theorem EnAt.other {w : World} {p q : Nat} {n : En} (h : EnAt w p n) (C : Array Value) (hq : p ≠ q) : EnAt (w.setRow q C) p n := by
  unfold EnAt; rw [setRow_other w q p C hq]; exact h
theorem EnAt.cell {w : World} {p : Nat} {n : En} (h : EnAt w p n) (i : Nat) : w.cell? ⟨p, i, none⟩ = (enA n)[i]? := blk_cell h i
theorem EnAt.cells {w : World} {p : Nat} {n : En} (h : EnAt w p n) : w.cell? ⟨p, 3, none⟩ = some (.string (strOfNums n.t)) ∧ w.cell? ⟨p, 4, none⟩ = some (.int .i64 n.p) ∧ w.cell? ⟨p, 5, none⟩ = some (.int .u32 n.n) := ⟨h.cell 3, h.cell 4, h.cell 5⟩
section
variable {ops : Array Oper} {rest : List Oper} {o : Oper} {ac : Act} {w : World} {Q : Exit → Act → World → Prop}
theorem wpList_allocE (hgd : o.guard = none) (ho : o.op = .alloc 26)
    (h : wpList Try.prog ops Q rest (ac.put o.dst (.pointer (some ⟨w.heap.size, 0, none⟩))) (w.alloc (.cells (enA en0) 26))) : wpList Try.prog ops Q (o :: rest) ac w := by
  obtain ⟨i0, hi, hz0, hz1⟩ : ∃ i, Try.prog.info? 26 = some i ∧ i.zero = some (.agg (enA en0)) ∧ i.size = 6 := by
    have h := infoE
    cases hq : Try.prog.info? 26 with
    | none => rw [hq] at h; cases h
    | some i => rw [hq] at h; simp only [Option.map_some, Option.some.injEq, Prod.mk.injEq] at h; exact ⟨i, rfl, h.1, h.2⟩
  exact wpList_plain hgd fun _ hK => wp_alloc_of 26 ho i0 _ hi hz0 (hK _ _ h)
theorem wpList_buildE0 (hgd : o.guard = none) (ho : o.op = .build 26 #[])
    (h : wpList Try.prog ops Q rest (ac.put o.dst (.agg (enA en0))) w) : wpList Try.prog ops Q (o :: rest) ac w :=
  wpList_plain hgd fun _ hK => by
    unfold Oper.wp execOp
    have hb := run_build (P := Try.prog) w 26 #[] _ builtE
    simp only [ho, List.map_toArray, List.map_nil, Sem.run_bind, hb, Result.andThen_ok]
    exact hK _ _ h
theorem wpList_storeE (hgd : o.guard = none) (x y : Operand) (ho : o.op = .store 26 x y) (p : Nat) (hx : ac.eval x = .pointer (some ⟨p, 0, none⟩)) (n m : En) (hy : ac.eval y = .agg (enA n)) (hg : EnAt w p m)
    (h : wpList Try.prog ops Q rest (ac.put o.dst undef) (w.setRow p (enA n))) : wpList Try.prog ops Q (o :: rest) ac w :=
  wpList_store_row hgd 26 x y ho p _ hx hy _ _ hg sizeE rfl (enA_one _) h
theorem wpList_loadE (hgd : o.guard = none) (x : Operand) (ho : o.op = .load 26 x) (p : Nat) (hx : ac.eval x = .pointer (some ⟨p, 0, none⟩)) (n : En) (hg : EnAt w p n)
    (h : wpList Try.prog ops Q rest (ac.put o.dst (.agg (enA n))) w) : wpList Try.prog ops Q (o :: rest) ac w :=
  wpList_load_row hgd 26 x ho p hx _ _ _ _ hg Try.underlying26 rfl sizeE h
theorem wp_storeE {K : Act → World → Prop} (x y : Operand) (ho : o.op = .store 26 x y) (p : Nat) (hx : ac.eval x = .pointer (some ⟨p, 0, none⟩)) (n m : En) (hy : ac.eval y = .agg (enA n)) (hg : EnAt w p m)
    (h : K (ac.put o.dst undef) (w.setRow p (enA n))) : o.wp Try.prog ac w K Q :=
  wp_store_row 26 x y ho p _ hx hy _ _ hg sizeE rfl (enA_one _) h
theorem wp_loadE {K : Act → World → Prop} (x : Operand) (ho : o.op = .load 26 x) (p : Nat) (hx : ac.eval x = .pointer (some ⟨p, 0, none⟩)) (n : En) (hg : EnAt w p n)
    (h : K (ac.put o.dst (.agg (enA n))) w) : o.wp Try.prog ac w K Q :=
  wp_load_row 26 x ho p hx _ _ _ _ hg Try.underlying26 rfl sizeE h
theorem wpList_loadEw (hw : Region.wanted o (yielded ops ac.tmps) = true) (x : Operand) (ho : o.op = .load 26 x) (p : Nat) (hx : ac.eval x = .pointer (some ⟨p, 0, none⟩)) (n : En) (hg : EnAt w p n)
    (h : wpList Try.prog ops Q rest (ac.put o.dst (.agg (enA n))) w) : wpList Try.prog ops Q (o :: rest) ac w :=
  BigFrame.wpList_want hw fun _ hK => wp_load_row 26 x ho p hx _ _ _ _ hg Try.underlying26 rfl sizeE (hK _ _ h)
end
theorem results_en {fn : Func} {p : Tmp} (h : fn.results = #[.cell p 26]) (tmps : Array Value) (w : World) (q : Nat) (n : En) (hp : tmps.getD p undef = .pointer (some ⟨q, 0, none⟩)) (hg : EnAt w q n) :
    (results fn tmps).run Try.prog w = .ok (.agg (enA n)) w :=
  results_cell_row h tmps w q _ _ _ _ hp hg Try.underlying26 rfl sizeE
theorem results_enu {fn : Func} {p u : Tmp} (h : fn.results = #[.cell p 26, .tmp u]) (tmps : Array Value) (w : World) (q : Nat) (n : En) (hp : tmps.getD p undef = .pointer (some ⟨q, 0, none⟩)) (hg : EnAt w q n) :
    (results fn tmps).run Try.prog w = .ok (.tuple #[.agg (enA n), tmps.getD u undef]) w := by
  rw [results_cell_tmp h, hp]
  simp only [asAddr, Sem.run_pure, Result.andThen_ok]
  rw [run_loadVar_row w q _ _ _ _ _ hg Try.underlying26 rfl sizeE]
  rfl
theorem eqlIin (l a g l' a' g' : Int) (k : Nat) (w : World) : (Op.equalIn (k + 2) 24 (.agg #[.int .i64 l, .int .i64 a, .int .u32 g]) (.agg #[.int .i64 l', .int .i64 a', .int .u32 g'])).run Try.prog w = .ok (decide (l = l') && (decide (a = a') && decide (g = g'))) w := by
  have u3 := Try.underlying3
  have a3 := Try.isAgg3
  have z3 := Try.sizeOf3
  have u22 := Try.underlying22
  have a22 := Try.isAgg22
  have z22 := Try.sizeOf22
  have hS : Try.prog.underlying 24 = some (.struct (Try.prog.fieldsOf 24)) := by kernel_rfl
  have hp : Try.prog.stoodInHeld 24 = false := by kernel_rfl
  rw [run_equalIn_agg w (k + 1) 24 _ _ hS hp]
  clear hS hp
  simp only [Program.fieldsOf, Try.underlying24]
  go_simp
  by_cases h1 : l = l' <;> by_cases h2 : a = a' <;> by_cases h3 : g = g' <;> simp [h1, h2, h3]
theorem eqlE0 (n m : En) (hn : EnOk n) (hm : EnOk m) (w : World) : (Op.equalIn 10000 26 (.agg (enA n)) (.agg (enA m))).run Try.prog w = .ok (decide (n = m)) w := by
  have hS : Try.prog.underlying 26 = some (.struct (Try.prog.fieldsOf 26)) := by kernel_rfl
  have hp : Try.prog.stoodInHeld 26 = false := by kernel_rfl
  have u3 := Try.underlying3
  have a3 := Try.isAgg3
  have z3 := Try.sizeOf3
  have u22 := Try.underlying22
  have a22 := Try.isAgg22
  have z22 := Try.sizeOf22
  have a24 := Try.isAgg24
  have z24 := Try.sizeOf24
  have u9 := Try.underlying9
  have a9 := Try.isAgg9
  have z9 := Try.sizeOf9
  have hb := str_beq hn.t hm.t
  have hid := eqlIin n.l n.a n.g m.l m.a m.g 9997 w
  rw [show (10000 : Nat) = 9998 + 1 + 1 from rfl, run_equalIn_agg w (9998 + 1) 26 _ _ hS hp]
  clear hS hp
  have hD : decide (n = m) = ((decide (n.l = m.l) && (decide (n.a = m.a) && decide (n.g = m.g))) && (decide (n.t = m.t) && (decide (n.p = m.p) && decide (n.n = m.n)))) := by
    rw [Bool.eq_iff_iff]; simp only [Bool.and_eq_true, decide_eq_true_eq]; exact En.ext_iff' n m
  rw [hD]
  unfold enA
  clear hn hm
  simp only [Program.fieldsOf, Try.underlying26]
  go_simp
  by_cases h1 : n.t = m.t <;> by_cases h2 : n.p = m.p <;> by_cases h3 : n.n = m.n <;> cases h6 : (decide (n.l = m.l) && (decide (n.a = m.a) && decide (n.g = m.g))) <;> simp_all
theorem guardE : Try.prog.eqGuardType Try.prog.depth 26 = false := by kernel_rfl
theorem wpList_eqlEw {ops : Array Oper} {rest : List Oper} {o : Oper} {a : Act} {w : World} {Q : Exit → Act → World → Prop} (hw : Region.wanted o (yielded ops a.tmps) = true) (x y : Operand) (t : TypeId) (ho : o.op = .binOp .eql 26 x y t) (n m : En) (hx : a.eval x = .agg (enA n)) (hy : a.eval y = .agg (enA m)) (hn : EnOk n) (hm : EnOk m)
    (h : wpList Try.prog ops Q rest (a.put o.dst (.bool (decide (n = m)))) w) : wpList Try.prog ops Q (o :: rest) a w :=
  BigFrame.wpList_want hw fun _ hK => by
    have hg := run_eqGuard_agg (P := Try.prog) w .eql 26 x y (enA n) (enA m) guardE
    have hr := run_eql_struct (P := Try.prog) w 26 (enA n) (enA m)
    rw [eqlE0 n m hn hm w] at hr
    unfold Oper.wp execOp
    simp only [ho, hx, hy, Sem.run_bind, hg, hr, Result.andThen_ok]
    exact hK _ _ h
end Go.Proofs.Ytcmmopngjeonfaa
