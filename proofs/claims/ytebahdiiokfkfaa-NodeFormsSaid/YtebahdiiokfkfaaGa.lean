/- Nodes as values: laid, loaded, stored, built, compared. -/
import Derived.Test.YtebahdiiokfkfaaBk
import Derived.Test.YtebahdiiokfkfaaRk
import Derived.Test.YtebahdiiokfkfaaAi
import Derived.Deep.DeepCutAuto
import Derived.StillTailTactics
namespace Go.Proofs.Ytebahdiiokfkfaa
open Go.ChangeShapes Go.WideShapes Go.ChangeAt Go.RowKit
set_option linter.unusedVariables false
/-- A node. -/
structure Nd where
  g : Int
  l : Int
  s : Int
  a : Int
  b : Int
  c : Int
  d : Int
  x : Int
  t : List Int
def u32 (g : Int) : Prop := 0 ≤ g ∧ g ≤ 4294967295
theorem Nd.ext_iff' (n m : Nd) : n = m ↔ (n.g = m.g ∧ n.l = m.l ∧ n.s = m.s ∧ (n.a = m.a ∧ n.b = m.b ∧ n.c = m.c ∧ n.d = m.d) ∧ n.x = m.x ∧ n.t = m.t) := by
  cases n; cases m
  simp only [Nd.mk.injEq]
  constructor <;> (intro h; simp only [h, and_self])
instance (n m : Nd) : Decidable (n = m) := decidable_of_iff _ (Nd.ext_iff' n m).symm
/-- Its cells. -/
def ndA (n : Nd) : Array Value := #[.int .u32 n.g, .int .i64 n.l, .int .i64 n.s, .int .i64 n.a, .int .i64 n.b, .int .i64 n.c, .int .i64 n.d, .int .i64 n.x, .string (strOfNums n.t)]
structure NdOk (n : Nd) : Prop where
  g : u32 n.g
  l : i64 n.l
  s : i64 n.s
  a : i64 n.a
  b : i64 n.b
  c : i64 n.c
  d : i64 n.d
  x : i64 n.x
  t : AllB n.t
  tl : n.t.length ≤ 9223372036854775807
def nd0 : Nd := ⟨0, 0, 0, 0, 0, 0, 0, 0, []⟩
theorem nd0_ok : NdOk nd0 := ⟨⟨by decide, by decide⟩, ⟨by decide, by decide⟩, ⟨by decide, by decide⟩, ⟨by decide, by decide⟩, ⟨by decide, by decide⟩, ⟨by decide, by decide⟩, ⟨by decide, by decide⟩, ⟨by decide, by decide⟩, (fun x hx => by cases hx), by decide⟩
theorem ndA_one (n : Nd) : (ndA n).all (·.oneCell') = true := by unfold ndA; simp [Value.oneCell']
theorem ndA_size (n : Nd) : (ndA n).size = 9 := rfl
theorem infoN : (Try.prog.info? 25).map (fun i => (i.zero, i.size)) = some (some (.agg (ndA nd0)), 9) := by kernel_rfl
theorem sizeN : (Try.prog.info? 25).map (·.size) = some 9 := by kernel_rfl
theorem builtN : Try.prog.built 25 [] = some (ndA nd0) := by kernel_rfl
/-- A node lies at a block. -/
def NdAt (w : World) (p : Nat) (n : Nd) : Prop := w.heap[p]? = some (.cells (ndA n) 25 (0, 0))
theorem NdAt.below {w w' : World} {p : Nat} {n : Nd} (h : NdAt w p n) (hb : Below w.heap.size w w') : NdAt w' p n := kb hb h
theorem NdAt.new (w : World) (n : Nd) : NdAt (w.alloc (Obj.cells (ndA n) 25)) w.heap.size n := heap_alloc_new _ _
theorem NdAt.alloc {w : World} {p : Nat} {n : Nd} (h : NdAt w p n) (o : Obj) : NdAt (w.alloc o) p n := kb (bel1 o) h
theorem NdAt.grown {w w' : World} {p : Nat} {n : Nd} {r : Option Nat} (h : NdAt w p n) (hg : w.grownBy w' r) (hr : r ≠ some p) : NdAt w' p n := by
  unfold NdAt; rw [hg.block p (room_lt h) (fun e => hr e.symm)]; exact h
theorem NdAt.set {w : World} {p : Nat} {n : Nd} (h : NdAt w p n) (m : Nd) : NdAt (w.setRow p (ndA m)) p m := setRow_blk h
theorem NdAt.other {w : World} {p q : Nat} {n : Nd} (h : NdAt w p n) (C : Array Value) (hq : p ≠ q) : NdAt (w.setRow q C) p n := by
  unfold NdAt; rw [setRow_other w q p C hq]; exact h
theorem NdAt.cell {w : World} {p : Nat} {n : Nd} (h : NdAt w p n) (i : Nat) : w.cell? ⟨p, i, none⟩ = (ndA n)[i]? := blk_cell h i
theorem NdAt.cells {w : World} {p : Nat} {n : Nd} (h : NdAt w p n) : w.cell? ⟨p, 0, none⟩ = some (.int .u32 n.g) ∧ w.cell? ⟨p, 1, none⟩ = some (.int .i64 n.l) ∧ w.cell? ⟨p, 2, none⟩ = some (.int .i64 n.s) ∧ w.cell? ⟨p, 7, none⟩ = some (.int .i64 n.x) ∧ w.cell? ⟨p, 8, none⟩ = some (.string (strOfNums n.t)) := ⟨h.cell 0, h.cell 1, h.cell 2, h.cell 7, h.cell 8⟩
section
variable {ops : Array Oper} {rest : List Oper} {o : Oper} {ac : Act} {w : World} {Q : Exit → Act → World → Prop}
theorem wpList_allocN (hgd : o.guard = none) (ho : o.op = .alloc 25)
    (h : wpList Try.prog ops Q rest (ac.put o.dst (.pointer (some ⟨w.heap.size, 0, none⟩))) (w.alloc (.cells (ndA nd0) 25))) : wpList Try.prog ops Q (o :: rest) ac w := by
  obtain ⟨i0, hi, hz0, hz1⟩ : ∃ i, Try.prog.info? 25 = some i ∧ i.zero = some (.agg (ndA nd0)) ∧ i.size = 9 := by
    have h := infoN
    cases hq : Try.prog.info? 25 with
    | none => rw [hq] at h; cases h
    | some i => rw [hq] at h; simp only [Option.map_some, Option.some.injEq, Prod.mk.injEq] at h; exact ⟨i, rfl, h.1, h.2⟩
  exact wpList_plain hgd fun _ hK => wp_alloc_of 25 ho i0 _ hi hz0 (hK _ _ h)
theorem wpList_buildN0 (hgd : o.guard = none) (ho : o.op = .build 25 #[])
    (h : wpList Try.prog ops Q rest (ac.put o.dst (.agg (ndA nd0))) w) : wpList Try.prog ops Q (o :: rest) ac w :=
  wpList_plain hgd fun _ hK => by
    unfold Oper.wp execOp
    have hb := run_build (P := Try.prog) w 25 #[] _ builtN
    simp only [ho, List.map_toArray, List.map_nil, Sem.run_bind, hb, Result.andThen_ok]
    exact hK _ _ h
theorem wpList_storeN (hgd : o.guard = none) (x y : Operand) (ho : o.op = .store 25 x y) (p : Nat) (hx : ac.eval x = .pointer (some ⟨p, 0, none⟩)) (n m : Nd) (hy : ac.eval y = .agg (ndA n)) (hg : NdAt w p m)
    (h : wpList Try.prog ops Q rest (ac.put o.dst undef) (w.setRow p (ndA n))) : wpList Try.prog ops Q (o :: rest) ac w :=
  wpList_store_row hgd 25 x y ho p _ hx hy _ _ hg sizeN rfl (ndA_one _) h
theorem wpList_loadN (hgd : o.guard = none) (x : Operand) (ho : o.op = .load 25 x) (p : Nat) (hx : ac.eval x = .pointer (some ⟨p, 0, none⟩)) (n : Nd) (hg : NdAt w p n)
    (h : wpList Try.prog ops Q rest (ac.put o.dst (.agg (ndA n))) w) : wpList Try.prog ops Q (o :: rest) ac w :=
  wpList_load_row hgd 25 x ho p hx _ _ _ _ hg Try.underlying25 rfl sizeN h
theorem wp_storeN {K : Act → World → Prop} (x y : Operand) (ho : o.op = .store 25 x y) (p : Nat) (hx : ac.eval x = .pointer (some ⟨p, 0, none⟩)) (n m : Nd) (hy : ac.eval y = .agg (ndA n)) (hg : NdAt w p m)
    (h : K (ac.put o.dst undef) (w.setRow p (ndA n))) : o.wp Try.prog ac w K Q :=
  wp_store_row 25 x y ho p _ hx hy _ _ hg sizeN rfl (ndA_one _) h
theorem wp_loadN {K : Act → World → Prop} (x : Operand) (ho : o.op = .load 25 x) (p : Nat) (hx : ac.eval x = .pointer (some ⟨p, 0, none⟩)) (n : Nd) (hg : NdAt w p n)
    (h : K (ac.put o.dst (.agg (ndA n))) w) : o.wp Try.prog ac w K Q :=
  wp_load_row 25 x ho p hx _ _ _ _ hg Try.underlying25 rfl sizeN h
theorem wpList_loadNw (hw : Region.wanted o (yielded ops ac.tmps) = true) (x : Operand) (ho : o.op = .load 25 x) (p : Nat) (hx : ac.eval x = .pointer (some ⟨p, 0, none⟩)) (n : Nd) (hg : NdAt w p n)
    (h : wpList Try.prog ops Q rest (ac.put o.dst (.agg (ndA n))) w) : wpList Try.prog ops Q (o :: rest) ac w :=
  BigFrame.wpList_want hw fun _ hK => wp_load_row 25 x ho p hx _ _ _ _ hg Try.underlying25 rfl sizeN (hK _ _ h)
end
theorem results_nd {fn : Func} {p : Tmp} (h : fn.results = #[.cell p 25]) (tmps : Array Value) (w : World) (q : Nat) (n : Nd) (hp : tmps.getD p undef = .pointer (some ⟨q, 0, none⟩)) (hg : NdAt w q n) :
    (results fn tmps).run Try.prog w = .ok (.agg (ndA n)) w :=
  results_cell_row h tmps w q _ _ _ _ hp hg Try.underlying25 rfl sizeN
theorem results_ndu {fn : Func} {p u : Tmp} (h : fn.results = #[.cell p 25, .tmp u]) (tmps : Array Value) (w : World) (q : Nat) (n : Nd) (hp : tmps.getD p undef = .pointer (some ⟨q, 0, none⟩)) (hg : NdAt w q n) :
    (results fn tmps).run Try.prog w = .ok (.tuple #[.agg (ndA n), tmps.getD u undef]) w := by
  rw [results_cell_tmp h, hp]
  simp only [asAddr, Sem.run_pure, Result.andThen_ok]
  rw [run_loadVar_row w q _ _ _ _ _ hg Try.underlying25 rfl sizeN]
  rfl
theorem results_blk1 {fn : Func} {p : Tmp} (h : fn.results = #[.cell p 28]) (tmps : Array Value) (w : World) (g : Nat) (k : Int) (bs : List Int) (hp : tmps.getD p undef = .pointer (some ⟨g, 0, none⟩)) (h56 : bs.length = 56) (hg : w.heap[g]? = some (.cells (blkA k bs) 28 (0, 0))) :
    (results fn tmps).run Try.prog w = .ok (.agg (blkA k bs)) w :=
  results_cell_row h tmps w g _ _ _ _ hp hg Try.underlying28 rfl (by rw [blkA_size h56]; exact size24b)
/-- The five places, as a value. -/
def Nd.ps (n : Nd) : List Int := [n.a, n.b, n.c, n.d, n.x]
def plA (n : Nd) : Array Value := #[.int .i64 n.a, .int .i64 n.b, .int .i64 n.c, .int .i64 n.d, .int .i64 n.x]
theorem plA_eq (n : Nd) : plA n = (Is n.ps).toArray := rfl
theorem eql4 (a b c d a' b' c' d' : Int) (k : Nat) (w : World) : (Op.equalIn (k + 3) 23 (.agg #[.int .i64 a, .int .i64 b, .int .i64 c, .int .i64 d]) (.agg #[.int .i64 a', .int .i64 b', .int .i64 c', .int .i64 d'])).run Try.prog w = .ok (decide (a = a') && (decide (b = b') && (decide (c = c') && decide (d = d')))) w := by
  have u3 := Try.underlying3
  have a3 := Try.isAgg3
  have z3 := Try.sizeOf3
  obtain ⟨i, hi⟩ : ∃ i, Try.prog.info? 3 = some i := by
    cases hq : Try.prog.info? 3 with
    | none => exact absurd hq (by have : (Try.prog.info? 3).isSome = true := by kernel_rfl
                                  intro e; rw [e] at this; cases this)
    | some i => exact ⟨i, rfl⟩
  rw [run_equalIn_array w (k + 2) _ _ Try.underlying23 hi, cells3b, show List.range 4 = [0, 1, 2, 3] from rfl]
  clear hi
  simp only [Op.eqItems]
  go_simp
  by_cases h1 : a = a' <;> by_cases h2 : b = b' <;> by_cases h3 : c = c' <;> by_cases h4 : d = d' <;> simp [h1, h2, h3, h4]
theorem eql5 (a b c d x a' b' c' d' x' : Int) (k : Nat) (w : World) : (Op.equalIn (k + 3) 41 (.agg #[.int .i64 a, .int .i64 b, .int .i64 c, .int .i64 d, .int .i64 x]) (.agg #[.int .i64 a', .int .i64 b', .int .i64 c', .int .i64 d', .int .i64 x'])).run Try.prog w = .ok (decide (a = a') && (decide (b = b') && (decide (c = c') && (decide (d = d') && decide (x = x'))))) w := by
  have u3 := Try.underlying3
  have a3 := Try.isAgg3
  have z3 := Try.sizeOf3
  obtain ⟨i, hi⟩ : ∃ i, Try.prog.info? 3 = some i := by
    cases hq : Try.prog.info? 3 with
    | none => exact absurd hq (by have : (Try.prog.info? 3).isSome = true := by kernel_rfl
                                  intro e; rw [e] at this; cases this)
    | some i => exact ⟨i, rfl⟩
  rw [run_equalIn_array w (k + 2) _ _ Try.underlying41 hi, cells3b, show List.range 5 = [0, 1, 2, 3, 4] from rfl]
  clear hi
  simp only [Op.eqItems]
  go_simp
  by_cases h1 : a = a' <;> by_cases h2 : b = b' <;> by_cases h3 : c = c' <;> by_cases h4 : d = d' <;> by_cases h5 : x = x' <;> simp [h1, h2, h3, h4, h5]
theorem eqlN0 (n m : Nd) (hn : NdOk n) (hm : NdOk m) (w : World) : (Op.equalIn 10000 25 (.agg (ndA n)) (.agg (ndA m))).run Try.prog w = .ok (decide (n = m)) w := by
  have hS : Try.prog.underlying 25 = some (.struct (Try.prog.fieldsOf 25)) := by kernel_rfl
  have hp : Try.prog.stoodInHeld 25 = false := by kernel_rfl
  have u3 := Try.underlying3
  have a3 := Try.isAgg3
  have z3 := Try.sizeOf3
  have u22 := Try.underlying22
  have a22 := Try.isAgg22
  have z22 := Try.sizeOf22
  have u23 := Try.underlying23
  have a23 := Try.isAgg23
  have z23 := Try.sizeOf23
  have u9 := Try.underlying9
  have a9 := Try.isAgg9
  have z9 := Try.sizeOf9
  have hb := str_beq hn.t hm.t
  rw [show (10000 : Nat) = 9998 + 1 + 1 from rfl, run_equalIn_agg w (9998 + 1) 25 _ _ hS hp]
  clear hS hp
  have hD : decide (n = m) = (decide (n.g = m.g) && (decide (n.l = m.l) && (decide (n.s = m.s) && (((decide (n.a = m.a) && (decide (n.b = m.b) && (decide (n.c = m.c) && decide (n.d = m.d))))) && (decide (n.x = m.x) && decide (n.t = m.t)))))) := by
    rw [Bool.eq_iff_iff]; simp only [Bool.and_eq_true, decide_eq_true_eq]; exact Nd.ext_iff' n m
  rw [hD]
  unfold ndA
  clear hn hm
  simp only [Program.fieldsOf, Try.underlying25]
  go_simp
  rw [show (9999 : Nat) = 9996 + 3 from rfl, eql4]
  simp only [Result.andThen_ok]
  by_cases h1 : n.g = m.g <;> by_cases h2 : n.l = m.l <;> by_cases h3 : n.s = m.s <;> by_cases h4 : n.x = m.x <;> by_cases h5 : n.t = m.t <;> cases h6 : (decide (n.a = m.a) && (decide (n.b = m.b) && (decide (n.c = m.c) && decide (n.d = m.d)))) <;> simp_all
theorem guardN : Try.prog.eqGuardType Try.prog.depth 25 = false := by kernel_rfl
theorem wpList_eqlNw {ops : Array Oper} {rest : List Oper} {o : Oper} {a : Act} {w : World} {Q : Exit → Act → World → Prop} (hw : Region.wanted o (yielded ops a.tmps) = true) (x y : Operand) (t : TypeId) (ho : o.op = .binOp .eql 25 x y t) (n m : Nd) (hx : a.eval x = .agg (ndA n)) (hy : a.eval y = .agg (ndA m)) (hn : NdOk n) (hm : NdOk m)
    (h : wpList Try.prog ops Q rest (a.put o.dst (.bool (decide (n = m)))) w) : wpList Try.prog ops Q (o :: rest) a w :=
  BigFrame.wpList_want hw fun _ hK => by
    have hg := run_eqGuard_agg (P := Try.prog) w .eql 25 x y (ndA n) (ndA m) guardN
    have hr := run_eql_struct (P := Try.prog) w 25 (ndA n) (ndA m)
    rw [eqlN0 n m hn hm w] at hr
    unfold Oper.wp execOp
    simp only [ho, hx, hy, Sem.run_bind, hg, hr, Result.andThen_ok]
    exact hK _ _ h
theorem run_neq_struct' {P : Program} (w : World) (t : TypeId) (xs ys : Array Value) : (binOp .neq t (.agg xs) (.agg ys)).run P w = ((Op.equalIn 10000 t (.agg xs) (.agg ys)).run P w).andThen fun b w' => .ok (.bool (!b)) w' := by
  simp only [binOp]
  simp [Op.equal, Op.maxDepth]
theorem neqB (k j : Int) (bs cs : List Int) (hb : bs.length = 56) (hc : cs.length = 56) (hB : AllB bs) (hC : AllB cs) (w : World) : (binOp .neq 28 (.agg (blkA k bs)) (.agg (blkA j cs))).run Try.prog w = .ok (.bool (!(decide (k = j ∧ bs = cs)))) w := by
  rw [run_neq_struct', eql24 k j bs cs hb hc hB hC w]; rfl
theorem wpList_neqBw {ops : Array Oper} {rest : List Oper} {o : Oper} {a : Act} {w : World} {Q : Exit → Act → World → Prop} (hw : Region.wanted o (yielded ops a.tmps) = true) (x y : Operand) (t : TypeId) (ho : o.op = .binOp .neq 28 x y t) (k j : Int) (bs cs : List Int) (hx : a.eval x = .agg (blkA k bs)) (hy : a.eval y = .agg (blkA j cs)) (hb : bs.length = 56) (hc : cs.length = 56) (hB : AllB bs) (hC : AllB cs)
    (h : wpList Try.prog ops Q rest (a.put o.dst (.bool (!(decide (k = j ∧ bs = cs))))) w) : wpList Try.prog ops Q (o :: rest) a w :=
  BigFrame.wpList_want hw fun _ hK => by
    have hg := run_eqGuard_agg (P := Try.prog) w .neq 28 x y (blkA k bs) (blkA j cs) guard24
    have hr := neqB k j bs cs hb hc hB hC w
    unfold Oper.wp execOp
    simp only [ho, hx, hy, Sem.run_bind, hg, hr, Result.andThen_ok]
    exact hK _ _ h
theorem eq5_any (n : Nd) (w : World) : (binOp .eql 41 (.agg (plA n)) (.agg #[.int .i64 (-1), .int .i64 (-1), .int .i64 (-1), .int .i64 (-1), .int .i64 (-1)])).run Try.prog w = .ok (.bool (decide (n.ps = [-1, -1, -1, -1, -1]))) w := by
  unfold plA
  rw [run_eql_struct, show (10000 : Nat) = 9997 + 3 from rfl, eql5]
  simp only [Result.andThen_ok]
  congr 2
  rw [Bool.eq_iff_iff]
  unfold Nd.ps
  simp
end Go.Proofs.Ytebahdiiokfkfaa
