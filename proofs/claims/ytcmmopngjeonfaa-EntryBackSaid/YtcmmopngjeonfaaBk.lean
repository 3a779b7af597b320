/- Blocks as values in memory (block's texts joined, without its functions: for seats that have not block): laid, built, loaded, stored, compared, opened as arguments. -/
import Derived.Test.YtcmmopngjeonfaaNm
import Derived.Test.YtcmmopngjeonfaaW
import Derived.Laws.CopyRow
import Derived.Laws.ResultCell
import Derived.Laws.Tables
import Derived.Laws.Rows
import Derived.Laws.StructEq
import Derived.Laws.BitsAllLaws
import Derived.Stop.BytesEq
namespace Go.Proofs.Ytcmmopngjeonfaa
open Go.ChangeShapes Go.WideShapes Go.ChangeAt Go.RowKit
set_option linter.unusedVariables false
/-- A block as a value: its kind, its body. -/
def blkL (k : Int) (bs : List Int) : List Value := .int .i64 k :: Bs bs
theorem add_off (g o i : Nat) : (⟨g, o, none⟩ : Addr).add i = ⟨g, o + i, none⟩ := by unfold Addr.add; split <;> simp_all
/-- The body of a block in memory. -/
theorem byt_body {W : World} {g : Nat} {C : Array Value} {t : TypeId} {fr : Nat × Nat} {k : Int} {bs : List Int} (h : W.heap[g]? = some (.cells C t fr)) (hc : C.toList = blkL k bs) : Byt W (some ⟨g, 1, none⟩) bs := by
  intro i x hi
  refine ⟨_, rfl, ?_⟩
  rw [add_off, cell_of_row _ _ _ _ _ _ h, ← Array.getElem?_toList, hc, Nat.add_comm]
  exact Bs_at hi
theorem blk_kind {W : World} {g : Nat} {C : Array Value} {t : TypeId} {fr : Nat × Nat} {k : Int} {bs : List Int} (h : W.heap[g]? = some (.cells C t fr)) (hc : C.toList = blkL k bs) : W.cell? ⟨g, 0, none⟩ = some (.int .i64 k) := by
  rw [cell_of_row _ _ _ _ _ _ h, ← Array.getElem?_toList, hc]; rfl
def u32 (g : Int) : Prop := 0 ≤ g ∧ g ≤ 4294967295
theorem run_neq_struct' {P : Program} (w : World) (t : TypeId) (xs ys : Array Value) : (binOp .neq t (.agg xs) (.agg ys)).run P w = ((Op.equalIn 10000 t (.agg xs) (.agg ys)).run P w).andThen fun b w' => .ok (.bool (!b)) w' := by
  simp only [binOp]
  simp [Op.equal, Op.maxDepth]
theorem setRow_blk {w : World} {g : Nat} {C D : Array Value} {t : TypeId} {fr : Nat × Nat} (h : w.heap[g]? = some (.cells C t fr)) : (w.setRow g D).heap[g]? = some (.cells D t fr) := setRow_heap w g C D t fr h
theorem below_setRow {B g : Nat} {w W : World} (h : Below B w W) (hg : B ≤ g) (D : Array Value) : Below B w (W.setRow g D) :=
  ⟨h.os, h.tape, h.output, by simpa using h.size, fun k hk => by rw [setRow_other W g k D (by omega)]; exact h.block k hk⟩
def zBs : List Int := List.replicate 56 0
def blkA (k : Int) (bs : List Int) : Array Value := (blkL k bs).toArray
theorem blkA_list (k : Int) (bs : List Int) : (blkA k bs).toList = blkL k bs := by unfold blkA; simp
theorem blkA_size {k : Int} {bs : List Int} (h : bs.length = 56) : (blkA k bs).size = 57 := by unfold blkA blkL; simp [Bs_length, h]
theorem blkA_one (k : Int) (bs : List Int) : (blkA k bs).all (·.oneCell') = true := by
  refine Array.all_eq_true_iff_forall_mem.2 fun v hv => ?_
  unfold blkA blkL at hv
  simp only [List.mem_toArray, List.mem_cons] at hv
  rcases hv with rfl | hv
  · rfl
  · exact Bs_one bs v hv
theorem zBs_len : zBs.length = 56 := by unfold zBs; simp
theorem info24 : (Try.prog.info? 29).map (fun i => (i.zero, i.size, i.bytes)) = some (some (.agg (blkA 0 zBs)), 57, 64) := by kernel_rfl
theorem size24b : (Try.prog.info? 29).map (·.size) = some 57 := by kernel_rfl
theorem built24 : Try.prog.built 29 [] = some (blkA 0 zBs) := by kernel_rfl
section
variable {ops : Array Oper} {rest : List Oper} {o : Oper} {a : Act} {w : World} {Q : Exit → Act → World → Prop}
theorem wpList_allocB (hgd : o.guard = none) (ho : o.op = .alloc 29)
    (h : wpList Try.prog ops Q rest (a.put o.dst (.pointer (some ⟨w.heap.size, 0, none⟩))) (w.alloc (.cells (blkA 0 zBs) 29))) : wpList Try.prog ops Q (o :: rest) a w := by
  obtain ⟨i0, hi, hz0, hz1, hz2⟩ := info_parts info24
  exact wpList_plain hgd fun _ hK => wp_alloc_of 29 ho i0 _ hi hz0 (hK _ _ h)
theorem wpList_buildB0 (hgd : o.guard = none) (ho : o.op = .build 29 #[])
    (h : wpList Try.prog ops Q rest (a.put o.dst (.agg (blkA 0 zBs))) w) : wpList Try.prog ops Q (o :: rest) a w :=
  wpList_plain hgd fun _ hK => by
    unfold Oper.wp execOp
    have hb := run_build (P := Try.prog) w 29 #[] _ built24
    simp only [ho, List.map_toArray, List.map_nil, Sem.run_bind, hb, Result.andThen_ok]
    exact hK _ _ h
theorem wpList_loadB (hgd : o.guard = none) (x : Operand) (ho : o.op = .load 29 x) (g : Nat) (hx : a.eval x = .pointer (some ⟨g, 0, none⟩)) (k : Int) (bs : List Int) (h56 : bs.length = 56) (hg : w.heap[g]? = some (.cells (blkA k bs) 29 (0, 0)))
    (h : wpList Try.prog ops Q rest (a.put o.dst (.agg (blkA k bs))) w) : wpList Try.prog ops Q (o :: rest) a w :=
  wpList_load_row hgd 29 x ho g hx _ _ _ _ hg Try.underlying29 rfl (by rw [blkA_size h56]; exact size24b) h
theorem wpList_storeB (hgd : o.guard = none) (x y : Operand) (ho : o.op = .store 29 x y) (g : Nat) (hx : a.eval x = .pointer (some ⟨g, 0, none⟩)) (k j : Int) (bs cs : List Int) (hy : a.eval y = .agg (blkA k bs)) (h56 : bs.length = 56) (h56' : cs.length = 56) (hg : w.heap[g]? = some (.cells (blkA j cs) 29 (0, 0)))
    (h : wpList Try.prog ops Q rest (a.put o.dst undef) (w.setRow g (blkA k bs))) : wpList Try.prog ops Q (o :: rest) a w :=
  wpList_store_row hgd 29 x y ho g _ hx hy _ _ hg (by rw [blkA_size h56]; exact size24b) (by rw [blkA_size h56, blkA_size h56']) (blkA_one _ _) h
end
theorem results_blk {fn : Func} {p u : Tmp} (h : fn.results = #[.cell p 29, .tmp u]) (tmps : Array Value) (w : World) (g : Nat) (k : Int) (bs : List Int) (hp : tmps.getD p undef = .pointer (some ⟨g, 0, none⟩)) (h56 : bs.length = 56) (hg : w.heap[g]? = some (.cells (blkA k bs) 29 (0, 0))) :
    (results fn tmps).run Try.prog w = .ok (.tuple #[.agg (blkA k bs), tmps.getD u undef]) w := by
  rw [results_cell_tmp h, hp]
  simp only [asAddr, Sem.run_pure, Result.andThen_ok]
  rw [run_loadVar_row w g _ _ _ _ _ hg Try.underlying29 rfl (by rw [blkA_size h56]; exact size24b)]
  rfl
theorem built24k (x : Int) : Try.prog.built 29 [(0, .int .i64 x)] = some (blkA x zBs) := by kernel_rfl
theorem wpList_buildBk {ops : Array Oper} {rest : List Oper} {o : Oper} {a : Act} {w : World} {Q : Exit → Act → World → Prop} (hgd : o.guard = none) (x : Operand) (k : Int) (ho : o.op = .build 29 #[(0, x)]) (hx : a.eval x = .int .i64 k)
    (h : wpList Try.prog ops Q rest (a.put o.dst (.agg (blkA k zBs))) w) : wpList Try.prog ops Q (o :: rest) a w :=
  wpList_plain hgd fun _ hK => by
    unfold Oper.wp execOp
    have hb := run_build (P := Try.prog) w 29 #[(0, .int .i64 k)] _ (built24k k)
    simp only [ho, List.map_toArray, List.map_cons, List.map_nil, hx, Sem.run_bind, hb, Result.andThen_ok]
    exact hK _ _ h
theorem blkA_setB (k : Int) (bs : List Int) (j : Nat) (x : Int) : (blkA k bs).setIfInBounds (1 + j) (.int .u8 x) = blkA k (bs.set j x) := by
  unfold blkA blkL
  rw [Nat.add_comm]
  simp [← set_Bs]
def u8s (bs : List Int) : List UInt8 := bs.map fun n => UInt8.ofNat n.toNat
theorem Bs_cell {bs : List Int} (h : AllB bs) : Bs bs = (u8s bs).map Extern.Stop.cell := by
  unfold Bs u8s
  rw [List.map_map]
  refine List.map_congr_left fun x hx => ?_
  have hb := h x hx
  simp only [Function.comp_apply, Extern.Stop.cell, UInt8.toNat_ofNat']
  congr 1
  show x = ((x.toNat % 256 : Nat) : Int)
  omega
theorem two_of {α : Type} : ∀ {l : List α}, l.length = 2 → ∃ a b, l = [a, b]
  | [a, b], _ => ⟨a, b, rfl⟩
  | [], h => by cases h
  | [_], h => by cases h
  | _ :: _ :: _ :: _, h => by simp at h
theorem eql24 (k j : Int) (bs cs : List Int) (hb : bs.length = 56) (hc : cs.length = 56) (hB : AllB bs) (hC : AllB cs) (w : World) :
    (Op.equalIn 10000 29 (.agg (blkA k bs)) (.agg (blkA j cs))).run Try.prog w = .ok (decide (k = j ∧ bs = cs)) w := by
  have hS : Try.prog.underlying 29 = some (.struct (Try.prog.fieldsOf 29)) := by kernel_rfl
  have hp : Try.prog.stoodInHeld 29 = false := by kernel_rfl
  have u3 := Try.underlying3
  have a3 := Try.isAgg3
  have z3 := Try.sizeOf3
  have a22 := Try.isAgg27
  have z22 := Try.sizeOf27
  rw [show (10000 : Nat) = 9999 + 1 from rfl, run_equalIn_struct w 9999 29 _ _ hS hp]
  clear hS hp
  have p1 : ∀ (k : Int) (bs : List Int) w, bs.length = 56 → (part 27 (blkA k bs) 1).run Try.prog w = .ok (.agg (Bs bs).toArray) w := fun k bs w h => by
    have e : (blkA k bs).extract 1 57 = (Bs bs).toArray := by
      have hl : (Bs bs).length = 56 := by rw [Bs_length, h]
      unfold blkA blkL
      simp [← hl]
    simp [part, a22, z22, e, blkA_size h]
  have p0 : ∀ (k : Int) (bs : List Int) w, (part 3 (blkA k bs) 0).run Try.prog w = .ok (.int .i64 k) w := fun k bs w => by
    simp [part, a3, blkA, blkL]
  have he : ∀ w, (Op.equalIn 9999 27 (.agg (Bs bs).toArray) (.agg (Bs cs).toArray)).run Try.prog w = .ok (decide (bs = cs)) w := fun w => by
    have h := run_equalIn_bytes (P := Try.prog) w 9997 27 5 56 Try.underlying27 Try.underlying5 (fun w => Try.sizeOf5 w) (u8s bs) (u8s cs) (by unfold u8s; simp [hb]) (by unfold u8s; simp [hc])
    rw [← Bs_cell hB, ← Bs_cell hC] at h
    rw [show (9999 : Nat) = 9997 + 2 from rfl, h]
    congr 1
    rw [Bool.eq_iff_iff]
    simp only [beq_iff_eq, decide_eq_true_eq]
    exact ⟨map_byte_inj hB hC, fun h => by rw [h]⟩
  have hf : (Try.prog.fieldsOf 29).toList.map (fun f => (f.name, f.type, f.offset)) = [("Kind", 3, 0), ("Body", 27, 1)] := by kernel_rfl
  revert hf
  generalize (Try.prog.fieldsOf 29).toList = fs
  intro hf
  obtain ⟨f0, f1, rfl⟩ := two_of (show fs.length = 2 by simpa using congrArg List.length hf)
  simp only [List.map_cons, List.map_nil, List.cons.injEq, Prod.mk.injEq, and_true] at hf
  obtain ⟨⟨n0, t0, o0⟩, ⟨n1, t1, o1⟩⟩ := hf
  have q0 : ∀ (k : Int) (bs : List Int) w, (part f0.type (blkA k bs) f0.offset).run Try.prog w = .ok (.int .i64 k) w := fun k bs w => by rw [t0, o0]; exact p0 k bs w
  have q1 : ∀ (k : Int) (bs : List Int) w, bs.length = 56 → (part f1.type (blkA k bs) f1.offset).run Try.prog w = .ok (.agg (Bs bs).toArray) w := fun k bs w h => by rw [t1, o1]; exact p1 k bs w h
  have e0 : ∀ w, (Op.equalIn 9999 f0.type (.int .i64 k) (.int .i64 j)).run Try.prog w = .ok (k == j) w := fun w => by
    rw [t0]; exact run_equalIn_int (P := Try.prog) w 9998 3 .i64 .i64 k j Try.underlying3
  have e1 : ∀ w, (Op.equalIn 9999 f1.type (.agg (Bs bs).toArray) (.agg (Bs cs).toArray)).run Try.prog w = .ok (decide (bs = cs)) w := fun w => by
    rw [t1]; exact he w
  have m0 : f0.name ≠ "_" := by rw [n0]; decide
  have m1 : f1.name ≠ "_" := by rw [n1]; decide
  clear p0 p1 he n0 t0 o0 n1 t1 o1 u3 a3 z3 a22 z22
  simp only [Op.eqFields, if_pos m0, if_pos m1, Sem.run_bind, q0, Result.andThen_ok, e0]
  by_cases hk : k = j
  · subst hk
    by_cases hq : bs = cs
    · subst hq; simp [e1, Sem.run_bind, q1 _ _ _ hb]
    · simp [e1, Sem.run_bind, q1 _ _ _ hb, q1 _ _ _ hc, hq]
  · simp [hk]
theorem zBs_allB : AllB zBs := fun x hx => by unfold zBs at hx; rw [List.eq_of_mem_replicate hx]; omega
theorem set_allB {bs : List Int} (h : AllB bs) (i : Nat) {y : Int} (hy : 0 ≤ y ∧ y < 256) : AllB (bs.set i y) := fun x hx => by
  rcases List.mem_or_eq_of_mem_set hx with h1 | rfl
  · exact h x h1
  · exact hy
theorem loadAt_blk (w : World) (g : Nat) (k : Int) (bs : List Int) (h56 : bs.length = 56) (hg : w.heap[g]? = some (.cells (blkA k bs) 29 (0, 0))) :
    (Instr.loadAt 29 (.pointer (some ⟨g, 0, none⟩))).run Try.prog w = .ok (.agg (blkA k bs)) w := by
  simp only [Instr.loadAt, Instr.sureAddr, Sem.run_bind, Sem.run_pure, Result.andThen_ok]
  exact run_loadVar_row w g _ _ _ _ _ hg Try.underlying29 rfl (by rw [blkA_size h56]; exact size24b)
theorem guard24 : Try.prog.eqGuardType Try.prog.depth 29 = false := by kernel_rfl
section
variable {ops : Array Oper} {rest : List Oper} {o : Oper} {a : Act} {w : World} {Q : Exit → Act → World → Prop}
theorem wpList_loadBw (hw : Region.wanted o (yielded ops a.tmps) = true) (x : Operand) (ho : o.op = .load 29 x) (g : Nat) (hx : a.eval x = .pointer (some ⟨g, 0, none⟩)) (k : Int) (bs : List Int) (h56 : bs.length = 56) (hg : w.heap[g]? = some (.cells (blkA k bs) 29 (0, 0)))
    (h : wpList Try.prog ops Q rest (a.put o.dst (.agg (blkA k bs))) w) : wpList Try.prog ops Q (o :: rest) a w :=
  BigFrame.wpList_want hw fun _ hK => wp_load_row 29 x ho g hx _ _ _ _ hg Try.underlying29 rfl (by rw [blkA_size h56]; exact size24b) (hK _ _ h)
theorem wpList_eqlBw (hw : Region.wanted o (yielded ops a.tmps) = true) (x y : Operand) (t : TypeId) (ho : o.op = .binOp .eql 29 x y t) (k j : Int) (bs cs : List Int) (hx : a.eval x = .agg (blkA k bs)) (hy : a.eval y = .agg (blkA j cs)) (hb : bs.length = 56) (hc : cs.length = 56) (hB : AllB bs) (hC : AllB cs)
    (h : wpList Try.prog ops Q rest (a.put o.dst (.bool (decide (k = j ∧ bs = cs)))) w) : wpList Try.prog ops Q (o :: rest) a w :=
  BigFrame.wpList_want hw fun _ hK => by
    have hg := run_eqGuard_agg (P := Try.prog) w .eql 29 x y (blkA k bs) (blkA j cs) guard24
    have hr := run_eql_struct (P := Try.prog) w 29 (blkA k bs) (blkA j cs)
    rw [eql24 k j bs cs hb hc hB hC w] at hr
    unfold Oper.wp execOp
    simp only [ho, hx, hy, Sem.run_bind, hg, hr, Result.andThen_ok]
    exact hK _ _ h
end
section
variable {H : Type} {enc : TypeId × Value → H} {w : World} {base : Nat} {spare : Nat → Bool} {held : Bool}
theorem cells22 : Try.prog.cellsOf 27 = 56 := by kernel_rfl
theorem cells24 : Try.prog.cellsOf 29 = 57 := by kernel_rfl
theorem cells3b : Try.prog.cellsOf 3 = 1 := by kernel_rfl
theorem take_one {α : Type} {l : List α} {i : Nat} {x : α} (h : (l.drop i).take 1 = [x]) : l[i]? = some x := by
  have : ((l.drop i).take 1)[0]? = some x := by rw [h]; rfl
  rw [List.getElem?_take, if_pos (by omega), List.getElem?_drop] at this
  exact this
theorem open_body {fuel : Nat} {cs : List Value} {x : DataW H × List MemPlace} (h : DataW.trod enc Try.prog w base spare held fuel 27 cs = some x) :
    ∃ bs : List Int, cs = Bs bs ∧ bs.length = 56 ∧ AllB bs := by
  obtain ⟨ys, m, _, rfl, hl, hys, hel⟩ := DataW.trod_array Try.underlying27 h
  rw [cells22] at hl
  have leaf : ∀ i, i < 56 → ∃ n : Int, cs[i]? = some (.int .u8 n) ∧ 0 ≤ n ∧ n < 256 := fun i hi => by
    have h1 := hel i hi
    rw [cells5', Nat.mul_one] at h1
    obtain ⟨y, hy⟩ : ∃ y, ys[i]? = some y := ⟨_, List.getElem?_eq_getElem (by omega)⟩
    rw [hy] at h1
    obtain ⟨n, e, _, hwf⟩ := DataW.trod_int Try.underlying5 h1
    have := bounds_u8 hwf
    exact ⟨n, take_one e, by omega, by omega⟩
  refine ⟨cs.map intOf, ?_, by simpa using hl, fun x hx => ?_⟩
  · apply List.ext_getElem?
    intro i
    by_cases hi : i < 56
    · obtain ⟨n, e, _⟩ := leaf i hi
      unfold Bs
      rw [List.getElem?_map, List.getElem?_map, e]; rfl
    · rw [List.getElem?_eq_none (by omega), List.getElem?_eq_none (by rw [Bs_length]; simp; omega)]
  · obtain ⟨v, hv, rfl⟩ := List.mem_map.1 hx
    obtain ⟨i, hi⟩ := List.getElem?_of_mem hv
    have hlt := (List.getElem?_eq_some_iff.1 hi).1
    obtain ⟨n, e, h1⟩ := leaf i (by omega)
    rw [e] at hi
    injection hi with hi
    subst hi
    exact h1
theorem open_blk {fuel : Nat} {cs : List Value} {x : DataW H × List MemPlace} (h : DataW.trod enc Try.prog w base spare held fuel 29 cs = some x) :
    ∃ (k : Int) (bs : List Int), cs = blkL k bs ∧ bs.length = 56 ∧ i64 k ∧ AllB bs := by
  have hS : Try.prog.underlying 29 = some (.struct (Try.prog.fieldsOf 29)) := by kernel_rfl
  obtain ⟨ys, m, _, rfl, hl, hys, hel⟩ := DataW.trod_struct hS h
  rw [cells24] at hl
  have hf : (Try.prog.fieldsOf 29).toList.map (fun f => (f.type, f.offset)) = [(3, 0), (27, 1)] := by kernel_rfl
  have hsz : (Try.prog.fieldsOf 29).size = 2 := by kernel_rfl
  obtain ⟨f0, f1, hfs⟩ := two_of (show (Try.prog.fieldsOf 29).toList.length = 2 by simpa using hsz)
  rw [hfs] at hf
  simp only [List.map_cons, List.map_nil, List.cons.injEq, Prod.mk.injEq, and_true] at hf
  obtain ⟨⟨t0, o0⟩, ⟨t1, o1⟩⟩ := hf
  have h0 := hel 0 f0 (by rw [← Array.getElem?_toList, hfs]; rfl)
  have h1 := hel 1 f1 (by rw [← Array.getElem?_toList, hfs]; rfl)
  rw [t0, o0] at h0
  rw [t1, o1] at h1
  rw [hsz] at hys
  obtain ⟨y0, hy0⟩ : ∃ y, ys[0]? = some y := ⟨_, List.getElem?_eq_getElem (by omega)⟩
  obtain ⟨y1, hy1⟩ : ∃ y, ys[1]? = some y := ⟨_, List.getElem?_eq_getElem (by omega)⟩
  rw [hy0] at h0
  rw [hy1] at h1
  obtain ⟨k, e0, _, hwf⟩ := DataW.trod_int Try.underlying3 h0
  obtain ⟨bs, e1, h56, hB⟩ := open_body h1
  rw [show Try.prog.cellsOf (3) = 1 from cells3b] at e0
  rw [show Try.prog.cellsOf (27) = 56 from cells22] at e1
  have c0 := take_one e0
  refine ⟨k, bs, ?_, h56, ?_, hB⟩
  · unfold blkL
    cases cs with
    | nil => cases c0
    | cons v l =>
      have hv : v = .int .i64 k := by simpa using c0
      have : (l.take 56) = Bs bs := e1
      rw [hv, ← this, List.take_of_length_le (by simp at hl; omega)]
  · have := bounds_i64 hwf
    constructor <;> omega
end
theorem okWide_row {P : Program} {w : World} {r : Reach} {base : Nat} {t e : TypeId} {n : Nat} {v : Value} (ht : P.underlying t = some (.array n e)) (h : Value.okWide P w r base t v) : ∃ cs, v = .agg cs ∧ cs.size = P.cellsOf t := by
  simp only [Value.okWide, ht] at h
  obtain ⟨cs, h1, h2, _⟩ := h
  exact ⟨cs, h1, h2⟩
theorem kb {W W' : World} {g : Nat} {o : Obj} (hb : Below W.heap.size W W') (h : W.heap[g]? = some o) : W'.heap[g]? = some o := by rw [hb.block _ (room_lt h)]; exact h
theorem xor_byte {a b : Int} (ha : 0 ≤ a ∧ a < 256) (hb : 0 ≤ b ∧ b ≤ 255) : (0 ≤ bits .xor .u8 a b ∧ bits .xor .u8 a b < 256) ∧ (bits .xor .u8 a b = a ↔ b = 0) := by
  rw [u8_xor a b ha.1 ha.2 hb.1 (by omega)]
  have hlt : a.toNat ^^^ b.toNat < 2 ^ 8 := Nat.xor_lt_two_pow (by omega) (by omega)
  refine ⟨⟨by omega, by omega⟩, fun h => ?_, fun h => ?_⟩
  · have h1 : a.toNat ^^^ b.toNat = a.toNat := by omega
    have h2 := congrArg (a.toNat ^^^ ·) h1
    simp only [← Nat.xor_assoc, Nat.xor_self, Nat.zero_xor] at h2
    omega
  · subst h; simp; omega
theorem bel1 {w : World} (o : Obj) : Below w.heap.size w (w.alloc o) := (Below.refl _ _).alloc (Nat.le_refl _) _
end Go.Proofs.Ytcmmopngjeonfaa
