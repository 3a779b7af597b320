/- Writes as values in memory: laid, loaded, stored, built; the table of what was seen. -/
import Derived.Test.YtflldlhfeiamnaaEe
namespace Go.Proofs.Ytflldlhfeiamnaa
open Go.ChangeShapes Go.WideShapes Go.ChangeAt Go.RowKit
set_option linter.unusedVariables false
def zW : Wr := ⟨0, 0, zBs⟩
theorem zW_len : zW.bs.length = 56 := zBs_len
theorem infoW : (Try.prog.info? 46).map (fun i => (i.zero, i.size, i.bytes)) = some (some (.agg (wrA zW)), 58, 72) := by kernel_rfl
theorem sizeW : (Try.prog.info? 46).map (·.size) = some 58 := by kernel_rfl
theorem run_loadVar_at {P : Program} (w : World) (p : Addr) (ty : TypeId) (cs : List Value) (d : TypeDesc) (hc : ∀ j v, cs[j]? = some v → w.cell? (p.add j) = some v)
    (hu : P.underlying ty = some d) (hd : d.isRow = true) (hi : (P.info? ty).map (·.size) = some cs.length) :
    (loadVar ty p).run P w = .ok (.agg cs.toArray) w := by
  have hl : (loadCells p cs.length).run P w = .ok cs.toArray w := run_loadCells_list (P := P) w p cs hc
  cases hq : P.info? ty with
  | none => simp [hq] at hi
  | some i =>
    have hs : i.size = cs.length := by simpa [hq] using hi
    have hagg : (isAgg ty).run P w = .ok true w := by
      unfold isAgg
      rw [Sem.run_bind, run_underlying hu w]
      cases d <;> simp_all
    simp [loadVar, Sem.run_bind, hagg, sizeOf, typeInfo, hq, hs, hl]
theorem loadAt_wr (w : World) (p : Addr) (x : Wr) (h56 : x.bs.length = 56) (hx : WrAt w p x) :
    (Instr.loadAt 46 (.pointer (some p))).run Try.prog w = .ok (.agg (wrA x)) w := by
  simp only [Instr.loadAt, Instr.sureAddr, Sem.run_bind, Sem.run_pure, Result.andThen_ok]
  rw [run_loadVar_at w p 46 (wrL x) _ hx Try.underlying46 rfl (by rw [wrL_length h56]; exact sizeW)]
  rfl
theorem loadAt_wrb (w : World) (g : Nat) (x : Wr) (h56 : x.bs.length = 56) (hg : w.heap[g]? = some (.cells (wrA x) 46 (0, 0))) :
    (Instr.loadAt 46 (.pointer (some ⟨g, 0, none⟩))).run Try.prog w = .ok (.agg (wrA x)) w := by
  simp only [Instr.loadAt, Instr.sureAddr, Sem.run_bind, Sem.run_pure, Result.andThen_ok]
  exact run_loadVar_row w g _ _ _ _ _ hg Try.underlying46 rfl (by rw [wrA_size h56]; exact sizeW)
/-- A write in a block of its own. -/
theorem wrAt_blk {w : World} {g : Nat} {x : Wr} {t : TypeId} {fr : Nat × Nat} (h : w.heap[g]? = some (.cells (wrA x) t fr)) : WrAt w ⟨g, 0, none⟩ x := fun j v hj => by
  rw [add_at, cell_of_row _ _ _ _ _ _ h, ← Array.getElem?_toList, wrA_list]; exact hj
theorem WrAt.c0 {w : World} {p : Addr} {x : Wr} (h : WrAt w p x) : w.cell? p = some (.int .i64 x.t) := by
  have := h 0 _ rfl
  rwa [show p.add 0 = p by unfold Addr.add; simp] at this
theorem WrAt.c1 {w : World} {p : Addr} {x : Wr} (h : WrAt w p x) : w.cell? ⟨p.block, p.off + 1, none⟩ = some (.int .i64 x.k) := by
  have := h 1 _ rfl
  rwa [add_sum p 0] at this
theorem WrAt.body {w : World} {p : Addr} {x : Wr} (h : WrAt w p x) : Byt w (some ⟨p.block, p.off + 2, none⟩) x.bs := fun i v hi => by
  refine ⟨_, rfl, ?_⟩
  have := h (i + 2) (.int .u8 v) (by unfold wrL blkL; simp; exact Bs_at hi)
  rw [add_sum p (i + 1)] at this
  rw [add_off, show p.off + 2 + i = p.off + (i + 1 + 1) by omega]
  exact this
section
variable {ops : Array Oper} {rest : List Oper} {o : Oper} {a : Act} {w : World} {Q : Exit → Act → World → Prop}
theorem wpList_loadWp (hgd : o.guard = none) (x : Operand) (ho : o.op = .load 46 x) (p : Addr) (hx : a.eval x = .pointer (some p)) (y : Wr) (h56 : y.bs.length = 56) (hy : WrAt w p y)
    (h : wpList Try.prog ops Q rest (a.put o.dst (.agg (wrA y))) w) : wpList Try.prog ops Q (o :: rest) a w :=
  wpList_plain hgd fun _ hK => wp_run (by
    unfold execOp
    simp only [ho, hx, Sem.run_bind, loadAt_wr w p y h56 hy, Result.andThen_ok, Sem.run_pure]) (hK _ _ h)
theorem wpList_allocW (hgd : o.guard = none) (ho : o.op = .alloc 46)
    (h : wpList Try.prog ops Q rest (a.put o.dst (.pointer (some ⟨w.heap.size, 0, none⟩))) (w.alloc (.cells (wrA zW) 46))) : wpList Try.prog ops Q (o :: rest) a w := by
  obtain ⟨i0, hi, hz0, hz1, hz2⟩ := info_parts infoW
  exact wpList_plain hgd fun _ hK => wp_alloc_of 46 ho i0 _ hi hz0 (hK _ _ h)
theorem wpList_loadW (hgd : o.guard = none) (x : Operand) (ho : o.op = .load 46 x) (g : Nat) (hx : a.eval x = .pointer (some ⟨g, 0, none⟩)) (y : Wr) (h56 : y.bs.length = 56) (hg : w.heap[g]? = some (.cells (wrA y) 46 (0, 0)))
    (h : wpList Try.prog ops Q rest (a.put o.dst (.agg (wrA y))) w) : wpList Try.prog ops Q (o :: rest) a w :=
  wpList_load_row hgd 46 x ho g hx _ _ _ _ hg Try.underlying46 rfl (by rw [wrA_size h56]; exact sizeW) h
theorem wpList_storeW (hgd : o.guard = none) (x y : Operand) (ho : o.op = .store 46 x y) (g : Nat) (hx : a.eval x = .pointer (some ⟨g, 0, none⟩)) (u v : Wr) (hy : a.eval y = .agg (wrA u)) (h56 : u.bs.length = 56) (h56' : v.bs.length = 56) (hg : w.heap[g]? = some (.cells (wrA v) 46 (0, 0)))
    (h : wpList Try.prog ops Q rest (a.put o.dst undef) (w.setRow g (wrA u))) : wpList Try.prog ops Q (o :: rest) a w :=
  wpList_store_row hgd 46 x y ho g _ hx hy _ _ hg (by rw [wrA_size h56]; exact sizeW) (by rw [wrA_size h56, wrA_size h56']) (wrA_one _) h
end
/-- A new variable with a write in it. -/
theorem new_wr (w : World) (x : Wr) : ((w.alloc (.cells (wrA zW) 46)).setRow w.heap.size (wrA x)).heap[w.heap.size]? = some (.cells (wrA x) 46 (0, 0)) :=
  setRow_heap _ _ _ _ _ _ (heap_alloc_new w _)
theorem new_wr_below (w : World) (x : Wr) : Below w.heap.size w ((w.alloc (.cells (wrA zW) 46)).setRow w.heap.size (wrA x)) :=
  below_setRow ((Below.refl _ _).alloc (Nat.le_refl _) _) (Nat.le_refl _) _
/-! The table of what was seen. -/
def seenL (s : List Wr) : List Value := (List.range 200).map fun (j : Nat) => .bool (decide (∃ x ∈ s, x.t = (j : Int)))
theorem seenL_length (s : List Wr) : (seenL s).length = 200 := by unfold seenL; simp
theorem seenL_at (s : List Wr) {m : Nat} (h : m < 200) : (seenL s)[m]? = some (.bool (decide (∃ x ∈ s, x.t = (m : Int)))) := by unfold seenL; simp [h]
theorem seenL_nil : seenL [] = List.replicate 200 (.bool false) := by
  apply List.ext_getElem?
  intro j
  by_cases hj : j < 200
  · rw [seenL_at _ hj, List.getElem?_replicate, if_pos hj]; simp
  · rw [List.getElem?_eq_none (by rw [seenL_length]; omega), List.getElem?_eq_none (by rw [List.length_replicate]; omega)]
theorem seenL_set (s : List Wr) {x : Wr} {m : Nat} (hx : x.t = (m : Int)) : (seenL s).set m (.bool true) = seenL (s ++ [x]) := by
  apply List.ext_getElem?
  intro j
  by_cases hj : j < 200
  · rw [seenL_at _ hj, List.getElem?_set, seenL_length]
    by_cases e : m = j
    · subst e
      rw [if_pos rfl, if_pos hj, decide_eq_true ⟨x, by simp, hx⟩]
    · rw [if_neg e, seenL_at _ hj]
      congr 2
      rw [decide_eq_decide]
      constructor
      · rintro ⟨y, h1, h2⟩; exact ⟨y, by simp [h1], h2⟩
      · rintro ⟨y, h1, h2⟩
        rcases List.mem_append.1 h1 with h1 | h1
        · exact ⟨y, h1, h2⟩
        · simp only [List.mem_cons, List.not_mem_nil, or_false] at h1
          subst h1
          omega
  · rw [List.getElem?_eq_none (by rw [List.length_set, seenL_length]; omega), List.getElem?_eq_none (by rw [seenL_length]; omega)]
theorem infoS : (Try.prog.info? 61).map (fun i => (i.zero, i.size, i.bytes)) = some (some (.agg (seenL []).toArray), 200, 200) := by rw [seenL_nil]; kernel_rfl
theorem wpList_allocS {ops : Array Oper} {rest : List Oper} {o : Oper} {a : Act} {w : World} {Q : Exit → Act → World → Prop} (hgd : o.guard = none) (ho : o.op = .alloc 61)
    (h : wpList Try.prog ops Q rest (a.put o.dst (.pointer (some ⟨w.heap.size, 0, none⟩))) (w.alloc (.cells (seenL []).toArray 61))) : wpList Try.prog ops Q (o :: rest) a w := by
  obtain ⟨i0, hi, hz0, hz1, hz2⟩ := info_parts infoS
  exact wpList_plain hgd fun _ hK => wp_alloc_of 61 ho i0 _ hi hz0 (hK _ _ h)
/-! One change, in part. -/
structure Part (l : List Wr) (k : Nat) : Prop where
  may : ∀ x ∈ l.take k, MayB x.k x.t
  nd : ((l.take k).map (·.t)).Nodup
theorem Part.none (l : List Wr) : Part l 0 := ⟨fun x hx => by simp at hx, by simp⟩
theorem Part.next {l : List Wr} {k : Nat} {x : Wr} (h : Part l k) (hx : l[k]? = some x) (hm : MayB x.k x.t) (hn : ¬ ∃ y ∈ l.take k, y.t = x.t) : Part l (k + 1) := by
  refine ⟨fun y hy => ?_, ?_⟩
  · rw [take_snoc' hx] at hy
    rcases List.mem_append.1 hy with h1 | h1
    · exact h.may y h1
    · simp only [List.mem_cons, List.not_mem_nil, or_false] at h1; subst h1; exact hm
  · rw [take_snoc' hx, List.map_append, List.nodup_append]
    refine ⟨h.nd, by simp, fun a ha b hb => ?_⟩
    obtain ⟨y, hy, rfl⟩ := List.mem_map.1 ha
    simp only [List.map_cons, List.map_nil, List.mem_cons, List.not_mem_nil, or_false] at hb
    subst hb
    exact fun e => hn ⟨y, hy, e⟩
theorem Part.all {l : List Wr} {k : Nat} (h : Part l k) (hk : l.length ≤ k) (hn : 1 ≤ l.length ∧ l.length ≤ 12) : MayL l := by
  have e : l.take k = l := List.take_of_length_le hk
  exact ⟨hn, by have := h.may; rwa [e] at this, by have := h.nd; rwa [e] at this⟩
theorem not_may_kind {l : List Wr} {k : Nat} {x : Wr} (hx : l[k]? = some x) (hm : ¬ MayB x.k x.t) : ¬ MayL l := fun h => hm (h.2.1 x (List.mem_of_getElem? hx))
theorem not_may_seen {l : List Wr} {k : Nat} {x : Wr} (hx : l[k]? = some x) (hn : ∃ y ∈ l.take k, y.t = x.t) : ¬ MayL l := fun h => by
  obtain ⟨y, hy, e⟩ := hn
  have h1 : ((l.take (k + 1)).map (·.t)).Nodup := h.2.2.sublist ((List.take_sublist _ _).map _)
  rw [take_snoc' hx, List.map_append, List.nodup_append] at h1
  exact h1.2.2 _ (List.mem_map.2 ⟨y, hy, rfl⟩) _ (by simp) e
end Go.Proofs.Ytflldlhfeiamnaa
