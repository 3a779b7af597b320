/- What a store of a block, and a write more, make of a device. -/
import Derived.Test.YtocmjbfbjiinhaaV7
namespace Go.Proofs.Ytocmjbfbjiinhaa
open Go.ChangeShapes Go.WideShapes Go.ChangeAt Go.RowKit
set_option linter.unusedVariables false
theorem encB_set (l : List (List Int)) (h : ∀ x ∈ l, x.length = 64) (i : Nat) (b : List Int) (hi : i < l.length) (hb : b.length = 64) : encB (l.set i b) = splice (encB l) (i * 64) (Bs b) := by
  unfold splice
  have e1 : (encB l).take (i * 64) = encB (l.take i) := by
    have h1 : encB l = encB (l.take i) ++ encB (l.drop i) := by unfold encB; rw [← List.flatMap_append, List.take_append_drop]
    have h2 : (encB (l.take i)).length = i * 64 := by rw [encB_length _ (fun x hx => h x (List.mem_of_mem_take hx)), List.length_take]; congr 1; omega
    rw [h1, ← h2, List.take_left]
  have e2 : (encB l).drop (i * 64 + (Bs b).length) = encB (l.drop (i + 1)) := by rw [Bs_length, hb, show i * 64 + 64 = (i + 1) * 64 by omega, encB_drop l h]
  rw [e1, e2, List.set_eq_take_append_cons_drop, if_pos hi]
  unfold encB
  rw [List.flatMap_append, List.flatMap_cons]
/-- A block of a region is stored. -/
theorem RowsAt.setBlk {w : World} {OT : Nat → Prop} {OR : Nat → Nat → Prop} {ET ER : TypeId} {v : Value} {rows : List (List (List Int))} (h : RowsAt w OT OR ET ER 64 encB v rows) {r i : Nat} {row : List (List Int)}
    (hr : rows[r]? = some row) (hi : i < row.length) (h64 : ∀ x ∈ row, x.length = 64) (b : List Int) (hb : b.length = 64) {g cap g' n' cap' : Nat} (hv : v = .slice (some ⟨g, 0, none⟩) rows.length cap)
    (hc : w.cell? ⟨g, r, none⟩ = some (.slice (some ⟨g', 0, none⟩) n' cap')) (hT : ¬ OT g') (hR : ∀ r', r' ≠ r → ¬ OR r' g') : RowsAt (w.setCells g' (i * 64) (Bs b)) OT OR ET ER 64 encB v (rows.set r (row.set i b)) := by
  obtain ⟨vs, h1, h2⟩ := h
  obtain ⟨u, hu, h3⟩ := h2 r row hr
  subst hv
  have hu2 := h1.one hu
  rw [hu2] at hc
  injection hc with hc
  subst hc
  obtain ⟨_, _, e3, _, _⟩ := h3.val
  injection e3 with _ e3 _
  subst e3
  have oth : ∀ k, k ≠ g' → (w.setCells g' (i * 64) (Bs b)).heap[k]? = w.heap[k]? := fun k hk => setCells_other g' _ _ _ k hk
  refine ⟨vs, ?_, fun r' row' hr' => ?_⟩
  · rw [List.length_set]
    exact h1.keep fun k _ ho => oth k (fun e => hT (e ▸ ho))
  · by_cases e : r' = r
    · subst e
      rw [List.getElem?_set_self (List.getElem?_eq_some_iff.1 hr).1] at hr'
      injection hr' with hr'
      subst hr'
      refine ⟨_, hu, ?_⟩
      rw [List.length_set, encB_set row h64 i b hi hb]
      exact h3.storedMany (i * 64) (Bs b) (by rw [Bs_length, hb]; omega)
    · rw [List.getElem?_set_ne (fun h => e h.symm)] at hr'
      obtain ⟨u', hu', h4⟩ := h2 r' row' hr'
      exact ⟨u', hu', h4.keep fun k _ ho => oth k (fun e' => hR r' e (e' ▸ ho))⟩
/-- Where bytes lie that are some. -/
theorem Byt.addr {w : World} {A : Option Addr} {bs : List Int} (h : Byt w A bs) (h0 : 0 < bs.length) : ∃ g o, A = some ⟨g, o, none⟩ ∧ w.rangeAt g o (Bs bs) := by
  obtain ⟨x, hx⟩ : ∃ x, bs[0]? = some x := ⟨_, List.getElem?_eq_getElem h0⟩
  obtain ⟨⟨g, o, s⟩, rfl, hc⟩ := h 0 x hx
  have hs : s = none := by
    unfold World.cell? Addr.add at hc
    simp only [if_true] at hc
    cases s with
    | none => rfl
    | some _ => split at hc <;> simp at hc
  subst hs
  refine ⟨g, o, rfl, fun j v hj => ?_⟩
  have hl := (List.getElem?_eq_some_iff.1 hj).1
  rw [Bs_length] at hl
  obtain ⟨a, e, h2⟩ := h j _ (List.getElem?_eq_getElem hl)
  injection e with e; subst e
  rw [Addr.add_mid] at h2
  rw [h2]
  unfold Bs at hj
  rw [List.getElem?_map, List.getElem?_eq_getElem hl] at hj
  exact hj
theorem info75 : (Try.prog.info? 75).map (fun i => (i.zero, i.size, i.bytes)) = some (some (.agg (#[.complex .f64 0 0] ++ Array.replicate 64 (.int .u8 0))), 65, 80) := by kernel_rfl
theorem size75 : (Try.prog.info? 75).map (·.size) = some 65 := by kernel_rfl
theorem built75 (parts : List (Nat × Value)) : Try.prog.built 75 parts = Instr.fill (#[(0, 1), (1, 64)][·]?) (#[.complex .f64 0 0] ++ Array.replicate 64 (.int .u8 0)) parts := by kernel_rfl
theorem built75_two (r i : Nat) (b : List Int) (hb : b.length = 64) : Try.prog.built 75 [(0, .complex .f64 (Fx.fb r) (Fx.fb i)), (1, .agg (Bs b).toArray)] = some (Wr.cs ⟨r, i, b⟩).toArray := by
  rw [built75, fill_cons (off := 0) (size := 1) rfl rfl (by simp), fill_cons (off := 1) (size := 64) rfl (by simp [Value.cells, Bs_length, hb]) (by simp [splice, Value.cells])]
  unfold Instr.fill
  congr 1
  unfold splice Wr.cs
  simp [Value.cells, Bs_length, hb]
theorem built75_one (r i : Nat) : Try.prog.built 75 [(0, .complex .f64 (Fx.fb r) (Fx.fb i))] = some (Wr.cs ⟨r, i, List.replicate 64 0⟩).toArray := by
  rw [built75, fill_cons (off := 0) (size := 1) rfl rfl (by simp)]
  unfold Instr.fill
  congr 1
theorem wp_build_eq {P : Program} {o : Oper} {a : Act} {w : World} {K : Act → World → Prop} {Q : Exit → Act → World → Prop} (t : TypeId) (parts : Array (Nat × Operand)) (ho : o.op = .build t parts) (cells : Array Value)
    (hf : P.built t (parts.map fun (i, x) => (i, a.eval x)).toList = some cells) (h : K (a.put o.dst (.agg cells)) w) : o.wp P a w K Q := by
  refine wp_build t parts ho (by rw [hf]; rfl) ?_
  rw [hf]; exact h
theorem Wr.cs_length {x : Wr} (h : x.b.length = 64) : x.cs.length = 65 := by unfold Wr.cs; simp [Bs_length, h]
theorem Wr.cs_one (x : Wr) : ∀ u ∈ x.cs, u.oneCell' = true := by
  intro u hu
  unfold Wr.cs at hu
  rcases List.mem_cons.1 hu with rfl | hu
  · rfl
  · exact Bs_one _ u hu
theorem encW_snoc (l : List Wr) (x : Wr) : encW (l ++ [x]) = encW l ++ x.cs := by unfold encW; simp
/-- The owner's labels with what done's row has grown into. -/
noncomputable def growO (O : Nat → DRole) (B : Nat) (v : Value) : Nat → DRole := fun k => open Classical in if B ≤ k ∧ v.ownBlock = some k then .done else O k
theorem growO_old {O : Nat → DRole} {B : Nat} {v : Value} {k : Nat} (h : k < B) : growO O B v k = O k := by unfold growO; rw [if_neg (fun h' => by omega)]
/-- A device with one write more told. -/
theorem DevRaw.push {w w' : World} {O : Nat → DRole} {hp : Nat} {L : DLay} {m : DM} (h : DevRaw w O hp L m) (x : Wr) (v : Value)
    (hd : w'.heap[hp]? = some (.cells #[L.sNow, L.sSure, v, L.sUns, .bool m.stops, .int .i64 m.left] 63 (0, 0)))
    (hk : ∀ k, k < w.heap.size → k ≠ hp → O k ≠ .done → w'.heap[k]? = w.heap[k]?)
    (hv : RowAt w' (fun k => O k = .done ∨ w.heap.size ≤ k) 75 65 v (m.done.length + 1) (encW m.done ++ x.cs)) :
    DevRaw w' (growO O w.heap.size v) hp { L with sDone := v } { m with done := m.done ++ [x] } where
  hd := hd
  ohd := by rw [growO_old (room_lt h.hd)]; exact h.ohd
  now := (h.now.owner (OT' := fun k => growO O w.heap.size v k = .nowT) (OR' := fun r k => growO O w.heap.size v k = .now r) (fun k hk ho => by rw [growO_old hk]; exact ho) (fun r k hk ho => by rw [growO_old hk]; exact ho)).keep fun k hk' ho => by
    rw [growO_old hk'] at ho
    exact hk k hk' (fun e => by subst e; have := h.ohd; rcases ho with ho | ⟨r, ho⟩ <;> rw [ho] at this <;> cases this) (by rcases ho with ho | ⟨r, ho⟩ <;> rw [ho] <;> simp)
  sure := (h.sure.owner (OT' := fun k => growO O w.heap.size v k = .sureT) (OR' := fun r k => growO O w.heap.size v k = .sure r) (fun k hk ho => by rw [growO_old hk]; exact ho) (fun r k hk ho => by rw [growO_old hk]; exact ho)).keep fun k hk' ho => by
    rw [growO_old hk'] at ho
    exact hk k hk' (fun e => by subst e; have := h.ohd; rcases ho with ho | ⟨r, ho⟩ <;> rw [ho] at this <;> cases this) (by rcases ho with ho | ⟨r, ho⟩ <;> rw [ho] <;> simp)
  done := by
    show RowAt w' _ _ 65 v (m.done ++ [x]).length (encW (m.done ++ [x]))
    rw [encW_snoc, List.length_append]
    refine ⟨hv.1, fun g hg => ?_⟩
    rcases hv.2 g hg with h1 | h1
    · unfold growO; split
      · rfl
      · exact h1
    · unfold growO; rw [if_pos ⟨h1, hg⟩]
  uns := (h.uns.owner (Own' := fun k => growO O w.heap.size v k = .uns) (fun k hk ho => by rw [growO_old hk]; exact ho)).keep fun k hk' ho => by
    rw [growO_old hk'] at ho
    exact hk k hk' (fun e => by subst e; have := h.ohd; rw [ho] at this; cases this) (by rw [ho]; simp)
theorem growO_some {O : Nat → DRole} {B : Nat} {v : Value} {k : Nat} (h : growO O B v k ≠ .none) : O k ≠ .none ∨ (B ≤ k ∧ v.ownBlock = some k) := by
  unfold growO at h
  split at h
  · rename_i h'; exact Or.inr h'
  · exact Or.inl h
/-- The device behind a step: its blocks are those that it had, and new ones. -/
def DevStep (w w' : World) (F : Nat → Prop) (hp : Nat) (m : DM) : Prop := ∃ F', Dev w' F' hp m ∧ Touch F w w' ∧ ∀ k, F' k → F k ∨ w.heap.size ≤ k
end Go.Proofs.Ytocmjbfbjiinhaa
