/- Sets of strings as maps that are made in a call: one with one string, one more string, who is in (for DevBarrier). -/
import Derived.Test.YtocmjbfbjiinhaaV38
import Derived.Maps.OwnSet
namespace Go.Proofs.Ytocmjbfbjiinhaa
open Go.ChangeShapes Go.WideShapes Go.ChangeAt Go.RowKit
open Go.Maps (Keyed)
set_option linter.unusedVariables false
theorem strK : Keyed Try.prog 9 := Maps.string_keyed Try.underlying9
/-- The letters of a string as a key. -/
abbrev keyL (s : ByteArray) : Lit := .string s.data.toList
theorem keyOfS {s : ByteArray} (h : s.size ≤ maxLen) : keyOf Try.prog 9 (.string s) = some (keyL s) := WideMaps.keyOf_string_mk Try.underlying9 h
/-- Block b is a map of at most c entries in which each of S is true. -/
def MapHas (W : World) (b c : Nat) (S : List (List Int)) : Prop :=
  ∃ D : DataW Unit, W.ownsMap Try.prog 9 (plainElem Try.prog 4) b c D ∧ ∀ x ∈ S, D.atKey (keyL (strOfNums x)) (.lit (.bool false)) = .lit (.bool true)
theorem MapHas.keep {W W' : World} {b c : Nat} {S : List (List Int)} (h : MapHas W b c S) (hk : W'.heap[b]? = W.heap[b]?) : MapHas W' b c S := by
  obtain ⟨D, ⟨es, clock, hb, h2⟩, h3⟩ := h
  exact ⟨D, ⟨es, clock, hk.trans hb, h2⟩, h3⟩
theorem MapHas.isMap {W : World} {b c : Nat} {S : List (List Int)} (h : MapHas W b c S) : ∃ es clock, W.heap[b]? = some (.map es clock) := by
  obtain ⟨D, ⟨es, clock, hb, h2⟩, h3⟩ := h
  exact ⟨es, clock, hb⟩
theorem MapHas.mono {W : World} {b c c' : Nat} {S : List (List Int)} (h : MapHas W b c S) (hc : c ≤ c') : MapHas W b c' S := by
  obtain ⟨D, h2, h3⟩ := h
  exact ⟨D, h2.mono hc, h3⟩
theorem str_size (x : List Int) : (strOfNums x).size = x.length := by simp [strOfNums, ByteArray.size]
/-- One more. -/
theorem MapHas.add {W : World} {b c : Nat} {S : List (List Int)} (h : MapHas W b c S) (hc : c < maxLen) (x : List Int) (hx : x.length ≤ 1000) :
    ∃ W', (Instr.mapUpdate 48 (.map (some b)) (.string (strOfNums x)) (.bool true)).run Try.prog W = .ok () W' ∧ MapHas W' b (c + 1) (x :: S) ∧ W.grownBy W' (some b) := by
  obtain ⟨D, h2, h3⟩ := h
  have hm := h2.isMap
  have hk := keyOfS (s := strOfNums x) (by rw [str_size]; simp only [maxLen]; omega)
  obtain ⟨W', hr, ho, hg⟩ := h2.update strK Try.underlying48 hc hk (plainElem_bool Try.underlying4 true)
  refine ⟨W', hr, ⟨_, ho, fun y hy => ?_⟩, hg⟩
  by_cases e : keyL (strOfNums y) = keyL (strOfNums x)
  · rw [e, Maps.atKey_put_same hm (strK.key hk)]
  · rw [Maps.atKey_put_other e]
    rcases List.mem_cons.1 hy with rfl | hy
    · exact absurd rfl e
    · exact h3 y hy
/-- The map with one entry. -/
def oneM (x : List Int) : Obj := .map #[⟨.string (strOfNums x), .bool true, 0⟩] 1
theorem put_alloc (W : World) (o o' : Obj) : { W.alloc o with heap := (W.alloc o).heap.setIfInBounds W.heap.size o' } = W.alloc o' := by
  have e : (W.heap.push o).setIfInBounds W.heap.size o' = W.heap.push o' := by
    apply Array.ext'
    rw [Array.toList_setIfInBounds, Array.toList_push, Array.toList_push]
    have : W.heap.size = W.heap.toList.length := by simp
    rw [this, List.set_append_right _ _ (Nat.le_refl _), Nat.sub_self]
    rfl
  show World.mk _ _ _ _ _ = World.mk _ _ _ _ _
  congr 1
theorem insert_new (W : World) (x : List Int) (hx : x.length ≤ 1000) :
    (Instr.mapUpdate 48 (.map (some W.heap.size)) (.string (strOfNums x)) (.bool true)).run Try.prog (W.alloc (.map #[] 0)) = .ok () (W.alloc (oneM x)) := by
  have hk := keyOfS (s := strOfNums x) (by rw [str_size]; simp only [maxLen]; omega)
  have hb : (W.alloc (.map #[] 0)).heap[W.heap.size]? = some (.map #[] 0) := heap_alloc_new W _
  have hc := strK.check (W.alloc (.map #[] 0)) false hk
  have hf : (Instr.findKey 9 (.string (strOfNums x)) []).run Try.prog (W.alloc (.map #[] 0)) = .ok none (W.alloc (.map #[] 0)) := by
    rcases strK.find (W.alloc (.map #[] 0)) hk [] (fun e he => by cases he) with ⟨h, _⟩ | ⟨j, e, _, h, _⟩
    · exact h
    · cases h
  unfold Instr.mapUpdate
  simp [run_underlying Try.underlying48, MapKept.run_getObj_map hb, hc, hf, MapKept.run_setObj_map _ hb, Result.andThen]
  exact put_alloc W _ _
theorem oneM_has {W : World} {b : Nat} {x : List Int} (hx : x.length ≤ 1000) (h : W.heap[b]? = some (oneM x)) : MapHas W b 1 [x] := by
  have h0 : MapHas (W.alloc (.map #[] 0)) W.heap.size 0 [] := ⟨.map [], World.ownsMap_made W _ _ _, fun y hy => by cases hy⟩
  obtain ⟨W', hr, ⟨D, ⟨es, clock, hb, h2⟩, h3⟩, _⟩ := h0.add (by simp [maxLen]) x hx
  rw [insert_new W x hx] at hr
  injection hr with _ hr
  subst hr
  have : (W.alloc (oneM x)).heap[W.heap.size]? = some (oneM x) := heap_alloc_new W _
  rw [this] at hb
  exact ⟨D, ⟨es, clock, h.trans hb, h2⟩, h3⟩
/-- Who is in, is told so. -/
theorem MapHas.look {W : World} {b c : Nat} {S : List (List Int)} (h : MapHas W b c S) {x : List Int} (hx : x ∈ S) (hl : x.length ≤ 1000) :
    (Instr.lookup 48 (.map (some b)) (.string (strOfNums x)) false).run Try.prog W = .ok (.bool true) W := by
  obtain ⟨D, h2, h3⟩ := h
  have hk := keyOfS (s := strOfNums x) (by rw [str_size]; simp only [maxLen]; omega)
  have hz : (zeroValue 4).run Try.prog W = .ok (.bool false) W := by
    unfold zeroValue
    obtain ⟨i0, hi0, hz0, hz1, hz2⟩ := info_parts (show (Try.prog.info? 4).map (fun i => (i.zero, i.size, i.bytes)) = some (some (.bool false), 1, 1) by kernel_rfl)
    simp [typeInfo, hi0, hz0]
  obtain ⟨v, ps, hr, hv⟩ := h2.lookup strK Try.underlying48 hz (plainElem_bool Try.underlying4 false) hk
  rw [h3 x hx] at hv
  have : v = .bool true := by
    unfold plainElem at hv
    rw [Try.underlying4] at hv
    cases v <;> simp at hv
    rw [hv.1]
  rw [hr, this]
end Go.Proofs.Ytocmjbfbjiinhaa
