/- append(b, s...) of a string to a row of bytes that the call owns, in a region that draws its order: what it keeps of every block. -/
import Derived.Test.YtcmmopngjeonfaaAp
import Derived.Lib.AppendStr
namespace Go.Proofs.Ytcmmopngjeonfaa
open Go.ChangeShapes Go.WideShapes Go.ChangeAt Go.RowKit
set_option linter.unusedVariables false
theorem strCells_nums {t : List Int} (h : AllB t) : Lib.strCells (strOfNums t) = Bs t := by
  unfold Lib.strCells
  rw [strOfNums_data]
  unfold Bs
  rw [List.map_map]
  refine List.map_congr_left fun x hx => ?_
  have := h x hx
  simp only [Function.comp_apply, UInt8.toNat_ofNat']
  congr 1
  omega
set_option maxRecDepth 100000 in
theorem run_app_str (w : World) (ty : TypeId) (base : Nat) (v : Value) (n : Nat) (xs : List Int) (hown : w.ownsRow base 5 1 v n (Bs xs)) (t : List Int) (ht : AllB t) (h63 : n + t.length ≤ 1000000) (hbase : base ≤ w.heap.size) :
    ∃ v' w', (Builtin.append_ #[41, 9] ty #[v, .string (strOfNums t)]).run Try.prog w = .ok v' w' ∧ w'.ownsRow base 5 1 v' (n + t.length) (Bs (xs ++ t)) ∧ w.grownBy w' v.ownBlock ∧ KeepB n (n + t.length) w w' := by
  obtain ⟨i0, hi, hz0, hz1, hz2⟩ := info_parts info5
  have hsz := strOfNums_size t
  obtain ⟨v', w', hr, h2, h3, _⟩ := Lib.run_append_own_string (P := Try.prog) w base 41 9 ty 5 i0 Try.underlying41 Try.underlying9 hi hz0 hz1 hz2 v n (Bs xs) hown (strOfNums t) (by simp only [maxLen]; omega) (by omega) hbase
  rw [hsz, strCells_nums ht, ← Bs_append] at h2
  refine ⟨v', w', hr, h2, h3, ?_⟩
  rcases hown.2 with ⟨rfl, h0⟩ | ⟨g, cap, cur, rfl, hb, hg, hnc, hcm, hcs, htake⟩
  · exact KeepB.grown h3
  · by_cases hroom : n + t.length ≤ cap
    · have hr2 := Lib.run_append_room_string (P := Try.prog) w 41 9 ty 5 i0 Try.underlying41 Try.underlying9 hi hz1 g n cap cur hg (strOfNums t) (by omega) (by omega)
      rw [hr] at hr2
      injection hr2 with e1 e2
      subst e2
      refine ⟨rfl, rfl, rfl, by simp, fun q C tq fr hq => ?_, fun q C tq fr hq hsm => ?_⟩
      · by_cases e : q = g
        · subst e
          rw [hg] at hq
          injection hq with hq; injection hq with e1 e2 e3
          subst e1; subst e2; subst e3
          refine ⟨_, setRow_heap w q cur _ _ _ hg, ?_, fun i hi => ?_⟩
          · simp only [List.size_toArray, List.length_append, List.length_take, List.length_drop, Array.length_toList, Lib.strCells_length, hsz]
            omega
          · rw [← Array.getElem?_toList, List.toList_toArray, List.append_assoc, List.getElem?_append_left (by rw [List.length_take, Array.length_toList]; omega), List.getElem?_take, if_pos hi, Array.getElem?_toList]
        · exact ⟨C, by rw [setRow_other w g q _ e]; exact hq, rfl, fun _ _ => rfl⟩
      · have e : q ≠ g := fun e => by
          subst e
          rw [hg] at hq
          injection hq with hq; injection hq with e1 _ _
          subst e1; omega
        rw [setRow_other w g q _ e]; exact hq
    · have hold : ∀ j u, (Bs xs)[j]? = some u → w.cell? ((⟨g, 0, none⟩ : Addr).add j) = some u := hown.cells (g := g) rfl
      have hxl := hown.1
      have hr2 := Lib.run_append_grow_string (P := Try.prog) w 41 9 ty 5 i0 (.int .u8 0) Try.underlying41 Try.underlying9 hi hz0 ⟨g, 0, none⟩ n cap (Bs xs) (by rw [hz1]; simpa using hxl) hold (strOfNums t) (by omega) (by omega) (by rw [hz2, hsz]; have := nextslicecap_le (show cap < n + t.length by omega); omega)
      rw [hr] at hr2
      injection hr2 with e1 e2
      subst e2
      exact KeepB.grown ⟨rfl, rfl, rfl, by simp, fun k hk _ => heap_alloc_old w.drew _ hk⟩
set_option maxRecDepth 100000 in
theorem wp_app_str (w : World) {o : Oper} {a : Act} {K : Act → World → Prop} {Q : Exit → Act → World → Prop} (s x : Operand)
    (ho : o.op = .call { callee := .builtin .append, args := #[s, x], argTypes := #[41, 9] })
    (base : Nat) (v : Value) (n : Nat) (xs : List Int) (hs : a.eval s = v) (hown : w.ownsRow base 5 1 v n (Bs xs)) (t : List Int) (hx : a.eval x = .string (strOfNums t)) (ht : AllB t)
    (h63 : n + t.length ≤ 1000000) (hbase : base ≤ w.heap.size)
    (h : ∀ v' w', w'.ownsRow base 5 1 v' (n + t.length) (Bs (xs ++ t)) → w.grownBy w' v.ownBlock → KeepB n (n + t.length) w w' → K (a.put o.dst v') w') : o.wp Try.prog a w K Q := by
  obtain ⟨v', w', hr, h2, h3, h4⟩ := run_app_str w o.type base v n xs hown t ht h63 hbase
  unfold Oper.wp execOp
  simp only [ho, resolve, invoke, builtin, Sem.run_bind, Sem.run_pure, Result.andThen_ok, List.map_toArray, List.map_cons, List.map_nil, hs, hx, hr]
  exact h v' w' h2 h3 h4
end Go.Proofs.Ytcmmopngjeonfaa
