/- Contracts: share; a nil Vol's Change; small laws for the laws' walks. -/
import Derived.Test.YtamnpblijdgdaaaNw
namespace Go.Proofs.Ytamnpblijdgdaaa
open Go.ChangeShapes Go.WideShapes Go.ChangeAt Go.RowKit
set_option linter.unusedVariables false
set_option maxRecDepth 100000
theorem sh_cells {W : World} {p n g : Nat} {f : Int} {t : TypeId} {fr : Nat × Nat} (h : W.heap[p]? = some (.cells (shC n g f) t fr)) :
    W.cell? ⟨p, 0, none⟩ = some (.int .i64 0) ∧ W.cell? ⟨p, 1, none⟩ = some (.int .i64 0) ∧ W.cell? ⟨p, 2, none⟩ = some (.int .i64 n) ∧ W.cell? ⟨p, 3, none⟩ = some (.int .i64 g) ∧ W.cell? ⟨p, 4, none⟩ = some (.int .i64 f) :=
  ⟨(blk_cell h 0).trans rfl, (blk_cell h 1).trans rfl, (blk_cell h 2).trans rfl, (blk_cell h 3).trans rfl, (blk_cell h 4).trans rfl⟩
theorem share_any (a b : Nat) (ha : a ≤ 255) (hb : b ≤ 255) (w : World) : Calls Try.prog 12 #[.int .u8 a, .int .u8 b] w fun e w' => e = .returned (shQ 0 0 (4 + a % 30) (16 + b % 30) 3) ∧ Below w.heap.size w w' := by
  have e1 : (a : Int).tmod 30 = ((a % 30 : Nat) : Int) := by rw [Int.tmod_eq_emod_of_nonneg (by omega)]; omega
  have e2 : (b : Int).tmod 30 = ((b % 30 : Nat) : Int) := by rw [Int.tmod_eq_emod_of_nonneg (by omega)]; omega
  have u1 : IntKind.u8.wrap ((a % 30 : Nat) : Int) = ((a % 30 : Nat) : Int) := IntWalk.u8_in _ (by omega)
  have u2 : IntKind.u8.wrap ((b % 30 : Nat) : Int) = ((b % 30 : Nat) : Int) := IntWalk.u8_in _ (by omega)
  have v1 : IntKind.i64.wrap ((a % 30 : Nat) : Int) = ((a % 30 : Nat) : Int) := IntWalk.i64_in _ (by omega)
  have v2 : IntKind.i64.wrap ((b % 30 : Nat) : Int) = ((b % 30 : Nat) : Int) := IntWalk.i64_in _ (by omega)
  have w1 : IntKind.i64.wrap (4 + ((a % 30 : Nat) : Int)) = ((4 + a % 30 : Nat) : Int) := by rw [IntWalk.i64_in _ (by omega)]; omega
  have w2 : IntKind.i64.wrap (16 + ((b % 30 : Nat) : Int)) = ((16 + b % 30 : Nat) : Int) := by rw [IntWalk.i64_in _ (by omega)]; omega
  generalize a % 30 = x at *
  generalize b % 30 = y at *
  generalize 4 + x = n at *
  generalize 16 + y = g at *
  go_enter Try.func12, Try.ntmps12
  go_wp2_with (refine wpList_storeS rfl (.tmp 4) (.tmp 13) rfl w.heap.size rfl n g 3 rfl _ rfl (heap_alloc_new w _) ?_)
  have e3 := setRow_blk (D := shC n g 3) (heap_alloc_new w (Obj.cells #[.int .i64 0, .int .i64 0, .int .i64 0, .int .i64 0, .int .i64 0] 30))
  refine bodyPost_ret (results_cell_row rfl _ _ w.heap.size _ _ _ _ rfl e3 Try.underlying30 rfl (by rw [show (shC n g 3).size = 5 from rfl]; exact size30)) rfl ?_
  exact ⟨rfl, below_setRow ((Below.refl _ _).alloc (Nat.le_refl _) _) (Nat.le_refl _) _⟩
def AtNil (W : World) (a' : Act) (w' : World) : Prop := w' = W ∧ ∃ u1 u2 u3 u4 u5 u6 u7 u8 u9 u10 u11 u12 u13 u14 u15 u16 u17 u18 u19 u20 u21 u22 u23 u24 u25 u26 u27 u28 u29 u30 u31 u32 u33 u34 u35 u36 u37 u38 u39 u40 u41 u42 u43 u44 u45 u46 u47 u48 u49 u50 u51 u52 u53 u54 u55 u56 : Value, a' = { tmps := #[.pointer none, u1, u2, u3, u4, u5, u6, u7, u8, u9, u10, u11, u12, u13, u14, u15, u16, u17, u18, u19, u20, u21, u22, u23, u24, u25, u26, u27, u28, u29, u30, u31, u32, u33, u34, u35, u36, u37, u38, u39, u40, u41, u42, u43, u44, u45, u46, u47, u48, u49, u50, u51, u52, u53, u54, u55, u56], defers := [] }
theorem vchange_nil (W : World) (A : Option Addr) (n d : Nat) : Calls Try.prog 22 #[.pointer none, .slice A n d] W fun e w' => e = .returned (.int .i64 1) ∧ W = w' := by
  go_enter Try.func22, Try.ntmps22
  go_wp2
  refine wp_scope2r (AtNil W) (fun _ _ => False) (fun _ _ => 0) rfl rfl ?_ ?_ ?_
  · intro _
    go_wp2_with fail
    go_step3
    exact ⟨rfl, _, _, _, _, _, _, _, _, _, _, _, _, _, _, _, _, _, _, _, _, _, _, _, _, _, _, _, _, _, _, _, _, _, _, _, _, _, _, _, _, _, _, _, _, _, _, _, _, _, _, _, _, _, _, _, _, rfl⟩
  · intro a w h; exact h.elim
  · rintro a' w' ⟨rfl, u1, u2, u3, u4, u5, u6, u7, u8, u9, u10, u11, u12, u13, u14, u15, u16, u17, u18, u19, u20, u21, u22, u23, u24, u25, u26, u27, u28, u29, u30, u31, u32, u33, u34, u35, u36, u37, u38, u39, u40, u41, u42, u43, u44, u45, u46, u47, u48, u49, u50, u51, u52, u53, u54, u55, u56, rfl⟩
    go_wp2
    simp only [jumps_ret]
    go_ret
    exact ⟨rfl, rfl⟩
theorem no_epoch_zero {row : Int → Option (List Int)} (h : ∀ i b, row i = some b → b = z64b) : epN row 2 = (0, false) := by
  have h1 : ∀ k, anOk [] k = false := fun k => by
    unfold anOk
    rw [decide_eq_false (fun h => by have := h.1; simp at this)]; rfl
  have h2 : ∀ k, anOk z64b k = false := fun k => by
    unfold anOk
    rw [decide_eq_false]
    · rfl
    · rintro ⟨_, _, h⟩
      have h2 := congrArg (fun b : List Int => b[0]?) h
      rw [show (anchorB 0 (anE z64b))[0]? = some 65 from rfl] at h2
      exact absurd h2 (by decide)
  have h3 : ∀ k : Nat, anOk ((row (k : Int)).getD []) k = false := fun k => by
    cases hr : row (k : Int) with
    | none => exact h1 k
    | some b => rw [h _ b hr]; exact h2 k
  show (if anOk ((row ((1 : Nat) : Int)).getD []) 1 = true then _ else _) = _
  rw [h3 1]
  show (if anOk ((row ((0 : Nat) : Int)).getD []) 0 = true then _ else _) = _
  rw [h3 0]
  rfl
theorem builtWt (t : Int) : Try.prog.built 55 [(0, .int .i64 t)] = some (wrA ⟨t, 0, zBs⟩) := by kernel_rfl
section
variable {ops : Array Oper} {rest : List Oper} {o : Oper} {a : Act} {w : World} {Q : Exit → Act → World → Prop}
theorem wpList_buildTw (hw : Region.wanted o (yielded ops a.tmps) = true) (x : Operand) (t : Int) (ho : o.op = .build 55 #[(0, x)]) (hx : a.eval x = .int .i64 t)
    (h : wpList Try.prog ops Q rest (a.put o.dst (.agg (wrA ⟨t, 0, zBs⟩))) w) : wpList Try.prog ops Q (o :: rest) a w :=
  BigFrame.wpList_want hw fun _ hK => by
    unfold Oper.wp execOp
    have hb := run_build (P := Try.prog) w 55 #[(0, .int .i64 t)] _ (builtWt t)
    simp only [ho, List.map_toArray, List.map_cons, List.map_nil, hx, Sem.run_bind, hb, Result.andThen_ok]
    exact hK _ _ h
theorem wpList_oneWw (hw : Region.wanted o (yielded ops a.tmps) = true) (x : Operand) (ho : o.op = .buildSlice 50 1 #[(0, x)]) (y : Wr) (h56 : y.bs.length = 56) (hx : a.eval x = .agg (wrA y))
    (h : wpList Try.prog ops Q rest (a.put o.dst (.slice (some ⟨w.heap.size, 0, none⟩) 1 1)) (w.alloc (.cells (wrA y) 55))) : wpList Try.prog ops Q (o :: rest) a w := by
  obtain ⟨i0, hi, hz0, hz1, hz2⟩ := info_parts infoW
  exact BigFrame.wpList_want hw fun _ hK => wp_one_of 50 x ho 55 i0 _ 58 Try.underlying50 hi hz0 hz1 (by decide) (by decide) _ hx (by show (wrA y).size = 58; exact wrA_size h56) (hK _ _ h)
end
theorem make_rows {zs : List Int} (hm : mayV zs = true) (r i : Int) (b : List Int) (h : rowV (DM.make zs) r i = some b) : b = z64b := by
  unfold rowV at h
  split at h
  · rename_i hh
    obtain ⟨rn, j, row, e1, rfl, hrow, hj⟩ := hasB_row hh
    rw [e1, Int.toNat_natCast, Int.toNat_natCast] at h
    have hrow' : (zs.map zeroRow)[rn]? = some row := hrow
    rw [List.getElem?_map] at hrow'
    obtain ⟨z, hz, rfl⟩ := Option.map_eq_some_iff.1 hrow'
    exact make_zero hz h
  · cases h
end Go.Proofs.Ytamnpblijdgdaaa
