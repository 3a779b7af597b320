/- Blocks as values in memory: laid, loaded, stored, copied into, compared; contract: bytes.Equal. -/
import Derived.Test.YtflldlhfeiamnaaBc
import Derived.Test.YtflldlhfeiamnaaW
import Derived.Laws.CopyRow
import Derived.Laws.ResultCell
import Derived.Laws.Tables
import Derived.Laws.Rows
import Derived.Stop.BytesEq
namespace Go.Proofs.Ytflldlhfeiamnaa
open Go.ChangeShapes Go.WideShapes Go.ChangeAt Go.RowKit
set_option linter.unusedVariables false
def zBs : List Int := List.replicate 56 0
def blkA (k : Int) (bs : List Int) : Array Value := (blkL k bs).toArray
theorem blkA_list (k : Int) (bs : List Int) : (blkA k bs).toList = blkL k bs := by unfold blkA; simp
theorem blkA_size {k : Int} {bs : List Int} (h : bs.length = 56) : (blkA k bs).size = 57 := by unfold blkA blkL; simp [Bs_length, h]
theorem blkA_one (k : Int) (bs : List Int) : (blkA k bs).all (·.oneCell') = true := by
  refine Array.all_eq_true_iff_forall_mem.2 fun v hv => ?_
  unfold blkA blkL at hv
  simp only [List.mem_toArray, List.mem_cons] at hv
  rcases hv with rfl | hv
  · rfl
  · exact Bs_one bs v hv
theorem zBs_len : zBs.length = 56 := by unfold zBs; simp
theorem info24 : (Try.prog.info? 44).map (fun i => (i.zero, i.size, i.bytes)) = some (some (.agg (blkA 0 zBs)), 57, 64) := by kernel_rfl
theorem size24b : (Try.prog.info? 44).map (·.size) = some 57 := by kernel_rfl
theorem built24 : Try.prog.built 44 [] = some (blkA 0 zBs) := by kernel_rfl
section
variable {ops : Array Oper} {rest : List Oper} {o : Oper} {a : Act} {w : World} {Q : Exit → Act → World → Prop}
theorem wpList_allocB (hgd : o.guard = none) (ho : o.op = .alloc 44)
    (h : wpList Try.prog ops Q rest (a.put o.dst (.pointer (some ⟨w.heap.size, 0, none⟩))) (w.alloc (.cells (blkA 0 zBs) 44))) : wpList Try.prog ops Q (o :: rest) a w := by
  obtain ⟨i0, hi, hz0, hz1, hz2⟩ := info_parts info24
  exact wpList_plain hgd fun _ hK => wp_alloc_of 44 ho i0 _ hi hz0 (hK _ _ h)
theorem wpList_buildB0 (hgd : o.guard = none) (ho : o.op = .build 44 #[])
    (h : wpList Try.prog ops Q rest (a.put o.dst (.agg (blkA 0 zBs))) w) : wpList Try.prog ops Q (o :: rest) a w :=
  wpList_plain hgd fun _ hK => by
    unfold Oper.wp execOp
    have hb := run_build (P := Try.prog) w 44 #[] _ built24
    simp only [ho, List.map_toArray, List.map_nil, Sem.run_bind, hb, Result.andThen_ok]
    exact hK _ _ h
theorem wpList_loadB (hgd : o.guard = none) (x : Operand) (ho : o.op = .load 44 x) (g : Nat) (hx : a.eval x = .pointer (some ⟨g, 0, none⟩)) (k : Int) (bs : List Int) (h56 : bs.length = 56) (hg : w.heap[g]? = some (.cells (blkA k bs) 44 (0, 0)))
    (h : wpList Try.prog ops Q rest (a.put o.dst (.agg (blkA k bs))) w) : wpList Try.prog ops Q (o :: rest) a w :=
  wpList_load_row hgd 44 x ho g hx _ _ _ _ hg Try.underlying44 rfl (by rw [blkA_size h56]; exact size24b) h
theorem wpList_storeB (hgd : o.guard = none) (x y : Operand) (ho : o.op = .store 44 x y) (g : Nat) (hx : a.eval x = .pointer (some ⟨g, 0, none⟩)) (k j : Int) (bs cs : List Int) (hy : a.eval y = .agg (blkA k bs)) (h56 : bs.length = 56) (h56' : cs.length = 56) (hg : w.heap[g]? = some (.cells (blkA j cs) 44 (0, 0)))
    (h : wpList Try.prog ops Q rest (a.put o.dst undef) (w.setRow g (blkA k bs))) : wpList Try.prog ops Q (o :: rest) a w :=
  wpList_store_row hgd 44 x y ho g _ hx hy _ _ hg (by rw [blkA_size h56]; exact size24b) (by rw [blkA_size h56, blkA_size h56']) (blkA_one _ _) h
theorem run_copyB (w : World) (ty : TypeId) (g : Nat) (k : Int) (bs ys : List Int) (hg : w.heap[g]? = some (.cells (blkA k bs) 44 (0, 0))) (hb : bs.length = 56) (ad : Addr) (m c : Nat) (hm : 56 ≤ m) (hy : ys.length = 56) (hsrc : Byt w (some ad) ys) :
    (Builtin.copy_ #[25, 25] ty #[.slice (some ⟨g, 1, none⟩) 56 56, .slice (some ad) m c]).run Try.prog w = .ok (goInt 56) (w.setRow g (blkA k ys)) := by
  obtain ⟨i0, hi, hz0, hz1, hz2⟩ := info_parts info5
  have h := run_copy_row Try.prog w 25 25 ty 5 g 1 56 56 ad m c (blkA k bs) 44 (Bs ys) Try.underlying25 (by rw [hi]; simp [hz1]) hg (by rw [Bs_length, hy]; simp [Nat.min_def]; omega)
    (fun j v hj => by
      unfold Bs at hj
      rw [List.getElem?_map] at hj
      obtain ⟨x, hx, rfl⟩ := Option.map_eq_some_iff.1 hj
      obtain ⟨a', e, hc⟩ := hsrc j x hx
      injection e with e; subst e; exact hc) (by rw [Bs_length, blkA_size hb, hy]; decide) (Bs_one _)
  rw [h, Bs_length, hy]
  congr 2
  rw [blkA_list]
  have e : (blkL k bs).drop (1 + 56) = [] := List.drop_of_length_le (by unfold blkL; simp [Bs_length, hb])
  rw [e]
  unfold blkA blkL
  simp
theorem wpList_copyB (hgd : o.guard = none) (s x : Operand) (ho : o.op = .call { callee := .builtin .copy, args := #[s, x], argTypes := #[25, 25] })
    (g : Nat) (k : Int) (bs ys : List Int) (hs : a.eval s = .slice (some ⟨g, 1, none⟩) 56 56) (hg : w.heap[g]? = some (.cells (blkA k bs) 44 (0, 0))) (hb : bs.length = 56) (ad : Addr) (m c : Nat) (hx : a.eval x = .slice (some ad) m c) (hm : 56 ≤ m) (hy : ys.length = 56) (hsrc : Byt w (some ad) ys)
    (h : wpList Try.prog ops Q rest (a.put o.dst (goInt 56)) (w.setRow g (blkA k ys))) : wpList Try.prog ops Q (o :: rest) a w :=
  wpList_plain hgd fun _ hK => by
    unfold Oper.wp execOp
    simp only [ho, resolve, invoke, builtin, Sem.run_bind, Sem.run_pure, Result.andThen_ok, List.map_toArray, List.map_cons, List.map_nil, hs, hx, run_copyB w o.type g k bs ys hg hb ad m c hm hy hsrc]
    exact hK _ _ h
end
theorem results_blk {fn : Func} {p u : Tmp} (h : fn.results = #[.cell p 44, .tmp u]) (tmps : Array Value) (w : World) (g : Nat) (k : Int) (bs : List Int) (hp : tmps.getD p undef = .pointer (some ⟨g, 0, none⟩)) (h56 : bs.length = 56) (hg : w.heap[g]? = some (.cells (blkA k bs) 44 (0, 0))) :
    (results fn tmps).run Try.prog w = .ok (.tuple #[.agg (blkA k bs), tmps.getD u undef]) w := by
  rw [results_cell_tmp h, hp]
  simp only [asAddr, Sem.run_pure, Result.andThen_ok]
  rw [run_loadVar_row w g _ _ _ _ _ hg Try.underlying44 rfl (by rw [blkA_size h56]; exact size24b)]
  rfl
theorem equal_any (A B : Option Addr) (xs ys : List Int) (n m c d : Nat) (w : World) (hn : xs.length = n) (hm : ys.length = m) (hx : AllB xs) (hy : AllB ys) (bx : Byt w A xs) (by_ : Byt w B ys) :
    Calls Try.prog 28 #[.slice A n c, .slice B m d] w fun e w' => e = .returned (.bool (decide (xs = ys))) ∧ w = w' := by
  have h1 := conv_any (c := c) bx hn
  have h2 := conv_any (c := d) by_ hm
  have HB := Lib.hid (str_beq hx hy)
  clear bx by_ hn hm
  generalize strOfNums xs = s1 at *
  generalize strOfNums ys = s2 at *
  go_enter Try.func28, Try.ntmps28
  go_wp2
  go_ret
  exact ⟨ret_bool HB.out, rfl⟩
end Go.Proofs.Ytflldlhfeiamnaa
