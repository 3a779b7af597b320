/- A block built out of a kind and a body. -/
import Derived.Test.YtflldlhfeiamnaaBi
import Derived.Laws.BitsAllLaws
namespace Go.Proofs.Ytflldlhfeiamnaa
open Go.ChangeShapes Go.WideShapes Go.ChangeAt Go.RowKit
set_option linter.unusedVariables false
theorem size22 : (Try.prog.info? 42).map (·.size) = some 56 := by kernel_rfl
theorem splice_kind (k : Int) (bs : List Int) : splice (blkL 0 bs) 0 [.int .i64 k] = blkL k bs := by unfold splice blkL; simp
theorem splice_body (k : Int) (zs bs : List Int) (hz : zs.length = 56) (hb : bs.length = 56) : splice (blkL k zs) 1 (Bs bs) = blkL k bs := by
  unfold splice blkL
  rw [Bs_length, hb, List.drop_of_length_le (by simp [Bs_length, hz])]
  simp
theorem built24kb (k : Int) (bs : List Int) (hb : bs.length = 56) : Try.prog.built 44 [(0, .int .i64 k), (1, .agg (Bs bs).toArray)] = some (blkA k bs) := by
  have hS : Try.prog.underlying 44 = some (.struct (Try.prog.fieldsOf 44)) := by kernel_rfl
  obtain ⟨i0, hi, hz0, hz1, hz2⟩ := info_parts info24
  have hpl : (Try.prog.fieldsOf 44).toList.mapM (fun f => (Try.prog.info? f.type).map fun i => (f.offset, i.size)) = some [(0, 1), (1, 56)] := by kernel_rfl
  unfold Program.built
  rw [hi, hS]
  dsimp only
  rw [hz0, hpl]
  dsimp only
  rw [fill_cons (off := 0) (size := 1) rfl rfl (by show 0 + 1 ≤ (blkA 0 zBs).size; rw [blkA_size zBs_len]; decide)]
  rw [fill_cons (off := 1) (size := 56) rfl (by simp [Value.cells, Bs_length, hb]) (by
    simp only [List.size_toArray]
    show 1 + 56 ≤ (splice (blkA 0 zBs).toList 0 [Value.int .i64 k]).length
    rw [blkA_list, splice_kind]; simp [blkL, Bs_length, zBs_len])]
  unfold Instr.fill
  congr 1
  show (splice (splice (blkA 0 zBs).toList 0 [Value.int .i64 k]).toArray.toList 1 (Bs bs).toArray.toList).toArray = _
  rw [blkA_list, splice_kind, List.toList_toArray, List.toList_toArray, splice_body k zBs bs zBs_len hb]
  rfl
section
variable {ops : Array Oper} {rest : List Oper} {o : Oper} {a : Act} {w : World} {Q : Exit → Act → World → Prop}
theorem wpList_buildBkb (hgd : o.guard = none) (x y : Operand) (k : Int) (bs : List Int) (hb : bs.length = 56) (ho : o.op = .build 44 #[(0, x), (1, y)]) (hx : a.eval x = .int .i64 k) (hy : a.eval y = .agg (Bs bs).toArray)
    (h : wpList Try.prog ops Q rest (a.put o.dst (.agg (blkA k bs))) w) : wpList Try.prog ops Q (o :: rest) a w :=
  wpList_plain hgd fun _ hK => by
    unfold Oper.wp execOp
    have hb := run_build (P := Try.prog) w 44 #[(0, .int .i64 k), (1, .agg (Bs bs).toArray)] _ (built24kb k bs hb)
    simp only [ho, List.map_toArray, List.map_cons, List.map_nil, hx, hy, Sem.run_bind, hb, Result.andThen_ok]
    exact hK _ _ h
theorem wpList_loadRow (hgd : o.guard = none) (x : Operand) (ho : o.op = .load 42 x) (g : Nat) (hx : a.eval x = .pointer (some ⟨g, 0, none⟩)) (bs : List Int) (h56 : bs.length = 56) (hg : w.heap[g]? = some (.cells (Bs bs).toArray 42 (0, 0)))
    (h : wpList Try.prog ops Q rest (a.put o.dst (.agg (Bs bs).toArray)) w) : wpList Try.prog ops Q (o :: rest) a w :=
  wpList_load_row hgd 42 x ho g hx _ _ _ _ hg Try.underlying42 rfl (by simp only [List.size_toArray, Bs_length, h56]; exact size22) h
end
theorem xor_byte {a b : Int} (ha : 0 ≤ a ∧ a < 256) (hb : 0 ≤ b ∧ b ≤ 255) : (0 ≤ bits .xor .u8 a b ∧ bits .xor .u8 a b < 256) ∧ (bits .xor .u8 a b = a ↔ b = 0) := by
  rw [u8_xor a b ha.1 ha.2 hb.1 (by omega)]
  have hlt : a.toNat ^^^ b.toNat < 2 ^ 8 := Nat.xor_lt_two_pow (by omega) (by omega)
  refine ⟨⟨by omega, by omega⟩, fun h => ?_, fun h => ?_⟩
  · have h1 : a.toNat ^^^ b.toNat = a.toNat := by omega
    have h2 := congrArg (a.toNat ^^^ ·) h1
    simp only [← Nat.xor_assoc, Nat.xor_self, Nat.zero_xor] at h2
    omega
  · subst h; simp; omega
theorem set_same {l : List Int} {k : Nat} {x : Int} (h : l[k]? = some x) : l.set k x = l := (set_at h).trans (split_at h).symm
theorem openA_blk (l t : Int) {xs : List Int} (h : AllB xs) : ∃ k bs, openA l t xs = blkA k bs ∧ bs.length = 56 ∧ AllB bs := by
  unfold openA
  split
  · rename_i h1; exact ⟨_, _, rfl, opBs_len h1.1, opBs_allB h⟩
  · exact ⟨_, _, rfl, zBs_len, zBs_allB⟩
end Go.Proofs.Ytflldlhfeiamnaa
