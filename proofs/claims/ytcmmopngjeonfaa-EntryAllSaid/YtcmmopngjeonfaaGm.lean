/- Contract: the reference's TakeNode. -/
import Derived.Test.YtcmmopngjeonfaaGl
import Derived.Test.YtcmmopngjeonfaaGj
namespace Go.Proofs.Ytcmmopngjeonfaa
open Go.ChangeShapes Go.WideShapes Go.ChangeAt Go.RowKit
set_option linter.unusedVariables false
theorem numseg_any (g : Nat) (k : Int) (bs : List Int) (h56 : bs.length = 56) (hB : AllB bs) (o m n d : Nat) (w : World) (hg : w.heap[g]? = some (.cells (blkA k bs) 29 (0, 0))) (hn : m = n) (ho : o + m ≤ 56) (hm : m ≤ 4) :
    Calls Try.prog 24 #[.slice (some ⟨g, 1 + o, none⟩) n d] w fun e w' => e = .returned (.int .u64 (numV (seg bs o m))) ∧ w = w' :=
  rnum_any _ (seg bs o m) n d w (by rw [seg_len h56 ho]; exact hn) (by omega) (seg_allB hB _ _) (byt_seg hg o m)
theorem run_slice_body (g : Nat) {m : Nat} (h : m ≤ 35) (w : World) : (Instr.slice 41 (.slice (some ⟨g, 1, none⟩) 56 56) (some (.int .i64 21)) (some (.int .i64 (21 + (m : Int)))) none).run Try.prog w = .ok (.slice (some ⟨g, 22, none⟩) m 35) w := by
  have z3 := Try.sizeOf5
  have e2 : Try.prog.elem 41 = 5 := by kernel_rfl
  have e3 : Try.prog.underlying 41 = some (.slice (Try.prog.elem 41)) := by kernel_rfl
  rw [run_slice_lh w 41 _ 56 56 e3 .i64 .i64 21 (21 + (m : Int)) (by omega) (by omega) (by omega), e2]
  have hm : (21 + (m : Int)).toNat = 21 + m := by omega
  simp [z3, sliced, add_off, hm]
section
variable {w W W' : World} {p q : Nat} {k : Int} {bs : List Int} {m : Nd}
end
def VTR (p : Nat) (bs : List Int) (W0 : World) (i : Nat) (v : Value) (W : World) : Prop :=
  match i with
  | 0 | 4 | 8 => v = .slice (some ⟨p, 1, none⟩) 56 56
  | 1 => v = .slice (some ⟨p, 1, none⟩) 4 56
  | 2 => v = .int .u64 (numV (seg bs 0 4))
  | 3 => v = .int .u32 (numV (seg bs 0 4))
  | 5 => v = .slice (some ⟨p, 5, none⟩) 2 52
  | 6 => v = .int .u64 (numV (seg bs 4 2))
  | 7 => v = .int .i64 (numV (seg bs 4 2))
  | 9 => v = .slice (some ⟨p, 7, none⟩) 4 50
  | 10 => v = .int .u64 (numV (seg bs 6 4))
  | 11 => v = .int .i64 (numV (seg bs 6 4))
  | 12 => v = .agg (ndA (rdJ bs 0))
  | 13 => v = .pointer (some ⟨W0.heap.size, 0, none⟩)
  | _ => True
end Go.Proofs.Ytcmmopngjeonfaa
