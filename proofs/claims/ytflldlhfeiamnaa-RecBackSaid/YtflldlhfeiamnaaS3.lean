/- Contract: the opening test of stage 3's laws. -/
import Derived.Test.YtflldlhfeiamnaaS1
import Derived.Lib.SlBytesConst
namespace Go.Proofs.Ytflldlhfeiamnaa
open Go.ChangeShapes Go.WideShapes Go.ChangeAt Go.RowKit
set_option linter.unusedVariables false
theorem byt_new {W : World} {C : Array Value} {t : TypeId} {fr : Nat × Nat} {bs : List Int} (hc : C.toList = Bs bs) : Byt (W.alloc (.cells C t fr)) (some ⟨W.heap.size, 0, none⟩) bs :=
  byt_blk (heap_alloc_new W (.cells C t fr)) hc
theorem sum_lit (bs : List Int) (n : Nat) (C : Array Value) (fr : Nat × Nat) (v r : Nat) (W : World) (hr : W.heap.size = r) (hn : bs.length = n) (hn2 : n ≤ 1000) (hB : bs.all (fun x => decide (0 ≤ x ∧ x < 256)) = true) (hv : sumV bs = v) (hc : C.toList = Bs bs) :
    Calls Try.prog 35 #[.slice (some ⟨r, 0, none⟩) n n] (W.alloc (.cells C 5 fr)) fun e w' => e = .returned (.int .u32 v) ∧ (W.alloc (.cells C 5 fr)) = w' := by
  subst hv
  subst hr
  exact sum_any _ bs n n _ hn (by omega) (fun x hx => of_decide_eq_true (List.all_eq_true.1 hB x hx)) (byt_new hc)
end Go.Proofs.Ytflldlhfeiamnaa
