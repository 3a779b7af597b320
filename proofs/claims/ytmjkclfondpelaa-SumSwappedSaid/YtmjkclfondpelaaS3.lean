/- Contract: the opening test of stage 3's laws. -/
import Derived.Test.YtmjkclfondpelaaS1
import Derived.Lib.SlBytesConst
namespace Go.Proofs.Ytmjkclfondpelaa
open Go.ChangeShapes Go.WideShapes Go.ChangeAt Go.RowKit
set_option linter.unusedVariables false
theorem byt_new {W : World} {C : Array Value} {t : TypeId} {fr : Nat × Nat} {bs : List Int} (hc : C.toList = Bs bs) : Byt (W.alloc (.cells C t fr)) (some ⟨W.heap.size, 0, none⟩) bs :=
  byt_blk (heap_alloc_new W (.cells C t fr)) hc
theorem sum_lit (bs : List Int) (n : Nat) (C : Array Value) (fr : Nat × Nat) (v r : Nat) (W : World) (hr : W.heap.size = r) (hn : bs.length = n) (hn2 : n ≤ 1000) (hB : bs.all (fun x => decide (0 ≤ x ∧ x < 256)) = true) (hv : sumV bs = v) (hc : C.toList = Bs bs) :
    Calls Try.prog 9 #[.slice (some ⟨r, 0, none⟩) n n] (W.alloc (.cells C 5 fr)) fun e w' => e = .returned (.int .u32 v) ∧ (W.alloc (.cells C 5 fr)) = w' := by
  subst hv
  subst hr
  exact sum_any _ bs n n _ hn (by omega) (fun x hx => of_decide_eq_true (List.all_eq_true.1 hB x hx)) (byt_new hc)
theorem begun_any (w : World) : Calls Try.prog 7 #[] w fun e w' => e = .returned (.bool true) ∧ Below w.heap.size w w' := by
  have kc := fun (w : World) (C : Array Value) (n c : Nat) => Lib.run_convert_bytes_const (P := Try.prog) w 22 5 C n c Try.underlying22 Try.underlying5
  go_enter Try.func7, Try.ntmps7
  go_wp2_with fail
  refine (sum_any none [] 0 0 _ rfl (by omega) (fun x hx => by cases hx) (fun i x hx => by cases hx)).mono ?_
  rintro e w' ⟨rfl, rfl⟩
  rw [show sumV [] = 1 from rfl]
  go_wp2_with fail
  refine (sum_lit [97, 98, 99] 3 #[.int .u8 97, .int .u8 98, .int .u8 99] _ 38600999 _ _ rfl rfl (by omega) (by decide) (by decide) rfl).mono ?_
  rintro e w' ⟨rfl, rfl⟩
  go_wp2_with fail
  go_ret
  exact ⟨rfl, (Below.refl _ _).alloc (Nat.le_refl _) _⟩
end Go.Proofs.Ytmjkclfondpelaa
