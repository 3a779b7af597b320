/- Contracts: rec.summed; the reference's filled, whatever length. -/
import Derived.Test.YtflldlhfeiamnaaEc
namespace Go.Proofs.Ytflldlhfeiamnaa
open Go.ChangeShapes Go.WideShapes Go.ChangeAt Go.RowKit
set_option linter.unusedVariables false
theorem made_u8 (n : Nat) : (madeCells (Value.int .u8 0).cells n).toList = Bs (List.replicate n 0) := by
  unfold madeCells Bs
  apply List.ext_getElem?
  intro i
  simp [List.getElem?_replicate, Value.cells]
  by_cases h : i < n <;> simp [h, Nat.mod_one]
set_option maxRecDepth 100000 in
set_option maxHeartbeats 1600000 in
theorem summed_any (A : Option Addr) (xs : List Int) (n d : Nat) (w : World) (hn : xs.length = n) (hl : n ≤ 60) (hB : AllB xs) (hy : Byt w A xs) :
    Calls Try.prog 31 #[.slice A n d] w fun e w' => ∃ v, e = .returned v ∧ w'.ownsRow w.heap.size 5 1 v 64 (Bs (sumd xs)) ∧ Below w.heap.size w w' := by
  obtain ⟨i0, hi, hz0, hz1, hz2⟩ := info_parts info5
  have hmk := fun w : World => run_make (P := Try.prog) w 25 5 i0 _ Try.underlying25 hi hz0 .i64 .i64 60 64 (by omega) (by omega) (by rw [hz2]; omega) (by omega)
  have hM0 : (madeCells (Value.int .u8 0).cells (64 * i0.size)).toList = Bs (List.replicate 64 0) := by
    rw [hz1, Nat.mul_one]; exact made_u8 64
  generalize hM : madeCells (Value.int .u8 0).cells ((64 : Int).toNat * i0.size) = M at hmk
  rw [show ((64 : Int)).toNat = 64 by omega, show ((60 : Int)).toNat = 60 by omega] at hmk
  have HM : Hid (M.toList = Bs (List.replicate 64 0)) := by unfold Hid; rw [← hM]; exact hM0
  have HY := Lib.hid hy
  have HN := Lib.hid hn
  have HB := Lib.hid hB
  have HZ : Hid ((Try.prog.info? 5).map (·.size) = some 1) := by unfold Hid; rw [hi]; simp [hz1]
  clear hM hM0 hi hz0 hz1 hz2 hy hn hB
  go_enter Try.func31, Try.ntmps31
  go_upto_region 2 with fail
  have HG0 := Lib.hid (heap_alloc_new w (Obj.cells M 5))
  have HB0 : Hid (Below w.heap.size w (w.alloc (Obj.cells M 5))) := (Below.refl _ _).alloc (Nat.le_refl _) _
  clear hmk
  have HSZ : Hid (w.heap.size = w.heap.size) := rfl
  generalize w.alloc (Obj.cells M 5) = W0 at *
  have hml : (Bs (List.replicate 64 0)).length = 64 := by rw [Bs_length]; simp
  go_upto_region 3 with (first
    | (refine wpList_copy_splice rfl (.tmp 5) (.tmp 6) 25 25 rfl 5 Try.underlying25 HZ.out (some ⟨w.heap.size, 0, none⟩) A 60 64 n d rfl rfl w.heap.size 0 (Bs (List.replicate 64 0)) 5 (by rw [← HM.out, Array.toArray_toList]; exact HG0.out) (Bs xs) (by rw [Bs_length, HN.out]; show n = min n 60; omega) ?_ (by rw [Bs_length, HN.out, hml]; omega) (Bs_one xs) w.heap.size w HB0.out (Nat.le_refl _) ?_
       · intro h0
         refine ⟨rfl, ?_⟩
         have hx0 : 0 < xs.length := by rw [Bs_length] at h0; exact h0
         obtain ⟨ad, e, _⟩ := HY.out 0 _ (List.getElem?_eq_getElem hx0)
         subst e
         exact ⟨ad, rfl, byt_cells (HY.out.keep HB0.out)⟩
       intro W1 HG1 hB1))
  have hsp : splice (Bs (List.replicate 64 0)) 0 (Bs xs) = Bs (fillB xs ++ List.replicate 4 0) := by
    unfold splice fillB
    rw [Bs_length, HN.out, List.take_zero, List.nil_append, Nat.zero_add]
    unfold Bs
    rw [← List.map_drop, ← List.map_append, List.drop_replicate, List.append_assoc, List.replicate_append_replicate]
    congr 3
    omega
  have HG2 : Hid (W1.heap[w.heap.size]? = some (.cells (Bs (fillB xs ++ List.replicate 4 0)).toArray 5 (0, 0))) := by
    unfold Hid; rw [← hsp]; exact HG1.out
  have HF := Lib.hid (fillB_length (xs := xs) (by rw [HN.out]; exact hl))
  have own1 : W1.ownsRow w.heap.size 5 1 (.slice (some ⟨w.heap.size, 0, none⟩) 60 64) 60 (Bs (fillB xs)) := by
    refine ⟨by rw [Bs_length, HF.out], Or.inr ⟨w.heap.size, 64, _, rfl, Nat.le_refl _, HG2.out, by omega, by simp only [maxLen]; omega, ?_, ?_⟩⟩
    · simp [Bs_length, HF.out]
    · rw [Bs_append]
      have : (Bs (fillB xs)).length = 60 * 1 := by rw [Bs_length, HF.out]
      rw [← this]; exact List.take_left
  have HO1 := Lib.hid own1
  have hy1 : Byt W1 (some ⟨w.heap.size, 0, none⟩) (fillB xs) := by
    obtain ⟨A', d', e, _, _, h⟩ := byt_own own1 HF.out
    injection e with e; rw [← e] at h; exact h
  have hfB := fillB_allB HB.out
  have HSV := Lib.hid (sumV_lt (fillB xs))
  have HSE : Hid (sumd xs = fillB xs ++ be (sumV (fillB xs)) 4) := Lib.hid rfl
  clear HG1 HG2 hsp own1 hml HG0 HM
  go_wp2_with fail
  refine (sum_any (some ⟨w.heap.size, 0, none⟩) (fillB xs) 60 64 W1 HF.out (by omega) hfB hy1).mono ?_
  rintro e W2 ⟨rfl, rfl⟩
  clear hfB hy1
  generalize sumV (fillB xs) = sv at *
  go_wp2_with fail
  refine (num_any W1 w.heap.size _ 60 (fillB xs) sv 4 HO1.out hB1.size (by omega) (by omega) (by omega) HSV.out).mono ?_
  rintro e W4 ⟨v4, rfl, own4, hb4, _⟩
  go_wp2_with fail
  go_ret
  exact ⟨v4, rfl, by rw [HSE.out]; exact own4, hB1.trans hb4⟩
end Go.Proofs.Ytflldlhfeiamnaa
