/- Plain facts of IDs and their bytes; contract: the law's begun. -/
import Derived.Test.YtcnpepfboapljaaUh
import Derived.Deep.DeepCutAuto
namespace Go.Proofs.Ytcnpepfboapljaa
open Go.ChangeShapes Go.WideShapes Go.ChangeAt Go.RowKit
set_option linter.unusedVariables false
theorem putL_yes {l a g : Int} (h : MayI l a g) : putL l a g = idL l a g := by unfold putL; rw [if_pos h]
theorem putL_no {l a g : Int} (h : ¬ MayI l a g) : putL l a g = [] := by unfold putL; rw [if_neg h]
theorem putL_ok (l a g : Int) : AllB (putL l a g) := putL_allB (fun _ => trivial)
theorem putL_len (l a g : Int) : (putL l a g).length = if MayI l a g then 7 else 0 := by
  by_cases h : MayI l a g
  · rw [putL_yes h, if_pos h]; unfold idL numB; simp [be_length]
  · rw [putL_no h, if_neg h]; rfl
theorem take_put {l a g : Int} (h : MayI l a g) (hg : u32 g) : Taken (putL l a g) ∧ takeV (putL l a g) = idV l a g := by
  have hlen : (putL l a g).length = 7 := by rw [putL_len, if_pos h]
  have e0 : labX (putL l a g) = l := by
    rw [putL_yes h]
    show labI (((l % 256).toNat : Nat) : Int) = l
    unfold MayI Within at h
    unfold labI
    split <;> omega
  have e1 : (plcX (putL l a g) : Int) = a := by
    rw [putL_yes h]
    show (((a / 256).toNat * 256 + a.toNat : Nat) : Int) = a
    unfold MayI Within at h
    omega
  have e2 : (genX (putL l a g) : Int) = g := by
    rw [putL_yes h]
    obtain ⟨n, rfl⟩ : ∃ n : Nat, g = (n : Int) := ⟨g.toNat, by have := hg.1; omega⟩
    show (((((n / 16777216 % 256 : Nat) : Int).toNat) * 16777216 + (((n / 65536 % 256 : Nat) : Int).toNat) * 65536 + (((n / 256 % 256 : Nat) : Int).toNat) * 256 + (((n / 1 % 256 : Nat) : Int).toNat) : Nat) : Int) = n
    simp only [Int.toNat_natCast]
    have := hg.2
    omega
  have hT : Taken (putL l a g) := ⟨hlen, by rw [e0, e1, e2]; exact h⟩
  refine ⟨hT, ?_⟩
  unfold takeV
  rw [if_pos hT, e0, e1, e2]
theorem taken_nil : ¬ Taken [] := fun h => by have := h.1; simp at this
theorem takeV_no {xs : List Int} (h : ¬ Taken xs) : takeV xs = idV 0 0 0 := by unfold takeV; rw [if_neg h]
theorem put_taken {xs : List Int} (hB : AllB xs) (h : Taken xs) : putL (labX xs) (plcX xs) (genX xs) = xs := by
  obtain ⟨b0, b1, b2, b3, b4, b5, b6, rfl, l0, l1, l2, l3, l4, l5, l6⟩ := seven h.1 hB
  have hb := back_iff b0 b1 b2 b3 b4 b5 b6 l0 l1 l2 l3 l4 l5 l6 _ rfl _ rfl
  have h2 := h.2
  have e := hb.2 h2
  have h3 := hb.1.2 h2
  rw [e] at h3
  exact h3
/-- Put, its bytes named by where they lie. -/
theorem put2_any (l a g : Int) (w : World) (hl : i64 l) (ha : i64 a) (hg : u32 g) :
    Calls Try.prog 11 #[idV l a g] w fun e w' => ∃ A d, e = .returned (.slice A (putL l a g).length d) ∧ (putL l a g).length ≤ d ∧ d ≤ 9223372036854775807 ∧ Byt w' A (putL l a g) ∧ Below w.heap.size w w' :=
  (put_any l a g w hl ha hg).mono fun e w' ⟨v, he, ho, hb⟩ => by
    obtain ⟨A, d, rfl, h1, h2, h3⟩ := byt_own ho rfl
    exact ⟨A, d, he, h1, h2, h3, hb⟩
theorem rput2_any (l a g : Int) (w : World) (hl : i64 l) (ha : i64 a) (hg : u32 g) :
    Calls Try.prog 12 #[idV l a g] w fun e w' => ∃ A d, e = .returned (.slice A (putL l a g).length d) ∧ (putL l a g).length ≤ d ∧ d ≤ 9223372036854775807 ∧ Byt w' A (putL l a g) ∧ Below w.heap.size w w' :=
  (rput_any l a g w hl ha hg).mono fun e w' ⟨v, he, ho, hb⟩ => by
    obtain ⟨A, d, rfl, h1, h2, h3⟩ := byt_own ho rfl
    exact ⟨A, d, he, h1, h2, h3, hb⟩
/-- Take of what was put. -/
theorem taken_any (l a g : Int) (A : Option Addr) (d : Nat) (w : World) (hm : MayI l a g) (hg : u32 g) (hd : (putL l a g).length ≤ d) (hd2 : d ≤ 9223372036854775807) (hy : Byt w A (putL l a g)) :
    Calls Try.prog 7 #[.slice A (putL l a g).length d] w fun e w' => e = .returned (.tuple #[idV l a g, .bool true]) ∧ Below w.heap.size w w' := by
  have h := take_any A (putL l a g) d w hd hd2 (putL_ok l a g) hy
  rw [(take_put hm hg).2, decide_eq_true (take_put hm hg).1] at h
  exact h
set_option maxRecDepth 100000 in
set_option maxHeartbeats 3200000 in
theorem begun_any (w : World) : Calls Try.prog 6 #[] w fun e w' => e = .returned (.bool true) ∧ Below w.heap.size w w' := by
  have H0 := Lib.hid (IdAt.new w 0 0 0)
  have HB0 := Lib.hid (bel1 (w := w) (Obj.cells #[.int .i64 0, .int .i64 0, .int .u32 0] 24))
  have H1 := Lib.hid (H0.out.set 2 5 9)
  have HB1 := Lib.hid (below_setRow HB0.out (Nat.le_refl _) (idA 2 5 9))
  have hm : MayI 2 5 9 := by decide
  have hmr : MayI (-1) 0 0 := by decide
  have HP := Lib.hid (fun W => put2_any 2 5 9 W (by constructor <;> omega) (by constructor <;> omega) (by constructor <;> omega))
  have HPR := Lib.hid (fun W => put2_any (-1) 0 0 W (by constructor <;> omega) (by constructor <;> omega) (by constructor <;> omega))
  have HT := Lib.hid (fun A d W => taken_any 2 5 9 A d W hm (by constructor <;> omega))
  have HTR := Lib.hid (fun A d W => taken_any (-1) 0 0 A d W hmr (by constructor <;> omega))
  have HM := Lib.hid (fun W => may_any 2 5 9 W (by constructor <;> omega) (by constructor <;> omega) (by constructor <;> omega))
  have HM0 := Lib.hid (fun W => may_any 0 0 0 W (by constructor <;> omega) (by constructor <;> omega) (by constructor <;> omega))
  rw [decide_eq_true hm] at HM
  rw [decide_eq_false (show ¬ MayI 0 0 0 by decide)] at HM0
  have HNO := Lib.hid (fun W => take_any none [] 0 W (by simp) (by omega) (fun x hx => by cases hx) (fun i x hi => by cases hi))
  rw [takeV_no taken_nil, decide_eq_false taken_nil] at HNO
  have HR := Lib.hid root_any
  clear hm hmr
  generalize putL 2 5 9 = X at *
  generalize putL (-1) 0 0 = Y at *
  generalize X.length = xn at *
  generalize Y.length = yn at *
  go_enter Try.func6, Try.ntmps6
  go_upto_region 2 with (refine wpList_storeI rfl (.tmp 1) (.tmp 8) rfl w.heap.size rfl 2 5 9 rfl 0 0 0 H0.out ?_)
  generalize (w.alloc (Obj.cells #[.int .i64 0, .int .i64 0, .int .u32 0] 24)).setRow w.heap.size (idA 2 5 9) = W1 at *
  go_wp2_with (refine wpList_loadI rfl (.tmp 1) rfl w.heap.size rfl 2 5 9 H1.out ?_)
  refine (HP.out W1).mono ?_
  rintro e W2 ⟨A2, d2, rfl, hd2, hm2, hy2, hb2⟩
  have H2 := Lib.hid (H1.out.below hb2)
  have HB2 := Lib.hid (keepB HB1.out hb2)
  clear H0 HB0 H1 HB1 hb2
  have HT2 := Lib.hid (HT.out A2 d2 W2 hd2 hm2 hy2)
  clear hd2 hm2 hy2 HT HP
  go_wp2_with fail
  refine HT2.out.mono ?_
  rintro e W3 ⟨rfl, hb3⟩
  have H3 := Lib.hid (H2.out.below hb3)
  have HB3 := Lib.hid (keepB HB2.out hb3)
  have HZ3 := Lib.hid (IdAt.new W3 0 0 0)
  have HZ4 := Lib.hid (HZ3.out.set 2 5 9)
  have hb4 : Below W3.heap.size W3 ((W3.alloc (Obj.cells #[.int .i64 0, .int .i64 0, .int .u32 0] 24)).setRow W3.heap.size (idA 2 5 9)) := below_setRow (bel1 _) (Nat.le_refl _) _
  have H4 := Lib.hid (H3.out.below hb4)
  have HB4 := Lib.hid (keepB HB3.out hb4)
  clear hb3 hb4 H2 HB2 HT2 H3 HB3
  go_upto_region 3 with (refine wpList_storeI rfl (.tmp 2) (.tmp 13) rfl W3.heap.size rfl 2 5 9 rfl 0 0 0 HZ3.out ?_)
  clear HZ3
  generalize (W3.alloc (Obj.cells #[.int .i64 0, .int .i64 0, .int .u32 0] 24)).setRow W3.heap.size (idA 2 5 9) = W4 at *
  generalize W3.heap.size = p2 at *
  go_wp2_with fail
  refine (HR.out W4).mono ?_
  rintro e W5 ⟨rfl, hb5⟩
  have H5 := Lib.hid (H4.out.below hb5)
  have HQ5 := Lib.hid (IdAt.below HZ4.out hb5)
  have HB5 := Lib.hid (keepB HB4.out hb5)
  clear hb5 H4 HZ4 HB4
  go_wp2_with fail
  refine (HPR.out W5).mono ?_
  rintro e W6 ⟨A6, d6, rfl, hd6, hm6, hy6, hb6⟩
  have H6 := Lib.hid (H5.out.below hb6)
  have HQ6 := Lib.hid (HQ5.out.below hb6)
  have HB6 := Lib.hid (keepB HB5.out hb6)
  have HT6 := Lib.hid (HTR.out A6 d6 W6 hd6 hm6 hy6)
  clear hb6 H5 HQ5 HB5 hd6 hm6 hy6 HTR HPR
  go_wp2_with fail
  refine HT6.out.mono ?_
  rintro e W7 ⟨rfl, hb7⟩
  have H7 := Lib.hid (H6.out.below hb7)
  have HQ7 := Lib.hid (HQ6.out.below hb7)
  have HB7 := Lib.hid (keepB HB6.out hb7)
  have HZ7 := Lib.hid (IdAt.new W7 0 0 0)
  have HZ8 := Lib.hid (HZ7.out.set (-1) 0 0)
  have hb8 : Below W7.heap.size W7 ((W7.alloc (Obj.cells #[.int .i64 0, .int .i64 0, .int .u32 0] 24)).setRow W7.heap.size (idA (-1) 0 0)) := below_setRow (bel1 _) (Nat.le_refl _) _
  have H8 := Lib.hid (H7.out.below hb8)
  have HQ8 := Lib.hid (HQ7.out.below hb8)
  have HB8 := Lib.hid (keepB HB7.out hb8)
  clear hb7 hb8 H6 HQ6 HB6 HT6 H7 HQ7 HB7
  go_upto_region 4 with (refine wpList_storeI rfl (.tmp 4) (.tmp 19) rfl W7.heap.size rfl (-1) 0 0 rfl 0 0 0 HZ7.out ?_)
  clear HZ7
  generalize (W7.alloc (Obj.cells #[.int .i64 0, .int .i64 0, .int .u32 0] 24)).setRow W7.heap.size (idA (-1) 0 0) = W8 at *
  generalize W7.heap.size = p4 at *
  go_wp2_with fail
  refine (HNO.out W8).mono ?_
  rintro e W9 ⟨rfl, hb9⟩
  have H9 := Lib.hid (H8.out.below hb9)
  have HQ9 := Lib.hid (HQ8.out.below hb9)
  have HR9 := Lib.hid (IdAt.below HZ8.out hb9)
  have HB9 := Lib.hid (keepB HB8.out hb9)
  have HZ9 := Lib.hid (IdAt.new W9 0 0 0)
  have hb10 : Below W9.heap.size W9 ((W9.alloc (Obj.cells #[.int .i64 0, .int .i64 0, .int .u32 0] 24)).setRow W9.heap.size (idA 0 0 0)) := below_setRow (bel1 _) (Nat.le_refl _) _
  have H10 := Lib.hid (H9.out.below hb10)
  have HQ10 := Lib.hid (HQ9.out.below hb10)
  have HR10 := Lib.hid (HR9.out.below hb10)
  have HB10 := Lib.hid (keepB HB9.out hb10)
  clear hb9 hb10 H8 HQ8 HZ8 HB8 H9 HQ9 HR9 HB9
  go_upto_region 5 with (refine wpList_storeI rfl (.tmp 6) (.tmp 23) rfl W9.heap.size rfl 0 0 0 rfl 0 0 0 HZ9.out ?_)
  clear HZ9 HNO
  generalize (W9.alloc (Obj.cells #[.int .i64 0, .int .i64 0, .int .u32 0] 24)).setRow W9.heap.size (idA 0 0 0) = W at *
  have k10 : ∀ g : Later W, g.w.cell? ⟨w.heap.size, 0, none⟩ = some (.int .i64 2) := fun g => g.keep (H10.out.cell 0)
  have k11 : ∀ g : Later W, g.w.cell? ⟨w.heap.size, 1, none⟩ = some (.int .i64 5) := fun g => g.keep (H10.out.cell 1)
  have k12 : ∀ g : Later W, g.w.cell? ⟨w.heap.size, 2, none⟩ = some (.int .u32 9) := fun g => g.keep (H10.out.cell 2)
  have k20 : ∀ g : Later W, g.w.cell? ⟨p2, 0, none⟩ = some (.int .i64 2) := fun g => g.keep (HQ10.out.cell 0)
  have k21 : ∀ g : Later W, g.w.cell? ⟨p2, 1, none⟩ = some (.int .i64 5) := fun g => g.keep (HQ10.out.cell 1)
  have k22 : ∀ g : Later W, g.w.cell? ⟨p2, 2, none⟩ = some (.int .u32 9) := fun g => g.keep (HQ10.out.cell 2)
  have k40 : ∀ g : Later W, g.w.cell? ⟨p4, 0, none⟩ = some (.int .i64 (-1)) := fun g => g.keep (HR10.out.cell 0)
  have k41 : ∀ g : Later W, g.w.cell? ⟨p4, 1, none⟩ = some (.int .i64 0) := fun g => g.keep (HR10.out.cell 1)
  have k42 : ∀ g : Later W, g.w.cell? ⟨p4, 2, none⟩ = some (.int .u32 0) := fun g => g.keep (HR10.out.cell 2)
  have q1 := eqlI 2 5 9 2 5 9
  have q2 := eqlI (-1) 0 0 (-1) 0 0
  rw [show decide ((2 : Int) = 2 ∧ (5 : Int) = 5 ∧ (9 : Int) = 9) = true by decide] at q1
  rw [show decide ((-1 : Int) = -1 ∧ (0 : Int) = 0 ∧ (0 : Int) = 0) = true by decide] at q2
  have HSZ := Lib.hid HB10.out.size
  unfold idV at HR HM HM0
  clear H10 HQ10 HR10
  generalize w.heap.size = p1 at k10 k11 k12 ⊢
  refine wp_region_later (by kernel_rfl) (by kernel_rfl) ?_
  repeat (go_big_quiet_step ((first | (go_at_call 13; with_reducible exact quiet_later (HR.out _)) | (go_at_call 9; first | with_reducible exact quiet_later (HM.out _) | with_reducible exact quiet_later (HM0.out _)))))
  refine wpQuiet_nil ?_
  intro _ hw'
  obtain ⟨nq, hw''⟩ := hw'
  subst hw''
  have hBW2 := Lib.hid (HB10.out.trans (nq.below.mono HSZ.out))
  clear k10 k11 k12 k20 k21 k22 k40 k41 k42
  generalize Later.w nq = V at *
  clear nq
  go_wp2
  go_ret
  exact ⟨rfl, hBW2.out⟩
end Go.Proofs.Ytcnpepfboapljaa
