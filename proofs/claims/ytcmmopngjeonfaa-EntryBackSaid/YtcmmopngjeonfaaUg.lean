/- Contract: ino.Take. -/
import Derived.Test.YtcmmopngjeonfaaUe
import Derived.Test.YtcmmopngjeonfaaAp
namespace Go.Proofs.Ytcmmopngjeonfaa
open Go.ChangeShapes Go.WideShapes Go.ChangeAt Go.RowKit
open Fx
set_option linter.unusedVariables false
def nB (xs : List Int) (i : Nat) : Nat := (xs.getD i 0).toNat
def labX (xs : List Int) : Int := labI (nB xs 0)
def plcX (xs : List Int) : Nat := nB xs 1 * 256 + nB xs 2
def genX (xs : List Int) : Nat := nB xs 3 * 16777216 + nB xs 4 * 65536 + nB xs 5 * 256 + nB xs 6
/-- Are bytes an ID? -/
def ITaken (xs : List Int) : Prop := xs.length = 7 ∧ MayI (labX xs) (plcX xs) (genX xs)
instance (xs : List Int) : Decidable (ITaken xs) := by unfold ITaken; infer_instance
def takeV (xs : List Int) : Value := if ITaken xs then idV (labX xs) (plcX xs) (genX xs) else idV 0 0 0
theorem built0 : Try.prog.built 24 [] = some #[.int .i64 0, .int .i64 0, .int .u32 0] := by kernel_rfl
theorem seven {xs : List Int} (h : xs.length = 7) (hB : AllB xs) : ∃ b0 b1 b2 b3 b4 b5 b6 : Nat, xs = [(b0 : Int), (b1 : Int), (b2 : Int), (b3 : Int), (b4 : Int), (b5 : Int), (b6 : Int)] ∧ b0 < 256 ∧ b1 < 256 ∧ b2 < 256 ∧ b3 < 256 ∧ b4 < 256 ∧ b5 < 256 ∧ b6 < 256 := by
  match xs, h with
  | [x0, x1, x2, x3, x4, x5, x6], _ =>
    have h0 := hB x0 (by simp)
    have h1 := hB x1 (by simp)
    have h2 := hB x2 (by simp)
    have h3 := hB x3 (by simp)
    have h4 := hB x4 (by simp)
    have h5 := hB x5 (by simp)
    have h6 := hB x6 (by simp)
    refine ⟨x0.toNat, x1.toNat, x2.toNat, x3.toNat, x4.toNat, x5.toNat, x6.toNat, ?_, by omega, by omega, by omega, by omega, by omega, by omega, by omega⟩
    rw [Int.toNat_of_nonneg h0.1, Int.toNat_of_nonneg h1.1, Int.toNat_of_nonneg h2.1, Int.toNat_of_nonneg h3.1, Int.toNat_of_nonneg h4.1, Int.toNat_of_nonneg h5.1, Int.toNat_of_nonneg h6.1]
structure JTK (w : World) (p : Nat) (W : World) : Prop where
  bel : Below p w W
  sz : p < W.heap.size
  at_ : IdAt W p 0 0 0
def VTK (p : Nat) (ad : Addr) (c lf pf : Nat) (l a : Int) (gn : Nat) (i : Nat) (v : Value) (W : World) : Prop :=
  match i with
  | 0 | 3 => v = .slice (some ad) 7 c
  | 1 => v = .slice (some ad) 3 c
  | 2 => v = .complex .f64 lf pf
  | 4 => v = .slice (some ⟨ad.block, ad.off + 3, none⟩) 4 (c - 3)
  | 5 => v = .int .u32 gn
  | 6 => v = idV l a gn
  | 7 => ∃ q, v = .pointer (some ⟨q, 0, none⟩) ∧ p < q ∧ IdAt W q 0 0 0
  | _ => True
theorem VTK.on {p : Nat} {ad : Addr} {c lf pf : Nat} {l a : Int} {gn j : Nat} {v : Value} {w w' : World} (h : VTK p ad c lf pf l a gn j v w) (hs : w.grownBy w' none) : VTK p ad c lf pf l a gn j v w' := by
  unfold VTK at *
  split <;> try exact h
  · obtain ⟨q, h1, h2, h3⟩ := h; exact ⟨q, h1, h2, h3.grown hs⟩
  · trivial
set_option maxRecDepth 100000 in
set_option maxHeartbeats 3200000 in
theorem itake_any (A : Option Addr) (xs : List Int) (c : Nat) (w : World) (hc : xs.length ≤ c) (hc2 : c ≤ 9223372036854775807) (hB : AllB xs) (hy : Byt w A xs) :
    Calls Try.prog 21 #[.slice A xs.length c] w fun e w' => e = .returned (.tuple #[takeV xs, .bool (decide (ITaken xs))]) ∧ Below w.heap.size w w' := by
  have H0 := Lib.hid (IdAt.new w 0 0 0)
  have HB := Lib.hid (bel1 (w := w) (Obj.cells #[.int .i64 0, .int .i64 0, .int .u32 0] 24))
  have b0' := built0
  by_cases h7 : xs.length = 7
  · obtain ⟨b0, b1, b2, b3, b4, b5, b6, rfl, l0, l1, l2, l3, l4, l5, l6⟩ := seven h7 hB
    obtain ⟨ad, rfl, c0⟩ := hy 0 _ rfl
    have cc : ∀ i x, ([(b0 : Int), (b1 : Int), (b2 : Int), (b3 : Int), (b4 : Int), (b5 : Int), (b6 : Int)])[i]? = some x → w.cell? (ad.add i) = some (.int .u8 x) := fun i x hi => by
      obtain ⟨a', e, h⟩ := hy i x hi
      injection e with e; subst e; exact h
    have c1 := cc 1 _ rfl
    have c2 := cc 2 _ rfl
    have c3 := cc 3 _ rfl
    have c4 := cc 4 _ rfl
    have c5 := cc 5 _ rfl
    have c6 := cc 6 _ rfl
    rw [add_zero'] at c0
    rw [add_pos _ _ (by omega)] at c1 c2 c3 c4 c5 c6
    have HTN : Hid (∀ W, Below w.heap.size w W → Calls Try.prog 32 #[.slice (some ad) 3 c] W fun e w' => e = .returned (.complex .f64 (fi (labI b0)) (fi ((b1 * 256 + b2 : Nat) : Int))) ∧ ∃ n, w' = W.drewN n) := fun W hW => itakenum_any ad b0 b1 b2 c W l0 l1 l2 (keepC hW c0) (keepC hW c1) (keepC hW c2)
    have HTG : Hid (∀ W, Below w.heap.size w W → Calls Try.prog 33 #[.slice (some ⟨ad.block, ad.off + 3, none⟩) 4 (c - 3)] W fun e w' => e = .returned (.int .u32 ((b3 * 16777216 + b4 * 65536 + b5 * 256 + b6 : Nat) : Int)) ∧ ∃ n, w' = W.drewN n) := fun W hW =>
      itakegen_any ⟨ad.block, ad.off + 3, none⟩ b3 b4 b5 b6 (c - 3) W l3 l4 l5 l6 (keepC hW c3) (keepC hW c4) (keepC hW c5) (keepC hW c6)
    have hT : ITaken [(b0 : Int), (b1 : Int), (b2 : Int), (b3 : Int), (b4 : Int), (b5 : Int), (b6 : Int)] ↔ MayI (labI b0) ((b1 * 256 + b2 : Nat) : Int) ((b3 * 16777216 + b4 * 65536 + b5 * 256 + b6 : Nat) : Int) :=
      ⟨fun h => h.2, fun h => ⟨rfl, h⟩⟩
    have hV : takeV [(b0 : Int), (b1 : Int), (b2 : Int), (b3 : Int), (b4 : Int), (b5 : Int), (b6 : Int)] = if MayI (labI b0) ((b1 * 256 + b2 : Nat) : Int) ((b3 * 16777216 + b4 * 65536 + b5 * 256 + b6 : Nat) : Int) then idV (labI b0) ((b1 * 256 + b2 : Nat) : Int) ((b3 * 16777216 + b4 * 65536 + b5 * 256 + b6 : Nat) : Int) else idV 0 0 0 := by
      unfold takeV
      by_cases h : MayI (labI b0) ((b1 * 256 + b2 : Nat) : Int) ((b3 * 16777216 + b4 * 65536 + b5 * 256 + b6 : Nat) : Int)
      · rw [if_pos h, if_pos (hT.2 h)]; rfl
      · rw [if_neg h, if_neg (fun q => h (hT.1 q))]
    have hD : decide (ITaken [(b0 : Int), (b1 : Int), (b2 : Int), (b3 : Int), (b4 : Int), (b5 : Int), (b6 : Int)]) = decide (MayI (labI b0) ((b1 * 256 + b2 : Nat) : Int) ((b3 * 16777216 + b4 * 65536 + b5 * 256 + b6 : Nat) : Int)) := decide_eq_decide.2 hT
    rw [hV, hD, h7]
    have hlab : (labI b0).natAbs ≤ 100000 ∧ i64 (labI b0) := by unfold labI i64; split <;> omega
    obtain ⟨l, hl⟩ : ∃ l, l = labI b0 := ⟨_, rfl⟩
    obtain ⟨pn, hpn⟩ : ∃ pn, pn = b1 * 256 + b2 := ⟨_, rfl⟩
    obtain ⟨gn, hgn⟩ : ∃ gn, gn = b3 * 16777216 + b4 * 65536 + b5 * 256 + b6 := ⟨_, rfl⟩
    rw [← hl, ← hpn] at HTN
    rw [← hgn] at HTG
    rw [← hl, ← hpn, ← hgn]
    rw [← hl] at hlab
    have hpn2 : pn < 65536 := by omega
    have hgn2 : gn < 4294967296 := by omega
    have HTI := Lib.hid (fun W => toid_any l pn gn W hlab.1 (by omega))
    have HM := Lib.hid (fun W => imay_any l pn gn W hlab.2 (by constructor <;> omega) (by constructor <;> omega))
    have hc3 : ¬ c = 3 := by rw [h7] at hc; omega
    have hc7 : 7 ≤ c := by rw [h7] at hc; omega
    have hc3i : (3 : Int) ≤ (c : Int) := by omega
    clear hl hpn hgn hV hT hD cc c0 c1 c2 c3 c4 c5 c6 hy hB hc l0 l1 l2 l3 l4 l5 l6 h7 hlab hpn2 hgn2
    obtain ⟨a, ha⟩ : ∃ a : Int, a = (pn : Int) := ⟨_, rfl⟩
    rw [← ha] at HTN HTI HM ⊢
    clear ha
    generalize fi l = lf at *
    generalize fi a = pf at *
    obtain ⟨may, hmay⟩ : ∃ may, may = decide (MayI l a gn) := ⟨_, rfl⟩
    obtain ⟨r, hr⟩ : ∃ r, r = if MayI l a gn then idV l a gn else idV 0 0 0 := ⟨_, rfl⟩
    have HIF : Hid (r = if may then idV l a gn else idV 0 0 0) := by
      unfold Hid; rw [hr, hmay]; by_cases h : MayI l a gn <;> simp [h]
    rw [← hr]
    clear hr
    rw [← hmay] at HM ⊢
    clear hmay
    go_enter Try.func21, Try.ntmps21
    go_upto_region 3 with fail
    generalize hp : w.heap.size = p at *
    have HP := Lib.hid hp
    have hJ0 : JTK w p (w.alloc (Obj.cells #[.int .i64 0, .int .i64 0, .int .u32 0] 24)).drew := ⟨HB.out.drew, by show p < (w.alloc _).heap.size; rw [size_alloc', hp]; omega, H0.out⟩
    refine wp_region_rgk (VTK p ad c lf pf l a gn) (fun _ W => JTK w p W) (fun _ w w' => w.grownBy w' none) (by kernel_rfl) (by kernel_rfl) (fun i j v' w' w'' hij hind h hg => h.on hg) hJ0 ?_
    have srefl : ∀ (W : World), W.grownBy W none := fun W => World.grownBy.refl _ _
    clear hJ0 hp HB H0
    simp only [RAll]
    refine ⟨?_, ?_, ?_, ?_, ?_, ?_, ?_, ?_, ?_⟩
    · refine RStepK.of rfl fun T W L hag hL hJ hLs hd => ?_   -- 0: 9 := Op.move (Operand.tmp 0)
      have e0 : T.getD 0 undef = _ := (agree_at hag 0 (by kernel_rfl)).trans rfl
      clear hag hd
      go_simp
      exact ⟨_, rfl, rfl⟩
    · refine RStepK.of rfl fun T W L hag hL hJ hLs hd => ?_   -- 1: 10 := Op.slice 25 (Operand.tmp 9) none (some (Operand.const (Value
      have d9 : T.getD 9 undef = _ := hd ⟨0, .data⟩ (by simp) rfl _ rfl
      clear hag hd
      go_simp
      exact ⟨_, rfl, rfl⟩
    · refine RStepK.of rfl fun T W L hag hL hJ hLs hd => ?_   -- 2: 11 := Op.call { callee := Callee.value (Operand.func 15), args := 
      have d10 : T.getD 10 undef = _ := hd ⟨1, .data⟩ (by simp) rfl _ rfl
      clear hag hd
      go_simp
      refine (HTN.out W hJ.bel).mono ?_
      rintro en w' ⟨rfl, nq, rfl⟩
      exact ⟨_, rfl, rfl, ⟨bdn hJ.bel nq, hJ.sz, hJ.at_⟩, growN (bdn (Below.refl _ _) nq)⟩
    · refine RStepK.of rfl fun T W L hag hL hJ hLs hd => ?_   -- 3: 12 := Op.move (Operand.tmp 0)
      have e0 : T.getD 0 undef = _ := (agree_at hag 0 (by kernel_rfl)).trans rfl
      clear hag hd
      go_simp
      exact ⟨_, rfl, rfl⟩
    · refine RStepK.of rfl fun T W L hag hL hJ hLs hd => ?_   -- 4: 13 := Op.slice 25 (Operand.tmp 12) (some (Operand.const (Value.int
      have d12 : T.getD 12 undef = _ := hd ⟨3, .data⟩ (by simp) rfl _ rfl
      clear hag hd
      go_simp
      exact ⟨_, rfl, rfl⟩
    · refine RStepK.of rfl fun T W L hag hL hJ hLs hd => ?_   -- 5: 14 := Op.call { callee := Callee.value (Operand.func 16), args := 
      have d13 : T.getD 13 undef = _ := hd ⟨4, .data⟩ (by simp) rfl _ rfl
      clear hag hd
      go_simp
      refine (HTG.out W hJ.bel).mono ?_
      rintro en w' ⟨rfl, nq, rfl⟩
      exact ⟨_, rfl, rfl, ⟨bdn hJ.bel nq, hJ.sz, hJ.at_⟩, growN (bdn (Below.refl _ _) nq)⟩
    · refine RStepK.of rfl fun T W L hag hL hJ hLs hd => ?_   -- 6: 15 := Op.call { callee := Callee.value (Operand.func 14), args := 
      have d11 : T.getD 11 undef = _ := hd ⟨2, .data⟩ (by simp) rfl _ rfl
      have d14 : T.getD 14 undef = _ := hd ⟨5, .data⟩ (by simp) rfl _ rfl
      clear hag hd
      go_simp
      refine (HTI.out W).mono ?_
      rintro en w' ⟨rfl, hb⟩
      exact ⟨_, rfl, rfl, ⟨hJ.bel.trans (hb.mono (Nat.le_of_lt hJ.sz)), Nat.lt_of_lt_of_le hJ.sz hb.size, hJ.at_.below hb⟩, growN hb⟩
    · refine RStepK.of rfl fun T W L hag hL hJ hLs hd => ?_   -- 7: 4 := Op.alloc 24
      clear hag hd
      go_simp
      exact ⟨_, rfl, ⟨_, rfl, hJ.sz, IdAt.new W 0 0 0⟩, ⟨hJ.bel.alloc (Nat.le_of_lt hJ.sz) _, by rw [size_alloc']; exact Nat.lt_succ_of_lt hJ.sz, hJ.at_.alloc _⟩, World.grownBy_alloc W _ _⟩
    · refine RLastK.of rfl fun T W L hag hLs hL hJ hd => ?_   -- 8: None := Op.store 24 (Operand.tmp 4) (Operand.tmp 15)
      have x4 : ∃ q, (T.getD 4 undef) = .pointer (some ⟨q, 0, none⟩) ∧ p < q ∧ IdAt W q 0 0 0 := hd 7 _ (by simp) rfl
      have d15 : T.getD 15 undef = _ := hd 6 _ (by simp) rfl
      obtain ⟨f, hf, hT⟩ := agree_fn hag
      have h15 := (hf 15).trans d15
      have h4 := hf 4
      rw [← h4] at x4
      have HX4 := Lib.hid x4
      clear h4 x4
      have HJ := Lib.hid hJ
      clear hag hd d15 hJ hf
      rw [hT]
      clear hT
      simp only [List.pop_toArray, List.dropLast_cons_cons, List.dropLast_singleton, List.filterMap_cons, List.filterMap_nil, List.foldl_cons, List.foldl_nil, List.setIfInBounds_toArray, List.set_cons_succ, List.set_cons_zero, h15]
      obtain ⟨q, hq, hpq, hqi⟩ := HX4.out
      have HQI := Lib.hid hqi
      have HPQ := Lib.hid hpq
      rw [hq]
      clear hq hqi hpq HX4
      have HQS := Lib.hid (HQI.out.set l a gn)
      have HPI : Hid (IdAt (W.setRow q (idA l a gn)) p 0 0 0) := by unfold Hid IdAt; rw [setRow_other W q _ _ (fun e => by have := HPQ.out; omega)]; exact HJ.out.at_
      have HBL := Lib.hid (below_setRow HJ.out.bel (Nat.le_of_lt HPQ.out) (idA l a gn))
      refine wp_storeI (.tmp 4) (.tmp 15) rfl q rfl l a gn rfl 0 0 0 HQI.out ?_
      go_wp2_with (refine wpList_loadI rfl (.tmp 4) rfl q rfl l a gn HQS.out ?_)
      generalize W.setRow q (idA l a gn) = W2 at *
      refine (HM.out W2).mono ?_
      rintro e W3 ⟨rfl, hb3⟩
      have HQ3 := Lib.hid (HQS.out.below hb3)
      have HP3 := Lib.hid (HPI.out.below hb3)
      have HB3 := Lib.hid (HBL.out.trans (hb3.mono (Nat.le_trans (Nat.le_of_lt HPQ.out) (Nat.le_of_lt (room_lt HQS.out)))))
      clear hb3 HQS HPI HBL HJ HQI HPQ
      cases may
      · go_wp2_with (first
          | (refine wpList_storeI rfl (.tmp 2) (.tmp 19) rfl p rfl 0 0 0 rfl 0 0 0 HP3.out ?_))
        refine bodyPost_ret (results_idu rfl _ _ p 0 0 0 rfl (HP3.out.set _ _ _)) rfl ?_
        refine ⟨by rw [HIF.out]; rfl, ?_⟩
        rw [HP.out]
        exact below_setRow HB3.out (Nat.le_refl _) _
      · go_wp2_with (first
          | (refine wpList_loadI rfl (.tmp 4) rfl q rfl l a gn HQ3.out ?_)
          | (refine wpList_storeI rfl (.tmp 2) (.tmp 20) rfl p rfl l a gn rfl 0 0 0 HP3.out ?_))
        refine bodyPost_ret (results_idu rfl _ _ p l a gn rfl (HP3.out.set _ _ _)) rfl ?_
        refine ⟨by rw [HIF.out]; rfl, ?_⟩
        rw [HP.out]
        exact below_setRow HB3.out (Nat.le_refl _) _
  · have hT : ¬ ITaken xs := fun h => h7 h.1
    have hV : takeV xs = idV 0 0 0 := by unfold takeV; rw [if_neg hT]
    rw [hV, decide_eq_false hT]
    clear hT hV hB hy
    generalize xs.length = n at *
    have hq : ((n : Int) != 7) = true := by simp; omega
    go_enter Try.func21, Try.ntmps21
    go_wp2_with (refine wpList_storeI rfl (.tmp 2) (.tmp 8) rfl w.heap.size rfl 0 0 0 rfl 0 0 0 H0.out ?_)
    refine bodyPost_ret (results_idu rfl _ _ w.heap.size 0 0 0 rfl (H0.out.set _ _ _)) rfl ?_
    exact ⟨rfl, below_setRow HB.out (Nat.le_refl _) _⟩
end Go.Proofs.Ytcmmopngjeonfaa
