/- Contract: cache.oldest. -/
import Derived.Test.YtbcnjilhibkcnaaKd
namespace Go.Proofs.Ytbcnjilhibkcnaa
open Go.ChangeShapes Go.WideShapes Go.ChangeAt Go.RowKit
open Fx
set_option linter.unusedVariables false
/-- Drawn on, nothing else. -/
def Drew (w w' : World) : Prop := ∃ q, w' = w.drewN q
theorem Drew.refl (w : World) : Drew w w := ⟨0, rfl⟩
theorem Drew.on {w w' : World} (h : Drew w w') (q : Nat) : Drew w (w'.drewN q) := by
  obtain ⟨p, rfl⟩ := h
  exact ⟨p + q, by unfold World.drewN; simp [Nat.add_assoc]⟩
theorem Drew.cell {w w' : World} (h : Drew w w') {a : Addr} {v : Value} (hc : w.cell? a = some v) : w'.cell? a = some v := by obtain ⟨p, rfl⟩ := h; exact hc
theorem Drew.below {w w' : World} (h : Drew w w') : Below w.heap.size w w' := by obtain ⟨p, rfl⟩ := h; exact bdn (Below.refl _ _) p
/-- The oldest frame of the first k. -/
def Oldest (l : List Fr) (k i : Nat) : Prop := ∃ f, l[i]? = some f ∧ ∀ (j : Nat) (x : Fr), j < k → l[j]? = some x → x.a ≤ f.a
set_option maxRecDepth 100000 in
set_option maxHeartbeats 1600000 in
theorem oldest_any {w : World} {g m : Nat} {l : List Fr} {R : Nat → Prop} {A : Option Addr} {n cap : Nat} (h : CV w g m l R (.slice A n cap)) (hn1 : 1 ≤ l.length) (ha : ∀ f ∈ l, f.a ≤ 100) :
    Calls Try.prog 31 #[.pointer (some ⟨g, 0, none⟩)] w fun e w' => ∃ r : Nat, e = .returned (.int .i64 r) ∧ r < l.length ∧ Oldest l l.length r ∧ Drew w w' := by
  obtain ⟨A', cap', hv, hc1, hc2, hA⟩ := h.val
  injection hv with e1 e2 e3
  subst e1; subst e3
  have HN : Hid (l.length = n) := e2.symm
  rw [HN.out] at hn1 hc1
  have hn51 : n ≤ 51 := by rw [← HN.out]; exact h.len
  obtain ⟨f0, hf0⟩ : ∃ f, l[0]? = some f := ⟨_, List.getElem?_eq_getElem (by rw [HN.out]; omega)⟩
  obtain ⟨b, rfl⟩ := hA 0 f0 hf0
  have c0 := h.c0
  have H := Lib.hid h
  have HA := Lib.hid ha
  have HS0 : Hid (Oldest l 1 0) := ⟨f0, hf0, fun j x hj hx => by
    obtain rfl : j = 0 := by omega
    rw [hf0] at hx; injection hx with hx; subst hx; omega⟩
  rw [HN.out]
  clear h ha hA e2 hf0
  go_enter Try.func31, Try.ntmps31
  go_wp2
  refine wp_scope1e (fun a' w' => Drew w w' ∧ ∃ k i : Nat, 1 ≤ k ∧ k ≤ n ∧ i < n ∧ Hid (Oldest l k i) ∧ ∃ u5 u6 u7 u8 u9 u10 u11 u12 u13 u14 u15 u16 u17 u18 u19 u20 u21 u22 u23 u24 u25 u26 u27 u28 u29 u30 u31 : Value, a' = { tmps := #[.pointer (some ⟨g, 0, none⟩), undef, .int .i64 0, .int .i64 i, .int .i64 k, u5, u6, u7, u8, u9, u10, u11, u12, u13, u14, u15, u16, u17, u18, u19, u20, u21, u22, u23, u24, u25, u26, u27, u28, u29, u30, u31], defers := [] })
    (fun a' _ => n - (intOf (a'.tmps.getD 4 undef)).toNat) rfl ?_ ?_
  · intro HF
    go_wp2
    go_step3
    rename_i hK
    exact hK _ _ (HF _ _ ⟨Drew.refl _, 1, 0, Nat.le_refl _, hn1, by omega, HS0, _, _, _, _, _, _, _, _, _, _, _, _, _, _, _, _, _, _, _, _, _, _, _, _, _, _, _, rfl⟩)
  · rintro a' W ⟨hD, k, i, hk1, hk, hi, HE, u5, u6, u7, u8, u9, u10, u11, u12, u13, u14, u15, u16, u17, u18, u19, u20, u21, u22, u23, u24, u25, u26, u27, u28, u29, u30, u31, rfl⟩
    have w0 := hD.cell c0
    have HL := Lib.hid (len_cell w0)
    by_cases hkn : k = n
    · subst hkn
      go_wp2_with fail
      refine HL.out.mono ?_; rintro e w' ⟨rfl, rfl⟩
      go_wp2_with fail
      simp only [Exit.jump]
      go_ret
      exact ⟨i, rfl, hi, HE.out, hD⟩
    · have hkl : k < n := by omega
      obtain ⟨f, hf⟩ : ∃ f, l[k]? = some f := ⟨_, List.getElem?_eq_getElem (by rw [HN.out]; exact hkl)⟩
      obtain ⟨x, hx, hall⟩ := HE.out
      have d1 := hD.cell (H.out.cell58 hf)
      have d2 := hD.cell (H.out.cell58 hx)
      have hfa := HA.out f (List.mem_of_getElem? hf)
      have hxa := HA.out x (List.mem_of_getElem? hx)
      unfold cx at d1 d2
      have hgt := gt_fb f.a x.a (by omega) (by omega)
      have HF := Lib.hid hf
      have HX := Lib.hid hx
      have HALL := Lib.hid hall
      clear hf hx hall HE c0
      have hD2 : Hid (∀ q, Drew w (W.drewN q)) := fun q => hD.on q
      have hkn2 : (k : Int) < n := by omega
      have hin2 : (i : Int) < n := by omega
      by_cases hxq : x.a < f.a
      · have HO : Hid (Oldest l (k + 1) k) := ⟨f, HF.out, fun j y hj hy => by
          by_cases e : j = k
          · subst e
            have h1 := HF.out
            rw [hy] at h1; injection h1 with h1; subst h1; omega
          · have := HALL.out j y (by omega) hy; omega⟩
        rw [decide_eq_true hxq] at hgt
        clear hxq
        generalize fb f.a = ff at *
        generalize fb x.a = fx at *
        generalize fb (dv f.d) = df at *
        generalize fb (dv x.d) = dx at *
        go_wp2_with fail
        refine HL.out.mono ?_; rintro e w' ⟨rfl, rfl⟩
        go_upto_region 4 with fail
        have q0 := fun q => (show (W.drewN q).cell? ⟨g, 0, none⟩ = _ from w0)
        have q1 := fun q => (show (W.drewN q).cell? ⟨b, k * 59 + 58, none⟩ = _ from d1)
        have q2 := fun q => (show (W.drewN q).cell? ⟨b, i * 59 + 58, none⟩ = _ from d2)
        go_quiet (fail)
        go_wp2_with fail
        go_step3
        refine ⟨rfl, ⟨hD2.out _, k + 1, k, by omega, by omega, hkl, HO, _, _, _, _, _, _, _, _, _, _, _, _, _, _, _, _, _, _, _, _, _, _, _, _, _, _, _, rfl⟩, ?_⟩
        simp [intOf]; omega
      · have HO : Hid (Oldest l (k + 1) i) := ⟨x, HX.out, fun j y hj hy => by
          by_cases e : j = k
          · subst e
            have h1 := HF.out
            rw [hy] at h1; injection h1 with h1; subst h1; omega
          · exact HALL.out j y (by omega) hy⟩
        rw [decide_eq_false hxq] at hgt
        clear hxq
        generalize fb f.a = ff at *
        generalize fb x.a = fx at *
        generalize fb (dv f.d) = df at *
        generalize fb (dv x.d) = dx at *
        go_wp2_with fail
        refine HL.out.mono ?_; rintro e w' ⟨rfl, rfl⟩
        go_upto_region 4 with fail
        have q0 := fun q => (show (W.drewN q).cell? ⟨g, 0, none⟩ = _ from w0)
        have q1 := fun q => (show (W.drewN q).cell? ⟨b, k * 59 + 58, none⟩ = _ from d1)
        have q2 := fun q => (show (W.drewN q).cell? ⟨b, i * 59 + 58, none⟩ = _ from d2)
        go_quiet (fail)
        go_wp2_with fail
        go_step3
        refine ⟨rfl, ⟨hD2.out _, k + 1, i, by omega, by omega, hi, HO, _, _, _, _, _, _, _, _, _, _, _, _, _, _, _, _, _, _, _, _, _, _, _, _, _, _, _, rfl⟩, ?_⟩
        simp [intOf]; omega
end Go.Proofs.Ytbcnjilhibkcnaa
