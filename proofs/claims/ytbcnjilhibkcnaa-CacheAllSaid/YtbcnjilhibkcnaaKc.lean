/- Contracts: cache.find, cache.use. -/
import Derived.Test.YtbcnjilhibkcnaaKb
import Derived.Test.YtbcnjilhibkcnaaJ
import Derived.Laws.ComplexArith
namespace Go.Proofs.Ytbcnjilhibkcnaa
open Go.ChangeShapes Go.WideShapes Go.ChangeAt Go.RowKit
open Fx
set_option linter.unusedVariables false
/-- Which frame has that place. -/
def posF (l : List Fr) (t : Int) : Option Nat := l.findIdx? fun f => decide (f.w.t = t)
theorem posF_none {l : List Fr} {t : Int} (h : ∀ (j : Nat) (f : Fr), l[j]? = some f → f.w.t ≠ t) : posF l t = none := by
  unfold posF
  rw [List.findIdx?_eq_none_iff]
  intro f hf
  obtain ⟨j, hj⟩ := List.mem_iff_getElem?.1 hf
  exact decide_eq_false (h j f hj)
theorem posF_some {l : List Fr} {t : Int} {k : Nat} {f : Fr} (hk : l[k]? = some f) (ht : f.w.t = t) (h : ∀ (j : Nat) (f : Fr), j < k → l[j]? = some f → f.w.t ≠ t) : posF l t = some k := by
  unfold posF
  obtain ⟨hl, e⟩ := List.getElem?_eq_some_iff.1 hk
  rw [List.findIdx?_eq_some_iff_getElem]
  refine ⟨hl, by rw [e]; simpa using ht, fun j hj => ?_⟩
  have := h j _ hj (List.getElem?_eq_getElem (by omega))
  simpa using this
theorem posF_is {l : List Fr} {t : Int} {k : Nat} (h : posF l t = some k) : ∃ f, l[k]? = some f ∧ f.w.t = t := by
  unfold posF at h
  obtain ⟨hl, h1, _⟩ := List.findIdx?_eq_some_iff_getElem.1 h
  exact ⟨_, List.getElem?_eq_getElem hl, by simpa using h1⟩
theorem posF_no {l : List Fr} {t : Int} (h : posF l t = none) : ∀ (j : Nat) (f : Fr), l[j]? = some f → f.w.t ≠ t := by
  intro j f hj
  unfold posF at h
  have := (List.findIdx?_eq_none_iff.1 h) f (List.mem_of_getElem? hj)
  simpa using this
/-- The pointer to it. -/
def fptr (A : Option Addr) (l : List Fr) (t : Int) : Value :=
  match posF l t, A with
  | some k, some a => .pointer (some ⟨a.block, k * 59, none⟩)
  | _, _ => .pointer none
theorem fptr_no {A : Option Addr} {l : List Fr} {t : Int} (h : posF l t = none) : fptr A l t = .pointer none := by unfold fptr; rw [h]
theorem fptr_is {b : Nat} {l : List Fr} {t : Int} {k : Nat} (h : posF l t = some k) : fptr (some ⟨b, 0, none⟩) l t = .pointer (some ⟨b, k * 59, none⟩) := by unfold fptr; rw [h]
set_option maxRecDepth 100000 in
theorem find_any {w : World} {g m : Nat} {l : List Fr} {R : Nat → Prop} {A : Option Addr} {n cap : Nat} (h : CV w g m l R (.slice A n cap)) (t : Int) (ht : i64 t) :
    Calls Try.prog 21 #[.pointer (some ⟨g, 0, none⟩), .int .i64 t] w fun e w' => e = .returned (fptr A l t) ∧ w = w' := by
  obtain ⟨A', cap', hv, _, hcap, hA⟩ := h.val
  injection hv with e1 e2 e3
  subst e1; subst e3
  have c0 := h.c0
  have HL := Lib.hid (len_any ⟨_, h⟩)
  have H := Lib.hid h
  have hl51 := h.len
  have HN : Hid (l.length = n) := e2.symm
  rw [HN.out] at HL hl51
  have HA := Lib.hid hA
  clear h e2 hA
  go_enter Try.func21, Try.ntmps21
  go_wp2
  refine wp_scope1e (fun a' w' => w' = w ∧ ∃ k : Nat, k ≤ n ∧ Hid (∀ (j : Nat) (f : Fr), j < k → l[j]? = some f → f.w.t ≠ t) ∧ ∃ u6 u7 u8 u9 u10 u11 u12 u13 u14 u15 u16 u17 u18 u19 u20 u21 u22 u23 u24 u25 u26 u27 u28 : Value, a' = { tmps := #[.pointer (some ⟨g, 0, none⟩), .int .i64 t, undef, undef, .pointer none, .int .i64 k, u6, u7, u8, u9, u10, u11, u12, u13, u14, u15, u16, u17, u18, u19, u20, u21, u22, u23, u24, u25, u26, u27, u28], defers := [] })
    (fun a' _ => n - (intOf (a'.tmps.getD 5 undef)).toNat) rfl ?_ ?_
  · intro HF
    go_wp2
    go_step3
    rename_i hK
    exact hK _ _ (HF _ _ ⟨rfl, 0, Nat.zero_le _, fun j f h => by omega, _, _, _, _, _, _, _, _, _, _, _, _, _, _, _, _, _, _, _, _, _, _, _, rfl⟩)
  · rintro a' w' ⟨rfl, k, hk, HE, u6, u7, u8, u9, u10, u11, u12, u13, u14, u15, u16, u17, u18, u19, u20, u21, u22, u23, u24, u25, u26, u27, u28, rfl⟩
    by_cases hkn : k = n
    · subst hkn
      go_wp2_with fail
      refine HL.out.mono ?_; rintro e w' ⟨rfl, rfl⟩
      go_wp2_with fail
      simp only [Exit.jump]
      go_ret
      refine ⟨?_, rfl⟩
      rw [fptr_no (posF_none fun j f hj => HE.out j f (by have := (List.getElem?_eq_some_iff.1 hj).1; rw [HN.out] at this; exact this) hj)]; rfl
    · have hkl : k < n := by omega
      have hq : ((k : Int) == n) = false := by simp; omega
      obtain ⟨f, hf⟩ : ∃ f, l[k]? = some f := ⟨_, List.getElem?_eq_getElem (by rw [HN.out]; exact hkl)⟩
      obtain ⟨b, rfl⟩ := HA.out k f hf
      have d0 := H.out.cell0 hf
      have hft := (H.out.ok.at hf).t
      have HX := Lib.hid hf
      clear hf
      by_cases hxq : f.w.t = t
      · have hq2 : (f.w.t == t) = true := by simp [hxq]
        have HQ := Lib.hid hxq
        clear hxq
        go_wp2_with fail
        refine HL.out.mono ?_; rintro e w' ⟨rfl, rfl⟩
        go_wp2_with fail
        simp only [Exit.jump]
        go_ret
        exact ⟨by rw [fptr_is (posF_some HX.out HQ.out HE.out)]; rfl, rfl⟩
      · have hq2 : (f.w.t == t) = false := by simp [hxq]
        have HQ := Lib.hid hxq
        clear hxq
        go_wp2_with fail
        refine HL.out.mono ?_; rintro e w' ⟨rfl, rfl⟩
        go_wp2_with fail
        go_step3
        refine ⟨rfl, ⟨rfl, k + 1, by omega, Lib.hid ?_, _, _, _, _, _, _, _, _, _, _, _, _, _, _, _, _, _, _, _, _, _, _, _, rfl⟩, ?_⟩
        · intro j f' hj hf'
          by_cases e : j = k
          · subst e
            have h1 := HX.out
            rw [hf'] at h1; injection h1 with h1; subst h1
            exact HQ.out
          · exact HE.out j f' (by omega) hf'
        · simp [intOf]; omega
theorem run_storeC {w : World} {a : Addr} {x y : Nat} {old : Value} (hc : w.cell? a = some old) (hf : w.frozen? a = false) : (store a (.complex .f64 x y)).run Try.prog w = .ok () (w.setCell a (.complex .f64 x y)) := by
  rw [run_store _ _ _ _ _ rfl, hc]; simp [hf]
theorem set_sameG {α : Type} {l : List α} {k : Nat} {x : α} (h : l[k]? = some x) : l.set k x = l := by
  apply List.ext_getElem?
  intro i
  rw [List.getElem?_set]
  split
  · rename_i e; subst e; split
    · exact h.symm
    · rename_i h1; exact absurd (List.getElem?_eq_some_iff.1 h).1 h1
  · rfl
theorem lt_fb (a b : Nat) (h : a < 2 ^ 53) (h' : b < 2 ^ 53) : (FloatKind.f64.format.order (fb a) (fb b) == some .lt) = decide (a < b) := by
  rw [order_fb a b h h']
  by_cases e : a < b
  · rw [Nat.compare_eq_lt.2 e]; simp [e]
  · rw [decide_eq_false e]
    rcases Nat.lt_or_eq_of_le (Nat.le_of_not_lt e) with h1 | h1
    · rw [Nat.compare_eq_gt.2 h1]; rfl
    · subst h1; simp
theorem gt_fb (a b : Nat) (h : a < 2 ^ 53) (h' : b < 2 ^ 53) : (FloatKind.f64.format.order (fb a) (fb b) == some .gt) = decide (b < a) := by
  rw [order_fb a b h h']
  by_cases e : b < a
  · rw [Nat.compare_eq_gt.2 e]; simp [e]
  · rw [decide_eq_false e]
    rcases Nat.lt_or_eq_of_le (Nat.le_of_not_lt e) with h1 | h1
    · rw [Nat.compare_eq_lt.2 h1]; rfl
    · subst h1; simp
theorem run_inc (w : World) (a d : Nat) (ha : a < 1000000) (hd : d < 1000000) : (binOp .add 58 (.complex .f64 (fb a) (fb d)) (.complex .f64 4607182418800017408 0)).run Try.prog w = .ok (.complex .f64 (fb (a + 1)) (fb d)) w := by
  refine run_complex_sum w .add (Or.inl rfl) 58 .f64 _ _ _ _ _ _ ?_
  have h1 := add_fb a 1 (by omega)
  have h2 := add_fb d 0 (by omega)
  rw [fb_one] at h1
  rw [fb_zero] at h2
  simp only [cSumBits, floatBits, h1, h2, Option.bind]
  rfl
/-- A frame behind the use of one of age a. -/
def olderF (a : Nat) (f : Fr) : Fr := if f.a < a then ⟨f.w, f.a + 1, f.d⟩ else f
def useF (l : List Fr) (k : Nat) (f : Fr) : List Fr := (l.map (olderF f.a)).set k ⟨f.w, 0, f.d⟩
theorem midF_at {l : List Fr} {a i : Nat} {f : Fr} (h : l[i]? = some f) : ((l.take i).map (olderF a) ++ l.drop i)[i]? = some f := by
  have hl := (List.getElem?_eq_some_iff.1 h).1
  rw [List.getElem?_append_right (by simp; omega)]
  simp only [List.length_map, List.length_take]
  rw [show i - min i l.length = 0 by omega, List.getElem?_drop]
  exact h
theorem midF_next {l : List Fr} {a i : Nat} {f : Fr} (h : l[i]? = some f) : ((l.take i).map (olderF a) ++ l.drop i).set i (olderF a f) = (l.take (i + 1)).map (olderF a) ++ l.drop (i + 1) := by
  have hl := (List.getElem?_eq_some_iff.1 h).1
  rw [List.set_append_right _ _ (by simp; omega), take_snoc' h, List.map_append]
  simp only [List.length_map, List.length_take]
  rw [show i - min i l.length = 0 by omega, List.drop_eq_getElem_cons hl]
  simp only [List.set_cons_zero, List.map_cons, List.map_nil, List.append_assoc, List.singleton_append]
theorem midF_old {l : List Fr} {a i k : Nat} {f : Fr} (h : l[k]? = some f) (ha : f.a = a) : ((l.take i).map (olderF a) ++ l.drop i)[k]? = some f := by
  have hl := (List.getElem?_eq_some_iff.1 h).1
  by_cases hk : k < i
  · rw [List.getElem?_append_left (by simp; omega), List.getElem?_map, List.getElem?_take, if_pos hk, h]
    simp [olderF, ha]
  · rw [List.getElem?_append_right (by simp; omega)]
    simp only [List.length_map, List.length_take]
    rw [List.getElem?_drop, show i + (k - min i l.length) = k by omega]
    exact h
set_option maxRecDepth 100000 in
set_option maxHeartbeats 1600000 in
theorem use_any {w : World} {g m b n cap : Nat} {l : List Fr} {R : Nat → Prop} (h : CV w g m l R (.slice (some ⟨b, 0, none⟩) n cap)) {k : Nat} {f : Fr} (hk : l[k]? = some f) (ha : ∀ f ∈ l, f.a ≤ 100) :
    Calls Try.prog 22 #[.pointer (some ⟨g, 0, none⟩), .pointer (some ⟨b, k * 59, none⟩)] w fun e w' => e = .returned (.tuple #[]) ∧ CV w' g m (useF l k f) R (.slice (some ⟨b, 0, none⟩) n cap) ∧ Stp R w w' := by
  have c0 := h.c0
  have c58 := h.cell58 hk
  unfold cx at c58
  have hn : n = l.length := h.own'
  have HN : Hid (l.length = n) := hn.symm
  have hl51 := h.len
  rw [HN.out] at hl51
  have hcap := h.val
  have hfa := ha f (List.mem_of_getElem? hk)
  have HA := Lib.hid ha
  have HK := Lib.hid hk
  have H := Lib.hid h
  have hkn := (List.getElem?_eq_some_iff.1 hk).1
  rw [HN.out] at hkn
  obtain ⟨A', cap', hv, hc1, hc2, _⟩ := h.val
  injection hv with e1 e2 e3
  subst e3
  rw [HN.out] at hc1
  clear hcap e1 e2 hk ha h hn
  go_enter Try.func22, Try.ntmps22
  go_wp2
  go_loopw [17] (fun i wr => ∃ j : Nat, i = .int .i64 j ∧ j ≤ n ∧ CV wr g m ((l.take j).map (olderF f.a) ++ l.drop j) R (.slice (some ⟨b, 0, none⟩) n cap) ∧ Stp R w wr) (fun i _ => n - (intOf i).toNat)
  case atStart => exact ⟨0, rfl, Nat.zero_le _, by simpa using H.out, Stp.refl _ _⟩
  case round =>
    obtain ⟨j, rfl, hj, hcv, hst⟩ := hrel
    obtain ⟨w5, rfl⟩ : ∃ w5, w5 = wr := ⟨wr, rfl⟩
    have HC := Lib.hid hcv
    have HST := Lib.hid hst
    have e0 := hcv.c0
    clear hcv hst c0 c58
    by_cases hlt : j < n
    · obtain ⟨x, hx⟩ : ∃ x, l[j]? = some x := ⟨_, List.getElem?_eq_getElem (by rw [HN.out]; exact hlt)⟩
      have hxa := HA.out x (List.mem_of_getElem? hx)
      have e58 := HC.out.cell58 (midF_at (a := f.a) hx)
      have ff58 := HC.out.ffree (j * 59 + 58)
      have hlt2 : (j : Int) < n := by omega
      have hq := lt_fb x.a f.a (by omega) (by omega)
      have HX := Lib.hid hx
      unfold cx at e58
      clear hx
      by_cases hxl : x.a < f.a
      · rw [decide_eq_true hxl] at hq
        have hinc := fun w : World => run_inc w x.a (dv x.d) (by omega) (by cases x.d <;> decide)
        have HCV : Hid (CV (w5.setCell ⟨b, j * 59 + 58, none⟩ (.complex .f64 (fb (x.a + 1)) (fb (dv x.d)))) g m ((l.take (j + 1)).map (olderF f.a) ++ l.drop (j + 1)) R (.slice (some ⟨b, 0, none⟩) n cap)) := by
          have := HC.out.setS (midF_at (a := f.a) HX.out) (x.a + 1) x.d
          rw [show (⟨x.w, x.a + 1, x.d⟩ : Fr) = olderF f.a x by unfold olderF; rw [if_pos hxl], midF_next HX.out] at this
          exact this
        have HS2 : Hid (Stp R w (w5.setCell ⟨b, j * 59 + 58, none⟩ (.complex .f64 (fb (x.a + 1)) (fb (dv x.d))))) := HST.out.setCell (fun _ => (HC.out.Rv b rfl).1) _
        have hstc := run_storeC (x := fb (x.a + 1)) (y := fb (dv x.d)) e58 ff58
        clear hxl
        generalize fb f.a = fk at *
        generalize fb (x.a + 1) = fx1 at *
        generalize fb x.a = fxa at *
        generalize fb (dv x.d) = fxd at *
        go_wp2_with fail
        go_roundw
        case rel => exact ⟨j + 1, by go_num, by omega, HCV.out, HS2.out⟩
        case measure => simp [intOf]; omega
      · rw [decide_eq_false hxl] at hq
        have HCV : Hid (CV w5 g m ((l.take (j + 1)).map (olderF f.a) ++ l.drop (j + 1)) R (.slice (some ⟨b, 0, none⟩) n cap)) := by
          have := HC.out
          rw [← midF_next HX.out, show olderF f.a x = x by unfold olderF; rw [if_neg hxl], set_sameG (midF_at (a := f.a) HX.out)]
          exact this
        clear hxl
        generalize fb f.a = fk at *
        generalize fb x.a = fxa at *
        generalize fb (dv x.d) = fxd at *
        go_wp2_with fail
        go_roundw
        case rel => exact ⟨j + 1, by go_num, by omega, HCV.out, HST.out⟩
        case measure => simp [intOf]; omega
    · obtain rfl : j = n := by omega
      have hnn : ¬ (j : Int) < j := by omega
      have e58 := HC.out.cell58 (midF_old (a := f.a) HK.out rfl)
      have ff58 := HC.out.ffree (k * 59 + 58)
      have hcx : cx 0 f.d = .complex .f64 0 (fb (dv f.d)) := by unfold cx; rw [fb_zero]
      have HCV : Hid (CV (w5.setCell ⟨b, k * 59 + 58, none⟩ (.complex .f64 0 (fb (dv f.d)))) g m (useF l k f) R (.slice (some ⟨b, 0, none⟩) j cap)) := by
        have := HC.out.setS (midF_old (a := f.a) HK.out rfl) 0 f.d
        rw [hcx] at this
        rw [List.take_of_length_le (by rw [HN.out]; omega), List.drop_of_length_le (by rw [HN.out]; omega), List.append_nil] at this
        exact this
      have HS2 : Hid (Stp R w (w5.setCell ⟨b, k * 59 + 58, none⟩ (.complex .f64 0 (fb (dv f.d))))) := HST.out.setCell (fun _ => (HC.out.Rv b rfl).1) _
      unfold cx at e58
      have hstc := run_storeC (x := 0) (y := fb (dv f.d)) e58 ff58
      clear hcx
      generalize fb f.a = fk at *
      generalize fb (dv f.d) = ffd at *
      go_wp2_with fail
      go_end0
      exact ⟨rfl, HCV.out, HS2.out⟩
end Go.Proofs.Ytbcnjilhibkcnaa
