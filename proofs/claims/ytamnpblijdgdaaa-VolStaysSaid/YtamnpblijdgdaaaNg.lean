/- A vol beside its device; contracts: hasAll, Sync. -/
import Derived.Test.YtamnpblijdgdaaaNf
import Derived.Deep.DeepCutAuto
namespace Go.Proofs.Ytamnpblijdgdaaa
open Go.ChangeShapes Go.WideShapes Go.ChangeAt Go.RowKit
set_option linter.unusedVariables false
set_option maxRecDepth 100000
def hasAllV (v : VM) (l : List Wr) : Bool := l.all fun x => hasV v x.t
theorem vhasAll_any {W : World} {q hp rb : Nat} {v : VM} (h : VolAt W q hp rb v) (A : Option Addr) (l : List Wr) (n d : Nat) (hn : l.length = n) (hl : n ≤ d) (hd : d ≤ 9223372036854775807) (hok : WrsOk l) (hy : Wrs W A l) :
    Calls Try.prog 45 #[.pointer (some ⟨hp, 0, none⟩), .slice A n d] W fun e w' => e = .returned (.bool (hasAllV v l)) ∧ W = w' := by
  have HV := Lib.hid h
  have HN := Lib.hid hn
  have HO := Lib.hid hok
  have HY := Lib.hid hy
  clear h hn hok hy
  go_enter Try.func45, Try.ntmps45
  go_wp2
  refine wp_scope1e (fun a' w' => w' = W ∧ ∃ k : Nat, k ≤ n ∧ Hid (hasAllV v l = hasAllV v (l.drop k)) ∧ ∃ u6 u7 u8 u9 u10 u11 u12 u13 u14 u15 u16 u17 u18 u19 : Value, a' = { tmps := #[.pointer (some ⟨hp, 0, none⟩), .slice A n d, undef, undef, .bool false, .int .i64 k, u6, u7, u8, u9, u10, u11, u12, u13, u14, u15, u16, u17, u18, u19], defers := [] })
    (fun a' _ => n - (intOf (a'.tmps.getD 5 undef)).toNat) rfl ?_ ?_
  · intro HF
    go_wp2
    go_step3
    rename_i hK
    exact hK _ _ (HF _ _ ⟨rfl, 0, by omega, rfl, _, _, _, _, _, _, _, _, _, _, _, _, _, _, rfl⟩)
  · rintro a' w' ⟨rfl, k, hk, HE, u6, u7, u8, u9, u10, u11, u12, u13, u14, u15, u16, u17, u18, u19, rfl⟩
    by_cases hkn : k = n
    · subst hkn
      have HA : Hid (hasAllV v l = true) := by unfold Hid; rw [HE.out, List.drop_of_length_le (by rw [HN.out]; exact Nat.le_refl _)]; rfl
      go_wp2
      simp only [Exit.jump]
      go_ret
      exact ⟨by rw [HA.out]; rfl, rfl⟩
    · have hkl : k < n := by omega
      have hq : ((k : Int) == n) = false := by simp; omega
      have hki : (k : Int) < n := by omega
      obtain ⟨x, hx⟩ : ∃ x, l[k]? = some x := ⟨_, List.getElem?_eq_getElem (by rw [HN.out]; exact hkl)⟩
      obtain ⟨ad, rfl, hw⟩ := HY.out k x hx
      have c0 := hw.c0
      have ht := (HO.out x (List.mem_of_getElem? hx)).t
      have HH := Lib.hid (vhas_any HV.out x.t ht)
      have HD : Hid (hasAllV v (l.drop k) = (hasV v x.t && hasAllV v (l.drop (k + 1)))) := by
        unfold Hid hasAllV
        rw [List.drop_eq_getElem_cons (by rw [HN.out]; exact hkl), (List.getElem?_eq_some_iff.1 hx).2]; rfl
      clear hw hx ht
      generalize x.t = tt at *
      go_wp2_with fail
      refine HH.out.mono ?_
      rintro e w' ⟨rfl, rfl⟩
      cases hb : hasV v tt
      · have HA : Hid (hasAllV v l = false) := by unfold Hid; rw [HE.out, HD.out, hb]; rfl
        clear hb
        go_wp2
        simp only [Exit.jump]
        go_ret
        exact ⟨by rw [HA.out]; rfl, rfl⟩
      · have HA : Hid (hasAllV v l = hasAllV v (l.drop (k + 1))) := by unfold Hid; rw [HE.out, HD.out, hb]; rfl
        clear hb
        go_wp2
        go_step3
        refine ⟨rfl, ⟨rfl, k + 1, by omega, HA, _, _, _, _, _, _, _, _, _, _, _, _, _, _, rfl⟩, ?_⟩
        simp [intOf]; omega

end Go.Proofs.Ytamnpblijdgdaaa
