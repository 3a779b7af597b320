/- Contracts: the next one of a region; is a bit set. -/
import Derived.Test.YtocmjbfbjiinhaaV3
import Derived.Test.YtocmjbfbjiinhaaJ
namespace Go.Proofs.Ytocmjbfbjiinhaa
open Go.ChangeShapes Go.WideShapes Go.ChangeAt Go.RowKit
set_option linter.unusedVariables false
/-- The first of the region from i on; none: how many there are. -/
def nextI (l : List Wr) (r i : Nat) : Nat := i + (l.drop i).findIdx (fun x => x.r == r)
theorem nextI_end (l : List Wr) (r : Nat) : nextI l r l.length = l.length := by unfold nextI; simp
theorem nextI_here {l : List Wr} {r i : Nat} {x : Wr} (h : l[i]? = some x) (hr : x.r = r) : nextI l r i = i := by
  unfold nextI
  have hlt := (List.getElem?_eq_some_iff.1 h).1
  rw [List.drop_eq_getElem_cons hlt, (List.getElem?_eq_some_iff.1 h).2, List.findIdx_cons]
  simp [hr]
theorem nextI_on {l : List Wr} {r i : Nat} {x : Wr} (h : l[i]? = some x) (hr : x.r ≠ r) : nextI l r i = nextI l r (i + 1) := by
  unfold nextI
  have hlt := (List.getElem?_eq_some_iff.1 h).1
  rw [List.drop_eq_getElem_cons hlt, (List.getElem?_eq_some_iff.1 h).2, List.findIdx_cons, show (x.r == r) = false by simpa using hr]
  simp only [cond_false]
  omega
theorem nextI_le {l : List Wr} {r i : Nat} (h : i ≤ l.length) : i ≤ nextI l r i ∧ nextI l r i ≤ l.length := by
  unfold nextI
  have := List.findIdx_le_length (xs := l.drop i) (p := fun x => x.r == r)
  simp at this; omega
theorem nextI_at {l : List Wr} {r i : Nat} (h : nextI l r i < l.length) : ∃ x, l[nextI l r i]? = some x ∧ x.r = r := by
  unfold nextI at h ⊢
  have h1 : (l.drop i).findIdx (fun x => x.r == r) < (l.drop i).length := by simp; omega
  have h2 := List.findIdx_getElem (w := h1)
  refine ⟨_, List.getElem?_eq_getElem h, ?_⟩
  simp only [List.getElem_drop] at h2
  simpa using h2
theorem encW_length (l : List Wr) (h : ∀ x ∈ l, x.b.length = 64) : (encW l).length = l.length * 65 := by
  induction l with
  | nil => rfl
  | cons x l ih =>
    have := ih (fun y hy => h y (by simp [hy]))
    have hx := h x (by simp)
    unfold encW at this ⊢
    rw [List.flatMap_cons, List.length_append, this]
    unfold Wr.cs
    simp [Bs_length, hx]; omega
theorem encW_drop (l : List Wr) (h : ∀ x ∈ l, x.b.length = 64) (i : Nat) : (encW l).drop (i * 65) = encW (l.drop i) := by
  induction i generalizing l with
  | zero => simp
  | succ i ih =>
    cases l with
    | nil => simp [encW]
    | cons x l =>
      have hx : (Wr.cs x).length = 65 := by unfold Wr.cs; simp [Bs_length, h x (by simp)]
      have e : encW (x :: l) = Wr.cs x ++ encW l := by unfold encW; rw [List.flatMap_cons]
      rw [e, show (i + 1) * 65 = (Wr.cs x).length + i * 65 by omega, ← List.drop_drop, List.drop_left, ih l (fun y hy => h y (by simp [hy]))]
      rfl
theorem encW_at {l : List Wr} (h : ∀ x ∈ l, x.b.length = 64) {i : Nat} {x : Wr} (hx : l[i]? = some x) (j : Nat) (hj : j < 65) : (encW l)[i * 65 + j]? = (Wr.cs x)[j]? := by
  rw [← List.getElem?_drop, encW_drop l h]
  have hlt := (List.getElem?_eq_some_iff.1 hx).1
  rw [List.drop_eq_getElem_cons hlt, (List.getElem?_eq_some_iff.1 hx).2]
  have hl : (Wr.cs x).length = 65 := by unfold Wr.cs; simp [Bs_length, h x (List.mem_of_getElem? hx)]
  have e : encW (x :: l.drop (i + 1)) = Wr.cs x ++ encW (l.drop (i + 1)) := by unfold encW; rw [List.flatMap_cons]
  rw [e, List.getElem?_append_left (by omega)]
theorem DM.Ok.blk {m : DM} (h : m.Ok) : ∀ x ∈ m.done, x.b.length = 64 := fun x hx => (h.dones x hx).2.1
theorem DM.Ok.done_r {m : DM} (h : m.Ok) {x : Wr} (hx : x ∈ m.done) : x.r < m.now.length ∧ x.i ≤ 65535 := by
  obtain ⟨⟨row, h1, h2⟩, _⟩ := h.dones x hx
  have := (h.rows _ _ h1).1
  exact ⟨(List.getElem?_eq_some_iff.1 h1).1, by omega⟩
/-- Where an element of done lies. -/
theorem DevAt.doneAt {w : World} {O : Nat → DRole} {hp : Nat} {L : DLay} {m : DM} (h : DevAt w O hp L m) {i : Nat} {x : Wr} (hx : m.done[i]? = some x) :
    ∃ g cap, L.sDone = .slice (some ⟨g, 0, none⟩) m.done.length cap ∧ O g = .done ∧ m.done.length ≤ cap ∧ cap ≤ 9223372036854775807 ∧ w.cell? ⟨g, i * 65, none⟩ = some (.complex .f64 (Fx.fb x.r) (Fx.fb x.i)) ∧ w.rangeAt g (i * 65 + 1) (Bs x.b) ∧ w.rangeAt g (i * 65) (Wr.cs x) := by
  have hlt := (List.getElem?_eq_some_iff.1 hx).1
  have h64 := h.ok.blk x (List.mem_of_getElem? hx)
  obtain ⟨g, cap, hv, ho, hg, hn, hm, hc, hf⟩ := h.done.pos (by omega)
  have all : ∀ j, j < 65 → w.cell? ⟨g, i * 65 + j, none⟩ = (Wr.cs x)[j]? := fun j hj => by rw [hc _ (by omega), encW_at h.ok.blk hx j hj]
  refine ⟨g, cap, hv, ho, hn, hm, all 0 (by omega), fun j v hj => ?_, fun j v hj => ?_⟩
  · have hl := (List.getElem?_eq_some_iff.1 hj).1
    rw [Bs_length] at hl
    rw [show i * 65 + 1 + j = i * 65 + (j + 1) by omega, all _ (by omega)]
    exact hj
  · have hl := (List.getElem?_eq_some_iff.1 hj).1
    unfold Wr.cs at hl
    simp [Bs_length] at hl
    rw [all _ (by omega)]; exact hj
set_option maxRecDepth 100000 in
theorem next_any {w : World} {O : Nat → DRole} {hp : Nat} {L : DLay} {m : DM} (h : DevAt w O hp L m) (r i : Nat) (hr : r < m.now.length) (hi : i ≤ m.done.length) (hm : m.done.length ≤ 1000000) :
    Calls Try.prog 45 #[.pointer (some ⟨hp, 0, none⟩), .int .i64 r, .int .i64 i] w fun e w' => e = .returned (.int .i64 (nextI m.done r i)) ∧ w = w' := by
  obtain ⟨A, cap, hv, hc1, hc2⟩ := h.done.val
  have c2 := h.c2
  rw [hv] at c2
  have few := h.ok.few
  have H := Lib.hid h
  have HV := Lib.hid hv
  clear h hv
  generalize hn : m.done.length = n at *
  generalize hR : m.now.length = R at *
  have HN := Lib.hid hn
  have HR := Lib.hid hR
  clear hn hR
  go_enter Try.func45, Try.ntmps45
  go_wp2
  refine wp_scope1e (fun a' w' => w' = w ∧ ∃ k : Nat, k ≤ n ∧ Hid (nextI m.done r k = nextI m.done r i) ∧ ∃ u7 u8 u9 u10 u11 u12 u13 u14 u15 u16 u17 u18 u19 u20 u21 u22 u23 u24 u25 u26 u27 u28 u29 u30 : Value, a' = { tmps := #[.pointer (some ⟨hp, 0, none⟩), .int .i64 r, .int .i64 k, undef, undef, undef, .int .i64 0, u7, u8, u9, u10, u11, u12, u13, u14, u15, u16, u17, u18, u19, u20, u21, u22, u23, u24, u25, u26, u27, u28, u29, u30], defers := [] })
    (fun a' _ => n - (intOf (a'.tmps.getD 2 undef)).toNat) rfl ?_ ?_
  · intro HF
    go_wp2
    go_step3
    rename_i hK
    exact hK _ _ (HF _ _ ⟨rfl, i, hi, rfl, _, _, _, _, _, _, _, _, _, _, _, _, _, _, _, _, _, _, _, _, _, _, _, _, rfl⟩)
  · rintro a' w' ⟨rfl, k, hk, HE, u7, u8, u9, u10, u11, u12, u13, u14, u15, u16, u17, u18, u19, u20, u21, u22, u23, u24, u25, u26, u27, u28, u29, u30, rfl⟩
    by_cases hkn : k = n
    · subst hkn
      go_wp2
      simp only [Exit.jump]
      go_ret
      exact ⟨ret_int (by rw [← HE.out, ← HN.out, nextI_end]), rfl⟩
    · have hkl : k < n := by omega
      have hq : ((k : Int) == n) = false := by simp; omega
      obtain ⟨x, hx⟩ : ∃ x, m.done[k]? = some x := ⟨_, List.getElem?_eq_getElem (by rw [HN.out]; exact hkl)⟩
      obtain ⟨g, cap', hv, _, _, _, e0, _, _⟩ := H.out.doneAt hx
      have hv2 := HV.out
      rw [hv] at hv2
      injection hv2 with e1 e2 e3
      subst e1; subst e3
      have hxr := H.out.ok.done_r (List.mem_of_getElem? hx)
      rw [HR.out] at hxr
      have ef := eq_fb x.r r (by omega) (by omega)
      have HX := Lib.hid hx
      have hfr : floatOfInt .f64 (r : Int) = Fx.fb r := rfl
      clear e2 hv hx
      by_cases hxq : x.r = r
      · rw [decide_eq_true hxq] at ef
        have HQ := Lib.hid hxq
        clear hxq
        go_wp2
        simp only [Exit.jump]
        go_ret
        exact ⟨ret_int (by rw [← HE.out, nextI_here HX.out HQ.out]), rfl⟩
      · rw [decide_eq_false hxq] at ef
        have HQ := Lib.hid hxq
        clear hxq
        go_wp2
        go_step3
        refine ⟨rfl, ⟨rfl, k + 1, by omega, Lib.hid ?_, _, _, _, _, _, _, _, _, _, _, _, _, _, _, _, _, _, _, _, _, _, _, _, _, rfl⟩, ?_⟩
        · rw [← HE.out, nextI_on HX.out HQ.out]
        · simp [intOf]; omega
end Go.Proofs.Ytocmjbfbjiinhaa
