/- Contract: index.may. -/
import Derived.Test.YthkohckofodmnaaIe
namespace Go.Proofs.Ythkohckofodmnaa
open Go.ChangeShapes Go.WideShapes Go.ChangeAt Go.RowKit
set_option linter.unusedVariables false
/-- Of the first j places each may be: NoBlock, or one of its own. -/
def okX (l : List Int) (j : Nat) (x : Int) : Bool := x == -1 || (decide (1 ≤ x) && decide (x < 200) && !(l.take j).contains x)
def okP (l : List Int) : Nat → Bool
  | 0 => true
  | j + 1 => okP l j && (match l[j]? with | some x => okX l j x | none => true)
def mayB (l : List Int) : Bool := decide (l.length = 16) && okP l 16
theorem okP_at {l : List Int} {j : Nat} {x : Int} (h : l[j]? = some x) : okP l (j + 1) = (okP l j && okX l j x) := by
  show (okP l j && (match l[j]? with | some x => okX l j x | none => true)) = _
  rw [h]
theorem okP_mono {l : List Int} : ∀ {m k : Nat}, k ≤ m → okP l m = true → okP l k = true
  | 0, k, h, h1 => by rw [show k = 0 by omega]; rfl
  | m + 1, k, h, h1 => by
    by_cases e : k = m + 1
    · rw [e]; exact h1
    · exact okP_mono (show k ≤ m by omega) (by
        have h2 : (okP l m && (match l[m]? with | some x => okX l m x | none => true)) = true := h1
        rw [Bool.and_eq_true] at h2
        exact h2.1)
theorem okP_not {l : List Int} {j : Nat} {x : Int} (hj : j < 16) (h : l[j]? = some x) (hx : okX l j x = false) : mayB l = false := by
  unfold mayB
  cases he : okP l 16
  · simp
  · have := okP_mono (show j + 1 ≤ 16 by omega) he
    rw [okP_at h, hx] at this
    simp at this
/-- Which places have been named: as cells. -/
def NM (l : List Int) (j : Nat) : List Value := (List.range 200).map fun (k : Nat) => Value.bool ((l.take j).contains (k : Int))
theorem NM_zero (l : List Int) : NM l 0 = List.replicate 200 (.bool false) := by
  unfold NM
  simp only [List.take_zero, List.contains_nil]
  rw [List.map_const', List.length_range]
theorem NM_at {l : List Int} {j k : Nat} (hk : k < 200) : (NM l j)[k]? = some (.bool ((l.take j).contains (k : Int))) := by
  unfold NM
  rw [List.getElem?_map, List.getElem?_range hk]; rfl
theorem NM_skip {l : List Int} {j : Nat} {x : Int} (h : l[j]? = some x) (hx : x = -1) : NM l (j + 1) = NM l j := by
  unfold NM
  refine List.map_congr_left fun k _ => ?_
  rw [take_snoc' h, hx]
  simp
theorem NM_set {l : List Int} {j k : Nat} (h : l[j]? = some (k : Int)) (hk : k < 200) : (NM l j).set k (.bool true) = NM l (j + 1) := by
  apply List.ext_getElem?
  intro i
  by_cases hi : i < 200
  · rw [NM_at hi, take_snoc' h, List.getElem?_set]
    by_cases e : k = i
    · subst e
      rw [if_pos rfl, if_pos (by unfold NM; simp; exact hk)]
      simp
    · rw [if_neg e, NM_at hi]
      simp
      intro e2; omega
  · rw [List.getElem?_eq_none (by unfold NM; simp; omega), List.getElem?_eq_none (by unfold NM; simp; omega)]
theorem info59 : (Try.prog.info? 59).map (fun i => (i.zero, i.size)) = some (some (.agg (List.replicate 200 (Value.bool false)).toArray), 200) := by kernel_rfl
theorem wpList_alloc200 {ops : Array Oper} {rest : List Oper} {o : Oper} {a : Act} {w : World} {Q : Exit → Act → World → Prop} (hgd : o.guard = none) (ho : o.op = .alloc 59)
    (h : wpList Try.prog ops Q rest (a.put o.dst (.pointer (some ⟨w.heap.size, 0, none⟩))) (w.alloc (.cells (NM [] 0).toArray 59))) : wpList Try.prog ops Q (o :: rest) a w := by
  have hi := info59
  cases hq : Try.prog.info? 59 with
  | none => rw [hq] at hi; cases hi
  | some i =>
    rw [hq] at hi
    injection hi with hi; injection hi with hz hs
    rw [NM_zero] at h
    exact wpList_plain hgd fun _ hK => wp_alloc_of 59 ho i _ hq hz (hK _ _ h)
set_option maxRecDepth 100000 in
set_option maxHeartbeats 3200000 in
theorem ixmay_any (A : Option Addr) (l : List Int) (n d : Nat) (w : World) (hn : l.length = n) (hy : Nts w A l) :
    Calls Try.prog 16 #[.slice A n d] w fun e w' => e = .returned (.bool (mayB l)) ∧ Below w.heap.size w w' := by
  by_cases h16 : n = 16
  · subst h16
    have HN := Lib.hid hn
    have HY := Lib.hid hy
    have HB0 := Lib.hid (bel1 (w := w) (.cells (NM [] 0).toArray 59))
    have HR0 : Hid ((w.alloc (.cells (NM [] 0).toArray 59)).heap[w.heap.size]? = some (.cells (NM l 0).toArray 59 (0, 0))) := by
      rw [show NM l 0 = NM [] 0 by rw [NM_zero, NM_zero]]; exact heap_alloc_new _ _
    clear hn hy
    go_enter Try.func16, Try.ntmps16
    go_upto_region 4 with (refine wpList_alloc200 rfl rfl ?_)
    generalize w.alloc (.cells (NM [] 0).toArray 59) = W at *
    go_wp2_with fail
    go_loopw [11] (fun i wr => ∃ j : Nat, j ≤ 16 ∧ i = .int .i64 j ∧ Hid (okP l j = true) ∧ Hid (wr.heap[w.heap.size]? = some (.cells (NM l j).toArray 59 (0, 0))) ∧ Hid (Below w.heap.size w wr)) (fun i _ => (16 - intOf i).toNat)
    case atStart => exact ⟨0, by omega, rfl, rfl, HR0, HB0⟩
    case round =>
      obtain ⟨j, hj, rfl, HO, HR, HB⟩ := hrel
      clear HR0 HB0
      by_cases hlt : j < 16
      · obtain ⟨x, hx⟩ : ∃ x, l[j]? = some x := ⟨_, List.getElem?_eq_getElem (by rw [HN.out]; exact hlt)⟩
        obtain ⟨ad, rfl, hc⟩ := HY.out j x hx
        have hc0 := keepC HB.out hc
        clear hc
        by_cases h1 : x = -1
        · have HO2 : Hid (okP l (j + 1) = true) := by unfold Hid; rw [okP_at hx, HO.out]; unfold okX; simp [h1]
          have HR2 : Hid (wr.heap[w.heap.size]? = some (.cells (NM l (j + 1)).toArray 59 (0, 0))) := by rw [NM_skip hx h1]; exact HR
          subst h1
          clear hx
          go_wp2_with fail
          go_roundw
          case rel => exact ⟨j + 1, by omega, by go_num, HO2.out, HR2.out, HB.out⟩
          case measure => simp [intOf]; omega
        · by_cases h2 : x < 1
          · have hm := okP_not hlt hx (by unfold okX; simp [h1]; omega)
            have HM := Lib.hid hm
            clear hm hx
            go_wp2_with fail
            go_ret
            exact ⟨by rw [HM.out]; rfl, HB.out⟩
          by_cases h3 : 200 ≤ x
          · have hm := okP_not hlt hx (by unfold okX; simp [h1]; omega)
            have HM := Lib.hid hm
            clear hm hx
            go_wp2_with fail
            go_ret
            exact ⟨by rw [HM.out]; rfl, HB.out⟩
          obtain ⟨k, rfl⟩ : ∃ k : Nat, x = k := ⟨x.toNat, by omega⟩
          have hk : k < 200 := by omega
          have cr : wr.cell? ⟨w.heap.size, k, none⟩ = some (.bool ((l.take j).contains (k : Int))) := by
            rw [blk_cell HR.out, List.getElem?_toArray]; exact NM_at hk
          have fr : wr.frozen? ⟨w.heap.size, k, none⟩ = false := blk_free HR.out _
          cases hcon : (l.take j).contains (k : Int)
          · have HO2 : Hid (okP l (j + 1) = true) := by unfold Hid; rw [okP_at hx, HO.out]; unfold okX; rw [hcon]; simp; omega
            have HR2 : Hid ((wr.setCell ⟨w.heap.size, k, none⟩ (.bool true)).heap[w.heap.size]? = some (.cells (NM l (j + 1)).toArray 59 (0, 0))) := by
              unfold Hid; rw [heap_setCell_same' HR.out, List.setIfInBounds_toArray, NM_set hx hk]
            have HB2 := Lib.hid (HB.out.setCell (p := ⟨w.heap.size, k, none⟩) (Nat.le_refl _) (.bool true))
            rw [hcon] at cr
            clear hcon hx
            go_wp2_with fail
            go_roundw
            case rel => exact ⟨j + 1, by omega, by go_num, HO2.out, HR2.out, HB2.out⟩
            case measure => simp [intOf]; omega
          · have hm := okP_not hlt hx (by unfold okX; rw [hcon]; simp [h1])
            have HM := Lib.hid hm
            rw [hcon] at cr
            clear hm hx hcon
            go_wp2_with fail
            go_ret
            exact ⟨by rw [HM.out]; rfl, HB.out⟩
      · obtain rfl : j = 16 := by omega
        have hm : mayB l = true := by unfold mayB; rw [HO.out, decide_eq_true HN.out]; rfl
        have HM := Lib.hid hm
        clear hm
        go_wp2_with fail
        go_ret
        exact ⟨by rw [HM.out]; rfl, HB.out⟩
  · have hm : mayB l = false := by unfold mayB; rw [decide_eq_false (by omega)]; rfl
    have hn2 : ¬ ((n : Int) = 16) := by omega
    rw [hm]
    go_enter Try.func16, Try.ntmps16
    go_wp2
    go_ret
    exact ⟨rfl, Below.refl _ _⟩
end Go.Proofs.Ythkohckofodmnaa
