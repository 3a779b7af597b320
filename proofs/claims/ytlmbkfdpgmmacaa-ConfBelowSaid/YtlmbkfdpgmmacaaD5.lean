/- The opening test of each law of conf. -/
import Derived.Test.YtlmbkfdpgmmacaaD1
import Derived.Test.YtlmbkfdpgmmacaaC5
namespace Go.Proofs.Ytlmbkfdpgmmacaa
open Go.ChangeShapes Go.WideShapes Go.ChangeAt Go.RowKit
set_option linter.unusedVariables false
/-- A row of one-cell values that the call owns. -/
theorem row_own {W : World} {B t n : Nat} {v : Value} {xs : List Value} (h : W.ownsRow B t 1 v n xs) :
    ∃ A d, v = .slice A n d ∧ n ≤ d ∧ d ≤ 9223372036854775807 ∧ ∀ i u, xs[i]? = some u → ∃ a, A = some a ∧ W.cell? (a.add i) = some u := by
  rcases h.2 with ⟨rfl, h0⟩ | ⟨g, cap, cur, rfl, hb, hg, hn, hm, hs, ht⟩
  · refine ⟨none, 0, by rw [h0], by omega, by omega, fun i s hi => ?_⟩
    have : xs = [] := List.eq_nil_of_length_eq_zero (by rw [h.1, h0])
    rw [this] at hi; cases hi
  · exact ⟨some ⟨g, 0, none⟩, cap, rfl, hn, by simp only [maxLen] at hm; omega, fun i s hi => ⟨_, rfl, h.cells (g := g) rfl i s hi⟩⟩
theorem byt_own {W : World} {B n : Nat} {v : Value} {bs : List Int} (h : W.ownsRow B 5 1 v n (Bs bs)) (hn : bs.length = n) :
    ∃ A d, v = .slice A bs.length d ∧ bs.length ≤ d ∧ d ≤ 9223372036854775807 ∧ Byt W A bs := by
  obtain ⟨A, d, e, h1, h2, h3⟩ := row_own h
  refine ⟨A, d, by rw [hn]; exact e, by omega, h2, fun i x hi => h3 i _ (by unfold Bs; rw [List.getElem?_map, hi]; rfl)⟩
/-- Numbers lie behind a slice. -/
def Num (w : World) (A : Option Addr) (xs : List Int) : Prop := ∀ i x, xs[i]? = some x → ∃ a, A = some a ∧ w.cell? (a.add i) = some (.int .i64 x)
theorem Num.keep {w w' : World} {A : Option Addr} {xs : List Int} (h : Num w A xs) (hb : Below w.heap.size w w') : Num w' A xs := fun i x hi =>
  let ⟨a, e, hs⟩ := h i x hi; ⟨a, e, keepC hb hs⟩
theorem num_own {W : World} {B n : Nat} {v : Value} {l : List Int} (h : W.ownsRow B 3 1 v n (Is l)) (hn : l.length = n) :
    ∃ A d, v = .slice A l.length d ∧ Num W A l := by
  obtain ⟨A, d, e, h1, h2, h3⟩ := row_own h
  exact ⟨A, d, by rw [hn]; exact e, fun i x hi => h3 i _ (by unfold Is; rw [List.getElem?_map, hi]; rfl)⟩
theorem conf_lit {W : World} (C : Array Value) (cs : List Sh) (hc : C.toList = cellsL cs) : Conf (W.alloc (.cells C 47)) (some ⟨W.heap.size, 0, none⟩) cs := by
  intro i s hi
  refine ⟨_, rfl, ?_⟩
  have hb := heap_alloc_new W (.cells C 47)
  have e : ∀ j, (⟨W.heap.size, 0, none⟩ : Addr).add j = ⟨W.heap.size, j, none⟩ := fun j => by unfold Addr.add; split <;> simp_all
  have k : ∀ j u, j < 5 → s.cs[j]? = some u → (W.alloc (.cells C 47)).cell? ⟨W.heap.size, i * 5 + j, none⟩ = some u := fun j u hj hu => by
    rw [cell_of_row _ _ _ _ _ _ hb, ← Array.getElem?_toList, hc, cellsL_at hi hj]; exact hu
  rw [e]
  exact ⟨k 0 _ (by omega) rfl, k 1 _ (by omega) rfl, k 2 _ (by omega) rfl, k 3 _ (by omega) rfl, k 4 _ (by omega) rfl⟩
def bg : List Sh := [⟨1, 0, 8, 16, 2⟩, ⟨0, 0, 8, 16, 2⟩]
def bgB : List Int := [76, 70, 2, 16, 8, 16, 2, 0, 8, 16, 2]
theorem bg_may : mayConfV bg = true := by decide
theorem bg_put : putTo bg 2 = bgB := by decide
theorem bg_take : takeV bgB = some bg := by decide
theorem nil_take : takeV [] = none := rfl
theorem nil_may : mayConfV [] = false := by decide
theorem bg_below0 : BelowR bg 0 [0, 1] := ⟨[1], rfl, by decide, by decide⟩
theorem bg_below1 : BelowR bg 1 [1] := ⟨[], rfl, by decide, by decide⟩
theorem bg_ok : ShsOk bg := by
  intro s hs
  unfold bg at hs
  simp at hs
  rcases hs with rfl | rfl <;> constructor <;> constructor <;> decide
set_option maxRecDepth 100000 in
set_option maxHeartbeats 1600000 in
theorem begun_any (w : World) : Calls Try.prog 7 #[] w fun e w' => e = .returned (.bool true) ∧ Below w.heap.size w w' := by
  go_enter Try.func7, Try.ntmps7
  have hconf0 := conf_lit (W := w) #[.int .i64 1, .int .i64 0, .int .i64 8, .int .i64 16, .int .i64 2, .int .i64 0, .int .i64 0, .int .i64 8, .int .i64 16, .int .i64 2] bg rfl
  have HCONF := Lib.hid hconf0
  have HB0 := Lib.hid ((Below.refl w.heap.size w).alloc (Nat.le_refl _) (.cells #[.int .i64 1, .int .i64 0, .int .i64 8, .int .i64 16, .int .i64 2, .int .i64 0, .int .i64 0, .int .i64 8, .int .i64 16, .int .i64 2] 47))
  clear hconf0
  go_wp2_with fail
  generalize w.alloc (Obj.cells #[.int .i64 1, .int .i64 0, .int .i64 8, .int .i64 16, .int .i64 2, .int .i64 0, .int .i64 0, .int .i64 8, .int .i64 16, .int .i64 2] 47) = W0 at *
  generalize hp : w.heap.size = p at *
  refine (put_yes (some ⟨p, 0, none⟩) bg 2 W0 (by decide) (by decide) bg_ok HCONF.out bg_may).mono ?_
  rintro e W1 ⟨v, rfl, hown, hb⟩
  have hown' : W1.ownsRow W0.heap.size 5 1 v 11 (Bs bgB) := by rw [← bg_put]; exact hown
  obtain ⟨A1, d1, hv, hd1, hd2, hbyt⟩ := byt_own hown' rfl
  rw [show bgB.length = 11 from rfl] at hv
  subst hv
  have HB1 := Lib.hid hb
  have HBYT := Lib.hid hbyt
  clear hown hown' hbyt hb
  go_wp2_with fail
  refine (take_conf A1 bgB d1 W1 (by decide) hd1 hd2 (by unfold AllB; decide) HBYT.out).mono ?_
  rintro e W2 ⟨htk, hb⟩
  rw [bg_take] at htk
  obtain ⟨sv, rfl, hown⟩ := htk
  obtain ⟨A2, d2, hv, hd3, hd4, hconf2⟩ := conf_own hown
  rw [show bg.length = 2 from rfl] at hv
  subst hv
  have HB2 := Lib.hid hb
  have HCONF2 := Lib.hid hconf2
  clear hown hconf2 hb
  go_wp2_with fail
  refine (take_conf none [] 0 W2 (by decide) (by decide) (by decide) (fun x hx => by cases hx) (fun i x hx => by cases hx)).mono ?_
  rintro e W3 ⟨htk, hb⟩
  rw [nil_take] at htk
  obtain rfl := htk
  have HB3 := Lib.hid hb
  clear hb
  go_wp2_with fail
  have hc3 : Conf W3 (some ⟨p, 0, none⟩) bg := ((HCONF.out.keep HB1.out).keep HB2.out).keep HB3.out
  refine (below_some (some ⟨p, 0, none⟩) bg 2 0 W3 (by decide) (by decide) bg_ok hc3 bg_may (by decide)).mono ?_
  rintro e W4 ⟨v4, l, rfl, hR, hown, hb⟩
  obtain rfl := hR.eq bg_below0
  obtain ⟨A4, d4, hv, hnum⟩ := num_own hown rfl
  rw [show [(0 : Int), 1].length = 2 from rfl] at hv
  subst hv
  have HCONF4 := Lib.hid (hc3.keep hb)
  have HX4 := Lib.hid ((HCONF2.out.keep HB3.out).keep hb)
  have HBYT4 := Lib.hid (((HBYT.out.keep HB2.out).keep HB3.out).keep hb)
  have HNUM4 := Lib.hid hnum
  have HB4 := Lib.hid (keepB (keepB (keepB (keepB (show Below w.heap.size w W0 by rw [hp]; exact HB0.out) HB1.out) HB2.out) HB3.out) hb)
  clear hc3 hown hnum hb hR HCONF HBYT HCONF2 HB0 HB1 HB2 HB3
  go_wp2_with fail
  obtain ⟨a2, s0, rfl, hs0, hx0⟩ := HX4.out.at_ (k := 0) (by decide)
  obtain ⟨a4, e4, hn0⟩ := HNUM4.out 0 0 rfl
  subst e4
  obtain ⟨a4', e4, hn1⟩ := HNUM4.out 1 1 rfl
  injection e4 with e4
  subst e4
  have hs0' := hs0.out
  injection hs0' with hs0'
  subst hs0'
  have KEEP : Hid (∀ wx, Below W4.heap.size W4 wx → (wx.cell? ⟨p, 0, none⟩ = some (.int .i64 1) ∧ wx.cell? ⟨p, 1, none⟩ = some (.int .i64 0) ∧ wx.cell? ⟨p, 2, none⟩ = some (.int .i64 8) ∧ wx.cell? ⟨p, 3, none⟩ = some (.int .i64 16) ∧ wx.cell? ⟨p, 4, none⟩ = some (.int .i64 2) ∧
      wx.cell? a2 = some (.int .i64 1) ∧ wx.cell? ⟨a2.block, a2.off + 1, none⟩ = some (.int .i64 0) ∧ wx.cell? ⟨a2.block, a2.off + 2, none⟩ = some (.int .i64 8) ∧ wx.cell? ⟨a2.block, a2.off + 3, none⟩ = some (.int .i64 16) ∧ wx.cell? ⟨a2.block, a2.off + 4, none⟩ = some (.int .i64 2) ∧
      wx.cell? a4 = some (.int .i64 0) ∧ wx.cell? ⟨a4.block, a4.off + 1, none⟩ = some (.int .i64 1) ∧ (convert 24 9 (.slice A1 11 d1)).run Try.prog wx = .ok (.string ⟨#[76, 70, 2, 16, 8, 16, 2, 0, 8, 16, 2]⟩) wx ∧ Below W4.heap.size W4 wx)) := fun wx hb => by
    obtain ⟨a1, e1, hc⟩ := (HCONF4.out.keep hb) 0 _ rfl
    injection e1 with e1
    subst e1
    have hx := hx0.keep hb
    exact ⟨hc.c0, hc.c1, hc.c2, hc.c3, hc.c4, hx.c0, hx.c1, hx.c2, hx.c3, hx.c4, keepC hb hn0, keepC hb hn1, conv_any (HBYT4.out.keep hb) rfl, hb⟩
  have C13a : Hid (∀ W, Below W4.heap.size W4 W → Calls Try.prog 13 #[.slice (some ⟨p, 0, none⟩) 2 2] W fun e w' => e = .returned (.bool true) ∧ Below W.heap.size W w') := fun W hW => by
    have h := may_conf (some ⟨p, 0, none⟩) bg 2 W (by decide) (by decide) (by decide) bg_ok (HCONF4.out.keep hW)
    rw [bg_may] at h; exact h
  have C13b : Hid (∀ W, Calls Try.prog 13 #[.slice none 0 0] W fun e w' => e = .returned (.bool false) ∧ Below W.heap.size W w') := fun W => by
    have h := may_conf none [] 0 W (by decide) (by decide) (by decide) (fun s hs => by cases hs) (fun i s hs => by cases hs)
    rw [nil_may] at h; exact h
  have C11 : Hid (∀ W, Below W4.heap.size W4 W → Calls Try.prog 11 #[.slice (some ⟨p, 0, none⟩) 2 2, .int .i64 1] W fun e w' => ∃ A d, e = .returned (.slice A 1 d) ∧ Below W.heap.size W w') := fun W hW => by
    refine (below_some (some ⟨p, 0, none⟩) bg 2 1 W (by decide) (by decide) bg_ok (HCONF4.out.keep hW) bg_may (by decide)).mono ?_
    rintro e w' ⟨v5, l5, rfl, hR5, hown5, hb⟩
    obtain rfl := hR5.eq bg_below1
    obtain ⟨A5, d5, hv5, _⟩ := num_own hown5 rfl
    subst hv5
    exact ⟨_, _, rfl, hb⟩
  clear hx0 hn0 hn1 hs0
  go_region_held3 (fun wx => (wx.cell? ⟨p, 0, none⟩ = some (.int .i64 1) ∧ wx.cell? ⟨p, 1, none⟩ = some (.int .i64 0) ∧ wx.cell? ⟨p, 2, none⟩ = some (.int .i64 8) ∧ wx.cell? ⟨p, 3, none⟩ = some (.int .i64 16) ∧ wx.cell? ⟨p, 4, none⟩ = some (.int .i64 2) ∧
      wx.cell? a2 = some (.int .i64 1) ∧ wx.cell? ⟨a2.block, a2.off + 1, none⟩ = some (.int .i64 0) ∧ wx.cell? ⟨a2.block, a2.off + 2, none⟩ = some (.int .i64 8) ∧ wx.cell? ⟨a2.block, a2.off + 3, none⟩ = some (.int .i64 16) ∧ wx.cell? ⟨a2.block, a2.off + 4, none⟩ = some (.int .i64 2) ∧
      wx.cell? a4 = some (.int .i64 0) ∧ wx.cell? ⟨a4.block, a4.off + 1, none⟩ = some (.int .i64 1) ∧ (convert 24 9 (.slice A1 11 d1)).run Try.prog wx = .ok (.string ⟨#[76, 70, 2, 16, 8, 16, 2, 0, 8, 16, 2]⟩) wx ∧ Below W4.heap.size W4 wx))
    (first | exact KEEP.out _ (Below.refl _ _).drew | (go_split_ands; exact KEEP.out _ (keepB (by assumption) hb)))
    (first | (go_at_call 13; (with_reducible refine (C13a.out _ (by go_split_ands; assumption)).mono ?_); rintro e w' ⟨rfl, hb⟩)
           | (go_at_call 13; (with_reducible refine (C13b.out _).mono ?_); rintro e w' ⟨rfl, hb⟩)
           | (go_at_call 11; (with_reducible refine (C11.out _ (by go_split_ands; assumption)).mono ?_); rintro e w' ⟨A5, d5, rfl, hb⟩))
  all_goals
    rename_i hH
    have hBE := hH.2.2.2.2.2.2.2.2.2.2.2.2.2
    clear hH
    go_wp2_with fail
    go_ret
    exact ⟨rfl, keepB HB4.out hBE⟩
end Go.Proofs.Ytlmbkfdpgmmacaa
