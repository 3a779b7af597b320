/- The same contracts for every label, and the opening test of each law. -/
import Derived.Test.YtcdejkbjpllghaaT7
namespace Go.Proofs.Ytcdejkbjpllghaa
open Go.ChangeShapes Go.WideShapes Go.ChangeAt Go.RowKit
open Fl
set_option linter.unusedVariables false
def mayV (l c : Int) : Bool := decide (0 ≤ l ∧ l ≤ 3 ∧ 0 ≤ c ∧ c ≤ 15)
def aboveV (l c i j : Int) : Bool := mayV l c && mayV i j && aboveN l.toNat c.toNat i.toNat j.toNat
def lessV (l c i j : Int) : Bool := mayV l c && mayV i j && lessN l.toNat c.toNat i.toNat j.toNat
def joinL (l c i j : Int) : Int := if mayV l c && mayV i j then ((max l.toNat i.toNat : Nat) : Int) else 0
def joinC (l c i j : Int) : Int := if mayV l c && mayV i j then ((c.toNat ||| j.toNat : Nat) : Int) else 0
def meetL (l c i j : Int) : Int := if mayV l c && mayV i j then ((min l.toNat i.toNat : Nat) : Int) else 0
def meetC (l c i j : Int) : Int := if mayV l c && mayV i j then ((c.toNat &&& j.toNat : Nat) : Int) else 0
def putV (l c : Int) : Int := if mayV l c then ((l.toNat * 16 + c.toNat : Nat) : Int) else 0
theorem may_t {l c : Int} (h : mayV l c = true) : ∃ l' c' : Nat, l = l' ∧ c = c' ∧ l' ≤ 3 ∧ c' ≤ 15 := by
  have := of_decide_eq_true h
  exact ⟨l.toNat, c.toNat, by omega, by omega, by omega, by omega⟩
theorem may_f {l c : Int} (h : mayV l c = false) : bad l c := by
  have := of_decide_eq_false h
  unfold bad; omega
theorem may_all (l c : Int) (w : World) (hl : i64 l) (hc : i64 c) :
    Calls Try.prog 14 #[.agg #[.int .i64 l, .int .i64 c]] w fun e w' => e = .returned (.bool (mayV l c)) ∧ Below w.heap.size w w' := by
  cases h : mayV l c
  · exact may_no l c w hl hc (may_f h)
  · obtain ⟨l', c', rfl, rfl, h1, h2⟩ := may_t h
    exact may_yes l' c' w h1 h2
theorem bad2 {l c i j : Int} (h : (mayV l c && mayV i j) = false) : bad l c ∨ bad i j := by
  cases h1 : mayV l c
  · exact Or.inl (may_f h1)
  · rw [h1, Bool.true_and] at h; exact Or.inr (may_f h)
theorem above_all (l c i j : Int) (w : World) (hl : i64 l) (hc : i64 c) (hi : i64 i) (hj : i64 j) :
    Calls Try.prog 16 #[.agg #[.int .i64 l, .int .i64 c], .agg #[.int .i64 i, .int .i64 j]] w fun e w' => e = .returned (.bool (aboveV l c i j)) ∧ Below w.heap.size w w' := by
  unfold aboveV
  cases h : mayV l c && mayV i j
  · rw [Bool.false_and]; exact above_no l c i j w hl hc hi hj (bad2 h)
  · rw [Bool.and_eq_true] at h
    obtain ⟨l', c', rfl, rfl, h1, h2⟩ := may_t h.1
    obtain ⟨i', j', rfl, rfl, g1, g2⟩ := may_t h.2
    exact above_yes l' c' i' j' w h1 h2 g1 g2
theorem less_all (l c i j : Int) (w : World) (hl : i64 l) (hc : i64 c) (hi : i64 i) (hj : i64 j) :
    Calls Try.prog 22 #[.agg #[.int .i64 l, .int .i64 c], .agg #[.int .i64 i, .int .i64 j]] w fun e w' => e = .returned (.bool (lessV l c i j)) ∧ Below w.heap.size w w' := by
  unfold lessV
  cases h : mayV l c && mayV i j
  · rw [Bool.false_and]; exact less_no l c i j w hl hc hi hj (bad2 h)
  · rw [Bool.and_eq_true] at h
    obtain ⟨l', c', rfl, rfl, h1, h2⟩ := may_t h.1
    obtain ⟨i', j', rfl, rfl, g1, g2⟩ := may_t h.2
    exact less_yes l' c' i' j' w h1 h2 g1 g2
theorem join_all (l c i j : Int) (w : World) (hl : i64 l) (hc : i64 c) (hi : i64 i) (hj : i64 j) :
    Calls Try.prog 18 #[.agg #[.int .i64 l, .int .i64 c], .agg #[.int .i64 i, .int .i64 j]] w fun e w' => e = .returned (.agg #[.int .i64 (joinL l c i j), .int .i64 (joinC l c i j)]) ∧ Below w.heap.size w w' := by
  unfold joinL joinC
  cases h : mayV l c && mayV i j
  · exact Join_no l c i j w hl hc hi hj (bad2 h)
  · rw [Bool.and_eq_true] at h
    obtain ⟨l', c', rfl, rfl, h1, h2⟩ := may_t h.1
    obtain ⟨i', j', rfl, rfl, g1, g2⟩ := may_t h.2
    exact Join_yes l' c' i' j' w h1 h2 g1 g2
theorem meet_all (l c i j : Int) (w : World) (hl : i64 l) (hc : i64 c) (hi : i64 i) (hj : i64 j) :
    Calls Try.prog 20 #[.agg #[.int .i64 l, .int .i64 c], .agg #[.int .i64 i, .int .i64 j]] w fun e w' => e = .returned (.agg #[.int .i64 (meetL l c i j), .int .i64 (meetC l c i j)]) ∧ Below w.heap.size w w' := by
  unfold meetL meetC
  cases h : mayV l c && mayV i j
  · exact Meet_no l c i j w hl hc hi hj (bad2 h)
  · rw [Bool.and_eq_true] at h
    obtain ⟨l', c', rfl, rfl, h1, h2⟩ := may_t h.1
    obtain ⟨i', j', rfl, rfl, g1, g2⟩ := may_t h.2
    exact Meet_yes l' c' i' j' w h1 h2 g1 g2
theorem put_all (l c : Int) (w : World) (hl : i64 l) (hc : i64 c) :
    Calls Try.prog 10 #[.agg #[.int .i64 l, .int .i64 c]] w fun e w' => e = .returned (.tuple #[.int .u8 (putV l c), .bool (mayV l c)]) ∧ Below w.heap.size w w' := by
  unfold putV
  cases h : mayV l c
  · exact Put_no l c w hl hc (may_f h)
  · obtain ⟨l', c', rfl, rfl, h1, h2⟩ := may_t h
    exact Put_yes l' c' w h1 h2
def takeOk (b : Int) : Bool := decide (b < 64)
def takeL (b : Int) : Int := if takeOk b then b / 16 else 0
def takeC (b : Int) : Int := if takeOk b then b % 16 else 0
theorem take_all (b : Int) (w : World) (h : 0 ≤ b ∧ b < 256) :
    Calls Try.prog 12 #[.int .u8 b] w fun e w' => e = .returned (.tuple #[.agg #[.int .i64 (takeL b), .int .i64 (takeC b)], .bool (takeOk b)]) ∧ Below w.heap.size w w' := by
  unfold takeL takeC
  obtain ⟨n, rfl⟩ : ∃ n : Nat, b = n := ⟨b.toNat, by omega⟩
  cases g : takeOk n
  · have := of_decide_eq_false g
    exact Take_no n w (by omega) (by omega)
  · have := of_decide_eq_true g
    exact Take_yes n w (by omega)
theorem of_all (b : Int) (w : World) (h : 0 ≤ b ∧ b < 256) :
    Calls Try.prog 24 #[.int .u8 b] w fun e w' => e = .returned (.agg #[.int .i64 (b / 16 % 4), .int .i64 (b % 16)]) ∧ Below w.heap.size w w' := by
  obtain ⟨n, rfl⟩ : ∃ n : Nat, b = n := ⟨b.toNat, by omega⟩
  exact of_any n w (by omega)
theorem keepB {w W w1 : World} (h : Below w.heap.size w W) (hb : Below W.heap.size W w1) : Below w.heap.size w w1 := h.trans (hb.mono h.size)
theorem keepA {W : World} {a : Addr} {v : Value} (h : W.cell? a = some v) (o : Obj) : (W.alloc o).cell? a = some v := by
  rw [World.cell?_alloc_some W a o (by rw [h]; rfl)]; exact h
set_option maxRecDepth 100000 in
set_option maxHeartbeats 1600000 in
theorem begun_any (w : World) : Calls Try.prog 9 #[] w fun e w' => e = .returned (.bool true) ∧ Below w.heap.size w w' := by
  have v1 : putV 2 3 = 35 := by decide
  have v2 : mayV 2 3 = true := by decide
  have v3 : takeL 35 = 2 := by decide
  have v4 : takeC 35 = 3 := by decide
  have v5 : takeOk 35 = true := by decide
  have v6 : takeL 64 = 0 := by decide
  have v7 : takeC 64 = 0 := by decide
  have v8 : takeOk 64 = false := by decide
  have v9 : mayV 9 0 = false := by decide
  have v10 : aboveV 2 3 1 5 = false := by decide
  have v11 : joinL 2 3 1 5 = 2 := by decide
  have v12 : joinC 2 3 1 5 = 7 := by decide
  have v13 : aboveV 2 7 1 5 = true := by decide
  have v14 : meetL 2 3 1 5 = 1 := by decide
  have v15 : meetC 2 3 1 5 = 1 := by decide
  have v16 : lessV 1 5 2 3 = true := by decide
  go_enter Try.func9, Try.ntmps9
  go_wp2_with fail
  refine (put_all _ _ _ (by decide) (by decide)).mono ?_; rintro e w1 ⟨rfl, hb⟩
  have a0 := keep hb (b := w.heap.size) (o := 0) (v := .int .i64 2) (by simp [go_sem])
  have a1 := keep hb (b := w.heap.size) (o := 1) (v := .int .i64 3) (by simp [go_sem])
  have b0 := keep hb (b := w.heap.size + 1) (o := 0) (v := .int .i64 1) (by simp [go_sem])
  have b1 := keep hb (b := w.heap.size + 1) (o := 1) (v := .int .i64 5) (by simp [go_sem])
  have hB := ((((Below.refl w.heap.size w).alloc (Nat.le_refl _) _).alloc (by simp) _).trans (hb.mono (by simp; omega)))
  clear hb
  go_wp2_with fail
  refine (take_all _ _ (by decide)).mono ?_; rintro e w2 ⟨rfl, hb⟩
  replace a0 := keep hb a0
  replace b0 := keep hb b0
  replace a1 := keep hb a1
  replace b1 := keep hb b1
  replace hB := hB.trans (hb.mono hB.size)
  clear hb
  go_wp2_with fail
  generalize hr : w2.heap.size = r
  refine (take_all _ _ (by decide)).mono ?_; rintro e w3 ⟨rfl, hb⟩
  subst hr
  have c0 := keep hb (b := w2.heap.size) (o := 0) (v := .int .i64 2) (by simp [go_sem])
  have c1 := keep hb (b := w2.heap.size) (o := 1) (v := .int .i64 3) (by simp [go_sem])
  replace a0 := keep hb (keepA a0 _)
  replace b0 := keep hb (keepA b0 _)
  replace a1 := keep hb (keepA a1 _)
  replace b1 := keep hb (keepA b1 _)
  replace hB := keepB (hB.alloc hB.size _) hb
  clear hb
  generalize w2.heap.size = r at *
  generalize hp : w.heap.size = p at *
  go_wp2_with fail
  have z0 : (w3.alloc (Obj.cells #[.int .i64 0, .int .i64 0] 23)).cell? ⟨p, 0, none⟩ = some (.int .i64 2) := keepA a0 _
  have z1 : (w3.alloc (Obj.cells #[.int .i64 0, .int .i64 0] 23)).cell? ⟨p, 1, none⟩ = some (.int .i64 3) := keepA a1 _
  have z2 : (w3.alloc (Obj.cells #[.int .i64 0, .int .i64 0] 23)).cell? ⟨p + 1, 0, none⟩ = some (.int .i64 1) := keepA b0 _
  have z3 : (w3.alloc (Obj.cells #[.int .i64 0, .int .i64 0] 23)).cell? ⟨p + 1, 1, none⟩ = some (.int .i64 5) := keepA b1 _
  have z4 : (w3.alloc (Obj.cells #[.int .i64 0, .int .i64 0] 23)).cell? ⟨r, 0, none⟩ = some (.int .i64 2) := keepA c0 _
  have z5 : (w3.alloc (Obj.cells #[.int .i64 0, .int .i64 0] 23)).cell? ⟨r, 1, none⟩ = some (.int .i64 3) := keepA c1 _
  have zB : Below w.heap.size w (w3.alloc (Obj.cells #[.int .i64 0, .int .i64 0] 23)) := by rw [hp]; exact hB.alloc (by rw [← hp]; exact hB.size) _
  clear a0 a1 b0 b1 c0 c1 hB hp
  generalize w3.alloc (Obj.cells #[.int .i64 0, .int .i64 0] 23) = W at *
  go_region_held3 (fun wx => wx.cell? ⟨p, 0, none⟩ = some (.int .i64 2) ∧ wx.cell? ⟨p, 1, none⟩ = some (.int .i64 3) ∧ wx.cell? ⟨p + 1, 0, none⟩ = some (.int .i64 1) ∧ wx.cell? ⟨p + 1, 1, none⟩ = some (.int .i64 5) ∧ wx.cell? ⟨r, 0, none⟩ = some (.int .i64 2) ∧ wx.cell? ⟨r, 1, none⟩ = some (.int .i64 3) ∧ Below w.heap.size w wx)
    (first | exact ⟨z0, z1, z2, z3, z4, z5, zB.drew⟩ | (go_split_ands; exact ⟨keep hb (by assumption), keep hb (by assumption), keep hb (by assumption), keep hb (by assumption), keep hb (by assumption), keep hb (by assumption), keepB (by assumption) hb⟩))
    (first | (go_at_call 14; refine (may_all _ _ _ (by decide) (by decide)).mono ?_; rintro e w' ⟨rfl, hb⟩)
           | (go_at_call 16; refine (above_all _ _ _ _ _ (by decide) (by decide) (by decide) (by decide)).mono ?_; rintro e w' ⟨rfl, hb⟩)
           | (go_at_call 18; refine (join_all _ _ _ _ _ (by decide) (by decide) (by decide) (by decide)).mono ?_; rintro e w' ⟨rfl, hb⟩)
           | (go_at_call 20; refine (meet_all _ _ _ _ _ (by decide) (by decide) (by decide) (by decide)).mono ?_; rintro e w' ⟨rfl, hb⟩)
           | (go_at_call 22; refine (less_all _ _ _ _ _ (by decide) (by decide) (by decide) (by decide)).mono ?_; rintro e w' ⟨rfl, hb⟩))
  rename_i hH
  have hH2 := hH.2.2.2.2.2.2
  clear hH
  go_wp2_with fail
  go_ret
  exact ⟨rfl, hH2⟩
end Go.Proofs.Ytcdejkbjpllghaa
