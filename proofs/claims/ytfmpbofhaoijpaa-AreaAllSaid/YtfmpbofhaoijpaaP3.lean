/- Contract: a config made out of numbers: the share that is being made, carried behind the calls of Num. -/
import Derived.Test.YtfmpbofhaoijpaaP2
import Derived.Deep.RegionWith
namespace Go.Proofs.Ytfmpbofhaoijpaa
open Go.ChangeShapes Go.WideShapes Go.ChangeAt Go.RowKit
set_option linter.unusedVariables false
/-- Of the share that is being made. -/
def Draft (x : Sh) : Prop := 0 ≤ x.l ∧ x.l ≤ 3 ∧ 0 ≤ x.c ∧ x.c ≤ 15 ∧ 4 ≤ x.b ∧ x.b ≤ 200 ∧ 16 ≤ x.g ∧ x.g ≤ 100 ∧ 1 ≤ x.f ∧ x.f ≤ 50
/-- A draft's block. -/
def DraftAt (w0 : World) (pb : Nat) (A : Option Addr) (bs : List Int) (c : Nat) (W : World) (r8 : Nat) (x : Sh) : Prop :=
  Draft x ∧ W.heap[r8]? = some (.cells #[.int .i64 x.l, .int .i64 x.c, .int .i64 x.b, .int .i64 x.g, .int .i64 x.f] 35 (0, 0)) ∧ w0.heap.size ≤ r8 ∧ PW w0 pb A bs c W

/-- A fresh share. -/
abbrev drC : Array Value := #[.int .i64 0, .int .i64 0, .int .i64 0, .int .i64 0, .int .i64 0]
theorem new_keep {X W' : World} {pb : Nat} {o : Obj} (hg : (X.alloc o).grownBy W' (some pb)) (h : pb < X.heap.size) : W'.heap[X.heap.size]? = some o :=
  (hg.block X.heap.size (by simp) (fun e => by injection e; omega)).trans (heap_alloc_new X _)
theorem new_keepD {X W' : World} {pb : Nat} {o : Obj} (hg : (X.alloc o).drew.grownBy W' (some pb)) (h : pb < X.heap.size) : W'.heap[X.heap.size]? = some o :=
  (hg.block X.heap.size (by simp) (fun e => by injection e; omega)).trans (heap_alloc_new X _)

theorem new_keep2 {X W' : World} {pb : Nat} {o o2 : Obj} (hg : ((X.alloc o).alloc o2).grownBy W' (some pb)) (h : pb < X.heap.size) : W'.heap[X.heap.size]? = some o :=
  (hg.block X.heap.size (by simp; omega) (fun e => by injection e; omega)).trans ((Below.heap_alloc _ _ _ (by simp)).trans (heap_alloc_new X _))
theorem new_keep2D {X W' : World} {pb : Nat} {o o2 : Obj} (hg : ((X.alloc o).alloc o2).drew.grownBy W' (some pb)) (h : pb < X.heap.size) : W'.heap[X.heap.size]? = some o :=
  (hg.block X.heap.size (by simp; omega) (fun e => by injection e; omega)).trans ((Below.heap_alloc _ _ _ (by simp)).trans (heap_alloc_new X _))
theorem obj_keep {W W' : World} {pb b : Nat} {o : Obj} (ht : W.heap[b]? = some o) (hg : W.grownBy W' (some pb)) (hne : b ≠ pb) : W'.heap[b]? = some o :=
  (hg.block b (by
    rcases Nat.lt_or_ge b W.heap.size with h1 | h1
    · exact h1
    · rw [Array.getElem?_eq_none h1] at ht; cases ht) (fun e => by injection e; omega)).trans ht
theorem obj_keepA {W W' : World} {pb b : Nat} {o o2 : Obj} (ht : W.heap[b]? = some o) (hg : (W.alloc o2).grownBy W' (some pb)) (hne : b ≠ pb) : W'.heap[b]? = some o :=
  obj_keep ((World.grownBy_alloc W o2 none).block b (by
    rcases Nat.lt_or_ge b W.heap.size with h1 | h1
    · exact h1
    · rw [Array.getElem?_eq_none h1] at ht; cases ht) (by simp) |>.trans ht) hg hne
theorem dr_cells {W : World} {b : Nat} (h : W.heap[b]? = some (.cells drC 35 (0, 0))) :
    (W.cell? ⟨b, 0, none⟩ = some (.int .i64 0) ∧ W.cell? ⟨b, 1, none⟩ = some (.int .i64 0) ∧ W.cell? ⟨b, 2, none⟩ = some (.int .i64 0) ∧ W.cell? ⟨b, 3, none⟩ = some (.int .i64 0) ∧ W.cell? ⟨b, 4, none⟩ = some (.int .i64 0)) ∧
    (W.frozen? ⟨b, 0, none⟩ = false ∧ W.frozen? ⟨b, 1, none⟩ = false ∧ W.frozen? ⟨b, 2, none⟩ = false ∧ W.frozen? ⟨b, 3, none⟩ = false ∧ W.frozen? ⟨b, 4, none⟩ = false) :=
  ⟨⟨blk_cell h 0, blk_cell h 1, blk_cell h 2, blk_cell h 3, blk_cell h 4⟩, blk_free h 0, blk_free h 1, blk_free h 2, blk_free h 3, blk_free h 4⟩
theorem PW.set {w0 W : World} {pb : Nat} {A : Option Addr} {bs : List Int} {c b : Nat} (h0 : PW w0 pb A bs c w0) (h : PW w0 pb A bs c W) (hb : w0.heap.size ≤ b) (i : Nat) (v : Value) : PW w0 pb A bs c (W.setCell ⟨b, i, none⟩ v) := by
  obtain ⟨⟨n0, hp0⟩, _⟩ := h0
  have hl := hp0.lt
  obtain ⟨⟨nn, hp⟩, hg⟩ := h
  have hg2 : w0.grownBy (W.setCell ⟨b, i, none⟩ v) (some pb) :=
    ⟨hg.os, hg.tape, hg.output, Nat.le_trans hg.size (by simp [World.setCell]), fun k hk hne => (Below.heap_setCell _ _ _ _ (show k ≠ b by omega)).trans (hg.block k hk hne)⟩
  exact ⟨⟨nn, (Below.heap_setCell _ _ _ _ (show pb ≠ b by omega)).trans hp.blk, byt_grown hp0.byt hg2 hp.far, hp.far, hp.le⟩, hg2⟩
/-- What the five stores make of a fresh share. -/
abbrev five (W : World) (b : Nat) (v0 v1 v2 v3 v4 : Value) : World :=
  ((((W.setCell ⟨b, 0, none⟩ v0).setCell ⟨b, 1, none⟩ v1).setCell ⟨b, 2, none⟩ v2).setCell ⟨b, 3, none⟩ v3).setCell ⟨b, 4, none⟩ v4
theorem set_same' {w : World} {b i : Nat} {cs : Array Value} {T : TypeId} {fr : Nat × Nat} (hb : w.heap[b]? = some (.cells cs T fr)) (v : Value) :
    (w.setCell ⟨b, i, none⟩ v).heap[b]? = some (.cells (cs.setIfInBounds i v) T fr) := by
  simp [World.setCell, Array.getElem?_modify, hb]
theorem obj_alloc {W : World} {b : Nat} {o : Obj} (ht : W.heap[b]? = some o) (o2 : Obj) : (W.alloc o2).heap[b]? = some o :=
  (World.grownBy_alloc W o2 none).block b (by
    rcases Nat.lt_or_ge b W.heap.size with h1 | h1
    · exact h1
    · rw [Array.getElem?_eq_none h1] at ht; cases ht) (by simp) |>.trans ht
theorem five_heap {W : World} {b : Nat} (h : W.heap[b]? = some (.cells drC 35 (0, 0))) (v0 v1 v2 v3 v4 : Value) :
    (five W b v0 v1 v2 v3 v4).heap[b]? = some (.cells #[v0, v1, v2, v3, v4] 35 (0, 0)) :=
  set_same' (i := 4) (set_same' (i := 3) (set_same' (i := 2) (set_same' (i := 1) (set_same' (i := 0) h v0) v1) v2) v3) v4
theorem draft_made {w0 W : World} {pb : Nat} {A : Option Addr} {bs : List Int} {c b : Nat} (h0 : PW w0 pb A bs c w0) (h : PW w0 pb A bs c W) (hd : W.heap[b]? = some (.cells drC 35 (0, 0))) (hb : w0.heap.size ≤ b) (x : Sh) (hx : Draft x) :
    DraftAt w0 pb A bs c (five W b (.int .i64 x.l) (.int .i64 x.c) (.int .i64 x.b) (.int .i64 x.g) (.int .i64 x.f)) b x :=
  ⟨hx, five_heap hd _ _ _ _ _, hb, ((((h0.set h hb 0 _ |> h0.set) hb 1 _ |> h0.set) hb 2 _ |> h0.set) hb 3 _ |> h0.set) hb 4 _⟩

section
variable {w0 X W' : World} {pb : Nat} {A : Option Addr} {bs : List Int} {c : Nat} {o2 : Obj}
theorem tab_list {r : Nat} (h : r < 5) : ([.int .i64 8, .int .i64 20, .int .i64 40, .int .i64 4, .int .i64 100] : List Value)[r]'(by simpa using h) = .int .i64 (tabV r) := by
  have : r = 0 ∨ r = 1 ∨ r = 2 ∨ r = 3 ∨ r = 4 := by omega
  rcases this with rfl | rfl | rfl | rfl | rfl <;> rfl
theorem sz_alloc (W : World) (o : Obj) : (W.alloc o).heap.size = W.heap.size + 1 := by simp
theorem tab_a (hg : (X.alloc (.cells #[.int .i64 8, .int .i64 20, .int .i64 40, .int .i64 4, .int .i64 100] 3)).grownBy W' (some pb)) (h : PW w0 pb A bs c X) :
    W'.heap[X.heap.size]? = some (.cells #[.int .i64 8, .int .i64 20, .int .i64 40, .int .i64 4, .int .i64 100] 3 (0, 0)) ∧ X.heap.size ≠ pb := ⟨new_keep hg h.lt, Nat.ne_of_gt h.lt⟩
theorem tab_b (hg : ((X.alloc (.cells #[.int .i64 8, .int .i64 20, .int .i64 40, .int .i64 4, .int .i64 100] 3)).alloc o2).grownBy W' (some pb)) (h : PW w0 pb A bs c X) :
    W'.heap[X.heap.size]? = some (.cells #[.int .i64 8, .int .i64 20, .int .i64 40, .int .i64 4, .int .i64 100] 3 (0, 0)) ∧ X.heap.size ≠ pb := ⟨new_keep2 hg h.lt, Nat.ne_of_gt h.lt⟩
theorem tab_c (hg : (X.alloc (.cells #[.int .i64 8, .int .i64 20, .int .i64 40, .int .i64 4, .int .i64 100] 3)).drew.grownBy W' (some pb)) (h : PW w0 pb A bs c X) :
    W'.heap[X.heap.size]? = some (.cells #[.int .i64 8, .int .i64 20, .int .i64 40, .int .i64 4, .int .i64 100] 3 (0, 0)) ∧ X.heap.size ≠ pb := ⟨new_keepD hg h.lt, Nat.ne_of_gt h.lt⟩
theorem tab_d (hg : ((X.alloc (.cells #[.int .i64 8, .int .i64 20, .int .i64 40, .int .i64 4, .int .i64 100] 3)).alloc o2).drew.grownBy W' (some pb)) (h : PW w0 pb A bs c X) :
    W'.heap[X.heap.size]? = some (.cells #[.int .i64 8, .int .i64 20, .int .i64 40, .int .i64 4, .int .i64 100] 3 (0, 0)) ∧ X.heap.size ≠ pb := ⟨new_keep2D hg h.lt, Nat.ne_of_gt h.lt⟩
theorem dra_a (hg : (X.alloc (.cells #[.int .i64 0, .int .i64 0, .int .i64 0, .int .i64 0, .int .i64 0] 35)).grownBy W' (some pb)) (h : PW w0 pb A bs c X) :
    W'.heap[X.heap.size]? = some (.cells drC 35 (0, 0)) ∧ X.heap.size ≠ pb ∧ w0.heap.size ≤ X.heap.size := ⟨new_keep hg h.lt, Nat.ne_of_gt h.lt, h.2.size⟩
theorem dra_b (hg : ((X.alloc (.cells #[.int .i64 0, .int .i64 0, .int .i64 0, .int .i64 0, .int .i64 0] 35)).alloc o2).grownBy W' (some pb)) (h : PW w0 pb A bs c X) :
    W'.heap[X.heap.size]? = some (.cells drC 35 (0, 0)) ∧ X.heap.size ≠ pb ∧ w0.heap.size ≤ X.heap.size := ⟨new_keep2 hg h.lt, Nat.ne_of_gt h.lt, h.2.size⟩
theorem dra_c (hg : (X.alloc (.cells #[.int .i64 0, .int .i64 0, .int .i64 0, .int .i64 0, .int .i64 0] 35)).drew.grownBy W' (some pb)) (h : PW w0 pb A bs c X) :
    W'.heap[X.heap.size]? = some (.cells drC 35 (0, 0)) ∧ X.heap.size ≠ pb ∧ w0.heap.size ≤ X.heap.size := ⟨new_keepD hg h.lt, Nat.ne_of_gt h.lt, h.2.size⟩
theorem dra_d (hg : ((X.alloc (.cells #[.int .i64 0, .int .i64 0, .int .i64 0, .int .i64 0, .int .i64 0] 35)).alloc o2).drew.grownBy W' (some pb)) (h : PW w0 pb A bs c X) :
    W'.heap[X.heap.size]? = some (.cells drC 35 (0, 0)) ∧ X.heap.size ≠ pb ∧ w0.heap.size ≤ X.heap.size := ⟨new_keep2D hg h.lt, Nat.ne_of_gt h.lt, h.2.size⟩
end
set_option hygiene false in
macro "keepers" : tactic => `(tactic| (
  (try replace htb := obj_keep htb hg hnt); (try replace htb := obj_keepA htb hg hnt);
  (try replace hdb := obj_keep hdb hg hnd); (try replace hdb := obj_keepA hdb hg hnd);
  (try (have hab := tab_a hg (by first | exact hpw | exact hpw.alloc _); (try simp only [sz_alloc] at hab); obtain ⟨htb, hnt⟩ := hab));
  (try (have hab := tab_b hg (by first | exact hpw | exact hpw.alloc _); (try simp only [sz_alloc] at hab); obtain ⟨htb, hnt⟩ := hab));
  (try (have hab := tab_c hg (by first | exact hp0 | exact hp0.alloc _); (try simp only [sz_alloc] at hab); obtain ⟨htb, hnt⟩ := hab));
  (try (have hab := tab_d hg (by first | exact hp0 | exact hp0.alloc _); (try simp only [sz_alloc] at hab); obtain ⟨htb, hnt⟩ := hab));
  (try (have hab := dra_a hg (by first | exact hpw | exact hpw.alloc _); (try simp only [sz_alloc] at hab); obtain ⟨hdb, hnd, hsd⟩ := hab));
  (try (have hab := dra_b hg (by first | exact hpw | exact hpw.alloc _); (try simp only [sz_alloc] at hab); obtain ⟨hdb, hnd, hsd⟩ := hab));
  (try (have hab := dra_c hg (by first | exact hp0 | exact hp0.alloc _); (try simp only [sz_alloc] at hab); obtain ⟨hdb, hnd, hsd⟩ := hab));
  (try (have hab := dra_d hg (by first | exact hp0 | exact hp0.alloc _); (try simp only [sz_alloc] at hab); obtain ⟨hdb, hnd, hsd⟩ := hab));
  (try (have htc := (blk_cell htb r3).trans hti));
  (try (have htc2 := (blk_cell (obj_alloc htb (.cells #[.int .i64 0, .int .i64 0, .int .i64 0, .int .i64 0, .int .i64 0] 35)) r3).trans hti));
  (try (have htn1 := (blk_cell (heap_alloc_new w' (.cells #[.int .i64 8, .int .i64 20, .int .i64 40, .int .i64 4, .int .i64 100] 3)) r3).trans hti));
  (try (have htn2 := (blk_cell (obj_alloc (heap_alloc_new w' (.cells #[.int .i64 8, .int .i64 20, .int .i64 40, .int .i64 4, .int .i64 100] 3)) (.cells #[.int .i64 0, .int .i64 0, .int .i64 0, .int .i64 0, .int .i64 0] 35)) r3).trans hti));
  (try (have htn3 := (blk_cell (heap_alloc_new (w'.alloc (.cells #[.int .i64 0, .int .i64 0, .int .i64 0, .int .i64 0, .int .i64 0] 35)) (.cells #[.int .i64 8, .int .i64 20, .int .i64 40, .int .i64 4, .int .i64 100] 3)) r3).trans hti));
  (try (have hdc2 := dr_cells (obj_alloc hdb (.cells #[.int .i64 8, .int .i64 20, .int .i64 40, .int .i64 4, .int .i64 100] 3)); obtain ⟨⟨hda0, hda1, hda2, hda3, hda4⟩, hfa0, hfa1, hfa2, hfa3, hfa4⟩ := hdc2));
  (try (have hdc := dr_cells hdb; obtain ⟨⟨hd0, hd1, hd2, hd3, hd4⟩, hf0, hf1, hf2, hf3, hf4⟩ := hdc));
  replace hpw := hpw2; clear hg hpw2))
end Go.Proofs.Ytfmpbofhaoijpaa
