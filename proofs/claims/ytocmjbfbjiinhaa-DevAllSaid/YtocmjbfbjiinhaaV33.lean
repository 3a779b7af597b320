/- A device beside two rows of strings; the region that sets them first. -/
import Derived.Test.YtocmjbfbjiinhaaV32
namespace Go.Proofs.Ytocmjbfbjiinhaa
open Go.ChangeShapes Go.WideShapes Go.ChangeAt Go.RowKit
set_option linter.unusedVariables false
theorem DS.touch {w0 W W' : World} {P : Nat → Prop} {q : Nat} {m : DM} (h : DS w0 W P q m) (ht : Touch P W W') (hP : ∀ k, P k → w0.heap.size ≤ k) : DS w0 W' P q m := by
  obtain ⟨F, h1, h2, h3⟩ := h.dev
  exact ⟨⟨F, h1.touch ht (fun k hf hp => h3 k hp hf), h2, h3⟩, fun k hk => Nat.lt_of_lt_of_le (h.low k hk) ht.size, h.bel.trans (ht.below h.bel.size hP)⟩
/-- A row of strings in a block of its own. -/
def Strs (W : World) (g : Nat) (X : List Value) : Prop := W.heap[g]? = some (.cells X.toArray 47 (0, 0))
theorem Strs.set {W : World} {g : Nat} {X : List Value} (h : Strs W g X) (i : Nat) (u : Value) : Strs (W.setCell ⟨g, i, none⟩ u) g (X.set i u) := by
  unfold Strs
  rw [heap_setCell_same' h, List.setIfInBounds_toArray]
theorem Strs.other {W W' : World} {g : Nat} {X : List Value} (h : Strs W g X) {F : Nat → Prop} (ht : Touch F W W') (hF : ¬ F g) : Strs W' g X := (ht.block g (room_lt h) hF).trans h
theorem Strs.same {W W' : World} {g : Nat} {X : List Value} (h : Strs W g X) {P : Nat → Prop} (hs : Same P W W') (hP : P g) : Strs W' g X := (hs.blk g hP).trans h
theorem Strs.below {W W' : World} {g : Nat} {X : List Value} (h : Strs W g X) (hb : Below W.heap.size W W') : Strs W' g X := (hb.block g (room_lt h)).trans h
theorem Strs.cell {W : World} {g : Nat} {X : List Value} (h : Strs W g X) (i : Nat) : W.cell? ⟨g, i, none⟩ = X[i]? := by rw [blk_cell h, List.getElem?_toArray]
theorem Strs.free {W : World} {g : Nat} {X : List Value} (h : Strs W g X) (i : Nat) : W.frozen? ⟨g, i, none⟩ = false := blk_free h i
def zS : ByteArray := strOfNums (fullV [])
def PK (g7 g8 : Nat) : Nat → Prop := fun k => k = g7 ∨ k = g8
def VK12 (k kq kr g7 g8 B : Nat) (X : List Value) (i : Nat) (v : Value) (w : World) : Prop :=
  match i with
  | 0 | 2 | 4 | 6 => v = .int .i64 k
  | 1 | 5 => v = .int .i64 kq
  | 3 | 7 => v = .int .i64 kr
  | 9 | 11 => v = .string zS
  | 12 => v = .pointer (some ⟨g7, kq * 4, none⟩)
  | 13 => v = .pointer (some ⟨g7, kq * 4 + kr, none⟩)
  | 15 => v = .pointer (some ⟨g8, kq * 4, none⟩)
  | 16 => v = .pointer (some ⟨g8, kq * 4 + kr, none⟩)
  | 8 => ∃ g, v = .slice (some ⟨g, 0, none⟩) 64 64 ∧ B ≤ g ∧ Blk64 w g (fullV [])
  | 10 => ∃ g, v = .slice (some ⟨g, 0, none⟩) 64 64 ∧ B ≤ g ∧ Blk64 w g (fullV [])
  | 14 => Strs w g7 X
  | _ => True
def SK12 (g7 : Nat) (i : Nat) (w w' : World) : Prop := if i = 14 then Touch (fun x => x = g7) w w' else w.grownBy w' none
theorem VK12.on {k kq kr g7 g8 B : Nat} {X : List Value} {i j : Nat} {v : Value} {w w' : World} (hB : g7 < B) (hij : i ≠ j) (h : VK12 k kq kr g7 g8 B X j v w) (hs : SK12 g7 i w w') : VK12 k kq kr g7 g8 B X j v w' := by
  have ht : Touch (fun x => x = g7 ∧ i = 14) w w' := by
    unfold SK12 at hs
    split at hs
    · rename_i e; exact hs.mono fun x _ hx => ⟨hx, e⟩
    · exact (Touch.of_grown hs).mono fun x _ hx => by cases hx
  unfold VK12 at *
  split <;> try exact h
  · obtain ⟨g, h1, h2, h3⟩ := h; exact ⟨g, h1, h2, (ht.block g (room_lt h3) (fun e => by omega)).trans h3⟩
  · obtain ⟨g, h1, h2, h3⟩ := h; exact ⟨g, h1, h2, (ht.block g (room_lt h3) (fun e => by omega)).trans h3⟩
  · exact h.other ht (fun e => by omega)
  · trivial
theorem upto_again (k : Nat) (s : ByteArray) (h : k < 8) : (upto (k + 1) s).set k (.string s) = upto (k + 1) s := by
  rw [← upto_set k s h, List.set_set]
theorem upto_at (k n : Nat) (s : ByteArray) (h : k < 8) (hn : n ≤ 8) : ∃ v, (upto n s)[k]? = some v := ⟨_, List.getElem?_eq_getElem (by rw [upto_length n s hn]; exact h)⟩
/-- What the world keeps in that region. -/
structure JK12 (w : World) (g7 g8 : Nat) (X Y : List Value) (W : World) : Prop where
  touch : Touch (PK g7 g8) w W
  s8 : Strs W g8 X
  s7 : Strs W g7 X ∨ Strs W g7 Y
theorem Touch.on_below {F : Nat → Prop} {a w w' : World} (h : Touch F a w) (hb : Below w.heap.size w w') : Touch F a w' := h.trans (Touch.of_below hb F)
theorem JK12.below {w : World} {g7 g8 : Nat} {X Y : List Value} {W W' : World} (h : JK12 w g7 g8 X Y W) (hb : Below W.heap.size W W') : JK12 w g7 g8 X Y W' :=
  ⟨h.touch.on_below hb, h.s8.below hb, h.s7.imp (fun g => g.below hb) (fun g => g.below hb)⟩
theorem grown_of_below {w w' : World} (hb : Below w.heap.size w w') : w.grownBy w' none := ⟨hb.os, hb.tape, hb.output, hb.size, fun k hk _ => hb.block k hk⟩
theorem full_nil (W : World) : Calls Try.prog 22 #[.slice none 0 0] W fun e w' => (∃ g, e = .returned (.slice (some ⟨g, 0, none⟩) 64 64) ∧ W.heap.size ≤ g ∧ Blk64 w' g (fullV [])) ∧ Below W.heap.size W w' :=
  full_any none [] 0 W (fun x hx => by cases hx) (fun i x hi => by cases hi) (by simp)
theorem Touch.mono' {F G : Nat → Prop} {a b : World} (h : Touch F a b) (hG : ∀ x, F x → G x) : Touch G a b := h.mono fun x _ hx => hG x hx
/-- The first store. -/
theorem JK12.store7 {w : World} {g7 g8 k : Nat} {W : World} (h : JK12 w g7 g8 (upto k zS) (upto (k + 1) zS) W) (hk : k < 8) (hne : g7 < g8) : Strs (W.setCell ⟨g7, k, none⟩ (.string zS)) g7 (upto (k + 1) zS) ∧ JK12 w g7 g8 (upto k zS) (upto (k + 1) zS) (W.setCell ⟨g7, k, none⟩ (.string zS)) ∧ SK12 g7 14 W (W.setCell ⟨g7, k, none⟩ (.string zS)) := by
  have h1 : Strs (W.setCell ⟨g7, k, none⟩ (.string zS)) g7 (upto (k + 1) zS) := by
    rcases h.s7 with h7 | h7
    · have := h7.set k (.string zS); rwa [upto_set k zS hk] at this
    · have := h7.set k (.string zS); rwa [upto_again k zS hk] at this
  have h2 : Touch (fun x => x = g7) W (W.setCell ⟨g7, k, none⟩ (.string zS)) := (Touch.refl (fun x => x = g7) W).setCell (p := ⟨g7, k, none⟩) rfl _
  refine ⟨h1, ⟨h.touch.trans (h2.mono' fun x hx => Or.inl hx), h.s8.other h2 (by omega), Or.inr h1⟩, ?_⟩
  unfold SK12; rw [if_pos rfl]; exact h2
theorem JK12.cell7 {w : World} {g7 g8 k : Nat} {W : World} (h : JK12 w g7 g8 (upto k zS) (upto (k + 1) zS) W) (hk : k < 8) : ∃ v, W.cell? ⟨g7, k, none⟩ = some v := by
  rcases h.s7 with h7 | h7
  · rw [h7.cell]; exact upto_at k k zS hk (by omega)
  · rw [h7.cell]; exact upto_at k (k + 1) zS hk (by omega)
theorem JK12.free7 {w : World} {g7 g8 k : Nat} {W : World} {X Y : List Value} (h : JK12 w g7 g8 X Y W) : W.frozen? ⟨g7, k, none⟩ = false := by
  rcases h.s7 with h7 | h7 <;> exact h7.free k
def VK21 (r ix k n d0 bl c g7 B : Nat) (a : Addr) (A : Option Addr) (bs : List Int) (i : Nat) (v : Value) (w : World) : Prop :=
  match i with
  | 0 => v = .int .i64 r
  | 1 => v = .int .i64 ix
  | 2 => v = .slice (some a) n d0
  | 3 => v = .int .i64 k
  | 4 => v = .pointer (some (a.add (k * 6)))
  | 5 => v = .pointer (some ⟨(a.add (k * 6)).block, (a.add (k * 6)).off + 4, none⟩)
  | 6 => v = .slice A bl c
  | 8 => v = .string (strOfNums (fullV bs))
  | 9 => v = .pointer (some ⟨g7, r * 4, none⟩)
  | 10 => v = .pointer (some ⟨g7, r * 4 + ix, none⟩)
  | 7 => ∃ g, v = .slice (some ⟨g, 0, none⟩) 64 64 ∧ B ≤ g ∧ Blk64 w g (fullV bs)
  | _ => True
theorem VK21.on {r ix k n d0 bl c g7 B : Nat} {a : Addr} {A : Option Addr} {bs : List Int} {j : Nat} {v : Value} {w w' : World} (h : VK21 r ix k n d0 bl c g7 B a A bs j v w) (hs : w.grownBy w' none) : VK21 r ix k n d0 bl c g7 B a A bs j v w' := by
  unfold VK21 at *
  split <;> try exact h
  · obtain ⟨g, h1, h2, h3⟩ := h; exact ⟨g, h1, h2, (hs.block g (room_lt h3) (by simp)).trans h3⟩
  · trivial
theorem size4 : (Try.prog.info? 46).map (·.size) = some 4 := by kernel_rfl
theorem size24 : (Try.prog.info? 47).map (·.size) = some 8 := by kernel_rfl
theorem Strs.range {W : World} {g : Nat} {X : Nat → List (List Int)} (h : Strs W g (two X)) (hf : Four X) {r : Nat} (hr : r < 2) : W.rangeAt g (r * 4) (sv (X r)) := fun j v hj => by
  rw [h.cell]; exact two_row hf hr hj
theorem Strs.there {W : World} {g : Nat} {X : List Value} (h : Strs W g X) {o n : Nat} (hl : o + n ≤ X.length) : W.there g o n := fun j hj => by
  rw [h.cell, h.free]
  exact ⟨by rw [List.getElem?_eq_getElem (by omega)]; rfl, rfl⟩
theorem Strs.setRow {W : World} {g : Nat} {X Y : Nat → List (List Int)} (h : Strs W g (two X)) (hf : Four X) {r : Nat} (hr : r < 2) (hY : (Y r).length = 4) (ho : ∀ k, k ≠ r → Y k = X k) : Strs (W.setCells g (r * 4) (sv (Y r))) g (two Y) := by
  have := setCells_same g 47 (sv (Y r)) (r * 4) W (two X) h (by rw [sv_length, hY, two_length hf]; omega)
  rw [two_splice hf hr hY ho] at this
  exact this
theorem K2.doB {m : DM} {n : Nat} (h : K2 m n) {r : Nat} (hr : r < 2) : m.doBarrier r = m.barrier r := by
  unfold DM.doBarrier
  rw [if_pos ⟨h.hasR hr, h.stopped⟩]
  rfl
theorem K2.doW {m : DM} {n : Nat} (h : K2 m n) {r i : Nat} (hr : r < 2) (hi : i < 4) {b : List Int} (hb : BlkOk b) : m.doWrite r i b = m.write r i b := by
  unfold DM.doWrite
  rw [if_pos ⟨h.hasB hr hi, hb.1, h.stopped⟩]
  rfl
end Go.Proofs.Ytocmjbfbjiinhaa
