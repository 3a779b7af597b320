/- Two devices that do not meet (for the laws of copies and of traces). -/
import Derived.Test.YtocmjbfbjiinhaaV34
namespace Go.Proofs.Ytocmjbfbjiinhaa
open Go.ChangeShapes Go.WideShapes Go.ChangeAt Go.RowKit
set_option linter.unusedVariables false
/-- Two devices newer than w0, apart from one another. -/
structure D2 (w0 W : World) (q : Nat) (m : DM) (q' : Nat) (m' : DM) : Prop where
  devs : ∃ F F', Dev W F q m ∧ Dev W F' q' m' ∧ (∀ k, F k → w0.heap.size ≤ k) ∧ (∀ k, F' k → w0.heap.size ≤ k) ∧ ∀ k, F k → ¬ F' k
  bel : Below w0.heap.size w0 W
section
variable {w0 W W' : World} {q q' : Nat} {m m' n : DM}
theorem D2.swap (h : D2 w0 W q m q' m') : D2 w0 W q' m' q m := by
  obtain ⟨F, F', h1, h2, h3, h4, h5⟩ := h.devs
  exact ⟨⟨F', F, h2, h1, h4, h3, fun k hk hf => h5 k hf hk⟩, h.bel⟩
theorem D2.ok (h : D2 w0 W q m q' m') : m.Ok := by obtain ⟨F, F', h1, _⟩ := h.devs; exact h1.ok
theorem D2.below (h : D2 w0 W q m q' m') (hb : Below W.heap.size W W') : D2 w0 W' q m q' m' := by
  obtain ⟨F, F', h1, h2, h3, h4, h5⟩ := h.devs
  exact ⟨⟨F, F', h1.below hb, h2.below hb, h3, h4, h5⟩, h.bel.trans (hb.mono h.bel.size)⟩
/-- A step of the first device leaves the second as it was. -/
theorem D2.step {F F' : Nat → Prop} (h1 : Dev W F q m) (h2 : Dev W F' q' m') (h3 : ∀ k, F k → w0.heap.size ≤ k) (h4 : ∀ k, F' k → w0.heap.size ≤ k) (h5 : ∀ k, F k → ¬ F' k) (hb : Below w0.heap.size w0 W) (hs : DevStep W W' F q n) : D2 w0 W' q n q' m' := by
  obtain ⟨F2, g1, g2, g3⟩ := hs
  have hsz := hb.size
  have hlt : ∀ k, F' k → k < W.heap.size := by obtain ⟨O, L, _, _, h⟩ := h2; exact h
  refine ⟨⟨F2, F', g1, h2.touch g2 (fun k hk hf => h5 k hf hk), fun k hk => ?_, h4, fun k hk hf => ?_⟩, hb.trans (g2.below hsz h3)⟩
  · rcases g3 k hk with h | h
    · exact h3 k h
    · omega
  · rcases g3 k hk with h | h
    · exact h5 k h hf
    · have := hlt k hf; omega
theorem D2.write (h : D2 w0 W q m q' m') (r i : Int) (hr : i64 r) (hi : i64 i) (g : Nat) (bs : List Int) (hb : BlkOk bs) (hy : Blk64 W g bs) (hmax : m.done.length ≤ 1000000) :
    Calls Try.prog 21 #[.pointer (some ⟨q, 0, none⟩), .int .i64 r, .int .i64 i, .slice (some ⟨g, 0, none⟩) 64 64] W fun e w' => e = .returned (.bool (hasB m r i)) ∧ D2 w0 w' q (m.doWrite r i bs) q' m' := by
  obtain ⟨F, F', h1, h2, h3, h4, h5⟩ := h.devs
  have hw := write_any h1 r i hr hi (some ⟨g, 0, none⟩) bs 64 hb.2 hy.byt (by rw [hb.1]; omega) hmax
  rw [hb.1] at hw
  have e : okWrite m r i bs = hasB m r i := by unfold okWrite; rw [hb.1]; simp
  rw [e] at hw
  exact hw.mono fun e w' ⟨he, hs⟩ => ⟨he, D2.step h1 h2 h3 h4 h5 h.bel hs⟩
theorem D2.barrier (h : D2 w0 W q m q' m') (r : Int) (hr : i64 r) (hmax : m.done.length < 1000000) :
    Calls Try.prog 13 #[.pointer (some ⟨q, 0, none⟩), .int .i64 r] W fun e w' => e = .returned (.bool (hasR m r)) ∧ D2 w0 w' q (m.doBarrier r) q' m' := by
  obtain ⟨F, F', h1, h2, h3, h4, h5⟩ := h.devs
  exact (barrier_any h1 r hr hmax).mono fun e w' ⟨he, hs⟩ => ⟨he, D2.step h1 h2 h3 h4 h5 h.bel hs⟩
/-- A Crash, its texts in blocks that are older than both. -/
theorem D2.crashOld (h : D2 w0 W q m q' m') (A : Option Addr) (ks : List (List Int)) (c : Nat) (hks : ∀ F, (∀ k, F k → w0.heap.size ≤ k) → TxtsF W F A ks) (hkl : ks.length ≤ 1000000) (hmax : m.done.length ≤ 1000000) :
    Calls Try.prog 18 #[.pointer (some ⟨q, 0, none⟩), .slice A ks.length c] W fun e w' => e = .returned (.tuple #[]) ∧ D2 w0 w' q (m.crash ks) q' m' := by
  obtain ⟨F, F', h1, h2, h3, h4, h5⟩ := h.devs
  exact (crash_any h1 A ks c (hks F h3) hkl hmax).mono fun e w' ⟨he, hs⟩ => ⟨he, D2.step h1 h2 h3 h4 h5 h.bel hs⟩
/-- .. in blocks that are newer than both. -/
theorem D2.crashNew (h : D2 w0 W q m q' m') (hb : Below W.heap.size W W') (A : Option Addr) (ks : List (List Int)) (c : Nat) (hks : ∀ F, (∀ k, F k → k < W.heap.size) → TxtsF W' F A ks) (hkl : ks.length ≤ 1000000) (hmax : m.done.length ≤ 1000000) :
    Calls Try.prog 18 #[.pointer (some ⟨q, 0, none⟩), .slice A ks.length c] W' fun e w' => e = .returned (.tuple #[]) ∧ D2 w0 w' q (m.crash ks) q' m' := by
  obtain ⟨F, F', h1, h2, h3, h4, h5⟩ := h.devs
  have hlt : ∀ k, F k → k < W.heap.size := by obtain ⟨O, L, _, _, h⟩ := h1; exact h
  exact (crash_any (h1.below hb) A ks c (hks F hlt) hkl hmax).mono fun e w' ⟨he, hs⟩ => ⟨he, D2.step (h1.below hb) (h2.below hb) h3 h4 h5 (h.bel.trans (hb.mono h.bel.size)) hs⟩
theorem D2.read (h : D2 w0 W q m q' m') (r i : Int) (hr : i64 r) (hi : i64 i) {b : List Int} (hb : hasB m r i = true) (hg : (m.now.getD r.toNat [])[i.toNat]? = some b) :
    Calls Try.prog 26 #[.pointer (some ⟨q, 0, none⟩), .int .i64 r, .int .i64 i] W fun e w' => (∃ g, e = .returned (.tuple #[.slice (some ⟨g, 0, none⟩) 64 64, .bool true]) ∧ w'.heap[g]? = some (.cells (Bs b).toArray 73 (0, 0))) ∧ D2 w0 w' q m q' m' ∧ Below W.heap.size W w' := by
  obtain ⟨F, F', h1, h2, h3, h4, h5⟩ := h.devs
  refine (read_any h1 r i hr hi).mono ?_
  rintro e w' ⟨⟨v, rfl, ha⟩, hbel⟩
  rcases ha with ⟨g1, _⟩ | ⟨_, g, b', g2, _, rfl, g3, g4⟩
  · rw [hb] at g1; cases g1
  · rw [hg] at g2; injection g2 with g2; subst g2
    exact ⟨⟨g, rfl, g4⟩, h.below hbel, hbel⟩
/-- A Copy. -/
theorem DS.copy2 {P : Nat → Prop} (h : DS w0 W P q m) (hmax : m.done.length ≤ 1000000) : Calls Try.prog 20 #[.pointer (some ⟨q, 0, none⟩)] W fun e w' => ∃ q', e = .returned (.pointer (some ⟨q', 0, none⟩)) ∧ D2 w0 w' q m q' m := by
  obtain ⟨F, h1, h2, h3⟩ := h.dev
  have hlt : ∀ k, F k → k < W.heap.size := by obtain ⟨O, L, _, _, h⟩ := h1; exact h
  obtain ⟨O, L, g1, g2, g3⟩ := h1
  refine (copy_any g1 hmax).mono ?_
  rintro e w' ⟨⟨q', F', rfl, hd, hF⟩, hb⟩
  have hsz := h.bel.size
  exact ⟨q', rfl, ⟨F, F', Dev.below ⟨O, L, g1, g2, g3⟩ hb, hd, h2, fun k hk => Nat.le_trans hsz (hF k hk), fun k hk hf => by have := hlt k hk; have := hF k hf; omega⟩, h.bel.trans (hb.mono hsz)⟩
/-- Two that were made. -/
theorem D2.made {P : Nat → Prop} (h : DS w0 W P q m) {F' : Nat → Prop} (hd : Dev W' F' q' m') (hF : ∀ k, F' k → W.heap.size ≤ k) (hb : Below W.heap.size W W') : D2 w0 W' q m q' m' := by
  obtain ⟨F, h1, h2, h3⟩ := h.dev
  have hlt : ∀ k, F k → k < W.heap.size := by obtain ⟨O, L, _, _, h⟩ := h1; exact h
  have hsz := h.bel.size
  exact ⟨⟨F, F', h1.below hb, hd, h2, fun k hk => Nat.le_trans hsz (hF k hk), fun k hk hf => by have := hlt k hk; have := hF k hf; omega⟩, h.bel.trans (hb.mono hsz)⟩
end
end Go.Proofs.Ytocmjbfbjiinhaa
