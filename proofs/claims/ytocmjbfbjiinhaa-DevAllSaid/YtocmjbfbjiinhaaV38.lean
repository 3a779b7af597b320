/- What a trace says, done again; two devices beside protected blocks (for DevTraces). -/
import Derived.Test.YtocmjbfbjiinhaaV37
namespace Go.Proofs.Ytocmjbfbjiinhaa
open Go.ChangeShapes Go.WideShapes Go.ChangeAt Go.RowKit
set_option linter.unusedVariables false
/-- One text of a trace done to a row: what is, what is sure. -/
def tStep (s : List (List Int) × List (List Int)) (t : List Int) : List (List Int) × List (List Int) :=
  if t.length = 2 then (s.1, s.1) else (s.1.set ((t.getD 0 0).toNat * 256 + (t.getD 1 0).toNat) (t.drop 2), s.2)
def z4 : List (List Int) := nowRow (DM.make [4, 4]) 0
def tRun (l : List (List Int)) : List (List Int) × List (List Int) := l.foldl tStep (z4, z4)
theorem tRun_snoc (l : List (List Int)) (t : List Int) : tRun (l ++ [t]) = tStep (tRun l) t := by unfold tRun; rw [List.foldl_append]; rfl
/-- What a trace's texts are, of four blocks. -/
def TrT (t : List Int) : Prop := t = [255, 255] ∨ ∃ (i : Nat) (b : List Int), i < 4 ∧ BlkOk b ∧ t = (0 : Int) :: (i : Int) :: b
theorem tStep_bar (s : List (List Int) × List (List Int)) : tStep s [255, 255] = (s.1, s.1) := by unfold tStep; simp
theorem tStep_wr (s : List (List Int) × List (List Int)) {i : Nat} {b : List Int} (hb : BlkOk b) : tStep s ((0 : Int) :: (i : Int) :: b) = (s.1.set i b, s.2) := by
  unfold tStep
  rw [if_neg (by simp [hb.1])]
  simp
theorem traceB_wr (r : Nat) {i : Nat} (b : List Int) (hi : i < 4) : traceB ⟨r, i, b⟩ = (0 : Int) :: (i : Int) :: b := by
  unfold traceB
  dsimp only
  rw [if_neg (by omega), show i / 256 = 0 by omega, show i % 256 = i by omega]
  rfl
/-- A device of four blocks each whose traces say what was done. -/
structure Tr (m : DM) : Prop where
  run : ∀ r, r < 2 → tRun (traceL m r) = (nowRow m r, sureRow m r)
  txt : ∀ r, ∀ t ∈ traceL m r, TrT t
  len : ∀ r, (traceL m r).length ≤ m.done.length
theorem Tr.make : Tr (DM.make [4, 4]) where
  run := fun r hr => by match r, hr with | 0, _ => rfl | 1, _ => rfl
  txt := fun r t ht => by unfold traceL DM.make at ht; simp at ht
  len := fun r => by unfold traceL DM.make; simp
theorem tr_len (m : DM) (r : Nat) : (traceL m r).length ≤ m.done.length := by unfold traceL; rw [List.length_map]; exact List.length_filter_le _ _
theorem Tr.write {m : DM} {n : Nat} (h : Tr m) (hK : K2 m n) {r i : Nat} (hr : r < 2) (hi : i < 4) (b : List Int) (hb : BlkOk b) (hok : (m.write r i b).Ok) : Tr (m.write r i b) := by
  obtain ⟨_, _, e1, e2, e3⟩ := hK.write hr hi b hb hok
  refine ⟨fun k hk => ?_, fun k t ht => ?_, fun k => tr_len _ _⟩
  · rw [traceL_write, e3]
    by_cases e : r = k
    · subst e
      rw [if_pos rfl, tRun_snoc, h.run r hr, traceB_wr _ _ hi, tStep_wr _ hb, e1]
    · rw [if_neg e, List.append_nil, h.run k hk, e2 k (Ne.symm e)]
  · rw [traceL_write] at ht
    rcases List.mem_append.1 ht with ht | ht
    · exact h.txt k t ht
    · split at ht
      · rw [List.mem_singleton.1 ht, traceB_wr _ _ hi]; exact Or.inr ⟨i, b, hi, hb, rfl⟩
      · cases ht
theorem Tr.barrier {m : DM} {n : Nat} (h : Tr m) (hK : K2 m n) {r : Nat} (hr : r < 2) (hok : (m.barrier r).Ok) : Tr (m.barrier r) := by
  obtain ⟨_, _, e1, e2, e3⟩ := hK.barrier hr hok
  refine ⟨fun k hk => ?_, fun k t ht => ?_, fun k => tr_len _ _⟩
  · rw [traceL_barrier, e3]
    by_cases e : r = k
    · subst e
      rw [if_pos rfl, tRun_snoc, h.run r hr, tStep_bar, e1]
    · rw [if_neg e, List.append_nil, h.run k hk, e2 k (Ne.symm e)]
  · rw [traceL_barrier] at ht
    rcases List.mem_append.1 ht with ht | ht
    · exact h.txt k t ht
    · split at ht
      · rw [List.mem_singleton.1 ht]; exact Or.inl rfl
      · cases ht
/-- The device that does it again, at text k of region r. -/
structure Again (m me : DM) (N r k : Nat) : Prop where
  k2 : K2 me N
  low : ∀ s, s < r → sureRow me s = sureRow m s
  at_ : r < 2 → (nowRow me r, sureRow me r) = tRun ((traceL m r).take k)
  high : ∀ s, r < s → s < 2 → nowRow me s = z4 ∧ sureRow me s = z4
theorem Again.start (m : DM) : Again m (DM.make [4, 4]) 0 0 0 where
  k2 := K2.make
  low := fun s hs => by omega
  at_ := fun _ => rfl
  high := fun s h1 h2 => by obtain rfl : s = 1 := by omega
                            exact ⟨rfl, rfl⟩
theorem Again.next {m me : DM} {N r k : Nat} (h : Again m me N r k) (ht : Tr m) (hr : r < 2) (hk : (traceL m r).length ≤ k) : Again m me N (r + 1) 0 where
  k2 := h.k2
  low := fun s hs => by
    by_cases e : s = r
    · subst e
      have h1 := h.at_ hr
      rw [List.take_of_length_le hk, ht.run s hr] at h1
      exact congrArg Prod.snd h1
    · exact h.low s (by omega)
  at_ := fun h1 => by
    obtain ⟨a, b⟩ := h.high (r + 1) (by omega) h1
    rw [a, b, List.take_zero]; rfl
  high := fun s h1 h2 => h.high s (by omega) h2
theorem Again.bar {m me : DM} {N r k : Nat} (h : Again m me N r k) (hr : r < 2) (ht : (traceL m r)[k]? = some [255, 255]) (hok : (me.barrier r).Ok) : Again m (me.barrier r) (N + 1) r (k + 1) := by
  obtain ⟨_, k2, e1, e2, e3⟩ := h.k2.barrier hr hok
  refine ⟨k2, fun s hs => by rw [e2 s (by omega)]; exact h.low s hs, fun _ => ?_, fun s h1 h2 => by rw [e3, e2 s (by omega)]; exact h.high s h1 h2⟩
  rw [take_snoc' ht, tRun_snoc, ← h.at_ hr, tStep_bar, e1, e3]
theorem Again.wr {m me : DM} {N r k i : Nat} {b : List Int} (h : Again m me N r k) (hr : r < 2) (hi : i < 4) (hb : BlkOk b) (ht : (traceL m r)[k]? = some ((0 : Int) :: (i : Int) :: b)) (hok : (me.write r i b).Ok) : Again m (me.write r i b) (N + 1) r (k + 1) := by
  obtain ⟨_, k2, e1, e2, e3⟩ := h.k2.write hr hi b hb hok
  refine ⟨k2, fun s hs => by rw [e3]; exact h.low s hs, fun _ => ?_, fun s h1 h2 => by rw [e3, e2 s (by omega)]; exact h.high s h1 h2⟩
  rw [take_snoc' ht, tRun_snoc, ← h.at_ hr, tStep_wr _ hb, e1, e3]
/-- Two devices, apart from one another and from what P names. -/
structure D2P (w0 W : World) (P : Nat → Prop) (q : Nat) (m : DM) (q' : Nat) (m' : DM) : Prop where
  devs : ∃ F F', Dev W F q m ∧ Dev W F' q' m' ∧ (∀ k, F k → w0.heap.size ≤ k) ∧ (∀ k, F' k → w0.heap.size ≤ k) ∧ (∀ k, F k → ¬ F' k) ∧ ∀ k, P k → ¬ F k ∧ ¬ F' k
  low : ∀ k, P k → k < W.heap.size
  bel : Below w0.heap.size w0 W
section
variable {w0 W W' : World} {q q' : Nat} {m m' n : DM} {P P' : Nat → Prop}
theorem D2P.two (h : D2P w0 W P q m q' m') : D2 w0 W q m q' m' := by
  obtain ⟨F, F', h1, h2, h3, h4, h5, _⟩ := h.devs
  exact ⟨⟨F, F', h1, h2, h3, h4, h5⟩, h.bel⟩
theorem D2P.swap (h : D2P w0 W P q m q' m') : D2P w0 W P q' m' q m := by
  obtain ⟨F, F', h1, h2, h3, h4, h5, h6⟩ := h.devs
  exact ⟨⟨F', F, h2, h1, h4, h3, fun k hk hf => h5 k hf hk, fun k hk => ⟨(h6 k hk).2, (h6 k hk).1⟩⟩, h.low, h.bel⟩
theorem D2P.ok (h : D2P w0 W P q m q' m') : m.Ok := h.two.ok
/-- New blocks may be protected. -/
theorem D2.fresh (h : D2 w0 W q m q' m') (hb : Below W.heap.size W W') : D2P w0 W' (fun k => W.heap.size ≤ k ∧ k < W'.heap.size) q m q' m' := by
  obtain ⟨F, F', h1, h2, h3, h4, h5⟩ := h.devs
  have l1 : ∀ k, F k → k < W.heap.size := by obtain ⟨O, L, _, _, h⟩ := h1; exact h
  have l2 : ∀ k, F' k → k < W.heap.size := by obtain ⟨O, L, _, _, h⟩ := h2; exact h
  exact ⟨⟨F, F', h1.below hb, h2.below hb, h3, h4, h5, fun k hk => ⟨fun hf => by have := l1 k hf; omega, fun hf => by have := l2 k hf; omega⟩⟩, fun k hk => hk.2, h.bel.trans (hb.mono h.bel.size)⟩
theorem D2P.below (h : D2P w0 W P q m q' m') (hb : Below W.heap.size W W') : D2P w0 W' P q m q' m' := by
  obtain ⟨F, F', h1, h2, h3, h4, h5, h6⟩ := h.devs
  exact ⟨⟨F, F', h1.below hb, h2.below hb, h3, h4, h5, h6⟩, fun k hk => Nat.lt_of_lt_of_le (h.low k hk) hb.size, h.bel.trans (hb.mono h.bel.size)⟩
theorem D2P.step {F F' : Nat → Prop} (h1 : Dev W F q m) (h2 : Dev W F' q' m') (h3 : ∀ k, F k → w0.heap.size ≤ k) (h4 : ∀ k, F' k → w0.heap.size ≤ k) (h5 : ∀ k, F k → ¬ F' k) (h6 : ∀ k, P k → ¬ F k ∧ ¬ F' k) (hl : ∀ k, P k → k < W.heap.size) (hb : Below w0.heap.size w0 W) (hs : DevStep W W' F q n) : D2P w0 W' P q n q' m' ∧ Same P W W' := by
  obtain ⟨F2, g1, g2, g3⟩ := hs
  have hsz := hb.size
  have hlt : ∀ k, F' k → k < W.heap.size := by obtain ⟨O, L, _, _, h⟩ := h2; exact h
  refine ⟨⟨⟨F2, F', g1, h2.touch g2 (fun k hk hf => h5 k hf hk), fun k hk => ?_, h4, fun k hk hf => ?_, fun k hk => ⟨fun hf => ?_, (h6 k hk).2⟩⟩, fun k hk => Nat.lt_of_lt_of_le (hl k hk) g2.size, hb.trans (g2.below hsz h3)⟩, fun k hk => g2.block k (hl k hk) (h6 k hk).1, g2.size⟩
  · rcases g3 k hk with h | h
    · exact h3 k h
    · omega
  · rcases g3 k hk with h | h
    · exact h5 k h hf
    · have := hlt k hf; omega
  · rcases g3 k hf with h | h
    · exact (h6 k hk).1 h
    · have := hl k hk; omega
theorem D2P.write (h : D2P w0 W P q m q' m') (r i : Int) (hr : i64 r) (hi : i64 i) (A : Option Addr) (c : Nat) (bs : List Int) (hb : BlkOk bs) (hy : Byt W A bs) (hmax : m.done.length ≤ 1000000) :
    Calls Try.prog 21 #[.pointer (some ⟨q, 0, none⟩), .int .i64 r, .int .i64 i, .slice A 64 c] W fun e w' => e = .returned (.bool (hasB m r i)) ∧ D2P w0 w' P q (m.doWrite r i bs) q' m' ∧ Same P W w' := by
  obtain ⟨F, F', h1, h2, h3, h4, h5, h6⟩ := h.devs
  have hw := write_any h1 r i hr hi A bs c hb.2 hy (by rw [hb.1]; omega) hmax
  rw [hb.1] at hw
  have e : okWrite m r i bs = hasB m r i := by unfold okWrite; rw [hb.1]; simp
  rw [e] at hw
  exact hw.mono fun e w' ⟨he, hs⟩ => ⟨he, D2P.step h1 h2 h3 h4 h5 h6 h.low h.bel hs⟩
theorem D2P.barrier (h : D2P w0 W P q m q' m') (r : Int) (hr : i64 r) (hmax : m.done.length < 1000000) :
    Calls Try.prog 13 #[.pointer (some ⟨q, 0, none⟩), .int .i64 r] W fun e w' => e = .returned (.bool (hasR m r)) ∧ D2P w0 w' P q (m.doBarrier r) q' m' ∧ Same P W w' := by
  obtain ⟨F, F', h1, h2, h3, h4, h5, h6⟩ := h.devs
  exact (barrier_any h1 r hr hmax).mono fun e w' ⟨he, hs⟩ => ⟨he, D2P.step h1 h2 h3 h4 h5 h6 h.low h.bel hs⟩
theorem D2.crash0 (h : D2 w0 W q m q' m') (hmax : m.done.length ≤ 1000000) :
    Calls Try.prog 18 #[.pointer (some ⟨q, 0, none⟩), .slice none 0 0] W fun e w' => e = .returned (.tuple #[]) ∧ D2 w0 w' q (m.crash []) q' m' :=
  h.crashOld none [] 0 (fun F _ i bs hi => by cases hi) (by simp) hmax
theorem D2.trace (h : D2 w0 W q m q' m') (r : Nat) (hr : r < m.now.length) (hmax : m.done.length < 1000000) :
    Calls Try.prog 29 #[.pointer (some ⟨q, 0, none⟩), .int .i64 r] W fun e w' => ∃ v, e = .returned v ∧ RowsAt w' (fun k => W.heap.size ≤ k ∧ k < w'.heap.size) (fun _ k => W.heap.size ≤ k ∧ k < w'.heap.size) 31 5 1 Bs v (traceL m r) ∧ D2P w0 w' (fun k => W.heap.size ≤ k ∧ k < w'.heap.size) q m q' m' := by
  obtain ⟨F, F', h1, h2, h3, h4, h5⟩ := h.devs
  obtain ⟨O, L, g1, g2, g3⟩ := h1
  refine (trace_any g1 r hr hmax).mono ?_
  rintro e w' ⟨⟨v, rfl, ht⟩, hb⟩
  exact ⟨v, rfl, RowsAt.owner ht (fun k h1 h2 => ⟨h2, h1⟩) (fun r k h1 h2 => ⟨h2, h1⟩), h.fresh hb⟩
end
/-- Texts under protection. -/
theorem RowsAt.same {α : Type} {w w' : World} {P : Nat → Prop} {ET ER : TypeId} {sz : Nat} {enc : List α → List Value} {v : Value} {rows : List (List α)} (h : RowsAt w P (fun _ => P) ET ER sz enc v rows) (hs : Same P w w') : RowsAt w' P (fun _ => P) ET ER sz enc v rows :=
  h.keep fun k _ ho => hs.blk k (by rcases ho with ho | ⟨_, ho⟩ <;> exact ho)
theorem RowsAt.below {α : Type} {w w' : World} {P : Nat → Prop} {ET ER : TypeId} {sz : Nat} {enc : List α → List Value} {v : Value} {rows : List (List α)} (h : RowsAt w P (fun _ => P) ET ER sz enc v rows) (hb : Below w.heap.size w w') : RowsAt w' P (fun _ => P) ET ER sz enc v rows :=
  h.keep fun k hk _ => hb.block k hk
end Go.Proofs.Ytocmjbfbjiinhaa
