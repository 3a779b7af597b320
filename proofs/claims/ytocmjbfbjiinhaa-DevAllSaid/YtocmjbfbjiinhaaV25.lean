/- Contract: full; a device among protected blocks. -/
import Derived.Test.YtocmjbfbjiinhaaV24
namespace Go.Proofs.Ytocmjbfbjiinhaa
open Go.ChangeShapes Go.WideShapes Go.ChangeAt Go.RowKit
set_option linter.unusedVariables false
def fullV (bs : List Int) : List Int := bs.take 64 ++ List.replicate (64 - bs.length) 0
theorem fullV_ok {bs : List Int} (h : AllB bs) : BlkOk (fullV bs) := by
  unfold fullV
  refine ⟨by rw [List.length_append, List.length_take, List.length_replicate]; omega, fun x hx => ?_⟩
  rcases List.mem_append.1 hx with hx | hx
  · exact h x (List.mem_of_mem_take hx)
  · rw [(List.mem_replicate.1 hx).2]; omega
theorem made_u8 (n : Nat) : (madeCells (Value.int .u8 0).cells n).toList = Bs (List.replicate n 0) := by
  rw [show (Value.int .u8 0).cells = #[.int .u8 0] from rfl, toList_madeCells_one]
  unfold Bs; rw [List.map_replicate]
/-- A slice of 64 bytes of a block of their own. -/
def Blk64 (W : World) (g : Nat) (bs : List Int) : Prop := W.heap[g]? = some (.cells (Bs bs).toArray 5 (0, 0))
theorem Blk64.byt {W : World} {g : Nat} {bs : List Int} (h : Blk64 W g bs) : Byt W (some ⟨g, 0, none⟩) bs := byt_blk h (by simp)
theorem set_fill (bs : List Int) (k : Nat) (x : Int) (hx : bs[k]? = some x) (hk : k < 64) : (bs.take k ++ List.replicate (64 - k) 0).set k x = bs.take (k + 1) ++ List.replicate (64 - (k + 1)) 0 := by
  have hl : (bs.take k).length = k := List.length_take_of_le (Nat.le_of_lt (List.getElem?_eq_some_iff.1 hx).1)
  rw [List.set_append_right _ _ (by omega), hl, Nat.sub_self, take_snoc' hx, List.append_assoc]
  congr 1
  rw [show 64 - k = (64 - (k + 1)) + 1 by omega, List.replicate_succ]
  rfl
set_option maxRecDepth 100000 in
set_option maxHeartbeats 1600000 in
theorem full_any (A : Option Addr) (bs : List Int) (c : Nat) (w : World) (hB : AllB bs) (hy : Byt w A bs) (hl : bs.length ≤ 9223372036854775807) :
    Calls Try.prog 22 #[.slice A bs.length c] w fun e w' => (∃ g, e = .returned (.slice (some ⟨g, 0, none⟩) 64 64) ∧ w.heap.size ≤ g ∧ Blk64 w' g (fullV bs)) ∧ Below w.heap.size w w' := by
  obtain ⟨i0, hi0, hz0, hz1, hz2⟩ := info_parts info5
  have hmk := fun w : World => run_make (P := Try.prog) w 31 5 i0 _ Try.underlying31 hi0 hz0 .i64 .i64 64 64 (by omega) (by omega) (by rw [hz2]; omega) (by omega)
  generalize hC : madeCells (Value.int .u8 0).cells ((64 : Int).toNat * i0.size) = C0 at hmk
  have hC2 : C0.toList = Bs (List.replicate 64 0) := by
    rw [← hC, hz1]; exact made_u8 64
  have HC := Lib.hid hC2
  have HY := Lib.hid hy
  clear hC hC2 hi0 hz0 hz1 hz2 hy
  generalize hn : bs.length = n at *
  have HN := Lib.hid hn
  clear hn
  go_enter Try.func22, Try.ntmps22
  go_wp2_with fail
  clear hmk
  go_loopw [4] (fun i wr => ∃ k : Nat, i = .int .i64 k ∧ k ≤ n ∧ k ≤ 64 ∧ Blk64 wr w.heap.size (bs.take k ++ List.replicate (64 - k) 0) ∧ Below w.heap.size w wr) (fun i _ => 64 - (intOf i).toNat)
  case atStart =>
    refine ⟨0, rfl, by omega, by omega, ?_, (Below.refl _ _).alloc (Nat.le_refl _) _⟩
    show _ = _
    rw [heap_alloc_new, ← Array.toArray_toList (xs := C0), HC.out]
    rfl
  case round =>
    obtain ⟨k, rfl, hk, hk2, hblk, hb⟩ := hrel
    have HB := Lib.hid hb
    have HBL := Lib.hid hblk
    clear hb hblk
    by_cases hlt : k < n
    · have hkk : (k : Int) < n := by omega
      by_cases hlt2 : k < 64
      · obtain ⟨x, hx⟩ : ∃ x, bs[k]? = some x := ⟨_, List.getElem?_eq_getElem (by rw [HN.out]; exact hlt)⟩
        obtain ⟨a, rfl, hc⟩ := HY.out k x hx
        have hc1 : wr.cell? (a.add k) = some (.int .u8 x) := by rw [HB.out.cell (World.block_lt_of_cell? w _ hc)]; exact hc
        have HX := Lib.hid hx
        have hlen : (bs.take k ++ List.replicate (64 - k) 0).length = 64 := by rw [List.length_append, List.length_take, List.length_replicate, HN.out]; omega
        obtain ⟨v, hv⟩ : ∃ v, (Bs (bs.take k ++ List.replicate (64 - k) 0)).toArray[k]? = some v := ⟨_, Array.getElem?_eq_getElem (by simp only [List.size_toArray, Bs_length, hlen]; exact hlt2)⟩
        have hc2 : wr.cell? ⟨w.heap.size, k, none⟩ = some v := (blk_cell HBL.out k).trans hv
        have hf2 : wr.frozen? ⟨w.heap.size, k, none⟩ = false := blk_free HBL.out k
        have hkk2 : (k : Int) < 64 := by omega
        clear hx hc hv hlen
        go_wp2
        go_roundw
        case rel =>
          refine ⟨k + 1, by go_num, by omega, by omega, ?_, HB.out.setCell (Nat.le_refl _) _⟩
          show _ = _
          rw [heap_setCell_same' HBL.out]
          congr 2
          rw [List.setIfInBounds_toArray, set_Bs, set_fill bs k x HX.out hlt2]
        case measure => simp [intOf]; omega
      · obtain rfl : k = 64 := by omega
        have hd : decide ((64 : Int) < 64) = false := by decide
        go_wp2
        go_ret
        refine ⟨⟨_, rfl, Nat.le_refl _, ?_⟩, HB.out⟩
        have := HBL.out
        unfold fullV
        rw [HN.out, show 64 - n = 0 by omega]
        exact this
    · obtain rfl : k = n := by omega
      have hkk : ¬ ((k : Int) < k) := by omega
      have hd : decide ((k : Int) < k) = false := by simp
      go_wp2
      go_ret
      refine ⟨⟨_, rfl, Nat.le_refl _, ?_⟩, HB.out⟩
      have := HBL.out
      unfold fullV
      rw [HN.out, List.take_of_length_le (by rw [HN.out]; omega)]
      rw [List.take_of_length_le (by rw [HN.out]; omega)] at this
      exact this
/-- A device, all of whose blocks are newer than w0, apart from those of P. -/
structure DS (w0 W : World) (P : Nat → Prop) (q : Nat) (m : DM) : Prop where
  dev : ∃ F, Dev W F q m ∧ (∀ k, F k → w0.heap.size ≤ k) ∧ ∀ k, P k → ¬ F k
  low : ∀ k, P k → k < W.heap.size
  bel : Below w0.heap.size w0 W
theorem DS.ok {w0 W : World} {P : Nat → Prop} {q : Nat} {m : DM} (h : DS w0 W P q m) : m.Ok := by obtain ⟨F, h1, _⟩ := h.dev; exact h1.ok
/-- What P names is as it was. -/
structure Same (P : Nat → Prop) (w w' : World) : Prop where
  blk : ∀ k, P k → w'.heap[k]? = w.heap[k]?
  size : w.heap.size ≤ w'.heap.size
theorem Same.trans {P : Nat → Prop} {a b c : World} (h : Same P a b) (k : Same P b c) : Same P a c := ⟨fun x hx => (k.blk x hx).trans (h.blk x hx), Nat.le_trans h.size k.size⟩
theorem DS.next {w0 W W' : World} {P : Nat → Prop} {q : Nat} {m m' : DM} (h : DS w0 W P q m) {F : Nat → Prop} (hF : ∀ k, F k → w0.heap.size ≤ k) (hP : ∀ k, P k → ¬ F k) (hs : DevStep W W' F q m') : DS w0 W' P q m' ∧ Same P W W' := by
  obtain ⟨F', h1, h2, h3⟩ := hs
  have hsz := h.bel.size
  refine ⟨⟨⟨F', h1, fun k hk => ?_, fun k hk hf => ?_⟩, fun k hk => Nat.lt_of_lt_of_le (h.low k hk) h2.size, h.bel.trans (h2.below hsz hF)⟩, fun k hk => h2.block k (h.low k hk) (hP k hk), h2.size⟩
  · rcases h3 k hk with h4 | h4
    · exact hF k h4
    · omega
  · rcases h3 k hf with h4 | h4
    · exact hP k hk h4
    · have := h.low k hk; omega
/-- Behind what makes new blocks alone; the new ones may be protected, too. -/
theorem DS.below {w0 W W' : World} {P P' : Nat → Prop} {q : Nat} {m : DM} (h : DS w0 W P q m) (hb : Below W.heap.size W W') (hP : ∀ k, P' k → P k ∨ (W.heap.size ≤ k ∧ k < W'.heap.size)) : DS w0 W' P' q m := by
  obtain ⟨F, h1, h2, h3⟩ := h.dev
  obtain ⟨O, L, g1, g2, g3⟩ := h1
  refine ⟨⟨F, Dev.below ⟨O, L, g1, g2, g3⟩ hb, h2, fun k hk hf => ?_⟩, fun k hk => ?_, h.bel.trans (hb.mono h.bel.size)⟩
  · rcases hP k hk with h4 | h4
    · exact h3 k h4 hf
    · have := g3 k hf; omega
  · rcases hP k hk with h4 | h4
    · have := h.low k h4; have := hb.size; omega
    · exact h4.2
theorem DS.same {w0 W W' : World} {P : Nat → Prop} {q : Nat} {m : DM} (h : DS w0 W P q m) (hb : Below W.heap.size W W') : Same P W W' := ⟨fun k hk => hb.block k (h.low k hk), hb.size⟩
section
variable {w0 W : World} {P : Nat → Prop} {q : Nat} {m : DM}
theorem DS.write (h : DS w0 W P q m) (r i : Int) (hr : i64 r) (hi : i64 i) (A : Option Addr) (bs : List Int) (c : Nat) (hB : AllB bs) (hy : Byt W A bs) (hl : bs.length ≤ 1000000) (hmax : m.done.length ≤ 1000000) :
    Calls Try.prog 21 #[.pointer (some ⟨q, 0, none⟩), .int .i64 r, .int .i64 i, .slice A bs.length c] W fun e w' => e = .returned (.bool (okWrite m r i bs)) ∧ DS w0 w' P q (m.doWrite r i bs) ∧ Same P W w' := by
  obtain ⟨F, h1, h2, h3⟩ := h.dev
  exact (write_any h1 r i hr hi A bs c hB hy hl hmax).mono fun e w' ⟨he, hs⟩ => ⟨he, h.next h2 h3 hs⟩
theorem DS.barrier (h : DS w0 W P q m) (r : Int) (hr : i64 r) (hmax : m.done.length < 1000000) :
    Calls Try.prog 13 #[.pointer (some ⟨q, 0, none⟩), .int .i64 r] W fun e w' => e = .returned (.bool (hasR m r)) ∧ DS w0 w' P q (m.doBarrier r) ∧ Same P W w' := by
  obtain ⟨F, h1, h2, h3⟩ := h.dev
  exact (barrier_any h1 r hr hmax).mono fun e w' ⟨he, hs⟩ => ⟨he, h.next h2 h3 hs⟩
theorem DS.crash (h : DS w0 W P q m) (A : Option Addr) (ks : List (List Int)) (c : Nat) (hks : ∀ F, (∀ k, F k → w0.heap.size ≤ k) → (∀ k, P k → ¬ F k) → TxtsF W F A ks) (hkl : ks.length ≤ 1000000) (hmax : m.done.length ≤ 1000000) :
    Calls Try.prog 18 #[.pointer (some ⟨q, 0, none⟩), .slice A ks.length c] W fun e w' => e = .returned (.tuple #[]) ∧ DS w0 w' P q (m.crash ks) ∧ Same P W w' := by
  obtain ⟨F, h1, h2, h3⟩ := h.dev
  exact (crash_any h1 A ks c (hks F h2 h3) hkl hmax).mono fun e w' ⟨he, hs⟩ => ⟨he, h.next h2 h3 hs⟩
theorem DS.stop (h : DS w0 W P q m) (n : Int) (hn : i64 n) (hn' : n ≤ 9223372036854775807) :
    Calls Try.prog 15 #[.pointer (some ⟨q, 0, none⟩), .int .i64 n] W fun e w' => e = .returned (.tuple #[]) ∧ DS w0 w' P q (m.stop n) ∧ Same P W w' := by
  obtain ⟨F, ⟨O, L, g1, g2, g3⟩, h2, h3⟩ := h.dev
  refine (stop_any g1 n hn hn').mono fun e w' ⟨he, hd, ht⟩ => ⟨he, h.next h2 h3 ⟨F, ⟨O, L, hd, g2, fun k hk => Nat.lt_of_lt_of_le (g3 k hk) ht.size⟩, ht.mono fun k _ hk => ?_, fun k hk => Or.inl hk⟩⟩
  subst hk
  exact (g2 _).2 (by rw [g1.ohd]; simp)
theorem DS.read (h : DS w0 W P q m) (r i : Int) (hr : i64 r) (hi : i64 i) :
    Calls Try.prog 26 #[.pointer (some ⟨q, 0, none⟩), .int .i64 r, .int .i64 i] W fun e w' => (∃ v, e = .returned v ∧ ReadAns m r i W v w') ∧ Below W.heap.size W w' := by
  obtain ⟨F, h1, h2, h3⟩ := h.dev
  exact read_any h1 r i hr hi
theorem DS.trace (h : DS w0 W P q m) (r : Nat) (hr : r < m.now.length) (hmax : m.done.length < 1000000) :
    Calls Try.prog 29 #[.pointer (some ⟨q, 0, none⟩), .int .i64 r] W fun e w' => (∃ v, e = .returned v ∧ TxtOwn w' W.heap.size v (traceL m r)) ∧ Below W.heap.size W w' := by
  obtain ⟨F, ⟨O, L, g1, g2, g3⟩, h2, h3⟩ := h.dev
  exact trace_any g1 r hr hmax
theorem DS.regions (h : DS w0 W P q m) : Calls Try.prog 30 #[.pointer (some ⟨q, 0, none⟩)] W fun e w' => e = .returned (.int .i64 m.now.length) ∧ W = w' := by
  obtain ⟨F, ⟨O, L, g1, g2, g3⟩, h2, h3⟩ := h.dev
  exact regions_any g1
theorem DS.stopped (h : DS w0 W P q m) : Calls Try.prog 17 #[.pointer (some ⟨q, 0, none⟩)] W fun e w' => e = .returned (.bool (stopped m)) ∧ W = w' := by
  obtain ⟨F, ⟨O, L, g1, g2, g3⟩, h2, h3⟩ := h.dev
  exact stopped_any g1
theorem DS.copy (h : DS w0 W P q m) (hmax : m.done.length ≤ 1000000) : Calls Try.prog 20 #[.pointer (some ⟨q, 0, none⟩)] W fun e w' => (∃ q' F, e = .returned (.pointer (some ⟨q', 0, none⟩)) ∧ Dev w' F q' m ∧ ∀ k, F k → W.heap.size ≤ k) ∧ Below W.heap.size W w' := by
  obtain ⟨F, ⟨O, L, g1, g2, g3⟩, h2, h3⟩ := h.dev
  exact copy_any g1 hmax
end
end Go.Proofs.Ytocmjbfbjiinhaa
