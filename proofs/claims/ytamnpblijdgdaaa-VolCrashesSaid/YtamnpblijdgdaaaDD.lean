/- A device among protected blocks; facts on its model. -/
import Derived.Test.YtamnpblijdgdaaaDC
import Derived.Deep.Slices
import Derived.Deep.Fields
import Derived.ChangeSame
import Derived.ProofKit
import Derived.OpenShut
import Derived.Carry
/- Contract: full; a device among protected blocks. -/
namespace Go.Proofs.Ytamnpblijdgdaaa
open Go.ChangeShapes Go.WideShapes Go.ChangeAt Go.RowKit
set_option linter.unusedVariables false
set_option maxRecDepth 100000
def fullV (bs : List Int) : List Int := bs.take 64 ++ List.replicate (64 - bs.length) 0
theorem fullV_ok {bs : List Int} (h : AllB bs) : BlkOk (fullV bs) := by
  unfold fullV
  refine ⟨by rw [List.length_append, List.length_take, List.length_replicate]; omega, fun x hx => ?_⟩
  rcases List.mem_append.1 hx with hx | hx
  · exact h x (List.mem_of_mem_take hx)
  · rw [(List.mem_replicate.1 hx).2]; omega
theorem dmade_u8 (n : Nat) : (madeCells (Value.int .u8 0).cells n).toList = Bs (List.replicate n 0) := by
  rw [show (Value.int .u8 0).cells = #[.int .u8 0] from rfl, toList_madeCells_one]
  unfold Bs; rw [List.map_replicate]
/-- A slice of 64 bytes of a block of their own. -/
def Blk64 (W : World) (g : Nat) (bs : List Int) : Prop := W.heap[g]? = some (.cells (Bs bs).toArray 5 (0, 0))
theorem Blk64.byt {W : World} {g : Nat} {bs : List Int} (h : Blk64 W g bs) : Byt W (some ⟨g, 0, none⟩) bs := byt_blk h (by simp)
theorem set_fill (bs : List Int) (k : Nat) (x : Int) (hx : bs[k]? = some x) (hk : k < 64) : (bs.take k ++ List.replicate (64 - k) 0).set k x = bs.take (k + 1) ++ List.replicate (64 - (k + 1)) 0 := by
  have hl : (bs.take k).length = k := List.length_take_of_le (Nat.le_of_lt (List.getElem?_eq_some_iff.1 hx).1)
  rw [List.set_append_right _ _ (by omega), hl, Nat.sub_self, take_snoc' hx, List.append_assoc]
  congr 1
  rw [show 64 - k = (64 - (k + 1)) + 1 by omega, List.replicate_succ]
  rfl
/-- A device, all of whose blocks are newer than w0, apart from those of P. -/
structure DS (w0 W : World) (P : Nat → Prop) (q : Nat) (m : DM) : Prop where
  dev : ∃ F, Dev W F q m ∧ (∀ k, F k → w0.heap.size ≤ k) ∧ ∀ k, P k → ¬ F k
  low : ∀ k, P k → k < W.heap.size
  bel : Below w0.heap.size w0 W
theorem DS.ok {w0 W : World} {P : Nat → Prop} {q : Nat} {m : DM} (h : DS w0 W P q m) : m.Ok := by obtain ⟨F, h1, _⟩ := h.dev; exact h1.ok
/-- What P names is as it was. -/
structure Same (P : Nat → Prop) (w w' : World) : Prop where
  blk : ∀ k, P k → w'.heap[k]? = w.heap[k]?
  size : w.heap.size ≤ w'.heap.size
theorem Same.trans {P : Nat → Prop} {a b c : World} (h : Same P a b) (k : Same P b c) : Same P a c := ⟨fun x hx => (k.blk x hx).trans (h.blk x hx), Nat.le_trans h.size k.size⟩
theorem DS.next {w0 W W' : World} {P : Nat → Prop} {q : Nat} {m m' : DM} (h : DS w0 W P q m) {F : Nat → Prop} (hF : ∀ k, F k → w0.heap.size ≤ k) (hP : ∀ k, P k → ¬ F k) (hs : DevStep W W' F q m') : DS w0 W' P q m' ∧ Same P W W' := by
  obtain ⟨F', h1, h2, h3⟩ := hs
  have hsz := h.bel.size
  refine ⟨⟨⟨F', h1, fun k hk => ?_, fun k hk hf => ?_⟩, fun k hk => Nat.lt_of_lt_of_le (h.low k hk) h2.size, h.bel.trans (h2.below hsz hF)⟩, fun k hk => h2.block k (h.low k hk) (hP k hk), h2.size⟩
  · rcases h3 k hk with h4 | h4
    · exact hF k h4
    · omega
  · rcases h3 k hf with h4 | h4
    · exact hP k hk h4
    · have := h.low k hk; omega
/-- Behind what makes new blocks alone; the new ones may be protected, too. -/
theorem DS.below {w0 W W' : World} {P P' : Nat → Prop} {q : Nat} {m : DM} (h : DS w0 W P q m) (hb : Below W.heap.size W W') (hP : ∀ k, P' k → P k ∨ (W.heap.size ≤ k ∧ k < W'.heap.size)) : DS w0 W' P' q m := by
  obtain ⟨F, h1, h2, h3⟩ := h.dev
  obtain ⟨O, L, g1, g2, g3⟩ := h1
  refine ⟨⟨F, Dev.below ⟨O, L, g1, g2, g3⟩ hb, h2, fun k hk hf => ?_⟩, fun k hk => ?_, h.bel.trans (hb.mono h.bel.size)⟩
  · rcases hP k hk with h4 | h4
    · exact h3 k h4 hf
    · have := g3 k hf; omega
  · rcases hP k hk with h4 | h4
    · have := h.low k h4; have := hb.size; omega
    · exact h4.2
theorem DS.same {w0 W W' : World} {P : Nat → Prop} {q : Nat} {m : DM} (h : DS w0 W P q m) (hb : Below W.heap.size W W') : Same P W W' := ⟨fun k hk => hb.block k (h.low k hk), hb.size⟩
section
variable {w0 W : World} {P : Nat → Prop} {q : Nat} {m : DM}
theorem DS.write (h : DS w0 W P q m) (r i : Int) (hr : i64 r) (hi : i64 i) (A : Option Addr) (bs : List Int) (c : Nat) (hB : AllB bs) (hy : Byt W A bs) (hl : bs.length ≤ 1000000) (hmax : m.done.length ≤ 1000000) :
    Calls Try.prog 82 #[.pointer (some ⟨q, 0, none⟩), .int .i64 r, .int .i64 i, .slice A bs.length c] W fun e w' => e = .returned (.bool (okWrite m r i bs)) ∧ DS w0 w' P q (m.doWrite r i bs) ∧ Same P W w' := by
  obtain ⟨F, h1, h2, h3⟩ := h.dev
  exact (write_any h1 r i hr hi A bs c hB hy hl hmax).mono fun e w' ⟨he, hs⟩ => ⟨he, h.next h2 h3 hs⟩
theorem DS.barrier (h : DS w0 W P q m) (r : Int) (hr : i64 r) (hmax : m.done.length < 1000000) :
    Calls Try.prog 69 #[.pointer (some ⟨q, 0, none⟩), .int .i64 r] W fun e w' => e = .returned (.bool (hasR m r)) ∧ DS w0 w' P q (m.doBarrier r) ∧ Same P W w' := by
  obtain ⟨F, h1, h2, h3⟩ := h.dev
  exact (barrier_any h1 r hr hmax).mono fun e w' ⟨he, hs⟩ => ⟨he, h.next h2 h3 hs⟩
theorem DS.crash (h : DS w0 W P q m) (A : Option Addr) (ks : List (List Int)) (c : Nat) (hks : ∀ F, (∀ k, F k → w0.heap.size ≤ k) → (∀ k, P k → ¬ F k) → TxtsF W F A ks) (hkl : ks.length ≤ 1000000) (hmax : m.done.length ≤ 1000000) :
    Calls Try.prog 23 #[.pointer (some ⟨q, 0, none⟩), .slice A ks.length c] W fun e w' => e = .returned (.tuple #[]) ∧ DS w0 w' P q (m.crash ks) ∧ Same P W w' := by
  obtain ⟨F, h1, h2, h3⟩ := h.dev
  exact (crash_any h1 A ks c (hks F h2 h3) hkl hmax).mono fun e w' ⟨he, hs⟩ => ⟨he, h.next h2 h3 hs⟩
theorem DS.stop (h : DS w0 W P q m) (n : Int) (hn : i64 n) (hn' : n ≤ 9223372036854775807) :
    Calls Try.prog 18 #[.pointer (some ⟨q, 0, none⟩), .int .i64 n] W fun e w' => e = .returned (.tuple #[]) ∧ DS w0 w' P q (m.stop n) ∧ Same P W w' := by
  obtain ⟨F, ⟨O, L, g1, g2, g3⟩, h2, h3⟩ := h.dev
  refine (stop_any g1 n hn hn').mono fun e w' ⟨he, hd, ht⟩ => ⟨he, h.next h2 h3 ⟨F, ⟨O, L, hd, g2, fun k hk => Nat.lt_of_lt_of_le (g3 k hk) ht.size⟩, ht.mono fun k _ hk => ?_, fun k hk => Or.inl hk⟩⟩
  subst hk
  exact (g2 _).2 (by rw [g1.ohd]; simp)
theorem DS.read (h : DS w0 W P q m) (r i : Int) (hr : i64 r) (hi : i64 i) :
    Calls Try.prog 59 #[.pointer (some ⟨q, 0, none⟩), .int .i64 r, .int .i64 i] W fun e w' => (∃ v, e = .returned v ∧ ReadAns m r i W v w') ∧ Below W.heap.size W w' := by
  obtain ⟨F, h1, h2, h3⟩ := h.dev
  exact dread_any h1 r i hr hi
theorem DS.trace (h : DS w0 W P q m) (r : Nat) (hr : r < m.now.length) (hmax : m.done.length < 1000000) :
    Calls Try.prog 25 #[.pointer (some ⟨q, 0, none⟩), .int .i64 r] W fun e w' => (∃ v, e = .returned v ∧ TxtOwn w' W.heap.size v (traceL m r)) ∧ Below W.heap.size W w' := by
  obtain ⟨F, ⟨O, L, g1, g2, g3⟩, h2, h3⟩ := h.dev
  exact trace_any g1 r hr hmax
theorem DS.stopped (h : DS w0 W P q m) : Calls Try.prog 19 #[.pointer (some ⟨q, 0, none⟩)] W fun e w' => e = .returned (.bool (stopped m)) ∧ W = w' := by
  obtain ⟨F, ⟨O, L, g1, g2, g3⟩, h2, h3⟩ := h.dev
  exact stopped_any g1
end
end Go.Proofs.Ytamnpblijdgdaaa

/- Contract: begun, the opening test. -/
namespace Go.Proofs.Ytamnpblijdgdaaa
open Go.ChangeShapes Go.WideShapes Go.ChangeAt Go.RowKit
set_option linter.unusedVariables false
set_option maxRecDepth 100000
def b7 : List Int := 7 :: List.replicate 63 0
def bg0 : DM := DM.make [2, 1]
def bg1 : DM := bg0.doWrite 1 0 b7
def bg2 : DM := bg1.crash []
def bg3 : DM := bg2.doWrite 0 1 b7
def bg4 : DM := bg3.doBarrier 0
def bg5 : DM := bg4.crash []
theorem b7_ok : BlkOk b7 := ⟨by decide, fun x hx => by
  rcases List.mem_cons.1 hx with rfl | hx
  · omega
  · rw [(List.mem_replicate.1 hx).2]; omega⟩
theorem new_at (W : World) (g : Nat) (zs : List Int) (n : Nat) (hn : zs.length = n) (hm : mayV zs = true) (hI : AllI zs) (t : TypeId) (hb : W.heap[g]? = some (.cells ((zs.map (Value.int .i64)).toArray) t (0, 0))) :
    Calls Try.prog 13 #[.slice (some ⟨g, 0, none⟩) n n] W fun e w' => (∃ q F, e = .returned (.tuple #[.pointer (some ⟨q, 0, none⟩), .bool true]) ∧ Dev w' F q (DM.make zs) ∧ ∀ k, F k → W.heap.size ≤ k) ∧ Below W.heap.size W w' := by
  subst hn
  refine new_yes (some ⟨g, 0, none⟩) zs _ W hI (fun i x hx => ⟨_, rfl, ?_⟩) hm
  rw [Addr.add_mid, Nat.zero_add, blk_cell hb, List.getElem?_toArray, List.getElem?_map, hx]; rfl
/-- Behind New: all that was there is protected. -/
theorem DS.made {w0 W W' : World} {F : Nat → Prop} {q : Nat} {m : DM} (hb0 : Below w0.heap.size w0 W) (h1 : Dev W' F q m) (h2 : ∀ k, F k → W.heap.size ≤ k) (hb : Below W.heap.size W W') : DS w0 W' (fun k => k < W.heap.size) q m := by
  have := hb0.size
  have := hb.size
  exact ⟨⟨F, h1, fun k hk => by have := h2 k hk; omega, fun k hk hf => by have := h2 k hf; omega⟩, fun k hk => by omega, hb0.trans (hb.mono hb0.size)⟩
theorem DS.write64 {w0 W : World} {P : Nat → Prop} {q : Nat} {m : DM} (h : DS w0 W P q m) (r i : Int) (hr : i64 r) (hi : i64 i) (g : Nat) (bs : List Int) (hb : BlkOk bs) (hy : Blk64 W g bs) (hmax : m.done.length ≤ 1000000) :
    Calls Try.prog 82 #[.pointer (some ⟨q, 0, none⟩), .int .i64 r, .int .i64 i, .slice (some ⟨g, 0, none⟩) 64 64] W fun e w' => e = .returned (.bool (hasB m r i)) ∧ DS w0 w' P q (m.doWrite r i bs) ∧ Same P W w' := by
  have := h.write r i hr hi (some ⟨g, 0, none⟩) bs 64 hb.2 hy.byt (by rw [hb.1]; omega) hmax
  rw [hb.1] at this
  have e : okWrite m r i bs = hasB m r i := by unfold okWrite; rw [hb.1]; simp
  rw [e] at this
  exact this
theorem DS.readAt {w0 W : World} {P : Nat → Prop} {q : Nat} {m : DM} (h : DS w0 W P q m) (r i : Int) (hr : i64 r) (hi : i64 i) {b : List Int} (hb : hasB m r i = true) (hg : (m.now.getD r.toNat [])[i.toNat]? = some b) :
    Calls Try.prog 59 #[.pointer (some ⟨q, 0, none⟩), .int .i64 r, .int .i64 i] W fun e w' => (∃ g, e = .returned (.tuple #[.slice (some ⟨g, 0, none⟩) 64 64, .bool true]) ∧ W.heap.size ≤ g ∧ g < w'.heap.size ∧ w'.heap[g]? = some (.cells (Bs b).toArray 104 (0, 0))) ∧ DS w0 w' P q m ∧ Below W.heap.size W w' := by
  refine (h.read r i hr hi).mono ?_
  rintro e w' ⟨⟨v, rfl, ha⟩, hbel⟩
  rcases ha with ⟨h1, _⟩ | ⟨_, g, b', h2, _, rfl, h3, h4⟩
  · rw [hb] at h1; cases h1
  · rw [hg] at h2; injection h2 with h2; subst h2
    exact ⟨⟨g, rfl, h3, room_lt h4, h4⟩, h.below hbel (fun k hk => Or.inl hk), hbel⟩
theorem DS.crash0 {w0 W : World} {P : Nat → Prop} {q : Nat} {m : DM} (h : DS w0 W P q m) (hmax : m.done.length ≤ 1000000) :
    Calls Try.prog 23 #[.pointer (some ⟨q, 0, none⟩), .slice none 0 0] W fun e w' => e = .returned (.tuple #[]) ∧ DS w0 w' P q (m.crash []) ∧ Same P W w' :=
  h.crash none [] 0 (fun F _ _ i bs hi => by cases hi) (by simp) hmax
theorem bg_facts : hasB bg0 1 0 = true ∧ hasB bg1 1 0 = true ∧ (bg1.now.getD 1 [])[0]? = some b7 ∧ hasB bg2 1 0 = true ∧ (bg2.now.getD 1 [])[0]? = some (List.replicate 64 0) ∧ hasB bg2 0 1 = true ∧ hasR bg3 0 = true ∧ hasB bg5 0 1 = true ∧ (bg5.now.getD 0 [])[1]? = some b7 ∧
    bg5.now.length = 2 ∧ (traceL bg5 0).length = 2 ∧ stopped bg5 = false := by decide +kernel
theorem bg_lens : bg0.done.length ≤ 1000000 ∧ bg1.done.length ≤ 1000000 ∧ bg2.done.length ≤ 1000000 ∧ bg3.done.length < 1000000 ∧ bg4.done.length ≤ 1000000 ∧ bg5.done.length < 1000000 := by decide +kernel
end Go.Proofs.Ytamnpblijdgdaaa

/- Contract: New that answers no, of a new slice. -/
namespace Go.Proofs.Ytamnpblijdgdaaa
open Go.ChangeShapes Go.WideShapes Go.ChangeAt Go.RowKit
set_option linter.unusedVariables false
set_option maxRecDepth 100000
theorem new_no_at (W : World) (g : Nat) (zs : List Int) (n : Nat) (hn : zs.length = n) (hl : n ≤ 1000000) (hm : mayV zs = false) (hI : AllI zs) (t : TypeId) (hb : W.heap[g]? = some (.cells ((zs.map (Value.int .i64)).toArray) t (0, 0))) :
    Calls Try.prog 13 #[.slice (some ⟨g, 0, none⟩) n n] W fun e w' => e = .returned (.tuple #[.pointer none, .bool false]) ∧ W = w' := by
  subst hn
  refine new_no (some ⟨g, 0, none⟩) zs _ W hI (fun i x hx => ⟨_, rfl, ?_⟩) hl hm
  rw [Addr.add_mid, Nat.zero_add, blk_cell hb, List.getElem?_toArray, List.getElem?_map, hx]; rfl
end Go.Proofs.Ytamnpblijdgdaaa

/- How many blocks each region has stays; what is told of writes. -/
namespace Go.Proofs.Ytamnpblijdgdaaa
open Go.ChangeShapes Go.WideShapes Go.ChangeAt Go.RowKit
set_option linter.unusedVariables false
set_option maxRecDepth 100000
def dims (m : DM) : List Nat := m.now.map List.length
theorem hasR_dims {m m' : DM} (h : dims m = dims m') (r : Int) : hasR m r = hasR m' r := by
  unfold hasR
  have : m.now.length = m'.now.length := by have := congrArg List.length h; simpa [dims] using this
  rw [this]
theorem rowLen_dims (m : DM) (r : Nat) : rowLen m.now r = (dims m).getD r 0 := by
  unfold rowLen dims
  simp only [List.getD, List.getElem?_map]
  cases m.now[r]? <;> rfl
theorem hasB_dims {m m' : DM} (h : dims m = dims m') (r i : Int) : hasB m r i = hasB m' r i := by
  unfold hasB
  rw [hasR_dims h, rowLen_dims, rowLen_dims, h]
theorem dims_setAt (l : List (List (List Int))) (r i : Nat) (b : List Int) : (setAt l r i b).map List.length = l.map List.length := by
  apply List.ext_getElem?
  intro k
  rw [List.getElem?_map, List.getElem?_map]
  exact set_lens k
theorem dims_write (m : DM) (r i : Nat) (b : List Int) : dims (m.write r i b) = dims m := dims_setAt _ _ _ _
theorem dims_doWrite (m : DM) (r i : Int) (b : List Int) : dims (m.doWrite r i b) = dims m := by
  unfold DM.doWrite; split
  · exact dims_write _ _ _ _
  · rfl
theorem dims_doBarrier (m : DM) (r : Int) : dims (m.doBarrier r) = dims m := by
  unfold DM.doBarrier; split <;> rfl
theorem dims_stop (m : DM) (n : Int) : dims (m.stop n) = dims m := rfl
theorem dims_crash1 {m : DM} (h : m.Ok) {r : Nat} (hr : r < m.now.length) (bs : List Int) : dims (m.crash1 r bs) = dims m := by
  have hs := h.settle r (bitAt bs)
  obtain ⟨srow, hsr⟩ : ∃ x, (m.settle r (bitAt bs)).sure[r]? = some x := ⟨_, List.getElem?_eq_getElem (by rw [hs.sureLen]; exact hr)⟩
  obtain ⟨⟨nrow, hn, hl⟩, _⟩ := hs.sures r srow hsr
  have hn' : m.now[r]? = some nrow := hn
  have hg : (m.settle r (bitAt bs)).sure.getD r [] = srow := by rw [List.getD, hsr]; rfl
  unfold DM.crash1 dims
  rw [hg]
  apply List.ext_getElem?
  intro k
  show ((m.now.set r srow).map List.length)[k]? = _
  rw [List.getElem?_map, List.getElem?_map, List.getElem?_set]
  by_cases e : r = k
  · subst e; rw [if_pos rfl, if_pos hr, hn']; simp [hl]
  · rw [if_neg e]
theorem dims_crashN {m : DM} (h : m.Ok) (ks : List (List Int)) : ∀ k, k ≤ m.now.length → dims (crashN m ks k) = dims m
  | 0, _ => rfl
  | k + 1, hk => by
    have := dims_crashN h ks k (by omega)
    rw [← this]
    exact dims_crash1 (crashN_ok h ks k (by omega)) (by rw [(crashN_len m ks k).1]; omega) _
theorem dims_crash {m : DM} (h : m.Ok) (ks : List (List Int)) : dims (m.crash ks) = dims m := dims_crashN h ks _ (Nat.le_refl _)
theorem crash_done (m : DM) (ks : List (List Int)) : (m.crash ks).done = m.done := (crashN_len m ks _).2
theorem crash_stops (m : DM) (ks : List (List Int)) : stopped (m.crash ks) = false := by
  unfold DM.crash DM.stop stopped; simp
theorem crash_ok {m : DM} (h : m.Ok) (ks : List (List Int)) : (m.crash ks).Ok := (crashN_ok h ks _ (Nat.le_refl _)).stop (by constructor <;> omega) (by omega)
theorem crash_len {m : DM} (ks : List (List Int)) : (m.crash ks).now.length = m.now.length := (crashN_len m ks _).1
theorem traceL_crash (m : DM) (ks : List (List Int)) (r : Nat) : traceL (m.crash ks) r = traceL m r := by unfold traceL; rw [crash_done]
theorem traceL_write (m : DM) (r i : Nat) (b : List Int) (r' : Nat) : traceL (m.write r i b) r' = traceL m r' ++ (if r = r' then [traceB ⟨r, i, b⟩] else []) := by
  unfold traceL DM.write
  simp only [List.filter_append, List.map_append]
  congr 1
  by_cases e : r = r'
  · simp [e]
  · have : (r == r') = false := by simpa using e
    simp [e, this]
theorem traceL_barrier (m : DM) (r r' : Nat) : traceL (m.barrier r) r' = traceL m r' ++ (if r = r' then [[255, 255]] else []) := by
  unfold traceL DM.barrier DM.settle
  simp only [List.filter_append, List.map_append]
  congr 1
  by_cases e : r = r'
  · simp [e, traceB]
  · have : (r == r') = false := by simpa using e
    simp [e, this]
theorem done_doWrite (m : DM) (r i : Int) (b : List Int) : (m.doWrite r i b).done.length ≤ m.done.length + 1 := by
  unfold DM.doWrite; split
  · unfold DM.write; simp
  · omega
theorem done_doBarrier (m : DM) (r : Int) : (m.doBarrier r).done.length ≤ m.done.length + 1 := by
  unfold DM.doBarrier; split
  · unfold DM.barrier DM.settle; simp
  · omega
end Go.Proofs.Ytamnpblijdgdaaa

/- Arguments that are texts, or deeds, opened to cells. -/
namespace Go.Proofs.Ytamnpblijdgdaaa
open Go.ChangeShapes Go.WideShapes Go.ChangeAt Go.RowKit Go.Deep
set_option linter.unusedVariables false
set_option maxRecDepth 100000
/-- From 'for every index there is one' to a list. -/
theorem dlist_of {α : Type} {p : Nat → α → Prop} (n : Nat) (h : ∀ k, k < n → ∃ x, p k x) : ∃ l : List α, l.length = n ∧ ∀ i x, l[i]? = some x → p i x := by
  induction n with
  | zero => exact ⟨[], rfl, fun i x hi => by cases hi⟩
  | succ n ih =>
    obtain ⟨l, h1, h2⟩ := ih (fun k hk => h k (by omega))
    obtain ⟨x, hx⟩ := h n (by omega)
    refine ⟨l ++ [x], by simp [h1], fun i y hi => ?_⟩
    by_cases hin : i < n
    · rw [List.getElem?_append_left (by omega)] at hi; exact h2 i y hi
    · have hlt := (List.getElem?_eq_some_iff.1 hi).1
      simp at hlt
      obtain rfl : i = n := by omega
      rw [List.getElem?_append_right (by omega), h1, Nat.sub_self] at hi
      injection hi with hi
      subst hi
      exact hx
/-- A deed as an argument has it. -/
structure Dd where
  (k r i n : Int) (A : Option Addr) (b : List Int) (c : Nat) (K : Option Addr) (ks : List (List Int)) (kc : Nat)
/-- A deed lies at p. -/
structure DdAt (w : World) (p : Addr) (d : Dd) : Prop where
  c0 : w.cell? p = some (.int .i64 d.k)
  c1 : w.cell? ⟨p.block, p.off + 1, none⟩ = some (.int .i64 d.r)
  c2 : w.cell? ⟨p.block, p.off + 2, none⟩ = some (.int .i64 d.i)
  c3 : w.cell? ⟨p.block, p.off + 3, none⟩ = some (.int .i64 d.n)
  c4 : w.cell? ⟨p.block, p.off + 4, none⟩ = some (.slice d.A d.b.length d.c)
  c5 : w.cell? ⟨p.block, p.off + 5, none⟩ = some (.slice d.K d.ks.length d.kc)
  b : Byt w d.A d.b
  ks : Txts w d.K d.ks
structure DdOk (d : Dd) : Prop where
  k : i64 d.k
  r : i64 d.r
  i : i64 d.i
  n : i64 d.n
  b : AllB d.b
  bl : d.b.length ≤ d.c
  bc : d.c ≤ 9223372036854775807
  kl : d.ks.length ≤ d.kc
  kc : d.kc ≤ 9223372036854775807
/-- Deeds lie behind a slice. -/
def Deeds (w : World) (A : Option Addr) (l : List Dd) : Prop := ∀ i d, l[i]? = some d → ∃ a, A = some a ∧ DdAt w (a.add (i * 6)) d
def DdsOk (l : List Dd) : Prop := ∀ d ∈ l, DdOk d
theorem DdAt.keep {w w' : World} {p : Addr} {d : Dd} (h : DdAt w p d) (hb : Below w.heap.size w w') : DdAt w' p d :=
  have k : ∀ {q : Addr} {v : Value}, w.cell? q = some v → w'.cell? q = some v := fun {q v} hq => by rw [hb.cell (World.block_lt_of_cell? w q hq)]; exact hq
  ⟨k h.c0, k h.c1, k h.c2, k h.c3, k h.c4, k h.c5, h.b.keep hb, h.ks.keep (fun q v hq => k hq)⟩
theorem Deeds.keep {w w' : World} {A : Option Addr} {l : List Dd} (h : Deeds w A l) (hb : Below w.heap.size w w') : Deeds w' A l := fun i d hi =>
  let ⟨a, e, hs⟩ := h i d hi; ⟨a, e, hs.keep hb⟩
theorem add_pos' (a : Addr) (k : Nat) (h : 0 < k) : a.add k = ⟨a.block, a.off + k, none⟩ := by unfold Addr.add; rw [if_neg (by omega)]
section
variable {H : Type} {enc : TypeId × Value → H} {w : World} {base : Nat} {spare : Nat → Bool} {held : Bool}
theorem dcells_bytes : Try.prog.cellsOf 24 = 1 := by kernel_rfl
theorem cells_texts : Try.prog.cellsOf 57 = 1 := by kernel_rfl
theorem cells_int : Try.prog.cellsOf 3 = 1 := by kernel_rfl
theorem open_txts {fuel : Nat} {cs : List Value} {x : DataW H × List MemPlace} (h : DataW.trod enc Try.prog w base spare held fuel 57 cs = some x) :
    ∃ (A : Option Addr) (ks : List (List Int)) (d : Nat), cs = [.slice A ks.length d] ∧ ks.length ≤ d ∧ d ≤ 9223372036854775807 ∧ Txts w A ks := by
  rcases open_slice1 Try.underlying57 dcells_bytes h with ⟨rfl, _⟩ | ⟨a, len, cap, m, n, V, D, Pl, rfl, _, hl, hm, hmm, _, hi⟩
  · exact ⟨none, [], 0, rfl, Nat.le_refl _, by omega, fun i s hi => by cases hi⟩
  · have hml : len ≤ m := by rw [hmm]; split <;> omega
    obtain ⟨ks, h1, h2⟩ := dlist_of (p := fun i bs => ∃ A' c, w.cell? (a.add i) = some (.slice A' bs.length c) ∧ Byt w A' bs ∧ AllB bs ∧ bs.length ≤ c ∧ c ≤ 9223372036854775807) len (fun k hk => by
      obtain ⟨hc, ht⟩ := hi k (by omega)
      obtain ⟨A', bs, c, e, g1, g2, g3, g4⟩ := open_byt ht
      injection e with e _
      exact ⟨bs, A', c, by rw [hc, e], g3, g4, g1, g2⟩)
    refine ⟨some a, ks, cap, by rw [h1], by omega, by simp only [maxLen] at hm; omega, fun i bs hib => ?_⟩
    obtain ⟨A', c, g1, g2⟩ := h2 i bs hib
    exact ⟨a, A', c, rfl, g1, g2⟩
def DTxOk (ks : List (List Int)) : Prop := ∀ bs ∈ ks, AllB bs
theorem open_texts {fuel : Nat} {cs : List Value} {x : DataW H × List MemPlace} (h : DataW.trod enc Try.prog w base spare held fuel 57 cs = some x) :
    ∃ (A : Option Addr) (ks : List (List Int)) (d : Nat), cs = [.slice A ks.length d] ∧ ks.length ≤ d ∧ d ≤ 9223372036854775807 ∧ Txts w A ks ∧ DTxOk ks := by
  obtain ⟨A, ks, d, h1, h2, h3, h4⟩ := open_txts h
  refine ⟨A, ks, d, h1, h2, h3, h4, fun bs hb => ?_⟩
  obtain ⟨i, hi⟩ := List.mem_iff_getElem?.1 hb
  obtain ⟨_, _, _, _, _, _, g, _⟩ := h4 i bs hi
  exact g
end
end Go.Proofs.Ytamnpblijdgdaaa

/- What a Crash leaves of each region, row by row. -/
namespace Go.Proofs.Ytamnpblijdgdaaa
open Go.ChangeShapes Go.WideShapes Go.ChangeAt Go.RowKit
set_option linter.unusedVariables false
set_option maxRecDepth 100000
/-- One region's row behind those of its writes that are kept. -/
def rowW : List DWr → Nat → (Nat → Bool) → Nat → List (List Int) → List (List Int)
  | [], _, _, _, s => s
  | x :: l, r, kept, nth, s => if x.r = r then (if x.i = 65535 then s else rowW l r kept (nth + 1) (if kept nth then s.set x.i x.b else s)) else rowW l r kept nth s
theorem setAt_row (s : List (List (List Int))) (r i : Nat) (b : List Int) : (setAt s r i b).getD r [] = (s.getD r []).set i b := by
  unfold setAt
  by_cases h : r < s.length
  · simp [List.getD, h]
  · simp [List.getD, List.getElem?_eq_none (by omega : s.length ≤ r), List.set_eq_of_length_le (by omega : s.length ≤ r)]
theorem setAt_other (s : List (List (List Int))) (r i : Nat) (b : List Int) {k : Nat} (h : k ≠ r) : (setAt s r i b).getD k [] = s.getD k [] := by
  unfold setAt
  simp [List.getD, Ne.symm h]
theorem settleW_row : ∀ (l : List DWr) (r : Nat) (kept : Nat → Bool) (nth : Nat) (s : List (List (List Int))), (settleW l r kept nth s).getD r [] = rowW l r kept nth (s.getD r [])
  | [], _, _, _, _ => rfl
  | x :: l, r, kept, nth, s => by
    unfold settleW rowW
    by_cases e : x.r = r
    · rw [if_pos e, if_pos e]
      split
      · rfl
      · rw [settleW_row]
        split
        · rw [e, setAt_row]
        · rfl
    · rw [if_neg e, if_neg e, settleW_row]
theorem settleW_other : ∀ (l : List DWr) (r : Nat) (kept : Nat → Bool) (nth : Nat) (s : List (List (List Int))) (k : Nat), k ≠ r → (settleW l r kept nth s).getD k [] = s.getD k []
  | [], _, _, _, _, _, _ => rfl
  | x :: l, r, kept, nth, s, k, hk => by
    unfold settleW
    by_cases e : x.r = r
    · rw [if_pos e]
      split
      · rfl
      · rw [settleW_other _ _ _ _ _ _ hk]
        split
        · rw [e, setAt_other _ _ _ _ hk]
        · rfl
    · rw [if_neg e, settleW_other _ _ _ _ _ _ hk]
/-- How many writes of its own a region has not yet settled. -/
def pend (l : List DWr) (r : Nat) : Nat := (l.filter (fun x => x.r == r)).length
theorem rowW_none : ∀ (l : List DWr) (r : Nat) (kept : Nat → Bool) (nth : Nat) (s : List (List Int)), (∀ k, kept k = false) → rowW l r kept nth s = s
  | [], _, _, _, _, _ => rfl
  | x :: l, r, kept, nth, s, h => by
    unfold rowW
    rw [h nth]
    split
    · split
      · rfl
      · exact rowW_none l r kept _ _ h
    · exact rowW_none l r kept _ _ h
theorem rowW_congr : ∀ (l : List DWr) (r : Nat) (f g : Nat → Bool) (nth : Nat) (s : List (List Int)), (∀ k, nth ≤ k → k < nth + pend l r → f k = g k) → rowW l r f nth s = rowW l r g nth s
  | [], _, _, _, _, _, _ => rfl
  | x :: l, r, f, g, nth, s, h => by
    unfold rowW
    by_cases e : x.r = r
    · have hp : pend (x :: l) r = pend l r + 1 := by unfold pend; simp [e]
      rw [if_pos e, if_pos e, h nth (Nat.le_refl _) (by omega)]
      split
      · rfl
      · exact rowW_congr l r f g _ _ fun k h1 h2 => h k (by omega) (by omega)
    · have hp : pend (x :: l) r = pend l r := by unfold pend; simp [e]
      rw [if_neg e, if_neg e]
      exact rowW_congr l r f g _ _ fun k h1 h2 => h k h1 (by omega)
theorem rowW_skip (l : List DWr) (x : DWr) (r : Nat) (kept : Nat → Bool) (h : x.r ≠ r ∨ x.i = 65535) : ∀ (nth : Nat) (s : List (List Int)), rowW (l ++ [x]) r kept nth s = rowW l r kept nth s := by
  induction l with
  | nil =>
    intro nth s
    show rowW [x] r kept nth s = s
    unfold rowW
    split
    · rename_i e
      rcases h with h | h
      · exact absurd e h
      · rw [if_pos h]
    · rfl
  | cons y l ih =>
    intro nth s
    show rowW (y :: (l ++ [x])) r kept nth s = _
    unfold rowW
    split
    · split
      · rfl
      · exact ih _ _
    · exact ih _ _
theorem rowW_snoc (l : List DWr) (x : DWr) (r : Nat) (kept : Nat → Bool) (hc : ∀ y ∈ l, y.r = r → y.i ≠ 65535) (h : x.r = r) (hi : x.i ≠ 65535) : ∀ (nth : Nat) (s : List (List Int)), rowW (l ++ [x]) r kept nth s = if kept (nth + pend l r) then (rowW l r kept nth s).set x.i x.b else rowW l r kept nth s := by
  induction l with
  | nil =>
    intro nth s
    show rowW [x] r kept nth s = _
    unfold rowW
    rw [if_pos h, if_neg hi]
    rfl
  | cons y l ih =>
    intro nth s
    have hc' : ∀ y ∈ l, y.r = r → y.i ≠ 65535 := fun z hz => hc z (by simp [hz])
    show rowW (y :: (l ++ [x])) r kept nth s = _
    by_cases e : y.r = r
    · have hp : pend (y :: l) r = pend l r + 1 := by unfold pend; simp [e]
      have hy := hc y (by simp) e
      have u1 : rowW (y :: (l ++ [x])) r kept nth s = rowW (l ++ [x]) r kept (nth + 1) (if kept nth then s.set y.i y.b else s) := by rw [rowW, if_pos e, if_neg hy]
      have u2 : rowW (y :: l) r kept nth s = rowW l r kept (nth + 1) (if kept nth then s.set y.i y.b else s) := by rw [rowW, if_pos e, if_neg hy]
      rw [u1, u2, ih hc', hp, show nth + 1 + pend l r = nth + (pend l r + 1) by omega]
    · have hp : pend (y :: l) r = pend l r := by unfold pend; simp [e]
      have u1 : rowW (y :: (l ++ [x])) r kept nth s = rowW (l ++ [x]) r kept nth s := by rw [rowW, if_neg e]
      have u2 : rowW (y :: l) r kept nth s = rowW l r kept nth s := by rw [rowW, if_neg e]
      rw [u1, u2, ih hc', hp]
/-- The region's row of what is sure, and what was written since. -/
def sureRow (m : DM) (r : Nat) : List (List Int) := m.sure.getD r []
def nowRow (m : DM) (r : Nat) : List (List Int) := m.now.getD r []
def since (m : DM) (r : Nat) : List DWr := m.done.drop (m.uns.getD r 0)
theorem settle_same (m : DM) (r : Nat) (kept : Nat → Bool) : sureRow (m.settle r kept) r = rowW (since m r) r kept 0 (sureRow m r) := settleW_row _ _ _ _ _
theorem settle_other (m : DM) (r : Nat) (kept : Nat → Bool) {k : Nat} (hk : k ≠ r) : sureRow (m.settle r kept) k = sureRow m k ∧ since (m.settle r kept) k = since m k := by
  refine ⟨settleW_other _ _ _ _ _ _ hk, ?_⟩
  unfold since DM.settle
  simp [List.getD, Ne.symm hk]
theorem settle_since {m : DM} (h : m.Ok) {r : Nat} (hr : r < m.now.length) (kept : Nat → Bool) : since (m.settle r kept) r = [] := by
  unfold since DM.settle
  have : r < m.uns.length := by rw [h.unsLen]; exact hr
  simp [List.getD, this]
theorem crash1_same {m : DM} (h : m.Ok) {r : Nat} (hr : r < m.now.length) (bs : List Int) : nowRow (m.crash1 r bs) r = rowW (since m r) r (bitAt bs) 0 (sureRow m r) := by
  rw [← settle_same]
  unfold nowRow DM.crash1
  simp [List.getD, hr]
  rfl
theorem crash1_other (m : DM) (r : Nat) (bs : List Int) {k : Nat} (hk : k ≠ r) : nowRow (m.crash1 r bs) k = nowRow m k ∧ sureRow (m.crash1 r bs) k = sureRow m k ∧ since (m.crash1 r bs) k = since m k := by
  have := settle_other m r (bitAt bs) hk
  refine ⟨?_, this.1, this.2⟩
  unfold nowRow DM.crash1
  simp [List.getD, Ne.symm hk]
theorem crashN_rows {m : DM} (h : m.Ok) (ks : List (List Int)) : ∀ n, n ≤ m.now.length → (∀ r, r < n → nowRow (crashN m ks n) r = rowW (since m r) r (bitAt (ks.getD r [])) 0 (sureRow m r)) ∧ ∀ r, n ≤ r → nowRow (crashN m ks n) r = nowRow m r ∧ sureRow (crashN m ks n) r = sureRow m r ∧ since (crashN m ks n) r = since m r
  | 0, _ => ⟨fun r hr => by omega, fun r _ => ⟨rfl, rfl, rfl⟩⟩
  | n + 1, hn => by
    obtain ⟨h1, h2⟩ := crashN_rows h ks n (by omega)
    have hok := crashN_ok h ks n (by omega)
    have hl : n < (crashN m ks n).now.length := by rw [(crashN_len m ks n).1]; omega
    show (∀ r, r < n + 1 → nowRow ((crashN m ks n).crash1 n (ks.getD n [])) r = _) ∧ ∀ r, n + 1 ≤ r → nowRow ((crashN m ks n).crash1 n (ks.getD n [])) r = _ ∧ _ ∧ _
    refine ⟨fun r hr => ?_, fun r hr => ?_⟩
    · by_cases e : r = n
      · subst e
        rw [crash1_same hok hl, (h2 r (Nat.le_refl _)).2.1, (h2 r (Nat.le_refl _)).2.2]
      · rw [(crash1_other _ _ _ e).1]
        exact h1 r (by omega)
    · have e : r ≠ n := by omega
      obtain ⟨g1, g2, g3⟩ := crash1_other (crashN m ks n) n (ks.getD n []) e
      obtain ⟨f1, f2, f3⟩ := h2 r (by omega)
      exact ⟨g1.trans f1, g2.trans f2, g3.trans f3⟩
/-- WHAT A CRASH LEAVES. -/
theorem crash_row {m : DM} (h : m.Ok) (ks : List (List Int)) {r : Nat} (hr : r < m.now.length) : nowRow (m.crash ks) r = rowW (since m r) r (bitAt (ks.getD r [])) 0 (sureRow m r) := (crashN_rows h ks _ (Nat.le_refl _)).1 r hr
/-- What is so of a device between its deeds: what is, is what is sure and all that was written since. -/
structure Told (m : DM) : Prop where
  clean : ∀ r, r < m.now.length → ∀ x ∈ since m r, x.r = r → x.i ≠ 65535
  full : ∀ r, r < m.now.length → rowW (since m r) r (fun _ => true) 0 (sureRow m r) = nowRow m r
theorem Told.make (zs : List Int) : Told (DM.make zs) where
  clean := fun r _ x hx => by unfold since DM.make at hx; simp at hx
  full := fun r _ => by
    have : since (DM.make zs) r = [] := by unfold since DM.make; simp
    rw [this]; rfl
theorem since_write {m : DM} (h : m.Ok) {k : Nat} (hk : k < m.now.length) (r i : Nat) (b : List Int) : since (m.write r i b) k = since m k ++ [⟨r, i, b⟩] := by
  unfold since DM.write
  show List.drop (m.uns.getD k 0) (m.done ++ _) = _
  obtain ⟨u, hu⟩ : ∃ u, m.uns[k]? = some u := ⟨_, List.getElem?_eq_getElem (by rw [h.unsLen]; exact hk)⟩
  have hle := h.unss k u hu
  have hg : m.uns.getD k 0 = u := by rw [List.getD, hu]; rfl
  rw [hg, List.drop_append_of_le_length hle]
theorem Told.write {m : DM} (h : Told m) (hm : m.Ok) (r i : Nat) (b : List Int) (hi : i ≠ 65535) : Told (m.write r i b) where
  clean := fun k hk x hx => by
    have hk' : k < m.now.length := by have : (m.write r i b).now.length = m.now.length := by show (setAt _ _ _ _).length = _; unfold setAt; simp
                                      omega
    rw [since_write hm hk'] at hx
    rcases List.mem_append.1 hx with h1 | h1
    · exact h.clean k hk' x h1
    · rw [List.mem_singleton.1 h1]; intro _; exact hi
  full := fun k hk => by
    have hk' : k < m.now.length := by have : (m.write r i b).now.length = m.now.length := by show (setAt _ _ _ _).length = _; unfold setAt; simp
                                      omega
    have hs : sureRow (m.write r i b) k = sureRow m k := rfl
    rw [since_write hm hk', hs]
    by_cases e : r = k
    · subst e
      rw [rowW_snoc _ _ _ _ (h.clean r hk') rfl hi, h.full r hk', if_pos rfl]
      exact (setAt_row _ _ _ _).symm
    · rw [rowW_skip _ _ _ _ (Or.inl e), h.full k hk']
      exact (setAt_other _ _ _ _ (Ne.symm e)).symm
theorem barrier_rows {m : DM} (h : Told m) (hm : m.Ok) {r : Nat} (hr : r < m.now.length) : sureRow (m.barrier r) r = nowRow m r ∧ (∀ k, k ≠ r → sureRow (m.barrier r) k = sureRow m k) ∧ (∀ k, nowRow (m.barrier r) k = nowRow m k) ∧ since (m.barrier r) r = [] ∧ ∀ k, k < m.now.length → k ≠ r → since (m.barrier r) k = since m k ++ [⟨r, 65535, List.replicate 64 0⟩] := by
  have hw : ∀ k, k < m.now.length → since ({ m with done := m.done ++ [⟨r, 65535, List.replicate 64 0⟩] } : DM) k = since m k ++ [⟨r, 65535, List.replicate 64 0⟩] := fun k hk => since_write hm hk r 65535 _
  have ho : ({ m with done := m.done ++ [⟨r, 65535, List.replicate 64 0⟩] } : DM).Ok := hm.tell hr
  unfold DM.barrier
  refine ⟨?_, fun k hk => (settle_other _ _ _ hk).1, fun k => rfl, settle_since ho hr _, fun k hk hk' => ?_⟩
  · rw [settle_same, hw r hr, rowW_skip _ _ _ _ (Or.inr rfl)]
    exact h.full r hr
  · rw [(settle_other _ _ _ hk').2]
    exact hw k hk
theorem Told.barrier {m : DM} (h : Told m) (hm : m.Ok) {r : Nat} (hr : r < m.now.length) : Told (m.barrier r) := by
  obtain ⟨h1, h2, h3, h4, h5⟩ := barrier_rows h hm hr
  refine ⟨fun k hk x hx => ?_, fun k hk => ?_⟩
  · have hk' : k < m.now.length := hk
    by_cases e : k = r
    · subst e; rw [h4] at hx; cases hx
    · rw [h5 k hk' e] at hx
      rcases List.mem_append.1 hx with g | g
      · exact h.clean k hk' x g
      · rw [List.mem_singleton.1 g]; intro e2; exact absurd e2.symm e
  · have hk' : k < m.now.length := hk
    by_cases e : k = r
    · subst e; rw [h4, h1, h3]; rfl
    · rw [h5 k hk' e, h2 k e, h3, rowW_skip _ _ _ _ (Or.inl (Ne.symm e))]
      exact h.full k hk'
/-- Where nothing survives, each region is as at its last Barrier. -/
theorem crash_none {m : DM} (h : m.Ok) {r : Nat} (hr : r < m.now.length) : nowRow (m.crash []) r = sureRow m r := by
  rw [crash_row h [] hr]
  exact rowW_none _ _ _ _ _ fun k => by unfold bitAt; simp
/-- Where all survives, all is as it was. -/
theorem crash_all {m : DM} (h : m.Ok) (ht : Told m) (ks : List (List Int)) {r : Nat} (hr : r < m.now.length) (hk : ∀ k, k < pend (since m r) r → bitAt (ks.getD r []) k = true) : nowRow (m.crash ks) r = nowRow m r := by
  rw [crash_row h ks hr, ← ht.full r hr]
  exact rowW_congr _ _ _ _ _ _ fun k _ h2 => hk k (by omega)
theorem pend_le (m : DM) (r : Nat) : pend (since m r) r ≤ m.done.length := by
  unfold pend since
  have h1 := List.length_filter_le (fun x : DWr => x.r == r) (m.done.drop (m.uns.getD r 0))
  have h2 := List.length_drop (i := m.uns.getD r 0) (l := m.done)
  omega
end Go.Proofs.Ytamnpblijdgdaaa
