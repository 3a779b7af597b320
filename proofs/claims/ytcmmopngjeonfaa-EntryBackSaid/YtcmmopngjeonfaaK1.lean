/- Small facts on worlds, lists, bytes in memory: of no function. -/
import Derived.Test.YtcmmopngjeonfaaRows
import Derived.WalkKit
import Derived.ProofKit
import Derived.OpenShut
import Derived.Outline
import Derived.WalkLawsBesides
import Derived.Laws.Bits64b
import Derived.Deep.RegionHeld3
import Derived.Lib.Hide
import Derived.LoopTactic
import Derived.Laws.StructEq
import Derived.Laws.BytesArg
import Derived.Laws.MakeOwn
import Derived.Maps.AppendAt
import Derived.OwnWalk
import Derived.IntWalk
import Derived.WalkMore
import Derived.Deep.QuietTactic
import Derived.BigQuiet
namespace Go.Proofs.Ytcmmopngjeonfaa
open Go.ChangeShapes Go.WideShapes Go.ChangeAt Go.RowKit
set_option linter.unusedVariables false
theorem bcell {W w1 : World} (hb : Below W.heap.size W w1) : (∀ b o, b < W.heap.size → w1.cell? ⟨b, o, none⟩ = W.cell? ⟨b, o, none⟩) ∧ (∀ b o, b < W.heap.size → w1.frozen? ⟨b, o, none⟩ = W.frozen? ⟨b, o, none⟩) :=
  ⟨fun b o h => hb.cell (p := ⟨b, o, none⟩) h, fun b o h => hb.frozen (p := ⟨b, o, none⟩) h⟩
theorem keep {W w1 : World} (hb : Below W.heap.size W w1) {b o : Nat} {v : Value} (h : W.cell? ⟨b, o, none⟩ = some v) : w1.cell? ⟨b, o, none⟩ = some v := by
  rw [(bcell hb).1 _ _ (World.block_lt_of_cell? W _ h)]; exact h
theorem keepF {W w1 : World} (hb : Below W.heap.size W w1) {b o : Nat} {v : Value} (h : W.cell? ⟨b, o, none⟩ = some v) (g : W.frozen? ⟨b, o, none⟩ = false) : w1.frozen? ⟨b, o, none⟩ = false := by
  rw [(bcell hb).2 _ _ (World.block_lt_of_cell? W _ h)]; exact g
theorem keepB {w W w1 : World} (h : Below w.heap.size w W) (hb : Below W.heap.size W w1) : Below w.heap.size w w1 := h.trans (hb.mono h.size)
theorem keepA {W : World} {a : Addr} {v : Value} (h : W.cell? a = some v) (o : Obj) : (W.alloc o).cell? a = some v := by
  rw [World.cell?_alloc_some W a o (by rw [h]; rfl)]; exact h
theorem keepC {w w' : World} (hb : Below w.heap.size w w') {q : Addr} {v : Value} (hq : w.cell? q = some v) : w'.cell? q = some v := by
  rw [hb.cell (World.block_lt_of_cell? w q hq)]; exact hq
theorem bdn {B : Nat} {w w2 : World} (h : Below B w w2) (n : Nat) : Below B w (w2.drewN n) := ⟨h.os, h.tape, h.output, h.size, h.block⟩
abbrev i64 (l : Int) : Prop := -2 ^ 63 ≤ l ∧ l ≤ 2 ^ 63
theorem take_snoc' {α : Type} {l : List α} {k : Nat} {s : α} (h : l[k]? = some s) : l.take (k + 1) = l.take k ++ [s] := by
  rw [List.take_add_one, h]; rfl
theorem ret_bool {a b : Bool} (h : a = b) : Ending.returned (.bool a) = .returned (.bool b) := by rw [h]
theorem ret_int {k : IntKind} {a b : Int} (h : a = b) : Ending.returned (.int k a) = .returned (.int k b) := by rw [h]
theorem wf_i64 {n : Int} (h : (Lit.int .i64 n).wf = true) : i64 n := by
  have := bounds_i64 h; constructor <;> omega
theorem heap_setCell_same' {W : World} {r i : Nat} {C : Array Value} {t : TypeId} (h : W.heap[r]? = some (.cells C t (0, 0))) (u : Value) : (W.setCell ⟨r, i, none⟩ u).heap[r]? = some (.cells (C.setIfInBounds i u) t (0, 0)) := by
  simp [World.setCell, Array.getElem?_modify, h]
theorem ownSet {W : World} {base e sz n : Nat} {v : Value} {xs : List Value} (h : W.ownsRow base e sz v n xs) {a : Addr} (u : Value) (hne : v.ownBlock ≠ some a.block) : (W.setCell a u).ownsRow base e sz v n xs :=
  h.kept (row := some a.block) ⟨rfl, rfl, rfl, by simp, fun k hk hne => by
    rw [World.setCell]; simp only [Array.getElem?_modify]; rw [if_neg (fun e => hne (by rw [e]))]⟩ (.inr hne)
theorem blk_cell {W : World} {r : Nat} {C : Array Value} {t : TypeId} {fr : Nat × Nat} (h : W.heap[r]? = some (.cells C t fr)) (i : Nat) : W.cell? ⟨r, i, none⟩ = C[i]? := cell_of_row W r i C t fr h
theorem blk_free {W : World} {r : Nat} {C : Array Value} {t : TypeId} (h : W.heap[r]? = some (.cells C t (0, 0))) (i : Nat) : W.frozen? ⟨r, i, none⟩ = false := by simp [World.frozen?, h]
theorem room_lt {W : World} {g : Nat} {o : Obj} (h : W.heap[g]? = some o) : g < W.heap.size := by
  rcases Nat.lt_or_ge g W.heap.size with h1 | h1
  · exact h1
  · rw [Array.getElem?_eq_none h1] at h; cases h
theorem add_add' (a : Addr) (i j : Nat) : (a.add i).add j = a.add (i + j) := by
  unfold Addr.add
  by_cases hi : i = 0 <;> by_cases hj : j = 0 <;> simp [hi, hj, Nat.add_assoc]
theorem add_at (g i : Nat) : (⟨g, 0, none⟩ : Addr).add i = ⟨g, i, none⟩ := by unfold Addr.add; split <;> simp_all
theorem add_sum (a : Addr) (k : Nat) : a.add (k + 1) = ⟨a.block, a.off + (k + 1), none⟩ := by unfold Addr.add; simp
/-- Bytes lie behind a slice. -/
def Byt (w : World) (A : Option Addr) (xs : List Int) : Prop := ∀ i x, xs[i]? = some x → ∃ a, A = some a ∧ w.cell? (a.add i) = some (.int .u8 x)
def AllB (xs : List Int) : Prop := ∀ x ∈ xs, 0 ≤ x ∧ x < 256
/-- The cells of bytes. -/
def Bs (xs : List Int) : List Value := xs.map (.int .u8)
theorem Bs_at {xs : List Int} {i : Nat} {x : Int} (h : xs[i]? = some x) : (Bs xs)[i]? = some (.int .u8 x) := by unfold Bs; rw [List.getElem?_map, h]; rfl
theorem Bs_length (xs : List Int) : (Bs xs).length = xs.length := by unfold Bs; simp
theorem Byt.keep {w w' : World} {A : Option Addr} {xs : List Int} (h : Byt w A xs) (hb : Below w.heap.size w w') : Byt w' A xs := fun i x hi =>
  let ⟨a, e, hs⟩ := h i x hi; ⟨a, e, keepC hb hs⟩
theorem Byt.alloc {w : World} {A : Option Addr} {xs : List Int} (h : Byt w A xs) (o : Obj) : Byt (w.alloc o) A xs := fun i x hi =>
  let ⟨a, e, hs⟩ := h i x hi; ⟨a, e, keepA hs o⟩
theorem Byt.drew {w : World} {A : Option Addr} {xs : List Int} (h : Byt w A xs) (n : Nat) : Byt (w.drewN n) A xs := h
theorem Byt.take {w : World} {A : Option Addr} {xs : List Int} (h : Byt w A xs) (k : Nat) : Byt w A (xs.take k) := fun i x hi => h i x (by
  rw [List.getElem?_take] at hi; split at hi; exact hi; cases hi)
/-- Bytes of a known block. -/
theorem byt_blk {W : World} {r : Nat} {C : Array Value} {t : TypeId} {fr : Nat × Nat} {bs : List Int} (h : W.heap[r]? = some (.cells C t fr)) (hc : C.toList = Bs bs) : Byt W (some ⟨r, 0, none⟩) bs := by
  intro i x hi
  refine ⟨_, rfl, ?_⟩
  rw [add_at, cell_of_row _ _ _ _ _ _ h, ← Array.getElem?_toList, hc]
  exact Bs_at hi
/-- Bytes that a call owns. -/
theorem byt_own {W : World} {B : Nat} {t : TypeId} {sv : Value} {n : Nat} {bs : List Int} (h : W.ownsRow B t 1 sv n (Bs bs)) (hn : bs.length = n) :
    ∃ A d, sv = .slice A bs.length d ∧ bs.length ≤ d ∧ d ≤ 9223372036854775807 ∧ Byt W A bs := by
  subst hn
  rcases h.2 with ⟨rfl, h0⟩ | ⟨g, cap, cur, rfl, hb, hg, hn', hm, hs, ht⟩
  · refine ⟨none, 0, by rw [h0], by omega, by omega, fun i s hi => ?_⟩
    rw [List.length_eq_zero_iff.1 h0] at hi; cases hi
  · refine ⟨some ⟨g, 0, none⟩, cap, rfl, hn', by simp only [maxLen] at hm; omega, fun i s hi => ⟨_, rfl, ?_⟩⟩
    exact h.cells (g := g) rfl _ _ (Bs_at hi)
/-- What a slice from k on is. -/
def cutA (A : Option Addr) (c k : Nat) : Option Addr := if c = k then A else A.map (·.add (k * 1))
theorem Byt.cut {w : World} {A : Option Addr} {xs : List Int} {c k : Nat} (h : Byt w A xs) (hc : xs.length ≤ c) : Byt w (cutA A c k) (xs.drop k) := fun i x hi => by
  rw [List.getElem?_drop] at hi
  have hl : k + i < xs.length := (List.getElem?_eq_some_iff.1 hi).1
  obtain ⟨a, rfl, ha⟩ := h _ _ hi
  refine ⟨a.add k, ?_, by rw [add_add']; exact ha⟩
  unfold cutA
  rw [if_neg (by omega), Nat.mul_one]; rfl
theorem byte_inj {x y : Int} (hx : 0 ≤ x ∧ x < 256) (hy : 0 ≤ y ∧ y < 256) (h : UInt8.ofNat x.toNat = UInt8.ofNat y.toNat) : x = y := by
  have := congrArg UInt8.toNat h
  simp only [UInt8.toNat_ofNat'] at this
  omega
theorem strOfNums_toList (xs : List Int) : (strOfNums xs).toList = xs.map fun n => UInt8.ofNat n.toNat := by
  rw [ByteArray.toList_eq]; rfl
theorem map_byte_inj : ∀ {xs ys : List Int}, AllB xs → AllB ys → xs.map (fun n => UInt8.ofNat n.toNat) = ys.map (fun n => UInt8.ofNat n.toNat) → xs = ys
  | [], [], _, _, _ => rfl
  | [], _ :: _, _, _, h => by simp at h
  | _ :: _, [], _, _, h => by simp at h
  | x :: xs, y :: ys, hx, hy, h => by
    rw [List.map_cons, List.map_cons] at h
    injection h with h1 h2
    rw [byte_inj (hx x (by simp)) (hy y (by simp)) h1, map_byte_inj (fun v hv => hx v (by simp [hv])) (fun v hv => hy v (by simp [hv])) h2]
theorem str_beq {xs ys : List Int} (hx : AllB xs) (hy : AllB ys) : ((strOfNums xs).toList == (strOfNums ys).toList) = decide (xs = ys) := by
  rw [strOfNums_toList, strOfNums_toList, Bool.eq_iff_iff]
  simp only [beq_iff_eq, decide_eq_true_eq]
  exact ⟨map_byte_inj hx hy, fun h => by rw [h]⟩
end Go.Proofs.Ytcmmopngjeonfaa
