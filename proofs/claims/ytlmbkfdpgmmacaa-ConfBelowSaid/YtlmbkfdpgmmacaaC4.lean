/- Bytes as they lie in memory; contracts: conf.Take and the reference's. -/
import Derived.Test.YtlmbkfdpgmmacaaC3
import Derived.Laws.BytesArg
import Derived.Test.YtlmbkfdpgmmacaaJ
import Derived.WalkMore
import Derived.Scope
namespace Go.Proofs.Ytlmbkfdpgmmacaa
open Go.ChangeShapes Go.WideShapes Go.ChangeAt Go.RowKit
set_option linter.unusedVariables false
/-- Bytes lie behind a slice. -/
def Byt (w : World) (A : Option Addr) (xs : List Int) : Prop := ∀ i x, xs[i]? = some x → ∃ a, A = some a ∧ w.cell? (a.add i) = some (.int .u8 x)
def AllB (xs : List Int) : Prop := ∀ x ∈ xs, 0 ≤ x ∧ x < 256
theorem Byt.keep {w w' : World} {A : Option Addr} {xs : List Int} (h : Byt w A xs) (hb : Below w.heap.size w w') : Byt w' A xs := fun i x hi =>
  let ⟨a, e, hs⟩ := h i x hi; ⟨a, e, keepC hb hs⟩
theorem add_add' (a : Addr) (i j : Nat) : (a.add i).add j = a.add (i + j) := by
  unfold Addr.add
  by_cases hi : i = 0 <;> by_cases hj : j = 0 <;> simp [hi, hj, Nat.add_assoc]
theorem Byt.take {w : World} {A : Option Addr} {xs : List Int} (h : Byt w A xs) (k : Nat) : Byt w A (xs.take k) := fun i x hi => h i x (by
  rw [List.getElem?_take] at hi; split at hi; exact hi; cases hi)
/-- What a slice from k on is. -/
def cutA (A : Option Addr) (c k : Nat) : Option Addr := if c = k then A else A.map (·.add (k * 1))
theorem Byt.cut {w : World} {A : Option Addr} {xs : List Int} {c k : Nat} (h : Byt w A xs) (hc : xs.length ≤ c) : Byt w (cutA A c k) (xs.drop k) := fun i x hi => by
  rw [List.getElem?_drop] at hi
  have hl : k + i < xs.length := (List.getElem?_eq_some_iff.1 hi).1
  obtain ⟨a, rfl, ha⟩ := h _ _ hi
  refine ⟨a.add k, ?_, by rw [add_add']; exact ha⟩
  unfold cutA
  rw [if_neg (by omega), Nat.mul_one]; rfl
theorem conv_any {A : Option Addr} {xs : List Int} {n c : Nat} {w : World} (h : Byt w A xs) (hn : xs.length = n) : (convert 24 9 (.slice A n c)).run Try.prog w = .ok (.string (strOfNums xs)) w := by
  rcases A with _ | a
  · have : xs = [] := by
      cases xs with
      | nil => rfl
      | cons x l => obtain ⟨a, e, _⟩ := h 0 x rfl; cases e
    subst this
    rw [run_convert_bytes_nil w 24 5 Try.underlying24 Try.underlying5 n c 9 Try.underlying9]
    rfl
  · have hl : (loadCells a n).run Try.prog w = .ok (Bs xs).toArray w := by
      have := run_loadCells_list (P := Try.prog) w a (Bs xs) (fun j v hj => by
        unfold Bs at hj
        rw [List.getElem?_map] at hj
        obtain ⟨x, hx, rfl⟩ := Option.map_eq_some_iff.1 hj
        obtain ⟨a', e, hc⟩ := h j x hx
        injection e with e; subst e; exact hc)
      have e : (Bs xs).length = n := by unfold Bs; simpa using hn
      rw [e] at this
      exact this
    rw [run_convert_bytes_string w 24 9 5 _ n c Try.underlying24 Try.underlying5 Try.underlying9, run_bytesToString w _ n c xs hl, foldl_push_bytes]
    simp [strOfNums, ByteArray.empty, ByteArray.emptyWithCapacity]
    rfl
theorem cutA_mid {w : World} {A : Option Addr} {n c k : Nat} (hk : k ≤ n) :
    (Instr.slice 24 (.slice A n c) (some (.int .i64 (k : Int))) none none).run Try.prog w = .ok (.slice (cutA A c k) (n - k) (c - k)) w := by
  have e : Try.prog.underlying 24 = some (.slice (Try.prog.elem 24)) := by kernel_rfl
  have e5 : Try.prog.elem 24 = 5 := by kernel_rfl
  have z := Try.sizeOf5 w
  rw [run_slice_l w 24 A n c e .i64 k (by omega) (by omega), e5, z]
  simp [Result.andThen, sliced, cutA]
def rowsV : Nat → List Int → List Sh → Option (List Sh)
  | 0, r, acc => if r = [] ∧ mayConfV acc = true then some acc else none
  | n + 1, a :: b :: c :: d :: r, acc => if takeOk a = true then rowsV n r (acc ++ [⟨takeL a, takeC a, b, c, d⟩]) else none
  | _ + 1, _, _ => none
def takeV (bs : List Int) : Option (List Sh) := match bs with
  | x :: y :: n :: r => if x = 76 ∧ y = 70 then rowsV n.toNat r [] else none
  | _ => none
def Sh.cs (s : Sh) : List Value := [.int .i64 s.l, .int .i64 s.c, .int .i64 s.b, .int .i64 s.g, .int .i64 s.f]
def cellsL (cs : List Sh) : List Value := cs.flatMap Sh.cs
theorem cellsL_length (cs : List Sh) : (cellsL cs).length = cs.length * 5 := by
  unfold cellsL
  induction cs with
  | nil => rfl
  | cons s l ih => rw [List.flatMap_cons, List.length_append, ih, List.length_cons]; unfold Sh.cs; simp; omega
theorem cellsL_at {cs : List Sh} : ∀ {i j : Nat} {s : Sh}, cs[i]? = some s → j < 5 → (cellsL cs)[i * 5 + j]? = s.cs[j]? := by
  unfold cellsL
  induction cs with
  | nil => intro i j s h; cases h
  | cons t l ih =>
    intro i j s h hj
    rw [List.flatMap_cons]
    cases i with
    | zero =>
      injection h with h; subst h
      rw [List.getElem?_append_left (by unfold Sh.cs; simp; omega)]; simp
    | succ i =>
      rw [List.getElem?_append_right (by unfold Sh.cs; simp; omega), ← ih (i := i) (j := j) (s := s) (by simpa using h) hj]
      congr 1
      unfold Sh.cs; simp; omega
theorem cellsL_one (cs : List Sh) : ∀ u ∈ cellsL cs, u.oneCell' = true := by
  intro u hu
  unfold cellsL at hu
  obtain ⟨s, _, hs⟩ := List.mem_flatMap.1 hu
  unfold Sh.cs at hs
  simp at hs
  rcases hs with rfl | rfl | rfl | rfl | rfl <;> rfl
theorem cellsL_snoc (cs : List Sh) (s : Sh) : cellsL (cs ++ [s]) = cellsL cs ++ s.cs := by unfold cellsL; simp
/-- A config that the call owns lies so. -/
theorem conf_own {W : World} {B : Nat} {sv : Value} {cs : List Sh} (h : W.ownsRow B 47 5 sv cs.length (cellsL cs)) :
    ∃ A d, sv = .slice A cs.length d ∧ cs.length ≤ d ∧ d ≤ 9223372036854775807 ∧ Conf W A cs := by
  rcases h.2 with ⟨rfl, h0⟩ | ⟨g, cap, cur, rfl, hb, hg, hn, hm, hs, ht⟩
  · refine ⟨none, 0, by rw [h0], by omega, by omega, fun i s hi => ?_⟩
    rw [List.length_eq_zero_iff.1 h0] at hi; cases hi
  · refine ⟨some ⟨g, 0, none⟩, cap, rfl, hn, by simp only [maxLen] at hm; omega, fun i s hi => ⟨_, rfl, ?_⟩⟩
    have hc := h.cells (g := g) rfl
    have e : ∀ j, (⟨g, 0, none⟩ : Addr).add j = ⟨g, j, none⟩ := fun j => by unfold Addr.add; split <;> simp_all
    have k : ∀ j u, j < 5 → s.cs[j]? = some u → W.cell? ⟨g, i * 5 + j, none⟩ = some u := fun j u hj hu => by
      rw [← e]; exact hc _ _ (by rw [cellsL_at hi hj]; exact hu)
    rw [e]
    exact ⟨k 0 _ (by omega) rfl, k 1 _ (by omega) rfl, k 2 _ (by omega) rfl, k 3 _ (by omega) rfl, k 4 _ (by omega) rfl⟩
theorem takeOk_bounds {b : Int} (h0 : 0 ≤ b) (h : takeOk b = true) : i64 (takeL b) ∧ i64 (takeC b) := by
  have := of_decide_eq_true h
  unfold takeL takeC
  rw [if_pos h, if_pos h]
  constructor <;> constructor <;> omega
/-- What Take answers. -/
def TookE (v : Option (List Sh)) (B : Nat) (w' : World) (e : Ending) : Prop := match v with
  | some cs => ∃ sv, e = .returned (.tuple #[sv, .int .i64 0]) ∧ w'.ownsRow B 47 5 sv cs.length (cellsL cs)
  | none => e = .returned (.tuple #[.slice none 0 0, .int .i64 1])
theorem heap_setCell_same' {W : World} {r i : Nat} {C : Array Value} {t : TypeId} (h : W.heap[r]? = some (.cells C t (0, 0))) (u : Value) : (W.setCell ⟨r, i, none⟩ u).heap[r]? = some (.cells (C.setIfInBounds i u) t (0, 0)) := by
  simp [World.setCell, Array.getElem?_modify, h]
theorem ownSet {W : World} {base e sz n : Nat} {v : Value} {xs : List Value} (h : W.ownsRow base e sz v n xs) {a : Addr} (u : Value) (hne : v.ownBlock ≠ some a.block) : (W.setCell a u).ownsRow base e sz v n xs :=
  h.kept (row := some a.block) ⟨rfl, rfl, rfl, by simp, fun k hk hne => by
    rw [World.setCell]; simp only [Array.getElem?_modify]; rw [if_neg (fun e => hne (by rw [e]))]⟩ (.inr hne)
theorem size5 {C : Array Value} (h : C.size = 5) : ∃ a b c d e, C = #[a, b, c, d, e] := by
  obtain ⟨l⟩ := C
  match l, h with
  | [a, b, c, d, e], _ => exact ⟨a, b, c, d, e, rfl⟩
theorem blk_cell {W : World} {r : Nat} {C : Array Value} {t : TypeId} (h : W.heap[r]? = some (.cells C t (0, 0))) (i : Nat) : W.cell? ⟨r, i, none⟩ = C[i]? := cell_of_row W r i C t (0, 0) h
theorem blk_free {W : World} {r : Nat} {C : Array Value} {t : TypeId} (h : W.heap[r]? = some (.cells C t (0, 0))) (i : Nat) : W.frozen? ⟨r, i, none⟩ = false := by simp [World.frozen?, h]
theorem byte_inj {x y : Int} (hx : 0 ≤ x ∧ x < 256) (hy : 0 ≤ y ∧ y < 256) (h : UInt8.ofNat x.toNat = UInt8.ofNat y.toNat) : x = y := by
  have := congrArg UInt8.toNat h
  simp only [UInt8.toNat_ofNat'] at this
  omega
theorem strOfNums_toList (xs : List Int) : (strOfNums xs).toList = xs.map fun n => UInt8.ofNat n.toNat := by
  rw [ByteArray.toList_eq]; rfl
theorem map_byte_inj : ∀ {xs ys : List Int}, AllB xs → AllB ys → xs.map (fun n => UInt8.ofNat n.toNat) = ys.map (fun n => UInt8.ofNat n.toNat) → xs = ys
  | [], [], _, _, _ => rfl
  | [], _ :: _, _, _, h => by simp at h
  | _ :: _, [], _, _, h => by simp at h
  | x :: xs, y :: ys, hx, hy, h => by
    rw [List.map_cons, List.map_cons] at h
    injection h with h1 h2
    rw [byte_inj (hx x (by simp)) (hy y (by simp)) h1, map_byte_inj (fun v hv => hx v (by simp [hv])) (fun v hv => hy v (by simp [hv])) h2]
theorem str_beq {xs ys : List Int} (hx : AllB xs) (hy : AllB ys) : ((strOfNums xs).toList == (strOfNums ys).toList) = decide (xs = ys) := by
  rw [strOfNums_toList, strOfNums_toList, Bool.eq_iff_iff]
  simp only [beq_iff_eq, decide_eq_true_eq]
  exact ⟨map_byte_inj hx hy, fun h => by rw [h]⟩
end Go.Proofs.Ytlmbkfdpgmmacaa
