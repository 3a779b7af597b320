/- Contracts: Out, Intact (bytes handed out, with a tail in the same room). -/
import Derived.Test.YtocmjbfbjiinhaaK3
namespace Go.Proofs.Ytocmjbfbjiinhaa
open Go.ChangeShapes Go.WideShapes Go.ChangeAt Go.RowKit
set_option linter.unusedVariables false
theorem info5 : (Try.prog.info? 5).map (fun i => (i.zero, i.size, i.bytes)) = some (some (.int .u8 0), 1, 1) := by kernel_rfl
def patB (i : Nat) : Int := 60 + (i : Int) % 7
/-- The room's cells, so many set: first the pattern (k), then the bytes (j). -/
structure RoomC (C : Array Value) (n : Nat) (bs : List Int) (k j : Nat) : Prop where
  size : C.size = n + 7
  first : ∀ i, i < j → ∀ x, bs[i]? = some x → C[i]? = some (.int .u8 x)
  pat : ∀ i, j ≤ i → i < k → C[i]? = some (.int .u8 (patB i))
theorem RoomC.setP {C : Array Value} {n k : Nat} {bs : List Int} (h : RoomC C n bs k 0) (hk : k < n + 7) : RoomC (C.setIfInBounds k (.int .u8 (patB k))) n bs (k + 1) 0 := by
  refine ⟨by simp [h.size], fun i hi => by omega, fun i _ hi => ?_⟩
  rw [Array.getElem?_setIfInBounds]
  by_cases e : k = i
  · subst e; rw [if_pos rfl, if_pos (by rw [h.size]; exact hk)]
  · rw [if_neg e]; exact h.pat i (Nat.zero_le _) (by omega)
theorem RoomC.setB {C : Array Value} {n k j : Nat} {bs : List Int} {x : Int} (h : RoomC C n bs k j) (hj : j < n + 7) (hx : bs[j]? = some x) : RoomC (C.setIfInBounds j (.int .u8 x)) n bs k (j + 1) := by
  refine ⟨by simp [h.size], fun i hi y hy => ?_, fun i hi hik => ?_⟩
  · rw [Array.getElem?_setIfInBounds]
    by_cases e : j = i
    · subst e; rw [if_pos rfl, if_pos (by rw [h.size]; exact hj)]; rw [hx] at hy; injection hy with hy; rw [hy]
    · rw [if_neg e]; exact h.first i (by omega) y hy
  · rw [Array.getElem?_setIfInBounds, if_neg (by omega)]
    exact h.pat i (by omega) hik
theorem RoomC.byt {W : World} {g : Nat} {C : Array Value} {t : TypeId} {fr : Nat × Nat} {bs : List Int} {k : Nat} (h : RoomC C bs.length bs k bs.length) (hb : W.heap[g]? = some (.cells C t fr)) : Byt W (some ⟨g, 0, none⟩) bs := by
  intro i x hx
  exact ⟨_, rfl, by rw [add_at, blk_cell hb]; exact h.first i (List.getElem?_eq_some_iff.1 hx).1 x hx⟩
set_option maxRecDepth 100000 in
set_option maxHeartbeats 1600000 in
theorem out_any (A : Option Addr) (bs : List Int) (c : Nat) (w : World) (hl : bs.length ≤ 1000000) (hB : AllB bs) (hy : Byt w A bs) :
    Calls Try.prog 23 #[.slice A bs.length c] w fun e w' => ∃ g C, e = .returned (.slice (some ⟨g, 0, none⟩) bs.length (bs.length + 7)) ∧ w.heap.size ≤ g ∧ w'.heap[g]? = some (.cells C 5 (0, 0)) ∧ RoomC C bs.length bs (bs.length + 7) bs.length ∧ Below w.heap.size w w' := by
  generalize hn : bs.length = n at *
  have HN := Lib.hid hn
  have HY := Lib.hid hy
  clear hn hy
  obtain ⟨i0, hi, hz0, hz1, hz2⟩ := info_parts info5
  have hmk := fun w : World => run_make (P := Try.prog) w 31 5 i0 _ Try.underlying31 hi hz0 .i64 .i64 ((n : Int) + 7) ((n : Int) + 7) (by omega) (by omega) (by rw [hz2]; omega) (by omega)
  generalize hC : madeCells (Value.int .u8 0).cells (((n : Int) + 7).toNat * i0.size) = C0 at hmk
  have HC : Hid (C0.size = n + 7) := by rw [← hC, size_madeCells, hz1]; unfold Hid; omega
  rw [show ((n : Int) + 7).toNat = n + 7 by omega] at hmk
  clear hC hi hz0 hz1 hz2
  have HB0 : Hid (∀ C, Below w.heap.size w (w.alloc (Obj.cells C 5))) := fun C => (Below.refl _ _).alloc (Nat.le_refl _) _
  go_enter Try.func23, Try.ntmps23
  go_wp2
  have hblk0 := heap_alloc_new w (Obj.cells C0 5)
  have hbel0 := HB0.out C0
  generalize w.alloc (Obj.cells C0 5) = W0 at *
  have HS : Hid (w.heap.size = w.heap.size) := rfl
  generalize hg : w.heap.size = g at *
  clear hmk HB0
  go_loopw [4] (fun i wr => ∃ (k : Nat) (C : Array Value), i = .int .i64 k ∧ k ≤ n + 7 ∧ wr.heap[g]? = some (.cells C 5 (0, 0)) ∧ RoomC C n bs k 0 ∧ Below g w wr) (fun i _ => n + 7 - (intOf i).toNat)
  case atStart => exact ⟨0, C0, rfl, Nat.zero_le _, hblk0, ⟨HC.out, fun i hi => by omega, fun i _ hi => by omega⟩, hbel0⟩
  case round =>
    obtain ⟨k, C, rfl, hk, hblk, hroom, hbel⟩ := hrel
    have HR := Lib.hid hroom
    have HBK := Lib.hid hblk
    clear hroom hblk hblk0
    by_cases hlt : k < n + 7
    · obtain ⟨v, hv⟩ : ∃ v, C[k]? = some v := ⟨_, Array.getElem?_eq_getElem (by rw [HR.out.size]; exact hlt)⟩
      have c0 : wr.cell? ⟨g, k, none⟩ = some v := (blk_cell HBK.out k).trans hv
      have f0 : wr.frozen? ⟨g, k, none⟩ = false := blk_free HBK.out k
      clear hv
      go_wp2
      go_roundw
      case rel => exact ⟨k + 1, _, by go_num, by omega, heap_setCell_same' HBK.out _, HR.out.setP hlt, hbel.setCell (Nat.le_refl _) _⟩
      case measure => simp [intOf]; omega
    · obtain rfl : k = n + 7 := by omega
      go_wp2
      go_loopw [5] (fun i wr2 => ∃ (j : Nat) (C : Array Value), i = .int .i64 j ∧ j ≤ n ∧ wr2.heap[g]? = some (.cells C 5 (0, 0)) ∧ RoomC C n bs (n + 7) j ∧ Below g w wr2) (fun i _ => n - (intOf i).toNat)
      case atStart => exact ⟨0, C, rfl, Nat.zero_le _, HBK.out, HR.out, hbel⟩
      case round =>
        obtain ⟨j, C2, rfl, hj, hblk, hroom, hbel2⟩ := hrel
        have HR2 := Lib.hid hroom
        have HBK2 := Lib.hid hblk
        clear hroom hblk
        by_cases hlt2 : j < n
        · obtain ⟨x, hx⟩ : ∃ x, bs[j]? = some x := ⟨_, List.getElem?_eq_getElem (by rw [HN.out]; exact hlt2)⟩
          obtain ⟨ad, rfl, hc0⟩ := HY.out j x hx
          have e0 : wr.cell? (ad.add j) = some (.int .u8 x) := by
            rw [hbel2.cell (by rw [← hg]; exact World.block_lt_of_cell? w _ hc0)]; exact hc0
          obtain ⟨v, hv⟩ : ∃ v, C2[j]? = some v := ⟨_, Array.getElem?_eq_getElem (by rw [HR2.out.size]; omega)⟩
          have c0 : wr.cell? ⟨g, j, none⟩ = some v := (blk_cell HBK2.out j).trans hv
          have f0 : wr.frozen? ⟨g, j, none⟩ = false := blk_free HBK2.out j
          have HX := Lib.hid hx
          clear hv hx hc0
          go_wp2
          go_roundw
          case rel => exact ⟨j + 1, _, by go_num, by omega, heap_setCell_same' HBK2.out _, HR2.out.setB (by omega) HX.out, hbel2.setCell (Nat.le_refl _) _⟩
          case measure => simp [intOf]; omega
        · obtain rfl : j = n := by omega
          go_wp2
          go_ret
          exact ⟨g, C2, rfl, by omega, HBK2.out, HR2.out, by rw [hg]; exact hbel2⟩
set_option maxRecDepth 100000 in
theorem intact_any (A : Option Addr) (bs : List Int) (c g : Nat) (C : Array Value) (w : World) (hl : bs.length ≤ 1000000) (hB : AllB bs) (hy : Byt w A bs) (hblk : w.heap[g]? = some (.cells C 5 (0, 0))) (hR : RoomC C bs.length bs (bs.length + 7) bs.length) :
    Calls Try.prog 25 #[.slice (some ⟨g, 0, none⟩) bs.length (bs.length + 7), .slice A bs.length c] w fun e w' => e = .returned (.bool true) ∧ w = w' := by
  have h1' := (show (convert 31 9 (.slice (some ⟨g, 0, none⟩) bs.length (bs.length + 7))).run Try.prog w = .ok (.string (strOfNums bs)) w from conv_any (hR.byt hblk) rfl)
  have h2 := conv_any (c := c) hy rfl
  generalize hn : bs.length = n at *
  have HR := Lib.hid hR
  have HBK := Lib.hid hblk
  clear hR hblk hy hn
  generalize strOfNums bs = S at *
  go_enter Try.func25, Try.ntmps25
  go_wp2
  go_loop [5] (fun i => ∃ k : Nat, n ≤ k ∧ k ≤ n + 7 ∧ i = .int .i64 k) (fun i => n + 7 - (intOf i).toNat)
  case atStart => exact ⟨n, Nat.le_refl _, by omega, rfl⟩
  case round =>
    obtain ⟨k, hk1, hk2, rfl⟩ := hrel
    by_cases hlt : k < n + 7
    · have c0 : w.cell? ⟨g, k, none⟩ = some (.int .u8 (60 + (k : Int) % 7)) := (blk_cell HBK.out k).trans (HR.out.pat k hk1 hlt)
      go_wp2
      go_round
      case rel => exact ⟨k + 1, by omega, by omega, by go_num⟩
      case measure => simp [intOf]; omega
    · go_wp2
      go_ret
      exact ⟨rfl, rfl⟩
end Go.Proofs.Ytocmjbfbjiinhaa
