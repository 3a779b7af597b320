/- Contracts: area: Sizes; the opening test of stage 5's laws. -/
import Derived.Test.YtfmpbofhaoijpaaA2
import Derived.Test.YtfmpbofhaoijpaaC2
import Derived.Test.YtfmpbofhaoijpaaK4
import Derived.Test.YtfmpbofhaoijpaaC4
import Derived.Test.YtfmpbofhaoijpaaB3
namespace Go.Proofs.Ytfmpbofhaoijpaa
open Go.ChangeShapes Go.WideShapes Go.ChangeAt Go.RowKit
open Fx
set_option linter.unusedVariables false
/-- A share's size. -/
def szV (s : Sh) : Int := 2 + s.g + s.b
def szL (cs : List Sh) : List Value := cs.map fun s => .int .i64 (szV s)
theorem sizes_no (A : Option Addr) (cs : List Sh) (d : Nat) (w : World) (hx : cs.length ≤ 1000000) (hd : cs.length ≤ d) (hd2 : d ≤ 9223372036854775807) (ho : ShsOk cs) (ha : Conf w A cs) (hm : mayConfV cs = false) :
    Calls Try.prog 8 #[.slice A cs.length d] w fun e w' => e = .returned (.slice none 0 0) ∧ Below w.heap.size w w' := by
  have H := Lib.hid (may_conf A cs d w hx hd hd2 ho ha)
  rw [hm] at H
  generalize cs.length = n at *
  clear ha hm
  go_enter Try.func8, Try.ntmps8
  go_wp2_with fail
  refine H.out.mono ?_; rintro e w' ⟨rfl, hb⟩
  have HB := Lib.hid hb
  clear hb
  go_wp2_with fail
  go_ret
  exact ⟨rfl, HB.out⟩
/-- The row of sizes that is being filled. -/
structure SizeR (C : Array Value) (cs : List Sh) (k : Nat) : Prop where
  size : C.size = cs.length
  done : ∀ i s, i < k → cs[i]? = some s → C[i]? = some (.int .i64 (szV s))
theorem may_bg {cs : List Sh} (h : mayConfV cs = true) {s : Sh} (hs : s ∈ cs) : ∃ b g : Nat, s.b = b ∧ s.g = g ∧ 4 ≤ b ∧ b ≤ 200 ∧ 16 ≤ g ∧ g ≤ 100 := by
  obtain ⟨_, h1, h2, h3, h4, _, _⟩ := may_nums (may_each h s hs)
  exact ⟨s.b.toNat, s.g.toNat, by omega, by omega, by omega, by omega, by omega, by omega⟩
theorem size_sh {cs : List Sh} (h : mayConfV cs = true) {s : Sh} (hs : s ∈ cs) (w : World) :
    Calls Try.prog 10 #[s.agg] w fun e w' => e = .returned (.int .i64 (szV s)) ∧ Below w.heap.size w w' := by
  obtain ⟨b, g, hb, hg, h1, h2, h3, h4⟩ := may_bg h hs
  have H := size_any s.l s.c b g s.f (by omega) (by omega) w
  have e : s.agg = shQ s.l s.c b g s.f := by unfold Sh.agg shQ; rw [hb, hg]
  rw [e]
  refine H.mono ?_
  rintro e w' ⟨rfl, hB⟩
  exact ⟨ret_int (by unfold szV; rw [hb, hg]; omega), hB⟩
theorem infoN : (Try.prog.info? 3).map (fun i => (i.zero, i.size, i.bytes)) = some (some (.int .i64 0), 1, 8) := by kernel_rfl
theorem SizeR.next {C : Array Value} {cs : List Sh} {k : Nat} {s : Sh} (h : SizeR C cs k) (hs : cs[k]? = some s) : SizeR (C.setIfInBounds k (.int .i64 (szV s))) cs (k + 1) := by
  have hk : k < cs.length := (List.getElem?_eq_some_iff.1 hs).1
  refine ⟨by simp [h.size], fun i x hi hx => ?_⟩
  rw [Array.getElem?_setIfInBounds]
  by_cases e : k = i
  · subst e; rw [hs] at hx; injection hx with hx; subst hx; rw [if_pos rfl, if_pos (by rw [h.size]; exact hk)]
  · rw [if_neg e]; exact h.done i x (by omega) hx
theorem SizeR.all {C : Array Value} {cs : List Sh} (h : SizeR C cs cs.length) : C.toList = szL cs := by
  apply List.ext_getElem?
  intro i
  rw [Array.getElem?_toList]
  unfold szL
  rw [List.getElem?_map]
  rcases Nat.lt_or_ge i cs.length with hi | hi
  · rw [List.getElem?_eq_getElem hi, h.done i _ hi (List.getElem?_eq_getElem hi)]; rfl
  · rw [Array.getElem?_eq_none (by rw [h.size]; exact hi), List.getElem?_eq_none hi]; rfl
set_option maxHeartbeats 1600000 in
theorem sizes_yes (A : Option Addr) (cs : List Sh) (d : Nat) (w : World) (hd : cs.length ≤ d) (hd2 : d ≤ 9223372036854775807) (ha : Conf w A cs) (hm : mayConfV cs = true) :
    Calls Try.prog 8 #[.slice A cs.length d] w fun e w' => ∃ g C, e = .returned (.slice (some ⟨g, 0, none⟩) cs.length cs.length) ∧ w.heap.size ≤ g ∧ w'.heap[g]? = some (.cells C 3 (0, 0)) ∧ C.toList = szL cs ∧ Below w.heap.size w w' := by
  have hlen := may_len hm
  have H := Lib.hid (may_conf A cs d w (by omega) hd hd2 (may_ok hm) ha)
  rw [hm] at H
  have HA := Lib.hid ha
  have HM := Lib.hid hm
  clear ha hm
  generalize hn : cs.length = n at *
  have HN := Lib.hid hn
  obtain ⟨i0, hi, hz0, hz1, hz2⟩ := info_parts infoN
  have hmk := fun w : World => run_make (P := Try.prog) w 30 3 i0 _ Try.underlying30 hi hz0 .i64 .i64 (n : Int) (n : Int) (by omega) (by omega) (by rw [hz2]; omega) (by omega)
  generalize hC : madeCells (Value.int .i64 0).cells ((n : Int).toNat * i0.size) = C0 at hmk
  have HC : Hid (C0.size = n) := by rw [← hC, size_madeCells, hz1]; unfold Hid; omega
  rw [show ((n : Int)).toNat = n by omega] at hmk
  clear hC hi hz0 hz1 hz2 hn
  go_enter Try.func8, Try.ntmps8
  go_wp2_with fail
  refine H.out.mono ?_; rintro e w1 ⟨rfl, hb⟩
  have HB := Lib.hid hb
  clear hb
  go_wp2_with fail
  have hblk0 := heap_alloc_new w1 (Obj.cells C0 3)
  have hbel0 : Below w1.heap.size w1 (w1.alloc (Obj.cells C0 3)) := (Below.refl _ _).alloc (Nat.le_refl _) _
  go_loopw [14] (fun i wr => ∃ (k : Nat) (C : Array Value), i = .int .i64 k ∧ k ≤ n ∧ wr.heap[w1.heap.size]? = some (.cells C 3 (0, 0)) ∧ Hid (SizeR C cs k) ∧ Hid (Below w1.heap.size w1 wr)) (fun i _ => n - (intOf i).toNat)
  case atStart => exact ⟨0, C0, rfl, Nat.zero_le _, hblk0, ⟨by rw [HC.out, HN.out], fun i s hi => by omega⟩, hbel0⟩
  case round =>
    obtain ⟨w5, rfl⟩ : ∃ w5, w5 = wr := ⟨wr, rfl⟩
    obtain ⟨k, C, rfl, hk, hblk, HR, HW⟩ := hrel
    have HBK := Lib.hid hblk
    clear hblk hblk0 hbel0
    by_cases hlt : k < n
    · obtain ⟨a, x, rfl, hsx, hsa⟩ := ((HA.out.keep HB.out).keep HW.out).at_ (k := k) (by rw [HN.out]; exact hlt)
      have g0 := hsa.c0
      have g1 := hsa.c1
      have g2 := hsa.c2
      have g3 := hsa.c3
      have g4 := hsa.c4
      have HS := Lib.hid (size_sh HM.out (List.mem_of_getElem? hsx.out))
      unfold Sh.agg at HS
      clear hsa
      go_wp2_with fail
      refine (HS.out _).mono ?_; rintro e w6 ⟨rfl, hb6⟩
      have hB6 := keepB ((Below.refl w5.heap.size w5).alloc (Nat.le_refl _) _) hb6
      have HB6 := Lib.hid hB6
      clear hb6 hB6 g0 g1 g2 g3 g4
      have hlg : w1.heap.size < w5.heap.size := room_lt HBK.out
      have hblk6 : w6.heap[w1.heap.size]? = some (.cells C 3 (0, 0)) := (HB6.out.block _ hlg).trans HBK.out
      obtain ⟨v, hv⟩ : ∃ v, C[k]? = some v := ⟨_, Array.getElem?_eq_getElem (by rw [HR.out.size, HN.out]; exact hlt)⟩
      have c0 : w6.cell? ⟨w1.heap.size, k, none⟩ = some v := (blk_cell hblk6 k).trans hv
      have f0 : w6.frozen? ⟨w1.heap.size, k, none⟩ = false := blk_free hblk6 k
      have HBK6 := Lib.hid hblk6
      clear hv hblk6
      go_wp2_with fail
      go_roundw
      case rel => exact ⟨k + 1, _, by go_num, by omega, heap_setCell_same' HBK6.out _, HR.out.next hsx.out, (HW.out.trans (HB6.out.mono HW.out.size)).setCell (Nat.le_refl _) _⟩
      case measure => simp [intOf]; omega
    · obtain rfl : k = n := by omega
      go_wp2_with fail
      go_ret
      exact ⟨w1.heap.size, C, rfl, HB.out.size, HBK.out, by rw [← HN.out] at HR; exact HR.out.all, HB.out.trans (HW.out.mono HB.out.size)⟩
end Go.Proofs.Ytfmpbofhaoijpaa
