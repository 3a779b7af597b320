/- The law ConfForms answers true. No condition. -/
import Derived.Test.YtlmbkfdpgmmacaaRows
import Derived.Test.YtlmbkfdpgmmacaaE1
import Derived.WalkKit
import Derived.ProofKit
import Derived.OpenShut
import Derived.Lib.SlBytesConst
namespace Go.Proofs.Ytlmbkfdpgmmacaa.confForms
open Go.ChangeShapes Go.WideShapes Go.ChangeAt Go.RowKit
set_option linter.unusedVariables false
theorem own : ownKnob Try.prog.godebug = none := by kernel_rfl
def gs (l c : Int) : Sh := ⟨l, c, 4, 16, 1⟩
def fs (k : Nat) : List Sh := (List.range 9).map fun i => if i < k then gs ((i % 4 : Nat) : Int) ((i / 4 : Nat) : Int) else gs 0 0
def badL : List Sh := [⟨0, 0, 3, 16, 1⟩, ⟨0, 0, 201, 16, 1⟩, ⟨0, 0, 4, 15, 1⟩, ⟨0, 0, 4, 101, 1⟩, ⟨0, 0, 4, 16, 0⟩, ⟨0, 0, 4, 16, 51⟩, ⟨4, 0, 4, 16, 1⟩, ⟨0, 16, 4, 16, 1⟩]
theorem fs_at {k : Nat} (h : k < 9) : (fs k)[k]? = some (gs 0 0) := by
  unfold fs
  rw [List.getElem?_map, List.getElem?_range h]
  simp
theorem fs_step {k : Nat} (h : k < 9) : ((cellsL (fs k)).toArray.setIfInBounds (k * 5) (.int .i64 ((k : Int) % 4))).setIfInBounds (k * 5 + 1) (.int .i64 ((k : Int) / 4)) = (cellsL (fs (k + 1))).toArray := by
  have : k = 0 ∨ k = 1 ∨ k = 2 ∨ k = 3 ∨ k = 4 ∨ k = 5 ∨ k = 6 ∨ k = 7 ∨ k = 8 := by omega
  rcases this with rfl | rfl | rfl | rfl | rfl | rfl | rfl | rfl | rfl <;> rfl
theorem fs_cells {W : World} {r k : Nat} (h : W.heap[r]? = some (.cells (cellsL (fs k)).toArray 47 (0, 0))) {i j : Nat} {s : Sh} (hs : (fs k)[i]? = some s) (hj : j < 5) {v : Value} (hv : s.cs[j]? = some v) : W.cell? ⟨r, i * 5 + j, none⟩ = some v := by
  rw [cell_of_row _ _ _ _ _ _ h]
  simp only [List.getElem?_toArray]
  rw [cellsL_at hs hj]; exact hv
theorem conf_blk {W : World} {r : Nat} {C : Array Value} {cs : List Sh} (h : W.heap[r]? = some (.cells C 47 (0, 0))) (hc : C.toList = cellsL cs) : Conf W (some ⟨r, 0, none⟩) cs := by
  intro i s hi
  refine ⟨_, rfl, ?_⟩
  have e : ∀ j, (⟨r, 0, none⟩ : Addr).add j = ⟨r, j, none⟩ := fun j => by unfold Addr.add; split <;> simp_all
  have k : ∀ j u, j < 5 → s.cs[j]? = some u → W.cell? ⟨r, i * 5 + j, none⟩ = some u := fun j u hj hu => by
    rw [cell_of_row _ _ _ _ _ _ h, ← Array.getElem?_toList, hc, cellsL_at hi hj]; exact hu
  rw [e]
  exact ⟨k 0 _ (by omega) rfl, k 1 _ (by omega) rfl, k 2 _ (by omega) rfl, k 3 _ (by omega) rfl, k 4 _ (by omega) rfl⟩
theorem byt_lit {W : World} (C : Array Value) (fr : Nat × Nat) (bs : List Int) (hc : C.toList = Bs bs) : Byt (W.alloc (.cells C 5 fr)) (some ⟨W.heap.size, 0, none⟩) bs := by
  intro i x hi
  refine ⟨_, rfl, ?_⟩
  have e : (⟨W.heap.size, 0, none⟩ : Addr).add i = ⟨W.heap.size, i, none⟩ := by unfold Addr.add; split <;> simp_all
  rw [e, cell_of_row _ _ _ _ _ _ (heap_alloc_new W (.cells C 5 fr)), ← Array.getElem?_toList, hc]
  unfold Bs; rw [List.getElem?_map, hi]; rfl
theorem ok_of (cs : List Sh) (h : cs.all (fun s => decide (-100 ≤ s.l ∧ s.l ≤ 100 ∧ -100 ≤ s.c ∧ s.c ≤ 100)) = true) : ShsOk cs := fun s hs => by
  have := of_decide_eq_true (List.all_eq_true.1 h s hs)
  constructor <;> constructor <;> omega
theorem may_lit (A : Option Addr) (cs : List Sh) (n d : Nat) (b : Bool) (W : World) (hn : cs.length = n) (hd : n ≤ d) (hd2 : d ≤ 100) (ho : ShsOk cs) (hb : mayConfV cs = b) (h : Conf W A cs) :
    Calls Try.prog 13 #[.slice A n d] W fun e w' => e = .returned (.bool b) ∧ Below W.heap.size W w' := by
  subst hn; subst hb
  exact may_conf A cs d W (by omega) hd (by omega) ho h
theorem take_lit (bs : List Int) (n : Nat) (C : Array Value) (fr : Nat × Nat) (W : World) (hn : bs.length = n) (hn2 : n ≤ 100) (hB : AllB bs) (ht : takeV bs = none) (hc : C.toList = Bs bs) :
    Calls Try.prog 9 #[.slice (some ⟨W.heap.size, 0, none⟩) n n] (W.alloc (.cells C 5 fr)) fun e w' => e = .returned (.tuple #[.slice none 0 0, .int .i64 1]) ∧ Below (W.alloc (.cells C 5 fr)).heap.size (W.alloc (.cells C 5 fr)) w' := by
  subst hn
  refine (take_conf (some ⟨W.heap.size, 0, none⟩) bs bs.length (W.alloc (.cells C 5 fr)) (by omega) (Nat.le_refl _) (by omega) hB (byt_lit C fr bs hc)).mono ?_
  rintro e w' ⟨h, hb⟩
  rw [ht] at h
  exact ⟨h, hb⟩
theorem bad_one {x : Sh} (h : mayShV x = false) : mayConfV [x] = false := by
  have : okV [x] = false := ok_f (k := 0) (by simp) (by rw [okAt_some (s := x) rfl, h]; rfl)
  unfold mayConfV; rw [this]; simp
theorem bad_at {k : Nat} {x : Sh} (h : badL[k]? = some x) : mayShV x = false := by
  have : badL.all (fun s => !mayShV s) = true := by decide
  have := List.all_eq_true.1 this x (List.mem_of_getElem? h)
  simpa using this
theorem bad_ok {k : Nat} {x : Sh} (h : badL[k]? = some x) : ShsOk [x] := fun s hs => by
  rw [List.mem_singleton.1 hs]
  exact ok_of badL (by decide) x (List.mem_of_getElem? h)
set_option maxRecDepth 100000 in
set_option maxHeartbeats 3200000 in
theorem walk (w : World) : Calls Try.prog 6 #[] w fun e w' => e = .returned (.bool true) ∧ Below w.heap.size w w' := by
  go_enter Try.func6, Try.ntmps6
  go_wp2_with fail
  refine (begun_any _).mono ?_; rintro e W ⟨rfl, hb0⟩
  have HB0 := Lib.hid hb0
  clear hb0
  have hblk1 : ((W.alloc (Obj.cells #[.int .i64 0, .int .i64 0, .int .i64 4, .int .i64 16, .int .i64 1] 47)).alloc (Obj.cells (cellsL (fs 0)).toArray 47)).heap[W.heap.size]? = some (.cells #[.int .i64 0, .int .i64 0, .int .i64 4, .int .i64 16, .int .i64 1] 47 (0, 0)) := heap_alloc2_old W _ _
  have hblk2 : ((W.alloc (Obj.cells #[.int .i64 0, .int .i64 0, .int .i64 4, .int .i64 16, .int .i64 1] 47)).alloc (Obj.cells (cellsL (fs 0)).toArray 47)).heap[W.heap.size + 1]? = some (.cells (cellsL (fs 0)).toArray 47 (0, 0)) := heap_alloc2_new W _ _
  have hB2 : Below W.heap.size W ((W.alloc (Obj.cells #[.int .i64 0, .int .i64 0, .int .i64 4, .int .i64 16, .int .i64 1] 47)).alloc (Obj.cells (cellsL (fs 0)).toArray 47)) := ((Below.refl _ _).alloc (Nat.le_refl _) _).alloc (by simp) _
  go_wp2_with fail
  have HBK1 := Lib.hid hblk1
  have HBK2 := Lib.hid hblk2
  have HBB := Lib.hid hB2
  clear hblk1 hblk2 hB2
  generalize hr : W.heap.size = r at *
  go_loopw [3] (fun i wr => ∃ k : Nat, k ≤ 9 ∧ i = .int .i64 k ∧ wr.heap[r]? = some (.cells #[.int .i64 0, .int .i64 0, .int .i64 4, .int .i64 16, .int .i64 1] 47 (0, 0)) ∧ wr.heap[r + 1]? = some (.cells (cellsL (fs k)).toArray 47 (0, 0)) ∧ Below r W wr) (fun i _ => 9 - (intOf i).toNat)
  case atStart => exact ⟨0, by omega, rfl, HBK1.out, HBK2.out, HBB.out⟩
  case round =>
    obtain ⟨k, hk, rfl, hb1, hb2, hBr⟩ := hrel
    have HB1 := Lib.hid hb1
    have HB2 := Lib.hid hb2
    clear hb1 hb2
    by_cases hlt : k < 9
    · have c0 : wr.cell? ⟨r + 1, k * 5, none⟩ = some (.int .i64 0) := fs_cells (j := 0) HB2.out (fs_at hlt) (by omega) rfl
      have c1 : wr.cell? ⟨r + 1, k * 5 + 1, none⟩ = some (.int .i64 0) := fs_cells (j := 1) HB2.out (fs_at hlt) (by omega) rfl
      have f0 : wr.frozen? ⟨r + 1, k * 5, none⟩ = false := blk_free HB2.out _
      have f1 : wr.frozen? ⟨r + 1, k * 5 + 1, none⟩ = false := blk_free HB2.out _
      go_wp2_with fail
      go_roundw
      case rel =>
        refine ⟨k + 1, by omega, by go_num, ?_, ?_, (hBr.setCell (by show r ≤ r + 1; omega) _).setCell (by show r ≤ r + 1; omega) _⟩
        · rw [heap_setCell_other _ _ _ _ (by show r ≠ r + 1; omega), heap_setCell_other _ _ _ _ (by show r ≠ r + 1; omega)]; exact HB1.out
        · rw [← fs_step hlt]; exact heap_setCell_same' (heap_setCell_same' HB2.out _) _
      case measure => simp [intOf]; omega
    · obtain rfl : k = 9 := by omega
      have hc := conf_blk (C := (cellsL (fs 9)).toArray) (cs := fs 9) HB2.out rfl
      have HC := Lib.hid hc
      clear hc
      go_wp2_with fail
      refine (may_lit _ ((fs 9).take 8) 8 9 true _ (by decide) (by omega) (by omega) (ok_of _ (by decide)) (by decide) (HC.out.take 8)).mono ?_
      rintro e W1 ⟨rfl, hx⟩
      have HX1 := Lib.hid hx
      clear hx
      go_wp2_with fail
      refine (may_lit _ (fs 9) 9 9 false _ (by decide) (by omega) (by omega) (ok_of _ (by decide)) (by decide) (HC.out.keep HX1.out)).mono ?_
      rintro e W2 ⟨rfl, hx⟩
      have HX2 := Lib.hid (keepB HX1.out hx)
      clear hx HX1
      go_wp2_with fail
      refine (may_lit _ ((fs 9).take 1) 1 9 true _ (by decide) (by omega) (by omega) (ok_of _ (by decide)) (by decide) ((HC.out.keep HX2.out).take 1)).mono ?_
      rintro e W3 ⟨rfl, hx⟩
      have hBel : Below r W W3 := by rw [← hr] at hBr ⊢; exact keepB hBr (keepB HX2.out hx)
      have hblk : W3.heap[r]? = some (.cells #[.int .i64 0, .int .i64 0, .int .i64 4, .int .i64 16, .int .i64 1] 47 (0, 0)) := ((keepB HX2.out hx).block r (by
        rcases Nat.lt_or_ge r wr.heap.size with h | h
        · exact h
        · have := HB1.out; rw [Array.getElem?_eq_none h] at this; cases this)).trans HB1.out
      clear hx HX2 HC HB2 HB1 hBr HBB HBK1 HBK2 hlt hk
      have c0 : W3.cell? ⟨r, 0, none⟩ = some (.int .i64 0) := blk_cell hblk 0
      have c1 : W3.cell? ⟨r, 1, none⟩ = some (.int .i64 0) := blk_cell hblk 1
      have c2 : W3.cell? ⟨r, 2, none⟩ = some (.int .i64 4) := blk_cell hblk 2
      have c3 : W3.cell? ⟨r, 3, none⟩ = some (.int .i64 16) := blk_cell hblk 3
      have c4 : W3.cell? ⟨r, 4, none⟩ = some (.int .i64 1) := blk_cell hblk 4
      have HBL := Lib.hid hblk
      clear hblk
      go_wp2_with fail
      have hbad := heap_alloc_new W3 (.cells (cellsL badL).toArray 47)
      have hr1 : (W3.alloc (.cells (cellsL badL).toArray 47)).heap[r]? = some (.cells #[.int .i64 0, .int .i64 0, .int .i64 4, .int .i64 16, .int .i64 1] 47 (0, 0)) := by
        rw [heap_alloc_old _ _ (room_lt HBL.out)]; exact HBL.out
      have hr3 : r ≤ W3.heap.size := Nat.le_of_lt (room_lt HBL.out)
      have hB4 : Below r W (W3.alloc (.cells (cellsL badL).toArray 47)) := hBel.alloc hr3 _
      have HBAD := Lib.hid hbad
      have HR1 := Lib.hid hr1
      have HB4 := Lib.hid hB4
      clear hbad hr1 hB4 c0 c1 c2 c3 c4 hBel HBL
      generalize W3.heap.size = r3 at *
      go_loopw [5] (fun i wr => ∃ k : Nat, k ≤ 8 ∧ i = .int .i64 k ∧ wr.heap[r]? = some (.cells #[.int .i64 0, .int .i64 0, .int .i64 4, .int .i64 16, .int .i64 1] 47 (0, 0)) ∧ wr.heap[r3]? = some (.cells (cellsL badL).toArray 47 (0, 0)) ∧ Below r W wr) (fun i _ => 8 - (intOf i).toNat)
      case atStart => exact ⟨0, by omega, rfl, HR1.out, HBAD.out, HB4.out⟩
      case round =>
        obtain ⟨k, hk, rfl, hb1, hb2, hBr⟩ := hrel
        have HB1 := Lib.hid hb1
        have HB2 := Lib.hid hb2
        have HBR := Lib.hid hBr
        clear hb1 hb2 hBr HBAD HR1 HB4
        by_cases hlt : k < 8
        · obtain ⟨x, hx⟩ : ∃ x, badL[k]? = some x := ⟨_, List.getElem?_eq_getElem (by show k < 8; exact hlt)⟩
          have cl : ∀ j v, j < 5 → x.cs[j]? = some v → wr.cell? ⟨r3, k * 5 + j, none⟩ = some v := fun j v hj hv => by
            rw [cell_of_row _ _ _ _ _ _ HB2.out]
            simp only [List.getElem?_toArray]
            rw [cellsL_at hx hj]; exact hv
          have c0 : wr.cell? ⟨r3, k * 5, none⟩ = some (.int .i64 x.l) := cl 0 _ (by omega) rfl
          have c1 : wr.cell? ⟨r3, k * 5 + 1, none⟩ = some (.int .i64 x.c) := cl 1 _ (by omega) rfl
          have c2 : wr.cell? ⟨r3, k * 5 + 2, none⟩ = some (.int .i64 x.b) := cl 2 _ (by omega) rfl
          have c3 : wr.cell? ⟨r3, k * 5 + 3, none⟩ = some (.int .i64 x.g) := cl 3 _ (by omega) rfl
          have c4 : wr.cell? ⟨r3, k * 5 + 4, none⟩ = some (.int .i64 x.f) := cl 4 _ (by omega) rfl
          have HCL : Hid (∀ W', Below wr.heap.size wr W' → W'.cell? ⟨r3, k * 5, none⟩ = some (.int .i64 x.l) ∧ W'.cell? ⟨r3, k * 5 + 1, none⟩ = some (.int .i64 x.c) ∧ W'.cell? ⟨r3, k * 5 + 2, none⟩ = some (.int .i64 x.b) ∧ W'.cell? ⟨r3, k * 5 + 3, none⟩ = some (.int .i64 x.g) ∧ W'.cell? ⟨r3, k * 5 + 4, none⟩ = some (.int .i64 x.f)) := fun W' hW => ⟨keepC hW c0, keepC hW c1, keepC hW c2, keepC hW c3, keepC hW c4⟩
          have HF := Lib.hid (bad_one (bad_at hx))
          have HOK := Lib.hid (bad_ok hx)
          clear cl hx
          go_wp2_with fail
          refine (may_lit _ [x] 1 1 false _ rfl (by omega) (by omega) HOK.out HF.out (conf_lit (W := wr) #[.int .i64 x.l, .int .i64 x.c, .int .i64 x.b, .int .i64 x.g, .int .i64 x.f] [x] rfl)).mono ?_
          rintro e W4 ⟨rfl, hy⟩
          have HY1 := Lib.hid (((Below.refl wr.heap.size wr).alloc (Nat.le_refl _) _).trans (hy.mono (by simp)))
          clear hy c0 c1 c2 c3 c4
          obtain ⟨c0, c1, c2, c3, c4⟩ := HCL.out _ HY1.out
          go_wp2_with fail
          refine (put_no _ [x] 1 _ (by simp) (by simp) (by omega) HOK.out (conf_lit (W := W4) #[.int .i64 x.l, .int .i64 x.c, .int .i64 x.b, .int .i64 x.g, .int .i64 x.f] [x] rfl) HF.out).mono ?_
          rintro e W5 ⟨rfl, hy⟩
          have HY2 := Lib.hid ((HY1.out.alloc HY1.out.size _).trans (hy.mono (by have := HY1.out.size; simp; omega)))
          clear hy c0 c1 c2 c3 c4
          obtain ⟨c0, c1, c2, c3, c4⟩ := HCL.out _ HY2.out
          go_wp2_with fail
          refine (below_none _ [x] 1 0 _ (by simp) (by simp) (by omega) HOK.out (conf_lit (W := W5) #[.int .i64 x.l, .int .i64 x.c, .int .i64 x.b, .int .i64 x.g, .int .i64 x.f] [x] rfl) (fun h => by have := h.1; rw [HF.out] at this; cases this)).mono ?_
          rintro e W6 ⟨rfl, hy⟩
          have HY3 := Lib.hid ((HY2.out.alloc HY2.out.size _).trans (hy.mono (by have := HY2.out.size; simp; omega)))
          clear hy c0 c1 c2 c3 c4
          go_wp2_with fail
          go_roundw
          case rel =>
            have h1 := room_lt HB1.out
            have h2 := room_lt HB2.out
            refine ⟨k + 1, by omega, by go_num, (HY3.out.block r h1).trans HB1.out, (HY3.out.block r3 h2).trans HB2.out, HBR.out.trans (HY3.out.mono (by omega))⟩
          case measure => simp [intOf]; omega
        · obtain rfl : k = 8 := by omega
          have c0 : wr.cell? ⟨r, 0, none⟩ = some (.int .i64 0) := blk_cell HB1.out 0
          have c1 : wr.cell? ⟨r, 1, none⟩ = some (.int .i64 0) := blk_cell HB1.out 1
          have c2 : wr.cell? ⟨r, 2, none⟩ = some (.int .i64 4) := blk_cell HB1.out 2
          have c3 : wr.cell? ⟨r, 3, none⟩ = some (.int .i64 16) := blk_cell HB1.out 3
          have c4 : wr.cell? ⟨r, 4, none⟩ = some (.int .i64 1) := blk_cell HB1.out 4
          have HCL : Hid (∀ W', Below wr.heap.size wr W' → W'.cell? ⟨r, 0, none⟩ = some (.int .i64 0) ∧ W'.cell? ⟨r, 1, none⟩ = some (.int .i64 0) ∧ W'.cell? ⟨r, 2, none⟩ = some (.int .i64 4) ∧ W'.cell? ⟨r, 3, none⟩ = some (.int .i64 16) ∧ W'.cell? ⟨r, 4, none⟩ = some (.int .i64 1)) := fun W' hW => ⟨keepC hW c0, keepC hW c1, keepC hW c2, keepC hW c3, keepC hW c4⟩
          clear c0 c1 c2 c3 c4
          have kc := fun (w : World) (C : Array Value) (n c : Nat) => Lib.run_convert_bytes_const (P := Try.prog) w 24 5 C n c Try.underlying24 Try.underlying5
          go_wp2_with fail
          refine (take_lit [76, 70, 1, 0, 3, 16, 1] 7 #[.int .u8 76, .int .u8 70, .int .u8 1, .int .u8 0, .int .u8 3, .int .u8 16, .int .u8 1] _ _ rfl (by omega) (by unfold AllB; decide) (by decide) rfl).mono ?_
          rintro e W4 ⟨rfl, hy⟩
          have HY1 := Lib.hid (((Below.refl wr.heap.size wr).alloc (Nat.le_refl _) _).trans (hy.mono (by simp)))
          clear hy
          go_wp2_with fail
          refine (take_lit [76, 70, 1, 64, 8, 16, 1] 7 #[.int .u8 76, .int .u8 70, .int .u8 1, .int .u8 64, .int .u8 8, .int .u8 16, .int .u8 1] _ _ rfl (by omega) (by unfold AllB; decide) (by decide) rfl).mono ?_
          rintro e W5 ⟨rfl, hy⟩
          have HY2 := Lib.hid ((HY1.out.alloc HY1.out.size _).trans (hy.mono (by have := HY1.out.size; simp; omega)))
          clear hy
          go_wp2_with fail
          refine (take_lit [76, 71, 1, 0, 8, 16, 1] 7 #[.int .u8 76, .int .u8 71, .int .u8 1, .int .u8 0, .int .u8 8, .int .u8 16, .int .u8 1] _ _ rfl (by omega) (by unfold AllB; decide) (by decide) rfl).mono ?_
          rintro e W6 ⟨rfl, hy⟩
          have HY3 := Lib.hid ((HY2.out.alloc HY2.out.size _).trans (hy.mono (by have := HY2.out.size; simp; omega)))
          clear hy
          go_wp2_with fail
          refine (take_lit [76, 70, 0] 3 #[.int .u8 76, .int .u8 70, .int .u8 0] _ _ rfl (by omega) (by unfold AllB; decide) (by decide) rfl).mono ?_
          rintro e W7 ⟨rfl, hy⟩
          have HY4 := Lib.hid ((HY3.out.alloc HY3.out.size _).trans (hy.mono (by have := HY3.out.size; simp; omega)))
          clear hy
          obtain ⟨c0, c1, c2, c3, c4⟩ := HCL.out _ HY4.out
          go_wp2_with fail
          refine (may_lit _ [gs 0 0, gs 0 0] 2 2 false _ rfl (by omega) (by omega) (ok_of _ (by decide)) (by decide) (conf_lit (W := W7) #[.int .i64 0, .int .i64 0, .int .i64 4, .int .i64 16, .int .i64 1, .int .i64 0, .int .i64 0, .int .i64 4, .int .i64 16, .int .i64 1] [gs 0 0, gs 0 0] rfl)).mono ?_
          rintro e W8 ⟨rfl, hy⟩
          have HY5 := Lib.hid ((HY4.out.alloc HY4.out.size _).trans (hy.mono (by have := HY4.out.size; simp; omega)))
          clear hy c0 c1 c2 c3 c4
          go_wp2_with fail
          go_ret
          have h1 := room_lt HB1.out
          have h2 : Below r W W8 := HBR.out.trans (HY5.out.mono (by omega))
          exact ⟨rfl, keepB HB0.out (by rw [hr]; exact h2)⟩

theorem lifted (os : Os) (started : os.Started) (H : Type) (enc : TypeId × Value → H) :
    ReturnsInHanded {} Try.checked os 6 .any (Rows.confFormsSpec.pre6 enc Try.prog Try.f6 Rows.confFormsRow.domain false) (Rows.confFormsSpec.post enc Try.prog Try.f6 false true false false) := by
  refine returnsInHanded_of_change (C := Try.checked) own started (by kernel_rfl) Try.func6
    (ChangeSpec.witness6 (enc := enc) (C := Try.checked) false ⟨#[], #[], []⟩ 8 (by kernel_rfl) (by kernel_rfl) (by kernel_rfl) (by kernel_rfl)) ?_
  intro W base args ds gs before hval0 hW hcnd _
  have hW' := hW
  obtain ⟨p, q, hA0, hV, rfl, hfz, hnd⟩ := hW
  have hA : DataW.TrodAll enc Try.prog W 0 (fun _ => true) true Try.f6.params.toList args.toList ds p := hA0
  rw [Try.params6] at hA
  obtain ⟨rfl, rfl, rfl⟩ := trodAll_none hA
  obtain ⟨rfl, rfl⟩ := trodVars_none hV
  clear hA0 hval0
  simp only [List.append_nil] at hW'
  refine (walk W).mono fun e W' ⟨he, bel⟩ => ?_
  subst he
  exact ⟨_, rfl, _, _, _, [], _, [], hW', (trodAll_cons_mk (shut_bool Try.underlying4 _) trodAll_mk0), rfl, rfl, bel.frame _, fun h => by cases h⟩

theorem over : Rows.confFormsRow.holds Try.pinned (OpenSpec.ofChange Rows.confFormsSpec) :=
  OpenClaim.holds_of_wide 6 Try.f6 rfl rfl rfl rfl rfl rfl rfl ⟨rfl, rfl, rfl, rfl, rfl⟩ rfl rfl rfl rfl rfl (by kernel_rfl) Try.func6 (by kernel_rfl)
    (of_decide_eq_true (by kernel_rfl)) (by unfold Func.isWrapper; first | (rw [if_pos (by decide +kernel)]; kernel_rfl) | (rw [if_neg (by decide +kernel)]; exact ⟨rfl, rfl⟩))
    (fun os started H enc _ => lifted os started H enc)

theorem proved : Rows.ConfFormsSaid :=
  over
#print axioms proved
end Go.Proofs.Ytlmbkfdpgmmacaa.confForms
