/- Contracts: choices out of numbers: Made, Num. -/
import Derived.Test.YtfmpbofhaoijpaaC5
namespace Go.Proofs.Ytfmpbofhaoijpaa
open Go.ChangeShapes Go.WideShapes Go.ChangeAt Go.RowKit
set_option linter.unusedVariables false
/-- The choices lie so: numbers, and how many are gone. -/
structure PickAt (W : World) (pb : Nat) (A : Option Addr) (bs : List Int) (c nn : Nat) : Prop where
  blk : W.heap[pb]? = some (.cells #[.slice A bs.length c, .int .i64 (nn : Int)] 42 (0, 0))
  byt : Byt W A bs
  far : bs ≠ [] → ∀ a, A = some a → a.block ≠ pb
  le : nn ≤ bs.length
theorem byt_grown {W W' : World} {A : Option Addr} {bs : List Int} {pb : Nat} (h : Byt W A bs) (hg : W.grownBy W' (some pb)) (far : bs ≠ [] → ∀ a, A = some a → a.block ≠ pb) : Byt W' A bs := fun i x hi => by
  obtain ⟨a, e, hc⟩ := h i x hi
  exact ⟨a, e, hg.cell hc (fun h2 => by injection h2 with h2; rw [block_of_add] at h2; exact far (by rintro rfl; simp at hi) a e h2)⟩
theorem grownD (W : World) (q : Nat) (row : Option Nat) : W.grownBy (W.drewN q) row := ⟨rfl, rfl, rfl, Nat.le_refl _, fun _ _ _ => rfl⟩
theorem setBy' (W : World) (g i : Nat) (u : Value) : W.grownBy (W.setCell ⟨g, i, none⟩ u) (some g) := ⟨rfl, rfl, rfl, by simp, fun k hk hne => by
  rw [World.setCell]; simp only [Array.getElem?_modify]; rw [if_neg (fun e => hne (by rw [e]))]⟩
set_option maxHeartbeats 800000 in
theorem num_any (pb : Nat) (A : Option Addr) (bs : List Int) (c nn : Nat) (m : Nat) (W : World) (h : PickAt W pb A bs c nn) (hl : bs.length ≤ 60) (hB : AllB bs) (hm : 0 < m) (hm2 : m ≤ 100) :
    Calls Try.prog 14 #[.pointer (some ⟨pb, 0, none⟩), .int .i64 m] W fun e w' => ∃ (r nn' : Nat), e = .returned (.int .i64 r) ∧ r < m ∧ PickAt w' pb A bs c nn' ∧ W.grownBy w' (some pb) := by
  have HP := Lib.hid h
  have c0 := fun q => (show (W.drewN q).cell? ⟨pb, 0, none⟩ = some (.slice A bs.length c) from blk_cell h.blk 0)
  have c1 := fun q => (show (W.drewN q).cell? ⟨pb, 1, none⟩ = some (.int .i64 (nn : Int)) from blk_cell h.blk 1)
  have c0' : W.cell? ⟨pb, 0, none⟩ = some (.slice A bs.length c) := c0 0
  have c1' : W.cell? ⟨pb, 1, none⟩ = some (.int .i64 (nn : Int)) := c1 0
  have f1 : W.frozen? ⟨pb, 1, none⟩ = false := blk_free h.blk 1
  have hle := h.le
  generalize hn : bs.length = n at *
  have HN := Lib.hid hn
  clear hn h
  by_cases hlt : nn < n
  · obtain ⟨x, hx⟩ : ∃ x, bs[nn]? = some x := ⟨_, List.getElem?_eq_getElem (by rw [HN.out]; exact hlt)⟩
    obtain ⟨ad, rfl, hc0⟩ := HP.out.byt nn x hx
    have hxb := hB x (List.mem_of_getElem? hx)
    have hfar := HP.out.far (by rintro rfl; simp at hx) ad rfl
    have HC := Lib.hid hc0
    clear hx hc0
    go_enter Try.func14, Try.ntmps14
    go_wp2_with fail
    go_quiet (fail)
    go_wp2_with fail
    have hb2 : ((W.drewN nq).setCell ⟨pb, 1, none⟩ (.int .i64 ((nn : Int) + 1))).heap[pb]? = some (.cells #[.slice (some ad) n c, .int .i64 ((nn : Int) + 1)] 42 (0, 0)) :=
      heap_setCell_same' (show (W.drewN nq).heap[pb]? = some (.cells #[.slice (some ad) n c, .int .i64 (nn : Int)] 42 (0, 0)) by rw [← HN.out]; exact HP.out.blk) _
    have hg2 : W.grownBy ((W.drewN nq).setCell ⟨pb, 1, none⟩ (.int .i64 ((nn : Int) + 1))) (some pb) := (grownD W nq _).trans (setBy' _ pb _ _)
    have hx2 : ((W.drewN nq).setCell ⟨pb, 1, none⟩ (.int .i64 ((nn : Int) + 1))).cell? (ad.add nn) = some (.int .u8 x) := hg2.cell HC.out (fun h2 => by injection h2 with h2; rw [block_of_add] at h2; exact hfar h2)
    generalize (W.drewN nq).setCell ⟨pb, 1, none⟩ (.int .i64 ((nn : Int) + 1)) = W2 at *
    have HB2 := Lib.hid hb2
    have HG2 := Lib.hid hg2
    clear c0 c1 c0' c1' f1
    have d0 := fun q => (show (W2.drewN q).cell? ⟨pb, 0, none⟩ = some (.slice (some ad) n c) from blk_cell hb2 0)
    have d1 := fun q => (show (W2.drewN q).cell? ⟨pb, 1, none⟩ = some (.int .i64 ((nn : Int) + 1)) from blk_cell hb2 1)
    have d2 := fun q => (show (W2.drewN q).cell? (ad.add nn) = some (.int .u8 x) from hx2)
    clear hb2 hg2 hx2
    obtain ⟨y, rfl⟩ : ∃ y : Nat, x = y := ⟨x.toNat, by omega⟩
    have s1 : IntKind.i64.wrap (nn : Int) = nn := IntWalk.i64_in _ (by omega)
    have s2 : IntKind.i64.wrap (y : Int) = y := IntWalk.i64_in _ (by omega)
    have s3 : ((y : Int)).tmod m = ((y % m : Nat) : Int) := by rw [Int.tmod_eq_emod_of_nonneg (by omega)]; rfl
    have s4 : (nn : Int) < n := by omega
    have s5 : ((m : Int) == 0) = false := by simp; omega
    have s6 : ¬ (m : Int) = 0 := by omega
    have s7 : IntKind.i64.wrap ((y % m : Nat) : Int) = ((y % m : Nat) : Int) := IntWalk.i64_in _ (by have := Nat.mod_lt y hm; omega)
    go_quiet (fail)
    clear s1 s2 s3 s7
    go_wp2_with fail
    go_ret
    exact ⟨y % m, nn + 1, rfl, Nat.mod_lt _ hm, ⟨by rw [HN.out]; exact HB2.out, byt_grown HP.out.byt (HG2.out.trans (grownD W2 _ _)) HP.out.far, HP.out.far, by rw [HN.out]; omega⟩, HG2.out.trans (grownD W2 _ _)⟩
  · go_enter Try.func14, Try.ntmps14
    go_wp2_with fail
    go_quiet (fail)
    go_wp2_with fail
    go_ret
    exact ⟨0, nn, rfl, hm, ⟨by have h := HP.out.blk; exact h, HP.out.byt, HP.out.far, HP.out.le⟩, grownD W _ _⟩
end Go.Proofs.Ytfmpbofhaoijpaa
