/- Contracts: block.Seal and the reference's. -/
import Derived.Test.YtincamgdaienlaaBa
import Derived.Laws.MakeOwn
import Derived.Deep.Onto
namespace Go.Proofs.Ytincamgdaienlaa
open Go.ChangeShapes Go.WideShapes Go.ChangeAt Go.RowKit
set_option linter.unusedVariables false
/-- A block as a value: its kind, its body. -/
def blkL (k : Int) (bs : List Int) : List Value := .int .i64 k :: Bs bs
def MayB (k t : Int) : Prop := (0 ≤ k ∧ k ≤ 7) ∧ 0 ≤ t ∧ t < 200
instance (k t : Int) : Decidable (MayB k t) := by unfold MayB; infer_instance
def headB (l k : Int) (t : Nat) (bs : List Int) : List Int := [k, l] ++ be t 2 ++ bs
def sealB (l k : Int) (t : Nat) (bs : List Int) : List Int := headB l k t bs ++ be (sumV (headB l k t bs)) 4
theorem headB_length {l k : Int} {t : Nat} {bs : List Int} (h : bs.length = 56) : (headB l k t bs).length = 60 := by unfold headB; simp [be_length, h]
theorem sealB_length {l k : Int} {t : Nat} {bs : List Int} (h : bs.length = 56) : (sealB l k t bs).length = 64 := by unfold sealB; rw [List.length_append, headB_length h, be_length]
theorem headB_allB {l k : Int} {t : Nat} {bs : List Int} (hl : 0 ≤ l ∧ l ≤ 255) (hk : 0 ≤ k ∧ k ≤ 7) (hB : AllB bs) : AllB (headB l k t bs) := by
  unfold headB
  refine AllB.append (AllB.append (fun x hx => ?_) (be_allB _ _)) hB
  simp only [List.mem_cons, List.not_mem_nil, or_false] at hx
  rcases hx with rfl | rfl <;> omega
theorem sealB_allB {l k : Int} {t : Nat} {bs : List Int} (hl : 0 ≤ l ∧ l ≤ 255) (hk : 0 ≤ k ∧ k ≤ 7) (hB : AllB bs) : AllB (sealB l k t bs) :=
  AllB.append (headB_allB hl hk hB) (be_allB _ _)
theorem add_off (g o i : Nat) : (⟨g, o, none⟩ : Addr).add i = ⟨g, o + i, none⟩ := by unfold Addr.add; split <;> simp_all
/-- The body of a block in memory. -/
theorem byt_body {W : World} {g : Nat} {C : Array Value} {t : TypeId} {fr : Nat × Nat} {k : Int} {bs : List Int} (h : W.heap[g]? = some (.cells C t fr)) (hc : C.toList = blkL k bs) : Byt W (some ⟨g, 1, none⟩) bs := by
  intro i x hi
  refine ⟨_, rfl, ?_⟩
  rw [add_off, cell_of_row _ _ _ _ _ _ h, ← Array.getElem?_toList, hc, Nat.add_comm]
  exact Bs_at hi
theorem blk_kind {W : World} {g : Nat} {C : Array Value} {t : TypeId} {fr : Nat × Nat} {k : Int} {bs : List Int} (h : W.heap[g]? = some (.cells C t fr)) (hc : C.toList = blkL k bs) : W.cell? ⟨g, 0, none⟩ = some (.int .i64 k) := by
  rw [cell_of_row _ _ _ _ _ _ h, ← Array.getElem?_toList, hc]; rfl
set_option maxRecDepth 100000 in
set_option maxHeartbeats 3200000 in
theorem seal_no (l k t : Int) (C : Array Value) (bs : List Int) (w : World) (hl : 0 ≤ l ∧ l ≤ 255) (hk : i64 k) (ht : i64 t) (hC : C.toList = blkL k bs) (hno : ¬ MayB k t) :
    Calls Try.prog 8 #[.int .u8 l, .int .i64 t, .agg C] w fun e w' => e = .returned (.tuple #[.slice none 0 0, .bool false]) ∧ Below w.heap.size w w' := by
  have hblk := heap_alloc_new w (Obj.cells C 24)
  have c0 := blk_kind hblk hC
  have hbel : Below w.heap.size w (w.alloc (Obj.cells C 24)) := (Below.refl _ _).alloc (Nat.le_refl _) _
  have HC := Lib.hid hC
  clear hblk hC
  go_enter Try.func8, Try.ntmps8
  go_wp2
  refine wp_scope1e (fun a' w' => w' = w.alloc (Obj.cells C 24) ∧ ∃ u9 u10 u11 u12 u13 u14 u15 u16 u17 u18 u19 u20 u21 u22 u23 u24 u25 u26 u27 u28 u29 u30 u31 u32 u33 u34 u35 u36 u37 u38 u39 u40 u41 u42 u43 : Value, a' = { tmps := #[.int .u8 l, .int .i64 t, .agg C, undef, undef, .pointer (some ⟨w.heap.size, 0, none⟩), .slice none 0 0, .bool false, .slice none 0 0, u9, u10, u11, u12, u13, u14, u15, u16, u17, u18, u19, u20, u21, u22, u23, u24, u25, u26, u27, u28, u29, u30, u31, u32, u33, u34, u35, u36, u37, u38, u39, u40, u41, u42, u43], defers := [] }) (fun _ _ => 0) rfl ?_ ?_
  · intro _
    by_cases h1 : k < 0
    · go_wp2
      go_step3
      exact ⟨rfl, rfl, _, _, _, _, _, _, _, _, _, _, _, _, _, _, _, _, _, _, _, _, _, _, _, _, _, _, _, _, _, _, _, _, _, _, _, rfl⟩
    · by_cases h2 : 7 < k
      · go_wp2
        go_step3
        exact ⟨rfl, rfl, _, _, _, _, _, _, _, _, _, _, _, _, _, _, _, _, _, _, _, _, _, _, _, _, _, _, _, _, _, _, _, _, _, _, _, rfl⟩
      · by_cases h3 : t < 0
        · go_wp2
          go_step3
          exact ⟨rfl, rfl, _, _, _, _, _, _, _, _, _, _, _, _, _, _, _, _, _, _, _, _, _, _, _, _, _, _, _, _, _, _, _, _, _, _, _, rfl⟩
        · have h4 : 200 ≤ t := by unfold MayB at hno; omega
          go_wp2
          go_step3
          exact ⟨rfl, rfl, _, _, _, _, _, _, _, _, _, _, _, _, _, _, _, _, _, _, _, _, _, _, _, _, _, _, _, _, _, _, _, _, _, _, _, rfl⟩
  · rintro a' W ⟨rfl, u9, u10, u11, u12, u13, u14, u15, u16, u17, u18, u19, u20, u21, u22, u23, u24, u25, u26, u27, u28, u29, u30, u31, u32, u33, u34, u35, u36, u37, u38, u39, u40, u41, u42, u43, rfl⟩
    go_wp2
    simp only [Exit.jump]
    go_ret2
    exact ⟨rfl, hbel⟩
set_option maxRecDepth 100000 in
set_option maxHeartbeats 3200000 in
theorem seal_yes (l k : Int) (n : Nat) (C : Array Value) (bs : List Int) (w : World) (hl : 0 ≤ l ∧ l ≤ 255) (hk : 0 ≤ k ∧ k ≤ 7) (hn : n < 200) (hC : C.toList = blkL k bs) (h56 : bs.length = 56) (hB : AllB bs) :
    Calls Try.prog 8 #[.int .u8 l, .int .i64 n, .agg C] w fun e w' => ∃ v, e = .returned (.tuple #[v, .bool true]) ∧ w'.ownsRow w.heap.size 5 1 v 64 (Bs (sealB l k n bs)) ∧ Below w.heap.size w w' := by
  have hblk := heap_alloc_new w (Obj.cells C 24)
  have c0 := blk_kind hblk hC
  have hby := byt_body hblk hC
  have hbel : Below w.heap.size w (w.alloc (Obj.cells C 24)) := (Below.refl _ _).alloc (Nat.le_refl _) _
  obtain ⟨i0, hi, hz0, hz1, hz2⟩ := info_parts info5
  have hmk := fun w : World => run_make (P := Try.prog) w 25 5 i0 _ Try.underlying25 hi hz0 .i64 .i64 0 64 (by omega) (by omega) (by rw [hz2]; omega) (by omega)
  generalize hM : madeCells (Value.int .u8 0).cells ((64 : Int).toNat * i0.size) = M at hmk
  have HM : Hid (M.size = 64 * 1) := by rw [← hM, size_madeCells, hz1]; unfold Hid; simp
  rw [show ((64 : Int)).toNat = 64 by omega, show ((0 : Int)).toNat = 0 by omega] at hmk
  have HBL := Lib.hid hblk
  have HBY := Lib.hid hby
  have hwk : IntKind.u8.wrap k = k := IntWalk.u8_in _ (by omega)
  have hwn : IntKind.u32.wrap (n : Int) = n := IntWalk.u32_in _ (by omega)
  have HB := Lib.hid (headB_allB (t := n) hl hk hB)
  have HLH := Lib.hid (headB_length (l := l) (k := k) (t := n) h56)
  have HSV := Lib.hid (sumV_lt (headB l k n bs))
  have H56 := Lib.hid h56
  have hg0 : w.heap.size < (w.alloc (Obj.cells C 24)).heap.size := by rw [size_alloc']; omega
  clear hblk hC hby hM hi hz0 hz1 hz2
  go_enter Try.func8, Try.ntmps8
  go_wp2
  have hk0 : ¬ k < 0 := by omega
  have hk7 : ¬ 7 < k := by omega
  have hd1 : decide ((n : Int) < 0) = false := decide_eq_false (by omega)
  have hd2 : decide (200 ≤ (n : Int)) = false := decide_eq_false (by omega)
  generalize w.alloc (Obj.cells C 24) = W0 at *
  have own0 := World.ownsRow_made (e := 5) (size := 1) W0 M 64 (Nat.le_refl W0.heap.size) (by simp only [maxLen]; omega) HM.out
  have B0 : Below W0.heap.size W0 (W0.alloc (Obj.cells M 5)) := (Below.refl _ _).alloc (Nat.le_refl _) _
  refine wp_scope1e (fun _ _ => False) (fun _ _ => 0) rfl ?_ (fun _ _ h => h.elim)
  intro _
  go_wp2_with (first
    | (at_builtin
       refine wpList_app_byt _ rfl (.tmp 24) (.tmp 29) rfl W0.heap.size _ 0 [] rfl (own0.alloc _) (some ⟨(W0.alloc (Obj.cells M 5)).heap.size, 0, none⟩) 2 2 [k, l] (by rw [size_alloc']; rfl) (byt_blk (heap_alloc_new _ _) rfl) rfl (by omega) ((B0.alloc B0.size _).size) ?_
       intro v1 w1 h1 hg1 _
       have B1 : Below W0.heap.size W0 w1 := (B0.alloc B0.size _).grown hg1 (B0.alloc B0.size _).size (fun j hj => (own0.lt j hj).1)
       have own1 : w1.ownsRow W0.heap.size 5 1 v1 2 (Bs [k, l]) := h1
       clear h1 hg1 own0 B0))
  refine (number_any w1 W0.heap.size v1 2 [k, l] n 2 own1 B1.size (by omega) (by omega) (by omega)).mono ?_
  rintro e w2 ⟨v2, rfl, own2, hb2⟩
  have B2 := B1.trans hb2
  clear own1 B1 hb2
  go_wp2_with (first
    | (at_builtin
       refine wpList_app_byt _ rfl (.tmp 35) (.tmp 37) rfl W0.heap.size v2 4 _ rfl own2 (some ⟨w.heap.size, 1, none⟩) 56 56 bs rfl (HBY.out.keep B2) H56.out (by omega) B2.size ?_
       intro v3 w3 h3 hg3 _
       have B3 : Below W0.heap.size W0 w3 := B2.grown hg3 B2.size (fun j hj => (own2.lt j hj).1)
       have own3 : w3.ownsRow W0.heap.size 5 1 v3 60 (Bs (headB l k n bs)) := h3
       clear h3 hg3 own2 B2))
  obtain ⟨A3, d3, rfl, hle3, hd3, hy3⟩ := byt_own own3 HLH.out
  rw [HLH.out] at own3 hle3 ⊢
  refine (sum_any A3 (headB l k n bs) 60 d3 w3 HLH.out (by omega) HB.out hy3).mono ?_
  rintro e w4 ⟨rfl, rfl⟩
  have HY3 := Lib.hid hy3
  have HSE : Hid (sealB l k n bs = headB l k n bs ++ be (sumV (headB l k n bs)) 4) := Lib.hid rfl
  clear hy3
  generalize sumV (headB l k n bs) = sv at *
  go_wp2_with fail
  refine (number_any w3 W0.heap.size _ 60 (headB l k n bs) sv 4 own3 B3.size (by omega) (by omega) HSV.out).mono ?_
  rintro e w4 ⟨v4, rfl, own4, hb4⟩
  go_wp2_with fail
  try simp only [Exit.jump]
  go_ret2
  exact ⟨v4, rfl, by rw [HSE.out]; exact own4.mono (Nat.le_of_lt hg0), hbel.trans ((B3.trans hb4).mono (Nat.le_of_lt hg0))⟩
end Go.Proofs.Ytincamgdaienlaa
