/- Bits in memory: which places are set. Contracts of New, has, Is, Left. -/
import Derived.Test.YtikdnfdijfopkaaH
import Derived.Test.YtikdnfdijfopkaaK3
import Derived.Test.YtikdnfdijfopkaaJ
namespace Go.Proofs.Ytikdnfdijfopkaa
open Go.ChangeShapes Go.WideShapes Go.ChangeAt Go.RowKit
set_option linter.unusedVariables false
set_option maxRecDepth 100000
/-- Places as a Bits has them in its block. -/
def bitsL (S : List Bool) : List Value := (S ++ List.replicate (200 - S.length) false).map Value.bool
def bitsC (S : List Bool) : Array Value := (Value.int .i64 S.length :: (bitsL S ++ [.int .i64 (S.count false)])).toArray
structure BitsAt (w : World) (g : Nat) (S : List Bool) : Prop where
  len : S.length ≤ 200
  hp : w.heap[g]? = some (.cells (bitsC S) 37 (0, 0))
/-- Is the place there? Is it set? -/
def inB (S : List Bool) (i : Int) : Bool := decide (0 ≤ i) && decide (i < S.length)
def isB (S : List Bool) (i : Int) : Bool := inB S i && S.getD i.toNat false
def setB (S : List Bool) (i : Int) (b : Bool) : List Bool := if inB S i then S.set i.toNat b else S
theorem bitsL_len {S : List Bool} (h : S.length ≤ 200) : (bitsL S).length = 200 := by unfold bitsL; simp; omega
theorem bitsL_at {S : List Bool} {i : Nat} {b : Bool} (h : S[i]? = some b) : (bitsL S)[i]? = some (.bool b) := by
  unfold bitsL
  have hl := (List.getElem?_eq_some_iff.1 h).1
  rw [List.getElem?_map, List.getElem?_append_left hl, h]; rfl
theorem bitsC_c0 (S : List Bool) : (bitsC S)[0]? = some (.int .i64 S.length) := rfl
theorem bitsC_at {S : List Bool} (hl : S.length ≤ 200) {i : Nat} {b : Bool} (h : S[i]? = some b) : (bitsC S)[i + 1]? = some (.bool b) := by
  have hi := (List.getElem?_eq_some_iff.1 h).1
  unfold bitsC
  rw [List.getElem?_toArray, List.getElem?_cons_succ, List.getElem?_append_left (by rw [bitsL_len hl]; omega)]
  exact bitsL_at h
theorem bitsC_left {S : List Bool} (hl : S.length ≤ 200) : (bitsC S)[201]? = some (.int .i64 (S.count false)) := by
  unfold bitsC
  rw [List.getElem?_toArray, List.getElem?_cons_succ, List.getElem?_append_right (by rw [bitsL_len hl]; omega), bitsL_len hl]; rfl
theorem bitsL_set (S : List Bool) {i : Nat} (hi : i < S.length) (b : Bool) : (bitsL S).set i (.bool b) = bitsL (S.set i b) := by
  unfold bitsL
  rw [← List.map_set, List.length_set, List.set_append_left _ _ hi]
theorem bitsC_set {S : List Bool} (hl : S.length ≤ 200) {i : Nat} (hi : i < S.length) (b : Bool) :
    ((bitsC S).setIfInBounds (1 + i) (.bool b)).setIfInBounds 201 (.int .i64 ((S.set i b).count false)) = bitsC (S.set i b) := by
  rw [Nat.add_comm 1 i]
  unfold bitsC
  simp only [List.setIfInBounds_toArray, List.set_cons_succ]
  rw [List.set_append_left _ _ (by rw [bitsL_len hl]; omega), bitsL_set S hi, List.set_append_right _ _ (by rw [bitsL_len (by simpa using hl)]; exact Nat.le_refl _), bitsL_len (by simpa using hl), List.length_set]
  rfl
section
variable {w w' : World} {g : Nat} {S : List Bool}
theorem BitsAt.below (h : BitsAt w g S) (hb : Below w.heap.size w w') : BitsAt w' g S := ⟨h.len, by rw [hb.block g (room_lt h.hp)]; exact h.hp⟩
theorem BitsAt.touch {F : Nat → Prop} (h : BitsAt w g S) (ht : Touch F w w') (hg : ¬ F g) : BitsAt w' g S := ⟨h.len, by rw [ht.block g (room_lt h.hp) hg]; exact h.hp⟩
theorem BitsAt.c0 (h : BitsAt w g S) : w.cell? ⟨g, 0, none⟩ = some (.int .i64 S.length) := (blk_cell h.hp 0).trans (bitsC_c0 S)
theorem BitsAt.cAt (h : BitsAt w g S) {i : Nat} {b : Bool} (hi : S[i]? = some b) : w.cell? ⟨g, 1 + i, none⟩ = some (.bool b) := by rw [Nat.add_comm]; exact (blk_cell h.hp _).trans (bitsC_at h.len hi)
theorem BitsAt.cl (h : BitsAt w g S) : w.cell? ⟨g, 201, none⟩ = some (.int .i64 (S.count false)) := (blk_cell h.hp 201).trans (bitsC_left h.len)
theorem BitsAt.fz (h : BitsAt w g S) (i : Nat) : w.frozen? ⟨g, i, none⟩ = false := blk_free h.hp i
end
theorem count_set_true {S : List Bool} : ∀ {i : Nat}, S[i]? = some false → (S.set i true).count false + 1 = S.count false := by
  induction S with
  | nil => intro i h; cases h
  | cons x T ih =>
    intro i h
    cases i with
    | zero => simp at h; subst h; simp
    | succ i =>
      rw [List.getElem?_cons_succ] at h
      have := ih h
      rw [List.set_cons_succ, List.count_cons, List.count_cons]; omega
theorem count_set_false {S : List Bool} : ∀ {i : Nat}, S[i]? = some true → (S.set i false).count false = S.count false + 1 := by
  induction S with
  | nil => intro i h; cases h
  | cons x T ih =>
    intro i h
    cases i with
    | zero => simp at h; subst h; simp
    | succ i =>
      rw [List.getElem?_cons_succ] at h
      have := ih h
      rw [List.set_cons_succ, List.count_cons, List.count_cons]; omega
/-- One place stored, and how many are left. -/
theorem BitsAt.put {w : World} {g : Nat} {S : List Bool} (h : BitsAt w g S) {i : Nat} (hi : i < S.length) (b : Bool) {c : Int} (hc : c = ((S.set i b).count false : Nat)) :
    BitsAt ((w.setCell ⟨g, 1 + i, none⟩ (.bool b)).setCell ⟨g, 201, none⟩ (.int .i64 c)) g (S.set i b) ∧ Touch (fun k => k = g) w ((w.setCell ⟨g, 1 + i, none⟩ (.bool b)).setCell ⟨g, 201, none⟩ (.int .i64 c)) := by
  subst hc
  refine ⟨⟨by simpa using h.len, ?_⟩, ((Touch.refl (fun k => k = g) w).setCell (p := ⟨g, 1 + i, none⟩) rfl _).setCell (p := ⟨g, 201, none⟩) rfl _⟩
  rw [← bitsC_set h.len hi b]
  exact heap_setCell_same' (heap_setCell_same' h.hp _) _
theorem built_bits (n : Int) : Try.prog.built 37 [(0, .int .i64 n), (2, .int .i64 n)] = some (.int .i64 n :: ((List.replicate 200 (Value.bool false)) ++ [.int .i64 n])).toArray := by kernel_rfl
theorem bitsC_new (k : Nat) (hk : k ≤ 200) : (Value.int .i64 (k : Int) :: ((List.replicate 200 (Value.bool false)) ++ [.int .i64 (k : Int)])).toArray = bitsC (List.replicate k false) := by
  unfold bitsC bitsL
  rw [List.length_replicate, List.count_replicate_self, List.replicate_append_replicate, List.map_replicate, show k + (200 - k) = 200 by omega]
section
variable {ops : Array Oper} {rest : List Oper} {o : Oper} {a : Act} {w : World} {Q : Exit → Act → World → Prop}
theorem wpList_buildBits (hgd : o.guard = none) (x0 x2 : Operand) (ho : o.op = .build 37 #[(0, x0), (2, x2)]) (n : Int) (C : Array Value) (hb : Try.prog.built 37 [(0, .int .i64 n), (2, .int .i64 n)] = some C) (h0 : a.eval x0 = .int .i64 n) (h2 : a.eval x2 = .int .i64 n)
    (h : wpList Try.prog ops Q rest (a.put o.dst (.agg C)) w) : wpList Try.prog ops Q (o :: rest) a w :=
  wpList_plain hgd fun _ hK => by
    unfold Oper.wp execOp
    have hb := run_build (P := Try.prog) w 37 #[(0, .int .i64 n), (2, .int .i64 n)] _ hb
    simp only [ho, List.map_toArray, List.map_cons, List.map_nil, h0, h2, Sem.run_bind, hb, Result.andThen_ok, Sem.run_pure]
    exact hK _ _ h
end
set_option maxHeartbeats 1600000 in
theorem new_any (x : Int) (hx : i64 x) (w : World) : Calls Try.prog 7 #[.int .i64 x] w fun e w' => ∃ g, e = .returned (.pointer (some ⟨g, 0, none⟩)) ∧ g = w.heap.size ∧ BitsAt w' g (List.replicate (min (max x 0) 200).toNat false) ∧ Below w.heap.size w w' := by
  obtain ⟨k, hk, hk2⟩ : ∃ k : Nat, (min (max x 0) 200) = (k : Int) ∧ k ≤ 200 := ⟨(min (max x 0) 200).toNat, by omega, by omega⟩
  have hb := built_bits (k : Int)
  rw [bitsC_new k hk2] at hb
  have hC : (bitsC (List.replicate k false)).size = 202 := by
    have h0 := bitsL_len (S := List.replicate k false) (by simpa using hk2)
    unfold bitsC
    simp [h0]
  have HB := Lib.hid hb
  have HC := Lib.hid hC
  generalize hCC : bitsC (List.replicate k false) = C at *
  have HCC := Lib.hid hCC
  rw [hk]
  clear hb hC hCC
  have fin : Hid (bitsC (List.replicate k false) = C) → k ≤ 200 → ∃ g, Ending.returned (.pointer (some ⟨w.heap.size, 0, none⟩)) = Ending.returned (.pointer (some ⟨g, 0, none⟩)) ∧ g = w.heap.size ∧ BitsAt (w.alloc (.cells C 37)) g (List.replicate (k : Int).toNat false) ∧ Below w.heap.size w (w.alloc (.cells C 37)) := fun h1 h2 =>
    ⟨_, rfl, rfl, ⟨by simpa using h2, by rw [Int.toNat_natCast, h1.out]; exact heap_alloc_new w _⟩, (Below.refl _ _).alloc (Nat.le_refl _) _⟩
  by_cases h0 : x < 0
  · have e0 : k = 0 := by omega
    subst e0
    go_enter Try.func7, Try.ntmps7
    go_wp2_with (refine wpList_buildBits rfl _ _ rfl (0 : Int) C HB.out rfl rfl ?_)
    go_ret
    exact fin HCC hk2
  · by_cases h1 : 200 < x
    · have e0 : k = 200 := by omega
      subst e0
      go_enter Try.func7, Try.ntmps7
      go_wp2_with (refine wpList_buildBits rfl _ _ rfl (200 : Int) C HB.out rfl rfl ?_)
      go_ret
      exact fin HCC hk2
    · have e0 : x = k := by omega
      subst e0
      go_enter Try.func7, Try.ntmps7
      go_wp2_with (refine wpList_buildBits rfl _ _ rfl (k : Int) C HB.out rfl rfl ?_)
      go_ret
      exact fin HCC hk2
set_option maxHeartbeats 1600000 in
theorem has_any {w : World} {g : Nat} {S : List Bool} (h : BitsAt w g S) (i : Int) : Calls Try.prog 13 #[.pointer (some ⟨g, 0, none⟩), .int .i64 i] w fun e w' => e = .returned (.bool (inB S i)) ∧ w = w' := by
  have z0 := h.c0
  have HL := h.len
  unfold inB
  clear h
  go_enter Try.func13, Try.ntmps13
  by_cases h0 : 0 ≤ i
  · go_wp2
    go_ret
    exact ⟨by rw [decide_eq_true h0]; rfl, rfl⟩
  · go_wp2
    go_ret
    exact ⟨by rw [decide_eq_false (by omega : ¬ 0 ≤ i)]; rfl, rfl⟩
theorem has_nil (i : Int) (w : World) : Calls Try.prog 13 #[.pointer none, .int .i64 i] w fun e w' => e = .returned (.bool false) ∧ w = w' := by
  go_enter Try.func13, Try.ntmps13
  go_wp2
  go_ret
  exact ⟨rfl, rfl⟩
theorem left_nil (w : World) : Calls Try.prog 11 #[.pointer none] w fun e w' => e = .returned (.int .i64 0) ∧ w = w' := by
  go_enter Try.func11, Try.ntmps11
  go_wp2
  go_ret
  exact ⟨rfl, rfl⟩
theorem left_any {w : World} {g : Nat} {S : List Bool} (h : BitsAt w g S) : Calls Try.prog 11 #[.pointer (some ⟨g, 0, none⟩)] w fun e w' => e = .returned (.int .i64 (S.count false)) ∧ w = w' := by
  have z := h.cl
  generalize S.count false = c at *
  clear h
  go_enter Try.func11, Try.ntmps11
  go_wp2
  go_ret
  exact ⟨rfl, rfl⟩
end Go.Proofs.Ytikdnfdijfopkaa
