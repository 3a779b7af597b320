/- A vol in memory; contracts: Epoch, Room, Blocks, has, Get. -/
import Derived.Test.YtamnpblijdgdaaaNe
import Derived.Test.YtamnpblijdgdaaaKa
import Derived.BigQuiet
namespace Go.Proofs.Ytamnpblijdgdaaa
open Go.ChangeShapes Go.WideShapes Go.ChangeAt Go.RowKit
set_option linter.unusedVariables false
set_option maxRecDepth 100000
/-- A block that is near: its kind, its body; does a record have it? -/
structure HB where
  (k : Int) (bs : List Int) (lg : Bool)
structure HB.Ok (x : HB) : Prop where
  k : 0 ≤ x.k ∧ x.k ≤ 7
  len : x.bs.length = 56
  b : AllB x.bs
def hbL (x : HB) : List Value := blkL x.k x.bs ++ [.bool x.lg]
theorem blkL_len {k : Int} {bs : List Int} (h : bs.length = 56) : (blkL k bs).length = 57 := by unfold blkL; simp [Bs_length, h]
theorem hbL_len {x : HB} (h : x.bs.length = 56) : (hbL x).length = 58 := by unfold hbL; simp [blkL_len h]
theorem hbL_one (x : HB) : ∀ v ∈ hbL x, v.oneCell' = true := by
  intro v hv
  unfold hbL blkL at hv
  simp only [List.mem_append, List.mem_cons, List.not_mem_nil, or_false] at hv
  rcases hv with (rfl | hv) | rfl
  · rfl
  · exact Bs_one x.bs v hv
  · rfl
def HBsOk (l : List HB) : Prop := ∀ x ∈ l, x.Ok
theorem HBsOk.fits {l : List HB} (h : HBsOk l) : Fits hbL 58 l := fun x hx => hbL_len (h x hx).len
theorem HBsOk.set {l : List HB} (h : HBsOk l) {i : Nat} {x : HB} (hx : x.Ok) : HBsOk (l.set i x) := fun y hy => by
  rcases List.mem_or_eq_of_mem_set hy with h1 | h1
  · exact h y h1
  · rw [h1]; exact hx
/-- A vol. -/
structure VM where
  (r fr : Int) (n g : Nat) (B : List HB) (ep sq us : Nat)
def volC (q rb : Nat) (v : VM) : Array Value := #[.pointer (some ⟨q, 0, none⟩), .int .i64 v.r, .int .u8 0, .int .i64 0, .int .i64 0, .int .i64 v.n, .int .i64 v.g, .int .i64 v.fr, .slice (some ⟨rb, 0, none⟩) v.n v.n, .int .u32 v.ep, .int .u32 v.sq, .int .i64 v.us]
structure VM.Ok (v : VM) : Prop where
  len : v.B.length = v.n
  ok : HBsOk v.B
  n : v.n ≤ 200
  g : v.g ≤ 1000
  r : i64 v.r
  ep : v.ep < 4294967296
  sq : v.sq < 4294967296
  us : v.us ≤ 2000
structure VolAt (W : World) (q hp rb : Nat) (v : VM) : Prop extends VM.Ok v where
  hd : W.heap[hp]? = some (.cells (volC q rb v) 90 (0, 0))
  row : W.heap[rb]? = some (.cells (rowL hbL v.B).toArray 95 (0, 0))
theorem VolAt.keep {W W' : World} {q hp rb : Nat} {v : VM} (h : VolAt W q hp rb v) (h1 : W'.heap[hp]? = W.heap[hp]?) (h2 : W'.heap[rb]? = W.heap[rb]?) : VolAt W' q hp rb v :=
  { h with hd := h1.trans h.hd, row := h2.trans h.row }
theorem VolAt.below {W W' : World} {q hp rb : Nat} {v : VM} (h : VolAt W q hp rb v) (hb : Below W.heap.size W W') : VolAt W' q hp rb v := h.keep (hb.block _ (room_lt h.hd)) (hb.block _ (room_lt h.row))
theorem VolAt.drewN {W : World} {q hp rb : Nat} {v : VM} (h : VolAt W q hp rb v) (n : Nat) : VolAt (W.drewN n) q hp rb v := h.keep rfl rfl
section
variable {W : World} {q hp rb : Nat} {v : VM}
theorem VolAt.c0 (h : VolAt W q hp rb v) : W.cell? ⟨hp, 0, none⟩ = some (.pointer (some ⟨q, 0, none⟩)) := (blk_cell h.hd 0).trans rfl
theorem VolAt.c1 (h : VolAt W q hp rb v) : W.cell? ⟨hp, 1, none⟩ = some (.int .i64 v.r) := (blk_cell h.hd 1).trans rfl
theorem VolAt.c2 (h : VolAt W q hp rb v) : W.cell? ⟨hp, 2, none⟩ = some (.int .u8 0) := (blk_cell h.hd 2).trans rfl
theorem VolAt.c3 (h : VolAt W q hp rb v) : W.cell? ⟨hp, 3, none⟩ = some (.int .i64 0) := (blk_cell h.hd 3).trans rfl
theorem VolAt.c4 (h : VolAt W q hp rb v) : W.cell? ⟨hp, 4, none⟩ = some (.int .i64 0) := (blk_cell h.hd 4).trans rfl
theorem VolAt.c5 (h : VolAt W q hp rb v) : W.cell? ⟨hp, 5, none⟩ = some (.int .i64 v.n) := (blk_cell h.hd 5).trans rfl
theorem VolAt.c6 (h : VolAt W q hp rb v) : W.cell? ⟨hp, 6, none⟩ = some (.int .i64 v.g) := (blk_cell h.hd 6).trans rfl
theorem VolAt.c7 (h : VolAt W q hp rb v) : W.cell? ⟨hp, 7, none⟩ = some (.int .i64 v.fr) := (blk_cell h.hd 7).trans rfl
theorem VolAt.c8 (h : VolAt W q hp rb v) : W.cell? ⟨hp, 8, none⟩ = some (.slice (some ⟨rb, 0, none⟩) v.n v.n) := (blk_cell h.hd 8).trans rfl
theorem VolAt.c9 (h : VolAt W q hp rb v) : W.cell? ⟨hp, 9, none⟩ = some (.int .u32 v.ep) := (blk_cell h.hd 9).trans rfl
theorem VolAt.c10 (h : VolAt W q hp rb v) : W.cell? ⟨hp, 10, none⟩ = some (.int .u32 v.sq) := (blk_cell h.hd 10).trans rfl
theorem VolAt.c11 (h : VolAt W q hp rb v) : W.cell? ⟨hp, 11, none⟩ = some (.int .i64 v.us) := (blk_cell h.hd 11).trans rfl
theorem VolAt.f (h : VolAt W q hp rb v) (i : Nat) : W.frozen? ⟨hp, i, none⟩ = false := blk_free h.hd i
theorem VolAt.fr (h : VolAt W q hp rb v) (i : Nat) : W.frozen? ⟨rb, i, none⟩ = false := blk_free h.row i
theorem VolAt.cell (h : VolAt W q hp rb v) {i : Nat} {x : HB} (hi : v.B[i]? = some x) {j : Nat} {u : Value} (hj : (hbL x)[j]? = some u) : W.cell? ⟨rb, i * 58 + j, none⟩ = some u := by
  rw [blk_cell h.row, List.getElem?_toArray]; exact rowL_at h.ok.fits hi hj
theorem VolAt.lg (h : VolAt W q hp rb v) {i : Nat} {x : HB} (hi : v.B[i]? = some x) : W.cell? ⟨rb, i * 58 + 57, none⟩ = some (.bool x.lg) := h.cell hi (by
  unfold hbL
  rw [List.getElem?_append_right (by rw [blkL_len (h.ok x (List.mem_of_getElem? hi)).len]; exact Nat.le_refl _), blkL_len (h.ok x (List.mem_of_getElem? hi)).len]; rfl)
theorem VolAt.rangeB (h : VolAt W q hp rb v) {i : Nat} {x : HB} (hi : v.B[i]? = some x) : W.rangeAt rb (i * 58) (blkL x.k x.bs) := fun j u hj => by
  refine h.cell hi ?_
  unfold hbL
  rw [List.getElem?_append_left (List.getElem?_eq_some_iff.1 hj).1]; exact hj
theorem VolAt.there (h : VolAt W q hp rb v) {i : Nat} (hi : i < v.n) {o c : Nat} (hc : o + c ≤ 58) : W.there rb (i * 58 + o) c := fun j hj => by
  have hl : (rowL hbL v.B).length = v.n * 58 := by rw [rowL_length h.ok.fits, h.len]
  have hb : i * 58 + o + j < v.n * 58 := by
    have : (i + 1) * 58 ≤ v.n * 58 := Nat.mul_le_mul_right _ hi
    omega
  exact ⟨by rw [blk_cell h.row, List.getElem?_toArray, List.getElem?_eq_getElem (by omega)]; rfl, h.fr _⟩
end
theorem vepoch_any {W : World} {q hp rb : Nat} {v : VM} (h : VolAt W q hp rb v) : Calls Try.prog 26 #[.pointer (some ⟨hp, 0, none⟩)] W fun e w' => e = .returned (.int .u32 v.ep) ∧ W = w' := by
  have c9 := h.c9
  clear h
  go_enter Try.func26, Try.ntmps26
  go_wp2
  go_ret
  exact ⟨rfl, rfl⟩
theorem vblocks_any {W : World} {q hp rb : Nat} {v : VM} (h : VolAt W q hp rb v) : Calls Try.prog 28 #[.pointer (some ⟨hp, 0, none⟩)] W fun e w' => e = .returned (.int .i64 v.n) ∧ W = w' := by
  have c8 := h.c8
  clear h
  go_enter Try.func28, Try.ntmps28
  go_wp2
  go_ret
  exact ⟨rfl, rfl⟩
theorem vroom_any {W : World} {q hp rb : Nat} {v : VM} (h : VolAt W q hp rb v) (hus : v.us ≤ v.g) : Calls Try.prog 27 #[.pointer (some ⟨hp, 0, none⟩)] W fun e w' => e = .returned (.int .i64 ((v.g - v.us : Nat) : Int)) ∧ Below W.heap.size W w' := by
  have c6 : ∀ k, (W.drewN k).cell? ⟨hp, 6, none⟩ = _ := fun k => (show W.cell? _ = _ from h.c6)
  have c11 : ∀ k, (W.drewN k).cell? ⟨hp, 11, none⟩ = _ := fun k => (show W.cell? _ = _ from h.c11)
  have hg := h.g
  have wz : IntKind.i64.wrap ((v.g : Int) - v.us) = ((v.g - v.us : Nat) : Int) := by rw [IntWalk.i64_in _ (by omega)]; omega
  clear h
  generalize v.g - v.us = z at *
  generalize v.g = g at *
  generalize v.us = us at *
  go_enter Try.func27, Try.ntmps27
  go_wp2_with (go_quiet (fail))
  go_ret
  exact ⟨rfl, bdn (Below.refl _ _) _⟩
theorem vepoch_nil (W : World) : Calls Try.prog 26 #[.pointer none] W fun e w' => e = .returned (.int .u32 0) ∧ W = w' := by
  go_enter Try.func26, Try.ntmps26
  go_wp2
  go_ret
  exact ⟨rfl, rfl⟩
theorem vblocks_nil (W : World) : Calls Try.prog 28 #[.pointer none] W fun e w' => e = .returned (.int .i64 0) ∧ W = w' := by
  go_enter Try.func28, Try.ntmps28
  go_wp2
  go_ret
  exact ⟨rfl, rfl⟩
theorem vroom_nil (W : World) : Calls Try.prog 27 #[.pointer none] W fun e w' => e = .returned (.int .i64 0) ∧ W = w' := by
  go_enter Try.func27, Try.ntmps27
  go_wp2
  go_ret
  exact ⟨rfl, rfl⟩
def hasV (v : VM) (t : Int) : Bool := decide (0 ≤ t) && decide (t < v.n)
theorem vhas_any {W : World} {q hp rb : Nat} {v : VM} (h : VolAt W q hp rb v) (t : Int) (ht : i64 t) : Calls Try.prog 42 #[.pointer (some ⟨hp, 0, none⟩), .int .i64 t] W fun e w' => e = .returned (.bool (hasV v t)) ∧ W = w' := by
  have HB := Lib.hid (vblocks_any h)
  unfold hasV
  clear h
  generalize v.n = n at *
  by_cases h0 : 0 ≤ t
  · have hd : decide (0 ≤ t) = true := decide_eq_true h0
    go_enter Try.func42, Try.ntmps42
    go_wp2_with fail
    refine HB.out.mono ?_
    rintro e w' ⟨rfl, rfl⟩
    go_wp2
    go_ret
    exact ⟨by rw [hd]; simp, rfl⟩
  · have hd : decide (0 ≤ t) = false := decide_eq_false h0
    go_enter Try.func42, Try.ntmps42
    go_wp2
    go_ret
    exact ⟨rfl, rfl⟩
theorem vhas_nil (W : World) (t : Int) (ht : i64 t) : Calls Try.prog 42 #[.pointer none, .int .i64 t] W fun e w' => e = .returned (.bool false) ∧ W = w' := by
  by_cases h0 : 0 ≤ t
  · have hd : decide (0 ≤ t) = true := decide_eq_true h0
    have hd2 : decide (t < 0) = false := decide_eq_false (by omega)
    go_enter Try.func42, Try.ntmps42
    go_wp2_with fail
    refine (vblocks_nil W).mono ?_
    rintro e w' ⟨rfl, rfl⟩
    go_wp2
    go_ret
    exact ⟨rfl, rfl⟩
  · have hd : decide (0 ≤ t) = false := decide_eq_false h0
    go_enter Try.func42, Try.ntmps42
    go_wp2
    go_ret
    exact ⟨rfl, rfl⟩
theorem vget_nil (W : World) (t : Int) (ht : i64 t) : Calls Try.prog 17 #[.pointer none, .int .i64 t] W fun e w' => e = .returned (.tuple #[.agg (blkA 0 zBs), .bool false]) ∧ Below W.heap.size W w' := by
  have hb : Below W.heap.size W (W.alloc (Obj.cells (blkA 0 zBs) 46)) := (Below.refl _ _).alloc (Nat.le_refl _) _
  have e0 := heap_alloc_new W (Obj.cells (blkA 0 zBs) 46)
  go_enter Try.func17, Try.ntmps17
  go_upto_region 1 with (refine wpList_allocB rfl rfl ?_)
  generalize hg : W.heap.size = g at *
  generalize W.alloc (Obj.cells (blkA 0 zBs) 46) = W1 at *
  go_wp2_with fail
  refine (vhas_nil W1 t ht).mono ?_
  rintro e w' ⟨rfl, rfl⟩
  go_wp2_with (first | (refine wpList_buildB0 rfl rfl ?_) | (refine wpList_storeB rfl (.tmp 4) (.tmp 10) rfl g rfl 0 0 zBs zBs rfl zBs_len zBs_len e0 ?_))
  refine bodyPost_ret (results_blk rfl _ _ g 0 zBs rfl zBs_len (setRow_blk e0)) rfl ?_
  exact ⟨rfl, by rw [hg]; exact below_setRow hb (Nat.le_refl _) _⟩
def getB (v : VM) (t : Int) : HB := if hasV v t then v.B.getD t.toNat ⟨0, zBs, false⟩ else ⟨0, zBs, false⟩
theorem getB_in {v : VM} {i : Nat} {x : HB} (hv : v.B.length = v.n) (h : v.B[i]? = some x) : hasV v i = true ∧ getB v i = x := by
  have hl := (List.getElem?_eq_some_iff.1 h).1
  have hh : hasV v i = true := by unfold hasV; simp; omega
  refine ⟨hh, ?_⟩
  unfold getB
  rw [if_pos hh, Int.toNat_natCast, List.getD, h]; rfl
theorem vget_any {W : World} {q hp rb : Nat} {v : VM} (h : VolAt W q hp rb v) (t : Int) (ht : i64 t) : Calls Try.prog 17 #[.pointer (some ⟨hp, 0, none⟩), .int .i64 t] W fun e w' => e = .returned (.tuple #[.agg (blkA (getB v t).k (getB v t).bs), .bool (hasV v t)]) ∧ Below W.heap.size W w' := by
  have hb : Below W.heap.size W (W.alloc (Obj.cells (blkA 0 zBs) 46)) := (Below.refl _ _).alloc (Nat.le_refl _) _
  have e0 := heap_alloc_new W (Obj.cells (blkA 0 zBs) 46)
  have hv := Lib.hid (h.below hb)
  have HH := Lib.hid (vhas_any hv.out t ht)
  clear h
  by_cases h1 : hasV v t = true
  · obtain ⟨i, rfl⟩ : ∃ i : Nat, t = (i : Int) := ⟨t.toNat, by unfold hasV at h1; simp at h1; omega⟩
    have hin : i < v.n := by unfold hasV at h1; simp at h1; omega
    obtain ⟨x, hx⟩ : ∃ x, v.B[i]? = some x := ⟨_, List.getElem?_eq_getElem (by rw [hv.out.len]; exact hin)⟩
    rw [(getB_in hv.out.len hx).2]
    rw [h1] at HH ⊢
    have HX := Lib.hid hx
    have H56 := Lib.hid (hv.out.ok x (List.mem_of_getElem? hx)).len
    have hii : (i : Int) < v.n := by omega
    have HN := hv.out.n
    clear hx h1 hin
    go_enter Try.func17, Try.ntmps17
    go_upto_region 1 with (refine wpList_allocB rfl rfl ?_)
    generalize hg : W.heap.size = g at *
    generalize W.alloc (Obj.cells (blkA 0 zBs) 46) = W1 at *
    have c8 := hv.out.c8
    generalize v.n = n at *
    go_wp2_with fail
    refine HH.out.mono ?_
    rintro e w' ⟨rfl, rfl⟩
    go_wp2_with (first | (with_reducible refine wpList_load_mid rfl 46 (.tmp 17) rfl rb (i * 58) rfl (blkL x.k x.bs) _ (hv.out.rangeB HX.out) Try.underlying46 rfl (by rw [blkL_len H56.out]; exact size24b) ?_) | (refine wpList_storeB rfl (.tmp 4) (.tmp 18) rfl g rfl x.k 0 x.bs zBs rfl H56.out zBs_len e0 ?_))
    refine bodyPost_ret (results_blk rfl _ _ g x.k x.bs rfl H56.out (setRow_blk e0)) rfl ?_
    exact ⟨rfl, by rw [hg]; exact below_setRow hb (Nat.le_refl _) _⟩
  · have h2 : hasV v t = false := by simpa using h1
    have hg0 : getB v t = ⟨0, zBs, false⟩ := by unfold getB; rw [if_neg h1]
    rw [hg0, h2]
    rw [h2] at HH
    clear h1 h2 hg0
    go_enter Try.func17, Try.ntmps17
    go_upto_region 1 with (refine wpList_allocB rfl rfl ?_)
    generalize hg : W.heap.size = g at *
    generalize W.alloc (Obj.cells (blkA 0 zBs) 46) = W1 at *
    go_wp2_with fail
    refine HH.out.mono ?_
    rintro e w' ⟨rfl, rfl⟩
    go_wp2_with (first | (refine wpList_buildB0 rfl rfl ?_) | (refine wpList_storeB rfl (.tmp 4) (.tmp 10) rfl g rfl 0 0 zBs zBs rfl zBs_len zBs_len e0 ?_))
    refine bodyPost_ret (results_blk rfl _ _ g 0 zBs rfl zBs_len (setRow_blk e0)) rfl ?_
    exact ⟨rfl, by rw [hg]; exact below_setRow hb (Nat.le_refl _) _⟩
end Go.Proofs.Ytamnpblijdgdaaa
