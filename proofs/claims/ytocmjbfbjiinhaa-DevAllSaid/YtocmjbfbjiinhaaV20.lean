/- Contract: traced. -/
import Derived.Test.YtocmjbfbjiinhaaV19
namespace Go.Proofs.Ytocmjbfbjiinhaa
open Go.ChangeShapes Go.WideShapes Go.ChangeAt Go.RowKit
set_option linter.unusedVariables false
/-- What a trace tells of a write. -/
def traceB (x : Wr) : List Int := [((x.i / 256 : Nat) : Int), ((x.i % 256 : Nat) : Int)] ++ (if x.i = 65535 then [] else x.b)
theorem own_two (w : World) (o : Obj) (C0 : Array Value) (hC : C0 = Array.replicate 66 (.int .u8 0)) (a b : Value) :
    RowAt ((w.alloc o).alloc (.cells ((C0.setIfInBounds 0 a).setIfInBounds 1 b) 5)) (fun k => w.heap.size ≤ k) 5 1 (.slice (some ⟨w.heap.size + 1, 0, none⟩) 2 66) 2 [a, b] := by
  subst hC
  refine ⟨⟨rfl, Or.inr ⟨w.heap.size + 1, 66, _, rfl, Nat.zero_le _, heap_alloc2_new w o _, by omega, by simp [maxLen], by simp, ?_⟩⟩, fun g hg => ?_⟩
  · simp [List.replicate]
  · injection hg with hg; dsimp only at hg; omega
set_option maxRecDepth 100000 in
set_option maxHeartbeats 1600000 in
theorem traced_any (x : Wr) (w : World) (hi : x.i ≤ 65535) (hb : BlkOk x.b) :
    Calls Try.prog 46 #[.agg x.cs.toArray] w fun e w' => (∃ v, e = .returned v ∧ RowAt w' (fun k => w.heap.size ≤ k) 5 1 v (traceB x).length (Bs (traceB x))) ∧ Below w.heap.size w w' := by
  obtain ⟨i0, hi0, hz0, hz1, hz2⟩ := info_parts info5
  have hmk := fun w : World => run_make (P := Try.prog) w 31 5 i0 _ Try.underlying31 hi0 hz0 .i64 .i64 2 66 (by omega) (by omega) (by rw [hz2]; omega) (by omega)
  generalize hC : madeCells (Value.int .u8 0).cells ((66 : Int).toNat * i0.size) = C0 at hmk
  have hC2 : C0 = Array.replicate 66 (.int .u8 0) := by
    rw [hz1] at hC
    rw [← hC]
    apply Array.ext
    · simp [madeCells]
    · intro i h1 h2; simp [madeCells, Value.cells, Nat.mod_one]
  have hc0 : C0[0]? = some (.int .u8 0) := by rw [hC2]; rfl
  have hc1 : C0[1]? = some (.int .u8 0) := by rw [hC2]; rfl
  have HC := Lib.hid hC2
  have HI := Lib.hid (And.intro hi0 (And.intro hz0 (And.intro hz1 hz2)))
  have v2 := fun w : World => run_convert_float_int w 91 3 .f64 .i64 _ _ (P := Try.prog) (by kernel_rfl) Try.underlying3 (int_fb64 x.i (by omega))
  have hx0 : x.cs.toArray[0]? = some (.complex .f64 (Fx.fb x.r) (Fx.fb x.i)) := rfl
  clear hC hC2 hi0 hz0 hz1 hz2
  have HB := Lib.hid hb
  clear hb
  generalize hD : x.cs.toArray = D at *
  have HD := Lib.hid hD
  clear hD
  have hbel : ∀ o1 o2 : Obj, Below w.heap.size w ((w.alloc o1).alloc o2) := fun o1 o2 => ((Below.refl _ _).alloc (Nat.le_refl _) _).alloc (by simp) _
  have HBL := Lib.hid hbel
  clear hbel
  by_cases h5 : x.i = 65535
  · have hq : ((x.i : Int) != 65535) = false := by simp; omega
    have htr : traceB x = [((x.i / 256 : Nat) : Int), ((x.i % 256 : Nat) : Int)] := by unfold traceB; rw [if_pos h5]; rfl
    have HT := Lib.hid htr
    clear htr h5
    go_enter Try.func46, Try.ntmps46
    go_wp2
    go_ret
    refine ⟨⟨_, rfl, ?_⟩, HBL.out _ _⟩
    rw [HT.out]
    exact own_two w _ C0 HC.out _ _
  · have hq : ((x.i : Int) != 65535) = true := by rw [bne_iff_ne]; omega
    have htr : Bs (traceB x) = [.int .u8 ((x.i / 256 : Nat) : Int), .int .u8 ((x.i % 256 : Nat) : Int)] ++ Bs x.b := by unfold traceB; rw [if_neg h5, Bs_append]; rfl
    have htl : (traceB x).length = 2 + 64 := by unfold traceB; rw [if_neg h5, List.length_append, HB.out.1]; rfl
    have HT := Lib.hid (And.intro htr htl)
    clear htr h5 htl
    go_enter Try.func46, Try.ntmps46
    go_wp2_with (at_builtin; refine wpList_push_of rfl (.tmp 21) (.tmp 23) 31 rfl 5 i0 _ 1 1 Try.underlying31 HI.out.1 HI.out.2.1 HI.out.2.2.1 HI.out.2.2.2 rfl (by decide) (.slice (some ⟨w.heap.size + 1, 0, none⟩) 2 66) 2 _ rfl _ (own_two w _ C0 HC.out _ _) ⟨w.heap.size, 1, none⟩ 64 64 (Bs x.b) rfl (by rw [Bs_length]; exact HB.out.1) (fun j u hj => by rw [Addr.add_mid, blk_cell (heap_alloc2_old w _ _), ← HD.out, List.getElem?_toArray, Nat.add_comm]; exact hj) (Bs_one _) (by simp [maxLen]) (by omega) ?_; intro v' w3 hrow3 hgr3 _; have HR3 := Lib.hid hrow3; have HG3 := Lib.hid hgr3; clear hrow3 hgr3)
    go_ret
    refine ⟨⟨_, rfl, ?_⟩, (HBL.out _ _).grown HG3.out (by simp; omega) (fun k hk => by injection hk with hk; dsimp only at hk; omega)⟩
    rw [HT.out.1, HT.out.2]
    exact HR3.out.owner fun k _ hk => by rcases hk with hk | hk; exact hk; simp at hk; omega
end Go.Proofs.Ytocmjbfbjiinhaa
