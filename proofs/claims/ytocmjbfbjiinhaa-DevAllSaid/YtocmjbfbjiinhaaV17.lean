/- Contracts: slices.Clone at three types. -/
import Derived.Test.YtocmjbfbjiinhaaV16
import Derived.Test.YtocmjbfbjiinhaaW2
import Derived.WalkSpells
import Derived.ChangeShapes
namespace Go.Proofs.Ytocmjbfbjiinhaa
open Go.ChangeShapes Go.WideShapes Go.ChangeAt Go.RowKit
set_option linter.unusedVariables false
theorem infoInt : (Try.prog.info? 3).map (fun i => (i.zero, i.size, i.bytes)) = some (some (.int .i64 0), 1, 8) := by kernel_rfl

set_option maxRecDepth 100000 in
theorem cloneW_any {w : World} {Own : Nat → Prop} {v : Value} {n : Nat} {xs : List Value} (h : RowAt w Own 75 65 v n xs) (hn : n ≤ 1000000) (h1 : ∀ u ∈ xs, u.oneCell' = true) :
    Calls Try.prog 39 #[v] w fun e w' => (∃ v', e = .returned v' ∧ RowAt w' (fun k => w.heap.size ≤ k) 75 65 v' n xs) ∧ Below w.heap.size w w' := by
  obtain ⟨i0, hi0, hz0, hz1, hz2⟩ := info_parts info75
  have HI := Lib.hid (And.intro hi0 (And.intro hz0 (And.intro hz1 hz2)))
  have HH := Lib.hid h
  have H1 := Lib.hid h1
  have hxl := Lib.hid h.len
  by_cases h0 : n = 0 ∧ v = .slice none 0 0
  · obtain ⟨rfl, rfl⟩ := h0
    have hx : xs = [] := List.eq_nil_of_length_eq_zero (by simpa using hxl.out)
    subst hx
    clear hi0 hz0 hz1 hz2 h h1
    have hq1 := fun (w : World) (A : Option Addr) (n c : Nat) => Lib.run_eql_slice_nil (P := Try.prog) w 61 _ A n c 0 0 Try.underlying61
    go_enter Try.func39, Try.ntmps39
    go_wp2
    go_ret
    exact ⟨⟨_, rfl, RowAt.nil _ _ _ _⟩, Below.refl _ _⟩
  · obtain ⟨g, cap, rfl⟩ : ∃ g cap, v = .slice (some ⟨g, 0, none⟩) n cap := by
      rcases h.1.2 with ⟨e, e0⟩ | ⟨g, cap, cur, e, _⟩
      · exact absurd ⟨e0, e⟩ h0
      · exact ⟨g, cap, e⟩
    clear hi0 hz0 hz1 hz2 h h1 h0
    have hq1 := fun (w : World) (A : Option Addr) (n c : Nat) => Lib.run_eql_slice_nil (P := Try.prog) w 61 _ A n c 0 0 Try.underlying61
    go_enter Try.func39, Try.ntmps39
    go_wp2_with (at_builtin; refine wpList_push_of rfl (.tmp 5) (.tmp 6) 61 rfl 75 i0 _ 65 80 Try.underlying61 HI.out.1 HI.out.2.1 HI.out.2.2.1 HI.out.2.2.2 (by simp [Value.cells]) (by decide) (.slice (some ⟨w.heap.size, 0, none⟩) 0 0) 0 [] rfl (fun k => w.heap.size ≤ k) (rowAt_new w _ 65 0 #[] (by simp [maxLen]) (by simp) _ (Nat.le_refl _)) ⟨g, 0, none⟩ n cap xs rfl hxl.out (fun j u hj => keepA (HH.out.news j u hj) _) H1.out (by simp only [maxLen]; omega) (by omega) ?_; intro v' w' hrow hgr _; have HR := Lib.hid hrow; have HG := Lib.hid hgr; clear hrow hgr)
    go_ret
    have hbel : Below w.heap.size w w' := ((Below.refl _ _).alloc (Nat.le_refl _) _).grown HG.out (by simp) (fun k hk => by injection hk with hk; show w.heap.size ≤ k; rw [← hk]; exact Nat.le_refl _)
    refine ⟨⟨_, rfl, ?_⟩, hbel⟩
    have := HR.out
    rw [Nat.zero_add, List.nil_append] at this
    exact this.owner fun k _ hk => by rcases hk with hk | hk; exact hk; simp at hk; omega

set_option maxRecDepth 100000 in
theorem cloneN_any {w : World} {Own : Nat → Prop} {v : Value} {n : Nat} {xs : List Value} (h : RowAt w Own 3 1 v n xs) (hn : n ≤ 1000000) (h1 : ∀ u ∈ xs, u.oneCell' = true) :
    Calls Try.prog 40 #[v] w fun e w' => (∃ v', e = .returned v' ∧ RowAt w' (fun k => w.heap.size ≤ k) 3 1 v' n xs) ∧ Below w.heap.size w w' := by
  obtain ⟨i0, hi0, hz0, hz1, hz2⟩ := info_parts infoInt
  have HI := Lib.hid (And.intro hi0 (And.intro hz0 (And.intro hz1 hz2)))
  have HH := Lib.hid h
  have H1 := Lib.hid h1
  have hxl := Lib.hid h.len
  by_cases h0 : n = 0 ∧ v = .slice none 0 0
  · obtain ⟨rfl, rfl⟩ := h0
    have hx : xs = [] := List.eq_nil_of_length_eq_zero (by simpa using hxl.out)
    subst hx
    clear hi0 hz0 hz1 hz2 h h1
    have hq1 := fun (w : World) (A : Option Addr) (n c : Nat) => Lib.run_eql_slice_nil (P := Try.prog) w 22 _ A n c 0 0 Try.underlying22
    go_enter Try.func40, Try.ntmps40
    go_wp2
    go_ret
    exact ⟨⟨_, rfl, RowAt.nil _ _ _ _⟩, Below.refl _ _⟩
  · obtain ⟨g, cap, rfl⟩ : ∃ g cap, v = .slice (some ⟨g, 0, none⟩) n cap := by
      rcases h.1.2 with ⟨e, e0⟩ | ⟨g, cap, cur, e, _⟩
      · exact absurd ⟨e0, e⟩ h0
      · exact ⟨g, cap, e⟩
    clear hi0 hz0 hz1 hz2 h h1 h0
    have hq1 := fun (w : World) (A : Option Addr) (n c : Nat) => Lib.run_eql_slice_nil (P := Try.prog) w 22 _ A n c 0 0 Try.underlying22
    go_enter Try.func40, Try.ntmps40
    go_wp2_with (at_builtin; refine wpList_push_of rfl (.tmp 5) (.tmp 6) 22 rfl 3 i0 _ 1 8 Try.underlying22 HI.out.1 HI.out.2.1 HI.out.2.2.1 HI.out.2.2.2 (by simp [Value.cells]) (by decide) (.slice (some ⟨w.heap.size, 0, none⟩) 0 0) 0 [] rfl (fun k => w.heap.size ≤ k) (rowAt_new w _ 1 0 #[] (by simp [maxLen]) (by simp) _ (Nat.le_refl _)) ⟨g, 0, none⟩ n cap xs rfl hxl.out (fun j u hj => keepA (HH.out.news j u hj) _) H1.out (by simp only [maxLen]; omega) (by omega) ?_; intro v' w' hrow hgr _; have HR := Lib.hid hrow; have HG := Lib.hid hgr; clear hrow hgr)
    go_ret
    have hbel : Below w.heap.size w w' := ((Below.refl _ _).alloc (Nat.le_refl _) _).grown HG.out (by simp) (fun k hk => by injection hk with hk; show w.heap.size ≤ k; rw [← hk]; exact Nat.le_refl _)
    refine ⟨⟨_, rfl, ?_⟩, hbel⟩
    have := HR.out
    rw [Nat.zero_add, List.nil_append] at this
    exact this.owner fun k _ hk => by rcases hk with hk | hk; exact hk; simp at hk; omega

set_option maxRecDepth 100000 in
theorem cloneB_any {w : World} {Own : Nat → Prop} {v : Value} {n : Nat} {xs : List Value} (h : RowAt w Own 73 64 v n xs) (hn : n ≤ 1000000) (h1 : ∀ u ∈ xs, u.oneCell' = true) :
    Calls Try.prog 49 #[v] w fun e w' => (∃ v', e = .returned v' ∧ RowAt w' (fun k => w.heap.size ≤ k) 73 64 v' n xs) ∧ Below w.heap.size w w' := by
  obtain ⟨i0, hi0, hz0, hz1, hz2⟩ := info_parts info73
  have HI := Lib.hid (And.intro hi0 (And.intro hz0 (And.intro hz1 hz2)))
  have HH := Lib.hid h
  have H1 := Lib.hid h1
  have hxl := Lib.hid h.len
  by_cases h0 : n = 0 ∧ v = .slice none 0 0
  · obtain ⟨rfl, rfl⟩ := h0
    have hx : xs = [] := List.eq_nil_of_length_eq_zero (by simpa using hxl.out)
    subst hx
    clear hi0 hz0 hz1 hz2 h h1
    have hq1 := fun (w : World) (A : Option Addr) (n c : Nat) => Lib.run_eql_slice_nil (P := Try.prog) w 64 _ A n c 0 0 Try.underlying64
    go_enter Try.func49, Try.ntmps49
    go_wp2
    go_ret
    exact ⟨⟨_, rfl, RowAt.nil _ _ _ _⟩, Below.refl _ _⟩
  · obtain ⟨g, cap, rfl⟩ : ∃ g cap, v = .slice (some ⟨g, 0, none⟩) n cap := by
      rcases h.1.2 with ⟨e, e0⟩ | ⟨g, cap, cur, e, _⟩
      · exact absurd ⟨e0, e⟩ h0
      · exact ⟨g, cap, e⟩
    clear hi0 hz0 hz1 hz2 h h1 h0
    have hq1 := fun (w : World) (A : Option Addr) (n c : Nat) => Lib.run_eql_slice_nil (P := Try.prog) w 64 _ A n c 0 0 Try.underlying64
    go_enter Try.func49, Try.ntmps49
    go_wp2_with (at_builtin; refine wpList_push_of rfl (.tmp 5) (.tmp 6) 64 rfl 73 i0 _ 64 64 Try.underlying64 HI.out.1 HI.out.2.1 HI.out.2.2.1 HI.out.2.2.2 (by simp [Value.cells]) (by decide) (.slice (some ⟨w.heap.size, 0, none⟩) 0 0) 0 [] rfl (fun k => w.heap.size ≤ k) (rowAt_new w _ 64 0 #[] (by simp [maxLen]) (by simp) _ (Nat.le_refl _)) ⟨g, 0, none⟩ n cap xs rfl hxl.out (fun j u hj => keepA (HH.out.news j u hj) _) H1.out (by simp only [maxLen]; omega) (by omega) ?_; intro v' w' hrow hgr _; have HR := Lib.hid hrow; have HG := Lib.hid hgr; clear hrow hgr)
    go_ret
    have hbel : Below w.heap.size w w' := ((Below.refl _ _).alloc (Nat.le_refl _) _).grown HG.out (by simp) (fun k hk => by injection hk with hk; show w.heap.size ≤ k; rw [← hk]; exact Nat.le_refl _)
    refine ⟨⟨_, rfl, ?_⟩, hbel⟩
    have := HR.out
    rw [Nat.zero_add, List.nil_append] at this
    exact this.owner fun k _ hk => by rcases hk with hk | hk; exact hk; simp at hk; omega
end Go.Proofs.Ytocmjbfbjiinhaa
