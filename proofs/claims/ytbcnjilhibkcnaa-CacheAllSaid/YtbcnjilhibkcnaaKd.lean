/- Contracts: cache.add, cache.oldest. -/
import Derived.Test.YtbcnjilhibkcnaaKc
import Derived.Test.YtbcnjilhibkcnaaRk
namespace Go.Proofs.Ytbcnjilhibkcnaa
open Go.ChangeShapes Go.WideShapes Go.ChangeAt Go.RowKit
open Fx
set_option linter.unusedVariables false
theorem len_cell {w : World} {g n cap : Nat} {A : Option Addr} (c0 : w.cell? ⟨g, 0, none⟩ = some (.slice A n cap)) :
    Calls Try.prog 20 #[.pointer (some ⟨g, 0, none⟩)] w fun e w' => e = .returned (.int .i64 n) ∧ w = w' := by
  go_enter Try.func20, Try.ntmps20
  go_wp2
  go_ret
  exact ⟨rfl, rfl⟩
theorem heap_alloc_old' (W : World) (o : Obj) {k : Nat} {p : Obj} (h : W.heap[k]? = some p) : (W.alloc o).heap[k]? = some p := by
  rw [Go.heap_alloc_old W o (room_lt h)]; exact h
theorem range_new (W : World) {f : Fr} : (W.alloc (.cells (frA f) 60)).rangeAt W.heap.size 0 (frL f) := fun j v hj => by
  rw [Nat.zero_add, blk_cell (heap_alloc_new W _)]; unfold frA; simpa using hj
section
variable {o : Oper} {a : Act} {w : World} {K : Act → World → Prop} {Q : Exit → Act → World → Prop}
theorem wp_buildW0 (x : Operand) (k : Int) (ho : o.op = .build 36 #[(0, x)]) (hx : a.eval x = .int .i64 k) (h : K (a.put o.dst (.agg (wrA ⟨k, 0, zBs⟩))) w) : o.wp Try.prog a w K Q := by
  unfold Oper.wp execOp
  have hb := run_build (P := Try.prog) w 36 #[(0, .int .i64 k)] _ (builtW0 k)
  simp only [ho, List.map_toArray, List.map_cons, List.map_nil, hx, Sem.run_bind, hb, Result.andThen_ok]
  exact h
theorem builtF0 (t : Int) (p q : Nat) : Try.prog.built 60 [(0, .agg (wrA ⟨t, 0, zBs⟩)), (1, .complex .f64 p q)] = some (wrL ⟨t, 0, zBs⟩ ++ [Value.complex .f64 p q]).toArray := by kernel_rfl
theorem frA_new (t : Int) (n : Nat) : (wrL ⟨t, 0, zBs⟩ ++ [Value.complex .f64 (fb n) 0]).toArray = frA ⟨⟨t, 0, zBs⟩, n, false⟩ := by
  unfold frA frL cx dv; simp [fb_zero]
theorem wp_buildF (x y : Operand) (t : Int) (n : Nat) (ho : o.op = .build 60 #[(0, x), (1, y)]) (hx : a.eval x = .agg (wrA ⟨t, 0, zBs⟩)) (hy : a.eval y = .complex .f64 (fb n) 0) (h : K (a.put o.dst (.agg (frA ⟨⟨t, 0, zBs⟩, n, false⟩))) w) : o.wp Try.prog a w K Q := by
  unfold Oper.wp execOp
  have hb := run_build (P := Try.prog) w 60 #[(0, .agg (wrA ⟨t, 0, zBs⟩)), (1, .complex .f64 (fb n) 0)] _ (builtF0 t (fb n) 0)
  rw [frA_new] at hb
  simp only [ho, List.map_toArray, List.map_cons, List.map_nil, hx, hy, Sem.run_bind, hb, Result.andThen_ok]
  exact h
theorem wp_oneF (x : Operand) (ho : o.op = .buildSlice 52 1 #[(0, x)]) (y : Fr) (h56 : y.w.bs.length = 56) (hx : a.eval x = .agg (frA y))
    (h : K (a.put o.dst (.slice (some ⟨w.heap.size, 0, none⟩) 1 1)) (w.alloc (.cells (frA y) 60))) : o.wp Try.prog a w K Q := by
  obtain ⟨i0, hi, hz0, hz1, hz2⟩ := info_parts infoF
  exact wp_one_of 52 x ho 60 i0 _ 59 Try.underlying52 hi hz0 hz1 (by decide) (by decide) _ hx (by show (frA y).size = 59; exact frA_size h56) h
theorem wp_app_fr (s x : Operand) (ho : o.op = .call { callee := .builtin .append, args := #[s, x], argTypes := #[52, 52] })
    (v : Value) (n : Nat) (xs : List Value) (hs : a.eval s = v) (hown : w.ownsRow 0 60 59 v n xs) (g : Nat) (y : Fr) (h56 : y.w.bs.length = 56) (hx : a.eval x = .slice (some ⟨g, 0, none⟩) 1 1) (hg : w.rangeAt g 0 (frL y)) (h63 : n ≤ 1000)
    (h : ∀ v' w', w'.ownsRow 0 60 59 v' (n + 1) (xs ++ frL y) → w.grownBy w' v.ownBlock → (v'.ownBlock = v.ownBlock ∨ v'.ownBlock = some w.heap.size) → K (a.put o.dst v') w') : o.wp Try.prog a w K Q := by
  obtain ⟨i0, hi, hz0, hz1, hz2⟩ := info_parts infoF
  obtain ⟨v', w', hr, h2, h3, h4, h5⟩ := run_append_own_at (P := Try.prog) w 0 52 o.type 60 i0 _ 59 88 Try.underlying52 hi hz0 hz1 hz2 (by rw [zF_cells]; show (frA zF).size = 59; exact frA_size zW_len) (by decide) v n _ hown ⟨g, 0, none⟩ 1 1 (frL y) (by rw [frL_length h56])
    (fun j u hj => by rw [add_at]; have := hg j u hj; rwa [Nat.zero_add] at this) (frL_one y) (by simp only [maxLen]; omega) (by omega) (Nat.zero_le _)
  unfold Oper.wp execOp
  simp only [ho, resolve, invoke, builtin, Sem.run_bind, Sem.run_pure, Result.andThen_ok, List.map_toArray, List.map_cons, List.map_nil, hs, hx, hr]
  exact h v' w' h2 h3 h5
end
theorem own_is {W : World} {base e sz n : Nat} {v : Value} {xs : List Value} (h : W.ownsRow base e sz v n xs) (hn : 0 < n) : ∃ b c, v = .slice (some ⟨b, 0, none⟩) n c := by
  rcases h.2 with ⟨_, h0⟩ | ⟨g, cap, cur, rfl, _⟩
  · omega
  · exact ⟨_, _, rfl⟩
theorem cv_grow {w W : World} {g m n : Nat} {R : Nat → Prop} {v vo : Value} {l2 : List Fr} (hb : W.heap[g]? = some (.cells #[vo, .int .i64 m] 54 (0, 0))) (ho : W.ownsRow 0 60 59 v n (rowL frL l2)) (hv : ∀ k, v.ownBlock = some k → New R w W k ∧ k ≠ g) (hR : R g) (hok : FrsOk l2) (few : m ≤ 49) (h51 : l2.length ≤ 51 ∧ n = l2.length) :
    CV (W.setCell ⟨g, 0, none⟩ v) g m l2 (New R w (W.setCell ⟨g, 0, none⟩ v)) v := by
  have hs : (W.setCell ⟨g, 0, none⟩ v).heap.size = W.heap.size := by show (W.heap.modify _ _).size = _; simp
  refine ⟨by rw [heap_setCell_same' hb]; rfl, ?_, .inl hR, fun k hk => ⟨?_, (hv k hk).2⟩, hok, few, h51.1⟩
  · rw [← h51.2]; exact ownSet ho v (fun e => (hv g e).2 rfl)
  · have := (hv k hk).1
    unfold New at this ⊢
    rw [hs]; exact this
structure JAdd (w0 : World) (g m n : Nat) (l : List Fr) (R : Nat → Prop) (v : Value) (p : Bool) (w : World) : Prop where
  stp : Stp R w0 w
  blk : w.heap[g]? = some (.cells #[v, .int .i64 m] 54 (0, 0))
  own : p = false → w.ownsRow 0 60 59 v n (rowL frL l)
theorem JAdd.c0 {w0 w : World} {g m n : Nat} {l : List Fr} {R : Nat → Prop} {v : Value} {p : Bool} (h : JAdd w0 g m n l R v p w) : w.cell? ⟨g, 0, none⟩ = some v := by rw [blk_cell h.blk]; rfl
def VAdd (w0 : World) (g n cap : Nat) (t : Int) (l : List Fr) (R : Nat → Prop) (A : Option Addr) (i : Nat) (v : Value) (w : World) : Prop :=
  match i with
  | 0 | 1 | 2 | 3 | 7 | 14 | 15 => v = .pointer (some ⟨g, 0, none⟩)
  | 4 => v = .slice A n cap
  | 5 => v = .int .i64 t
  | 6 => v = .agg (wrA ⟨t, 0, zBs⟩)
  | 8 => v = .int .i64 (n : Int)
  | 9 => v = .float .f64 (fb n)
  | 10 => v = .complex .f64 (fb n) 0
  | 11 => v = .agg (frA ⟨⟨t, 0, zBs⟩, n, false⟩)
  | 12 => ∃ h, v = .slice (some ⟨h, 0, none⟩) 1 1 ∧ w.rangeAt h 0 (frL ⟨⟨t, 0, zBs⟩, n, false⟩) ∧ some h ≠ (Value.slice A n cap).ownBlock
  | 13 => w.ownsRow 0 60 59 v (n + 1) (rowL frL (l ++ [⟨⟨t, 0, zBs⟩, n, false⟩])) ∧ ∀ k, v.ownBlock = some k → New R w0 w k ∧ k ≠ g
  | _ => True
theorem grown_range {w w' : World} (hg : w.grownBy w' none) {b o : Nat} {cs : List Value} (h : w.rangeAt b o cs) : w'.rangeAt b o cs := fun j v hj => hg.cell (h j v hj) (by simp)
def SAdd (A : Option Addr) (n cap : Nat) (i : Nat) (w w' : World) : Prop := w.grownBy w' (if i = 13 then (Value.slice A n cap).ownBlock else none)
theorem SAdd.none {A : Option Addr} {n cap i : Nat} {w w' : World} (h : SAdd A n cap i w w') (hi : i ≠ 13) : w.grownBy w' none := by unfold SAdd at h; rwa [if_neg hi] at h
theorem SAdd.of {A : Option Addr} {n cap i : Nat} {w w' : World} (h : w.grownBy w' Option.none) (hi : i ≠ 13) : SAdd A n cap i w w' := by unfold SAdd; rwa [if_neg hi]
theorem VAdd.on {w0 : World} {g n cap : Nat} {t : Int} {l : List Fr} {R : Nat → Prop} {A : Option Addr} {i j : Nat} {v : Value} {w w' : World} (hij : i ≠ j) (h : VAdd w0 g n cap t l R A j v w) (hs : SAdd A n cap i w w') : VAdd w0 g n cap t l R A j v w' := by
  unfold VAdd at h ⊢
  split at h
  all_goals try exact h
  · obtain ⟨b, e, hr, hb⟩ := h
    refine ⟨b, e, fun j v hj => ?_, hb⟩
    by_cases hi : i = 13
    · subst hi; exact World.grownBy.cell hs (hr j v hj) hb
    · exact (hs.none hi).cell (hr j v hj) (by simp)
  · have hs' := hs.none hij
    exact ⟨h.1.kept hs' (by cases v.ownBlock <;> simp), fun k hk => ⟨(h.2 k hk).1.mono hs'.size, (h.2 k hk).2⟩⟩
set_option maxRecDepth 100000 in
set_option maxHeartbeats 1600000 in
theorem add_any {w : World} {g m : Nat} {l : List Fr} {R : Nat → Prop} {A : Option Addr} {n cap : Nat} (h : CV w g m l R (.slice A n cap)) (t : Int) (ht : i64 t) (hl : l.length ≤ 50) :
    Calls Try.prog 25 #[.pointer (some ⟨g, 0, none⟩), .int .i64 t] w fun e w' => ∃ b cap', e = .returned (.pointer (some ⟨b, n * 59, none⟩)) ∧ CV w' g m (l ++ [⟨⟨t, 0, zBs⟩, n, false⟩]) (New R w w') (.slice (some ⟨b, 0, none⟩) (n + 1) cap') ∧ Stp R w w' := by
  obtain ⟨A', cap', hv, _, hcap, hA⟩ := h.val
  injection hv with e1 e2 e3
  subst e1; subst e3
  have HN : Hid (l.length = n) := e2.symm
  have hn50 : n ≤ 50 := by rw [← HN.out]; exact hl
  have hown := h.own
  rw [HN.out] at hown
  have HRv : Hid (∀ k, (Value.slice A n cap).ownBlock = some k → R k ∧ k ≠ g) := h.Rv
  have HRg : Hid (R g) := h.Rg
  have HOK : Hid (FrsOk (l ++ [⟨⟨t, 0, zBs⟩, n, false⟩])) := fun f hf => by
    rcases List.mem_append.1 hf with h1 | h1
    · exact h.ok f h1
    · simp only [List.mem_singleton] at h1; subst h1
      exact ⟨ht, ⟨show (-2 ^ 63 : Int) ≤ 0 by decide, show (0 : Int) ≤ 2 ^ 63 by decide⟩, zBs_len, zBs_allB⟩
  have HFEW : Hid (m ≤ 49) := h.few
  have H51 : Hid ((l ++ [(⟨⟨t, 0, zBs⟩, n, false⟩ : Fr)]).length ≤ 51 ∧ n + 1 = (l ++ [(⟨⟨t, 0, zBs⟩, n, false⟩ : Fr)]).length) := by
    unfold Hid; simp [HN.out]; omega
  have hJ0 : JAdd w g m n l R (.slice A n cap) false w.drew := ⟨(Stp.refl R w).drew 1, h.blk, fun _ => hown⟩
  have HLT : Hid (∀ k, (Value.slice A n cap).ownBlock = some k → k < w.heap.size) := fun k hk => (hown.lt k hk).2
  clear h hown hA e2 hl
  go_enter Try.func25, Try.ntmps25
  go_upto_region 1 with fail
  refine wp_region_rgk (VAdd w g n cap t l R A) (fun L W => JAdd w g m n l R (.slice A n cap) (L 13) W) (SAdd A n cap) (by kernel_rfl) (by kernel_rfl) (fun i j v' w' w'' hij hind h hg => h.on hij hg) hJ0 ?_
  clear hJ0
  have srefl : ∀ (i : Nat) (W : World), SAdd A n cap i W W := fun i W => World.grownBy.refl W _
  simp only [RAll]
  refine ⟨?_, ?_, ?_, ?_, ?_, ?_, ?_, ?_, ?_, ?_, ?_, ?_, ?_, ?_, ?_, ?_, ?_⟩
  · refine RStepK.of rfl fun T W L hag hL hJ hLs hd => ?_   -- 0: 5 := Op.move (Operand.tmp 0)
    have e0 : T.getD 0 undef = _ := (agree_at hag 0 (by kernel_rfl)).trans rfl
    clear hag hd
    go_simp
    exact ⟨_, rfl, rfl⟩
  · refine RStepK.of rfl fun T W L hag hL hJ hLs hd => ?_   -- 1: 6 := Op.move (Operand.tmp 0)
    have e0 : T.getD 0 undef = _ := (agree_at hag 0 (by kernel_rfl)).trans rfl
    clear hag hd
    go_simp
    exact ⟨_, rfl, rfl⟩
  · refine RStepK.of rfl fun T W L hag hL hJ hLs hd => ?_   -- 2: 7 := Op.nilCheck (Operand.tmp 6)
    have d6 : T.getD 6 undef = _ := hd ⟨1, .data⟩ (by simp) rfl _ rfl
    clear hag hd
    go_simp
    exact ⟨_, rfl, rfl⟩
  · refine RStepK.of rfl fun T W L hag hL hJ hLs hd => ?_   -- 3: 8 := Op.fieldAddr 54 (Operand.tmp 7) 0
    have d7 : T.getD 7 undef = _ := hd ⟨2, .data⟩ (by simp) rfl _ rfl
    clear hag hd
    go_simp
    exact ⟨_, rfl, rfl⟩
  · refine RStepK.of rfl fun T W L hag hL hJ hLs hd => ?_   -- 4: 9 := Op.load 52 (Operand.tmp 8)
    have d8 : T.getD 8 undef = _ := hd ⟨3, .data⟩ (by simp) rfl _ rfl
    have fct0 := hJ.c0
    clear hag hd
    go_simp
    exact ⟨_, rfl, rfl⟩
  · refine RStepK.of rfl fun T W L hag hL hJ hLs hd => ?_   -- 5: 10 := Op.move (Operand.tmp 1)
    have e1 : T.getD 1 undef = _ := (agree_at hag 1 (by kernel_rfl)).trans rfl
    clear hag hd
    go_simp
    exact ⟨_, rfl, rfl⟩
  · refine RStepK.of rfl fun T W L hag hL hJ hLs hd => ?_   -- 6: 11 := Op.build 36 #[(0, Operand.tmp 10)]
    have d10 : T.getD 10 undef = _ := hd ⟨5, .data⟩ (by simp) rfl _ rfl
    clear hag hd
    exact wp_buildW0 (.tmp 10) t rfl d10 ⟨_, rfl, rfl, hJ, srefl _ _⟩
  · refine RStepK.of rfl fun T W L hag hL hJ hLs hd => ?_   -- 7: 12 := Op.move (Operand.tmp 0)
    have e0 : T.getD 0 undef = _ := (agree_at hag 0 (by kernel_rfl)).trans rfl
    clear hag hd
    go_simp
    exact ⟨_, rfl, rfl⟩
  · refine RStepK.of rfl fun T W L hag hL hJ hLs hd => ?_   -- 8: 13 := Op.call { callee := Callee.value (Operand.func 20), args := 
    have d12 : T.getD 12 undef = _ := hd ⟨7, .data⟩ (by simp) rfl _ rfl
    have fct0 := len_cell (hJ.c0)
    clear hag hd
    go_simp
    refine fct0.mono ?_; rintro en w' ⟨rfl, rfl⟩
    exact ⟨_, rfl, rfl, hJ, srefl _ _⟩
  · refine RStepK.of rfl fun T W L hag hL hJ hLs hd => ?_   -- 9: 14 := Op.convert 3 65 (Operand.tmp 13)
    have d13 : T.getD 13 undef = _ := hd ⟨8, .data⟩ (by simp) rfl _ rfl
    clear hag hd
    go_simp
    exact ⟨_, rfl, rfl⟩
  · refine RStepK.of rfl fun T W L hag hL hJ hLs hd => ?_   -- 10: 15 := Op.call { callee := Callee.builtin Builtin.complex, args := 
    have d14 : T.getD 14 undef = _ := hd ⟨9, .data⟩ (by simp) rfl _ rfl
    clear hag hd
    go_simp
    exact ⟨_, rfl, rfl⟩
  · refine RStepK.of rfl fun T W L hag hL hJ hLs hd => ?_   -- 11: 16 := Op.build 60 #[(0, Operand.tmp 11), (1, Operand.tmp 15)]
    have d11 : T.getD 11 undef = _ := hd ⟨6, .data⟩ (by simp) rfl _ rfl
    have d15 : T.getD 15 undef = _ := hd ⟨10, .data⟩ (by simp) rfl _ rfl
    clear hag hd
    exact wp_buildF (.tmp 11) (.tmp 15) t n rfl d11 d15 ⟨_, rfl, rfl, hJ, srefl _ _⟩
  · refine RStepK.of rfl fun T W L hag hL hJ hLs hd => ?_   -- 12: 17 := Op.buildSlice 52 1 #[(0, Operand.tmp 16)]
    have d16 : T.getD 16 undef = _ := hd ⟨11, .data⟩ (by simp) rfl _ rfl
    clear hag hd
    exact wp_oneF (.tmp 16) rfl _ zBs_len d16 ⟨_, rfl, ⟨W.heap.size, rfl, range_new W, fun e => by have h1 := HLT.out _ e.symm; have h2 := hJ.stp.size; omega⟩, ⟨hJ.stp.alloc _, (heap_alloc_old' W _ hJ.blk), fun h => (hJ.own h).alloc _⟩, SAdd.of (World.grownBy_alloc W _ none) (by decide)⟩
  · refine RStepK.of rfl fun T W L hag hL hJ hLs hd => ?_   -- 13: 18 := Op.call { callee := Callee.builtin Builtin.append, args := #
    have d9 : T.getD 9 undef = _ := hd ⟨4, .data⟩ (by simp) rfl _ rfl
    have x17 := hd ⟨12, .data⟩ (by simp) rfl _ rfl
    obtain ⟨h, e17, hr, _⟩ := x17
    have hap := hJ.own hL
    refine wp_app_fr (.tmp 9) (.tmp 17) rfl _ n _ d9 hap h _ zBs_len e17 hr (by omega) ?_
    intro v' w' h1 h2 h3
    refine ⟨_, rfl, ⟨by rw [rowL_append]; simpa [rowL] using h1, fun k hk => ?_⟩, ⟨hJ.stp.grown h2 (fun k hk _ => (HRv.out k hk).1), ?_, fun h => by cases h⟩, h2⟩
    · rcases h3 with h3 | h3
      · rw [h3] at hk
        exact ⟨.inl (HRv.out k hk).1, (HRv.out k hk).2⟩
      · rw [h3] at hk; injection hk with hk; subst hk
        refine ⟨.inr ⟨hJ.stp.size, (h1.lt _ h3).2⟩, ?_⟩
        have := room_lt hJ.blk; omega
    · rw [h2.block g (room_lt hJ.blk) (fun e => (HRv.out g e.symm).2 rfl)]; exact hJ.blk
  · refine RStepK.of rfl fun T W L hag hL hJ hLs hd => ?_   -- 14: 19 := Op.nilCheck (Operand.tmp 5)
    have d5 : T.getD 5 undef = _ := hd ⟨0, .data⟩ (by simp) rfl _ rfl
    clear hag hd
    go_simp
    exact ⟨_, rfl, rfl⟩
  · refine RStepK.of rfl fun T W L hag hL hJ hLs hd => ?_   -- 15: 20 := Op.fieldAddr 54 (Operand.tmp 19) 0
    have d19 : T.getD 19 undef = _ := hd ⟨14, .data⟩ (by simp) rfl _ rfl
    clear hag hd
    go_simp
    exact ⟨_, rfl, rfl⟩
  · refine RLastK.of rfl fun T W L hag hLs hL hJ hd => ?_   -- 16: None := Op.store 52 (Operand.tmp 20) (Operand.tmp 18)
    have d20 : T.getD 20 undef = _ := hd 15 _ (by simp) rfl
    have x18 : W.ownsRow 0 60 59 (T.getD 18 undef) (n + 1) (rowL frL (l ++ [⟨⟨t, 0, zBs⟩, n, false⟩])) ∧ ∀ k, (T.getD 18 undef).ownBlock = some k → New R w W k ∧ k ≠ g := hd 13 _ (by simp) rfl
    obtain ⟨f, hf, hT⟩ := agree_fn hag
    have h20 := (hf 20).trans d20
    have h18 := hf 18
    rw [← h18] at x18
    have HX := Lib.hid x18
    have HJ := Lib.hid hJ
    clear hag hd d20 x18 h18 hJ hf
    rw [hT]
    clear hT
    simp only [List.pop_toArray, List.dropLast_cons_cons, List.dropLast_singleton, List.filterMap_cons, List.filterMap_nil, List.foldl_cons, List.foldl_nil, List.setIfInBounds_toArray, List.set_cons_succ, List.set_cons_zero, h20]
    obtain ⟨vn, hvn⟩ : ∃ vn, vn = f 18 := ⟨_, rfl⟩
    rw [← hvn] at HX ⊢
    clear hvn
    obtain ⟨bn, cn, rfl⟩ := own_is HX.out.1 (by omega)
    have hcv := cv_grow (m := m) (R := R) (w := w) (W := W) HJ.out.blk HX.out.1 HX.out.2 HRg.out HOK.out HFEW.out H51.out
    have hst : Stp R w (W.setCell ⟨g, 0, none⟩ (.slice (some ⟨bn, 0, none⟩) (n + 1) cn)) := HJ.out.stp.setCell (fun _ => HRg.out) _
    have c0 : (W.setCell ⟨g, 0, none⟩ (.slice (some ⟨bn, 0, none⟩) (n + 1) cn)).cell? ⟨g, 0, none⟩ = some (.slice (some ⟨bn, 0, none⟩) (n + 1) cn) := hcv.c0
    have cw := HJ.out.c0
    have cf : W.frozen? ⟨g, 0, none⟩ = false := blk_free HJ.out.blk 0
    have hcn : n + 1 ≤ cn ∧ cn ≤ 9223372036854775807 := by
      obtain ⟨_, _, h1, h2, _⟩ := own_blk HX.out.1
      exact ⟨h1, by simp only [maxLen] at h2; omega⟩
    have HCV := Lib.hid hcv
    have HST := Lib.hid hst
    clear hcv hst
    go_upto_region 2 with fail
    generalize W.setCell ⟨g, 0, none⟩ (.slice (some ⟨bn, 0, none⟩) (n + 1) cn) = W2 at *
    have HLN : Hid (∀ q, Calls Try.prog 20 #[.pointer (some ⟨g, 0, none⟩)] (W2.drewN q) fun e w' => e = .returned (.int .i64 ((n + 1 : Nat) : Int)) ∧ w' = W2.drewN q) := fun q => (len_cell (show (W2.drewN q).cell? _ = _ from c0)).mono fun _ _ h => ⟨h.1, h.2.symm⟩
    have q0 := fun q => (show (W2.drewN q).cell? ⟨g, 0, none⟩ = _ from c0)
    have wn : IntKind.i64.wrap (((n + 1 : Nat) : Int) - 1) = n := by rw [IntWalk.i64_in _ (by omega)]; omega
    have b1 : (0 : Int) ≤ n := by omega
    have b2 : (n : Int) < ((n + 1 : Nat) : Int) := by omega
    have b3 : n < n + 1 := by omega
    go_quiet ((first | (go_at_call 20; with_reducible exact Calls.quiet_of_same (HLN.out _))))
    go_wp2_with fail
    go_ret
    exact ⟨_, _, rfl, HCV.out.drew _, HST.out.drew _⟩
end Go.Proofs.Ytbcnjilhibkcnaa
