/- A cache's frames as numbers; how it lies in memory; contracts: cache.Len, cache.New, cache.isDirty. -/
import Derived.Test.YtbcnjilhibkcnaaKa
namespace Go.Proofs.Ytbcnjilhibkcnaa
open Go.ChangeShapes Go.WideShapes Go.ChangeAt Go.RowKit
open Fx
set_option linter.unusedVariables false
/-- A frame: the write that it has, how many were used behind it, whether it is dirty. -/
structure Fr where
  (w : Wr) (a : Nat) (d : Bool)
def dv (d : Bool) : Nat := if d then 1 else 0
def cx (a : Nat) (d : Bool) : Value := .complex .f64 (fb a) (fb (dv d))
theorem cx_zero : cx 0 false = .complex .f64 0 0 := by unfold cx dv; simp [fb_zero]
def frL (f : Fr) : List Value := wrL f.w ++ [cx f.a f.d]
def frA (f : Fr) : Array Value := (frL f).toArray
theorem frL_length {f : Fr} (h : f.w.bs.length = 56) : (frL f).length = 59 := by unfold frL; simp [wrL_length h]
theorem frA_size {f : Fr} (h : f.w.bs.length = 56) : (frA f).size = 59 := by unfold frA; simp [frL_length h]
theorem frL_one (f : Fr) : ∀ v ∈ frL f, v.oneCell' = true := by
  intro v hv
  unfold frL at hv
  rcases List.mem_append.1 hv with h | h
  · exact wrL_one f.w v h
  · simp at h; subst h; rfl
theorem frA_one (f : Fr) : (frA f).all (·.oneCell') = true := Array.all_eq_true_iff_forall_mem.2 fun v hv => frL_one f v (by unfold frA at hv; simpa using hv)
theorem frL_t (f : Fr) : (frL f)[0]? = some (.int .i64 f.w.t) := rfl
theorem frL_s {f : Fr} (h : f.w.bs.length = 56) : (frL f)[58]? = some (cx f.a f.d) := by
  unfold frL; rw [List.getElem?_append_right (by rw [wrL_length h]; omega), wrL_length h]; rfl
theorem frL_w {f : Fr} (h : f.w.bs.length = 56) : ((frL f).drop 0).take 58 = wrL f.w := by
  unfold frL; rw [List.drop_zero, List.take_append_of_le_length (by rw [wrL_length h]; omega), List.take_of_length_le (by rw [wrL_length h]; omega)]
theorem blkL_length' {k : Int} {bs : List Int} (h : bs.length = 56) : (blkL k bs).length = 57 := by unfold blkL; simp [Bs_length, h]
theorem frL_b {f : Fr} (h : f.w.bs.length = 56) : ((frL f).drop 1).take 57 = blkL f.w.k f.w.bs := by
  unfold frL wrL
  show (blkL f.w.k f.w.bs ++ [cx f.a f.d]).take 57 = _
  rw [List.take_append_of_le_length (by rw [blkL_length' h]; omega), List.take_of_length_le (by rw [blkL_length' h]; omega)]
theorem frL_set {f : Fr} (h : f.w.bs.length = 56) (a : Nat) (d : Bool) : frL ⟨f.w, a, d⟩ = (frL f).set 58 (cx a d) := by
  unfold frL; rw [List.set_append_right _ _ (by rw [wrL_length h]; omega), wrL_length h]; rfl
theorem frL_put {f : Fr} (h : f.w.bs.length = 56) (k : Int) {bs : List Int} (hb : bs.length = 56) : frL ⟨⟨f.w.t, k, bs⟩, f.a, f.d⟩ = splice (frL f) 1 (blkL k bs) := by
  unfold frL wrL splice
  rw [blkL_length' hb]
  show _ = _ ++ (_ ++ (blkL f.w.k f.w.bs ++ [cx f.a f.d]).drop 57)
  rw [List.drop_append_of_le_length (by rw [blkL_length' h]; omega), List.drop_of_length_le (by rw [blkL_length' h]; omega)]
  rfl
def zF : Fr := ⟨zW, 0, false⟩
theorem infoF : (Try.prog.info? 60).map (fun i => (i.zero, i.size, i.bytes)) = some (some (.agg (wrL zW ++ [Value.complex .f64 0 0]).toArray), 59, 88) := by kernel_rfl
theorem sizeF : (Try.prog.info? 60).map (·.size) = some 59 := by kernel_rfl
theorem zF_cells : (wrL zW ++ [Value.complex .f64 0 0]).toArray = frA zF := by unfold frA frL zF; rw [cx_zero]
def FrsOk (l : List Fr) : Prop := ∀ f ∈ l, f.w.Ok
theorem FrsOk.fits {l : List Fr} (h : FrsOk l) : Fits frL 59 l := fun f hf => frL_length (h f hf).len
theorem FrsOk.at {l : List Fr} (h : FrsOk l) {k : Nat} {f : Fr} (hk : l[k]? = some f) : f.w.Ok := h f (List.mem_of_getElem? hk)
/-- A cache at g with frames l, m besides the one that is not counted, its frames behind the slice v; all in blocks of R. -/
structure CV (w : World) (g m : Nat) (l : List Fr) (R : Nat → Prop) (v : Value) : Prop where
  blk : w.heap[g]? = some (.cells #[v, .int .i64 m] 54 (0, 0))
  own : w.ownsRow 0 60 59 v l.length (rowL frL l)
  Rg : R g
  Rv : ∀ k, v.ownBlock = some k → R k ∧ k ≠ g
  ok : FrsOk l
  few : m ≤ 49
  len : l.length ≤ 51
def CAt (w : World) (g m : Nat) (l : List Fr) (R : Nat → Prop) : Prop := ∃ v, CV w g m l R v
theorem CV.mono {w : World} {g m : Nat} {l : List Fr} {R R' : Nat → Prop} {v : Value} (h : CV w g m l R v) (hR : ∀ k, R k → R' k) : CV w g m l R' v :=
  ⟨h.blk, h.own, hR _ h.Rg, fun k hk => ⟨hR _ (h.Rv k hk).1, (h.Rv k hk).2⟩, h.ok, h.few, h.len⟩
theorem CAt.mono {w : World} {g m : Nat} {l : List Fr} {R R' : Nat → Prop} (h : CAt w g m l R) (hR : ∀ k, R k → R' k) : CAt w g m l R' := let ⟨v, h⟩ := h; ⟨v, h.mono hR⟩
theorem CV.kept {w w' : World} {g m : Nat} {l : List Fr} {R R' : Nat → Prop} {v : Value} (h : CV w g m l R v) (hs : Stp R' w w') (hR : ∀ k, R k → ¬ R' k) : CV w' g m l R v :=
  ⟨hs.heap h.blk (hR g h.Rg), hs.own h.own fun k hk => hR k (h.Rv k hk).1, h.Rg, h.Rv, h.ok, h.few, h.len⟩
theorem CAt.kept {w w' : World} {g m : Nat} {l : List Fr} {R R' : Nat → Prop} (h : CAt w g m l R) (hs : Stp R' w w') (hR : ∀ k, R k → ¬ R' k) : CAt w' g m l R := let ⟨v, h⟩ := h; ⟨v, h.kept hs hR⟩
theorem Stp.none {w w' : World} (h : Below w.heap.size w w') : Stp (fun _ => False) w w' := ⟨h.os, h.tape, h.output, h.size, fun k hk _ => h.block k hk⟩
theorem CV.below {w w' : World} {g m : Nat} {l : List Fr} {R : Nat → Prop} {v : Value} (h : CV w g m l R v) (hb : Below w.heap.size w w') : CV w' g m l R v := h.kept (Stp.none hb) fun _ _ h => h
theorem CAt.below {w w' : World} {g m : Nat} {l : List Fr} {R : Nat → Prop} (h : CAt w g m l R) (hb : Below w.heap.size w w') : CAt w' g m l R := let ⟨v, h⟩ := h; ⟨v, h.below hb⟩
theorem CV.drew {w : World} {g m : Nat} {l : List Fr} {R : Nat → Prop} {v : Value} (h : CV w g m l R v) (n : Nat) : CV (w.drewN n) g m l R v := ⟨h.blk, h.own, h.Rg, h.Rv, h.ok, h.few, h.len⟩
theorem CV.val {w : World} {g m : Nat} {l : List Fr} {R : Nat → Prop} {v : Value} (h : CV w g m l R v) : ∃ A cap, v = .slice A l.length cap ∧ l.length ≤ cap ∧ cap ≤ 9223372036854775807 ∧ (∀ (k : Nat) (f : Fr), l[k]? = some f → ∃ b : Nat, A = some ⟨b, 0, none⟩) := by
  rcases h.own.2 with ⟨rfl, h0⟩ | ⟨b, cap, cur, rfl, _, _, hn, hm, _⟩
  · refine ⟨none, 0, by rw [h0], by omega, by omega, fun k f hk => ?_⟩
    rw [List.length_eq_zero_iff.1 h0] at hk; cases hk
  · exact ⟨_, cap, rfl, hn, by simp only [maxLen] at hm; omega, fun _ _ _ => ⟨b, rfl⟩⟩
theorem CV.c0 {w : World} {g m : Nat} {l : List Fr} {R : Nat → Prop} {v : Value} (h : CV w g m l R v) : w.cell? ⟨g, 0, none⟩ = some v := by rw [blk_cell h.blk]; rfl
theorem CV.c1 {w : World} {g m : Nat} {l : List Fr} {R : Nat → Prop} {v : Value} (h : CV w g m l R v) : w.cell? ⟨g, 1, none⟩ = some (.int .i64 m) := by rw [blk_cell h.blk]; rfl
theorem CV.free {w : World} {g m : Nat} {l : List Fr} {R : Nat → Prop} {v : Value} (h : CV w g m l R v) (k : Nat) : w.frozen? ⟨g, k, none⟩ = false := blk_free h.blk k
section
variable {w : World} {g m b n cap : Nat} {l : List Fr} {R : Nat → Prop}
theorem CV.own' (h : CV w g m l R (.slice (some ⟨b, 0, none⟩) n cap)) : n = l.length := by
  rcases h.own.2 with ⟨e, _⟩ | ⟨_, _, _, e, _⟩
  · cases e
  · injection e
theorem CV.cell (h : CV w g m l R (.slice (some ⟨b, 0, none⟩) n cap)) {k : Nat} {f : Fr} (hk : l[k]? = some f) {j : Nat} {u : Value} (hj : (frL f)[j]? = some u) : w.cell? ⟨b, k * 59 + j, none⟩ = some u := by
  have e := h.own'; subst e
  exact own_cell h.own (rowL_at h.ok.fits hk hj)
theorem CV.cell0 (h : CV w g m l R (.slice (some ⟨b, 0, none⟩) n cap)) {k : Nat} {f : Fr} (hk : l[k]? = some f) : w.cell? ⟨b, k * 59, none⟩ = some (.int .i64 f.w.t) := h.cell hk (frL_t f)
theorem CV.cell58 (h : CV w g m l R (.slice (some ⟨b, 0, none⟩) n cap)) {k : Nat} {f : Fr} (hk : l[k]? = some f) : w.cell? ⟨b, k * 59 + 58, none⟩ = some (cx f.a f.d) := h.cell hk (frL_s (h.ok.at hk).len)
theorem CV.ffree (h : CV w g m l R (.slice (some ⟨b, 0, none⟩) n cap)) (k : Nat) : w.frozen? ⟨b, k, none⟩ = false := by
  have e := h.own'; subst e
  exact own_free h.own k
theorem CV.rangeF (h : CV w g m l R (.slice (some ⟨b, 0, none⟩) n cap)) {k : Nat} {f : Fr} (hk : l[k]? = some f) : w.rangeAt b (k * 59) (frL f) := fun j u hj => h.cell hk hj
theorem CV.rangeB (h : CV w g m l R (.slice (some ⟨b, 0, none⟩) n cap)) {k : Nat} {f : Fr} (hk : l[k]? = some f) : w.rangeAt b (k * 59 + 1) (blkL f.w.k f.w.bs) := by
  have e := h.own'; subst e
  have := own_range (o := 1) (c := 57) h.ok.fits h.own hk
  rwa [frL_b (h.ok.at hk).len] at this
theorem CV.thereB (h : CV w g m l R (.slice (some ⟨b, 0, none⟩) n cap)) {k : Nat} (hk : k < l.length) : w.there b (k * 59 + 1) 57 := by
  have e := h.own'; subst e
  exact own_there h.own (by omega)
theorem CV.lt (h : CV w g m l R (.slice (some ⟨b, 0, none⟩) n cap)) : b < w.heap.size := (h.own.lt b rfl).2
theorem CV.glt {v : Value} (h : CV w g m l R v) : g < w.heap.size := room_lt h.blk
theorem CV.setS (h : CV w g m l R (.slice (some ⟨b, 0, none⟩) n cap)) {k : Nat} {f : Fr} (hk : l[k]? = some f) (a : Nat) (d : Bool) : CV (w.setCell ⟨b, k * 59 + 58, none⟩ (cx a d)) g m (l.set k ⟨f.w, a, d⟩) R (.slice (some ⟨b, 0, none⟩) n cap) := by
  have e := h.own'; subst e
  have hlt := (List.getElem?_eq_some_iff.1 hk).1
  have hb := (h.Rv b rfl).2
  refine ⟨?_, ?_, h.Rg, h.Rv, ?_, h.few, by rw [List.length_set]; exact h.len⟩
  · rw [heap_setCell_other _ _ _ _ (fun e => hb e.symm)]; exact h.blk
  · have := own_set_in h.own (k := k * 59 + 58) (by omega) (cx a d)
    rw [rowL_set h.ok.fits hk (by omega) (frL_set (h.ok.at hk).len a d)] at this
    rw [List.length_set]; exact this
  · intro x hx
    rcases List.mem_or_eq_of_mem_set hx with h1 | rfl
    · exact h.ok x h1
    · exact (h.ok.at hk : f.w.Ok)
theorem CV.setB (h : CV w g m l R (.slice (some ⟨b, 0, none⟩) n cap)) {k : Nat} {f : Fr} (hk : l[k]? = some f) {c : Int} {bs : List Int} (hc : i64 c) (h56 : bs.length = 56) (hB : AllB bs) : CV (w.setCells b (k * 59 + 1) (blkL c bs)) g m (l.set k ⟨⟨f.w.t, c, bs⟩, f.a, f.d⟩) R (.slice (some ⟨b, 0, none⟩) n cap) := by
  have e := h.own'; subst e
  have hlt : k < l.length := (List.getElem?_eq_some_iff.1 hk).1
  have hb := (h.Rv b rfl).2
  refine ⟨?_, ?_, h.Rg, h.Rv, ?_, h.few, by rw [List.length_set]; exact h.len⟩
  · rw [heap_setCells_other (fun e => hb e.symm)]; exact h.blk
  · have := own_splice_in h.own (o := k * 59 + 1) (blkL c bs) (by rw [blkL_length' h56]; omega)
    rw [rowL_splice h.ok.fits hk (by rw [blkL_length' h56]; omega) (frL_put (h.ok.at hk).len c h56)] at this
    rw [List.length_set]; exact this
  · intro x hx
    rcases List.mem_or_eq_of_mem_set hx with h1 | rfl
    · exact h.ok x h1
    · exact ⟨(h.ok.at hk).t, hc, h56, hB⟩
end
theorem len_any {w : World} {g m : Nat} {l : List Fr} {R : Nat → Prop} (h : CAt w g m l R) :
    Calls Try.prog 20 #[.pointer (some ⟨g, 0, none⟩)] w fun e w' => e = .returned (.int .i64 (l.length : Nat)) ∧ w = w' := by
  obtain ⟨v, h⟩ := h
  obtain ⟨A, cap, rfl, _, _, _⟩ := h.val
  have c0 := h.c0
  clear h
  generalize l.length = n at *
  go_enter Try.func20, Try.ntmps20
  go_wp2
  go_ret
  exact ⟨rfl, rfl⟩
theorem len_nil (w : World) :
    Calls Try.prog 20 #[.pointer none] w fun e w' => e = .returned (.int .i64 0) ∧ w = w' := by
  go_enter Try.func20, Try.ntmps20
  go_wp2
  go_ret
  exact ⟨rfl, rfl⟩
/-- As many frames as New gives, but one. -/
def moreOf (n : Int) : Nat := (min (max n 1) 50 - 1).toNat
theorem moreOf_le (n : Int) : moreOf n ≤ 49 := by unfold moreOf; omega
theorem new_any (n : Int) (hn : i64 n) (w : World) :
    Calls Try.prog 8 #[.int .i64 n] w fun e w' => e = .returned (.pointer (some ⟨w.heap.size, 0, none⟩)) ∧ CAt w' w.heap.size (moreOf n) [] (fun k => w.heap.size ≤ k ∧ k < w'.heap.size) ∧ Below w.heap.size w w' := by
  have key : CAt (w.alloc (.cells #[.slice none 0 0, .int .i64 (moreOf n : Nat)] 54)) w.heap.size (moreOf n) [] (fun k => w.heap.size ≤ k ∧ k < (w.alloc (.cells #[.slice none 0 0, .int .i64 (moreOf n : Nat)] 54)).heap.size) :=
    ⟨.slice none 0 0, ⟨heap_alloc_new w _, World.ownsRow_nil _ _ _ _, ⟨Nat.le_refl _, by rw [size_alloc']; omega⟩, fun k hk => (by cases hk), fun x hx => (by cases hx), moreOf_le n, Nat.zero_le _⟩⟩
  have KEY := Lib.hid key
  have hb : Below w.heap.size w (w.alloc (.cells #[.slice none 0 0, .int .i64 (moreOf n : Nat)] 54)) := (Below.refl _ _).alloc (Nat.le_refl _) _
  have HB := Lib.hid hb
  clear key hb
  have hm : ((moreOf n : Nat) : Int) = min (max n 1) 50 - 1 := by unfold moreOf; omega
  by_cases h1 : n < 1
  · have e : ((moreOf n : Nat) : Int) = 0 := by omega
    rw [e] at KEY HB
    clear hm e
    have d1 : decide (n < 1) = true := by simp [h1]
    go_enter Try.func8, Try.ntmps8
    go_wp2
    go_ret
    exact ⟨rfl, KEY.out, HB.out⟩
  · by_cases h2 : 50 < n
    · have e : ((moreOf n : Nat) : Int) = 49 := by omega
      rw [e] at KEY HB
      clear hm e
      have d1 : decide (n < 1) = false := by simp; omega
      have d2 : decide (50 < n) = true := by simp [h2]
      have d3 : decide (1 < n) = true := by simp; omega
      have d4 : decide (n < 50) = false := by simp; omega
      go_enter Try.func8, Try.ntmps8
      go_wp2
      go_ret
      exact ⟨rfl, KEY.out, HB.out⟩
    · have e : ((moreOf n : Nat) : Int) = n - 1 := by omega
      rw [e] at KEY HB
      clear hm e
      have wr := IntWalk.i64_in (n - 1) (by omega)
      have d1 : decide (n < 1) = false := by simp; omega
      have d2 : decide (50 < n) = false := by simp; omega
      go_enter Try.func8, Try.ntmps8
      go_wp2
      all_goals
        go_ret
        exact ⟨rfl, KEY.out, HB.out⟩
theorem isdirty_any (f : Fr) (h : f.w.bs.length = 56) (w : World) :
    Calls Try.prog 27 #[.agg (frA f)] w fun e w' => e = .returned (.bool f.d) ∧ Below w.heap.size w w' := by
  have hc : (w.alloc (.cells (frA f) 60)).cell? ⟨w.heap.size, 58, none⟩ = some (cx f.a f.d) := by
    rw [blk_cell (heap_alloc_new w _)]; unfold frA; simp [frL_s h]
  unfold cx at hc
  have HF : Hid (Below w.heap.size w (w.alloc (.cells (frA f) 60))) := (Below.refl _ _).alloc (Nat.le_refl _) _
  generalize frA f = F at *
  generalize fb f.a = fa at *
  generalize f.d = d at *
  have hq : (FloatKind.f64.format.order (fb (dv d)) 4607182418800017408 == some .eq) = d := by
    rw [← fb_one, order_fb _ _ (by cases d <;> decide) (by decide)]
    cases d <;> rfl
  generalize fb (dv d) = fd at *
  go_enter Try.func27, Try.ntmps27
  go_wp2
  go_ret
  exact ⟨rfl, HF.out⟩
end Go.Proofs.Ytbcnjilhibkcnaa
