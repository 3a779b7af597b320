/- Rows of Blocks of one's own (append, elements); contract: light. -/
import Derived.Test.YtamnpblijdgdaaaNz
namespace Go.Proofs.Ytamnpblijdgdaaa
open Go.ChangeShapes Go.WideShapes Go.ChangeAt Go.RowKit
set_option linter.unusedVariables false
set_option maxRecDepth 100000
def bksL : List Bk → List Value
  | [] => []
  | x :: l => blkL x.k x.bs ++ bksL l
theorem bksL_append : ∀ (l m : List Bk), bksL (l ++ m) = bksL l ++ bksL m
  | [], _ => rfl
  | x :: l, m => by show blkL x.k x.bs ++ bksL (l ++ m) = _; rw [bksL_append l m, ← List.append_assoc]; rfl
theorem bksL_at : ∀ {l : List Bk}, BksOk l → ∀ {i : Nat} {x : Bk}, l[i]? = some x → ∀ {j : Nat} {v : Value}, (blkL x.k x.bs)[j]? = some v → (bksL l)[i * 57 + j]? = some v
  | [], _, i, x, h, _, _, _ => by cases h
  | y :: l, hl, 0, x, h, j, v, hj => by
    injection h with h; subst h
    show (blkL y.k y.bs ++ bksL l)[0 * 57 + j]? = some v
    rw [Nat.zero_mul, Nat.zero_add, List.getElem?_append_left (List.getElem?_eq_some_iff.1 hj).1]; exact hj
  | y :: l, hl, i + 1, x, h, j, v, hj => by
    show (blkL y.k y.bs ++ bksL l)[(i + 1) * 57 + j]? = some v
    have hlen : (blkL y.k y.bs).length = 57 := blkL_len (hl y (by simp)).len
    rw [List.getElem?_append_right (by omega), hlen, show (i + 1) * 57 + j - 57 = i * 57 + j by omega]
    exact bksL_at (l := l) (fun z hz => hl z (by simp [hz])) (show l[i]? = some x from h) hj
theorem blkL_one (k : Int) (bs : List Int) : ∀ v ∈ blkL k bs, v.oneCell' = true := by
  have h := blkA_one k bs
  rw [Array.all_eq_true_iff_forall_mem] at h
  exact fun v hv => h v (by unfold blkA; simpa using hv)
theorem bksL_one : ∀ (l : List Bk), ∀ v ∈ bksL l, v.oneCell' = true
  | [], v, h => by cases h
  | x :: l, v, h => by
    rcases List.mem_append.1 (show v ∈ blkL x.k x.bs ++ bksL l from h) with h | h
    · exact blkL_one _ _ v h
    · exact bksL_one l v h
def OwnK (w : World) (base : Nat) (v : Value) (l : List Bk) : Prop := w.ownsRow base 46 57 v l.length (bksL l)
theorem OwnK.nil (w : World) (base : Nat) : OwnK w base (.slice none 0 0) [] := World.ownsRow_nil _ _ _ _
theorem OwnK.keep {w w' : World} {base : Nat} {v : Value} {l : List Bk} (h : OwnK w base v l) (hb : Below w.heap.size w w') : OwnK w' base v l := ownB h hb
/-- A row of Blocks behind a slice. -/
def Bks (w : World) (A : Option Addr) (l : List Bk) : Prop := ∀ i x, l[i]? = some x → ∃ g, A = some ⟨g, 0, none⟩ ∧ w.rangeAt g (i * 57) (blkL x.k x.bs)
theorem OwnK.bks {w : World} {base : Nat} {v : Value} {l : List Bk} (h : OwnK w base v l) (hok : BksOk l) : ∃ A d, v = .slice A l.length d ∧ l.length ≤ d ∧ d ≤ 9223372036854775807 ∧ Bks w A l := by
  rcases h.2 with ⟨rfl, h0⟩ | ⟨g, cap, cur, rfl, hb, hg, hn', hm, hs, ht⟩
  · refine ⟨none, 0, by rw [h0], by omega, by omega, fun i x hi => ?_⟩
    rw [List.length_eq_zero_iff.1 h0] at hi; cases hi
  · refine ⟨some ⟨g, 0, none⟩, cap, rfl, hn', by simp only [maxLen] at hm; omega, fun i x hi => ⟨g, rfl, fun j v hj => ?_⟩⟩
    have h5 := h.cells (g := g) rfl _ _ (bksL_at hok hi hj)
    rw [add_at] at h5; exact h5
theorem Bks.keep {w w' : World} {A : Option Addr} {l : List Bk} (h : Bks w A l) (hb : Below w.heap.size w w') : Bks w' A l := fun i x hi =>
  let ⟨g, e, h1⟩ := h i x hi; ⟨g, e, fun j v hj => keepC hb (h1 j v hj)⟩
section
variable {ops : Array Oper} {rest : List Oper} {o : Oper} {a : Act} {w : World} {Q : Exit → Act → World → Prop}
theorem wpList_oneB (hgd : o.guard = none) (x : Operand) (ho : o.op = .buildSlice 43 1 #[(0, x)]) (k : Int) (bs : List Int) (h56 : bs.length = 56) (hx : a.eval x = .agg (blkA k bs))
    (h : wpList Try.prog ops Q rest (a.put o.dst (.slice (some ⟨w.heap.size, 0, none⟩) 1 1)) (w.alloc (.cells (blkA k bs) 46))) : wpList Try.prog ops Q (o :: rest) a w := by
  obtain ⟨i0, hi, hz0, hz1, hz2⟩ := info_parts info24
  exact wpList_plain hgd fun _ hK => wp_one_of 43 x ho 46 i0 _ 57 Try.underlying43 hi hz0 hz1 (by decide) (by decide) _ hx (by show (blkA k bs).size = 57; exact blkA_size h56) (hK _ _ h)
theorem wpList_app_bk (hgd : o.guard = none) (s x : Operand)
    (ho : o.op = .call { callee := .builtin .append, args := #[s, x], argTypes := #[43, 43] })
    (base : Nat) (v : Value) (l : List Bk) (hs : a.eval s = v) (hown : OwnK w base v l) (g : Nat) (y : Bk) (h56 : y.bs.length = 56) (hx : a.eval x = .slice (some ⟨g, 0, none⟩) 1 1) (hg : w.heap[g]? = some (.cells (blkA y.k y.bs) 46 (0, 0))) (h63 : l.length ≤ 1000) (hbase : base ≤ w.heap.size)
    (h : ∀ v' w', OwnK w' base v' (l ++ [y]) → Below base w w' → wpList Try.prog ops Q rest (a.put o.dst v') w') : wpList Try.prog ops Q (o :: rest) a w := by
  obtain ⟨i0, hi, hz0, hz1, hz2⟩ := info_parts info24
  refine wpList_append_own_at (P := Try.prog) w hgd s x 43 ho base 46 i0 _ 57 64 Try.underlying43 hi hz0 hz1 hz2 (by show (blkA 0 zBs).size = 57; exact blkA_size zBs_len) (by decide) v l.length _ hs hown ⟨g, 0, none⟩ 1 1 (blkL y.k y.bs) hx (by rw [blkL_len h56]) (fun j u hj => ?_) (blkL_one _ _) (by simp only [maxLen]; omega) (by omega) hbase ?_
  · have := blk_cell hg j
    rw [add_at, this]
    unfold blkA; simpa using hj
  intro v' w' h2 h3 _ _
  refine h v' w' ?_ (grown_below h3 hbase (fun k hk => (hown.lt k hk).1))
  unfold OwnK
  rw [bksL_append, List.length_append]
  simpa [bksL] using h2
end
def Light (l : List Wd) : Prop := l.length ≤ 30 ∧ ∀ d ∈ l, d.l.length ≤ 14 ∧ d.ks.length ≤ 40
def lightK (l : List Wd) : Bool := l.all (fun d => decide (d.l.length ≤ 14) && decide (d.ks.length ≤ 40)) && decide (l.length ≤ 30)
theorem lightK_iff (l : List Wd) : lightK l = true ↔ Light l := by
  unfold lightK Light
  simp only [Bool.and_eq_true, List.all_eq_true, decide_eq_true_eq]
  exact ⟨fun h => ⟨h.2, h.1⟩, fun h => ⟨h.2, h.1⟩⟩
theorem light_any (A : Option Addr) (l : List Wd) (n d : Nat) (w : World) (hn : l.length = n) (hd : n ≤ d) (hm : d ≤ 9223372036854775807) (hok : WdsOk l) (hy : Wds w A l) :
    Calls Try.prog 11 #[.slice A n d] w fun e w' => e = .returned (.bool (lightK l)) ∧ w = w' := by
  have HN := Lib.hid hn
  have HO := Lib.hid hok
  have HY := Lib.hid hy
  clear hn hok hy
  go_enter Try.func11, Try.ntmps11
  go_wp2_with fail
  go_loop [3] (fun i => ∃ k : Nat, i = .int .i64 k ∧ k ≤ n ∧ Hid ((l.take k).all (fun d => decide (d.l.length ≤ 14) && decide (d.ks.length ≤ 40)) = true)) (fun i => n - (intOf i).toNat)
  case atStart => exact ⟨0, rfl, by omega, by unfold Hid; rfl⟩
  case round =>
    obtain ⟨k, rfl, hk, HK⟩ := hrel
    by_cases hlt : k < n
    · obtain ⟨x, hx⟩ : ∃ x, l[k]? = some x := ⟨_, List.getElem?_eq_getElem (by rw [HN.out]; exact hlt)⟩
      obtain ⟨ad, rfl, hw⟩ := HY.out k x hx
      have c1 := hw.c1
      have c2 := hw.c2
      have HT : Hid ((l.take (k + 1)).all (fun d => decide (d.l.length ≤ 14) && decide (d.ks.length ≤ 40)) = (decide (x.l.length ≤ 14) && decide (x.ks.length ≤ 40))) := by
        unfold Hid; rw [take_snoc' hx, List.all_append, HK.out]; simp
      have HX : Hid (x ∈ l) := List.mem_of_getElem? hx
      have hki : (k : Int) < n := by omega
      clear hx hw
      obtain ⟨ln, hln⟩ : ∃ ln, x.l.length = ln := ⟨_, rfl⟩
      obtain ⟨kn, hkn⟩ : ∃ kn, x.ks.length = kn := ⟨_, rfl⟩
      rw [hln] at c1
      rw [hkn] at c2
      rw [hln, hkn] at HT
      have HLK := Lib.hid (And.intro hln hkn)
      clear hln hkn
      by_cases h1 : ln ≤ 14
      · have h1i : (ln : Int) ≤ 14 := by omega
        by_cases h2 : kn ≤ 40
        · have h2i : (kn : Int) ≤ 40 := by omega
          have HT2 : Hid ((l.take (k + 1)).all (fun d => decide (d.l.length ≤ 14) && decide (d.ks.length ≤ 40)) = true) := by unfold Hid; rw [HT.out, decide_eq_true h1, decide_eq_true h2]; rfl
          go_wp2
          go_round
          case rel => exact ⟨k + 1, by go_num, by omega, HT2.out⟩
          case measure => simp [intOf]; omega
        · have h2i : (40 : Int) < kn := by omega
          have HF : Hid (lightK l = false) := by
            unfold Hid
            rw [Bool.eq_false_iff]
            intro h
            have := (((lightK_iff l).1 h).2 x HX.out).2
            rw [HLK.out.2] at this; omega
          go_wp2
          go_ret
          exact ⟨by rw [HF.out]; rfl, rfl⟩
      · have h1i : (14 : Int) < ln := by omega
        have HF : Hid (lightK l = false) := by
          unfold Hid
          rw [Bool.eq_false_iff]
          intro h
          have := (((lightK_iff l).1 h).2 x HX.out).1
          rw [HLK.out.1] at this; omega
        go_wp2
        go_ret
        exact ⟨by rw [HF.out]; rfl, rfl⟩
    · obtain rfl : k = n := by omega
      have hki : ¬ (k : Int) < k := by omega
      have HF : Hid (lightK l = decide ((k : Int) ≤ 30)) := by
        have h1 := HK.out
        rw [List.take_of_length_le (by rw [HN.out]; exact Nat.le_refl _)] at h1
        unfold Hid lightK
        rw [h1, HN.out, Bool.true_and, Bool.eq_iff_iff, decide_eq_true_eq, decide_eq_true_eq]
        omega
      go_wp2
      go_ret
      exact ⟨by rw [HF.out]; rfl, rfl⟩
end Go.Proofs.Ytamnpblijdgdaaa
