/- Contract: cache.Dirty. -/
import Derived.Test.YtbcnjilhibkcnaaKp
import Derived.Test.YtbcnjilhibkcnaaKs
namespace Go.Proofs.Ytbcnjilhibkcnaa
open Go.ChangeShapes Go.WideShapes Go.ChangeAt Go.RowKit
open Fx
set_option linter.unusedVariables false
theorem to56 : ∀ {D : List Wr}, Len56 D → ∃ L : List W56, L.map (·.1) = D ∧ rowL encW L = wrsL D
  | [], _ => ⟨[], rfl, rfl⟩
  | x :: D, h => by
    obtain ⟨L, h1, h2⟩ := to56 (D := D) (fun y hy => h y (by simp [hy]))
    exact ⟨⟨x, h x (by simp)⟩ :: L, by simp [h1], by show wrL x ++ rowL encW L = wrL x ++ wrsL D; rw [h2]⟩
theorem of56 : ∀ (L : List W56), rowL encW L = wrsL (L.map (·.1))
  | [] => rfl
  | x :: L => by show wrL x.1 ++ rowL encW L = wrL x.1 ++ wrsL (L.map (·.1)); rw [of56 L]
theorem sort_wr {W : World} {base : Nat} {v : Value} {D : List Wr} (h : OwnW W base v D) (h56 : Len56 D) (h51 : D.length ≤ 1000) :
    Calls Try.prog 28 #[v, .func (.func 29) #[] #[]] W fun e w' => e = .returned (.tuple #[]) ∧ ∃ D' : List Wr, D'.Perm D ∧ D'.Pairwise (fun x y => x.t ≤ y.t) ∧ OwnW w' base v D' ∧ W.grownBy w' v.ownBlock := by
  rcases h.2 with ⟨rfl, h0⟩ | ⟨b, cap, cur, rfl, _⟩
  · rw [List.length_eq_zero_iff.1 h0]
    refine (sort_none none 0 _ W).mono ?_
    rintro e w' ⟨he, rfl⟩
    exact ⟨he, [], List.Perm.refl _, List.Pairwise.nil, OwnW.nil _ _, World.grownBy.refl _ _⟩
  · obtain ⟨L, h1, h2⟩ := to56 h56
    have hl : L.length = D.length := by rw [← h1]; simp
    have ho := h
    unfold OwnW at ho
    rw [← h2] at ho
    refine (sort_own L hl ho h51).mono ?_
    rintro e w' ⟨he, L', hp, hs, hown, hg⟩
    refine ⟨he, L'.map (·.1), by rw [← h1]; exact hp.map _, by rw [List.pairwise_map]; exact hs, ?_, hg⟩
    unfold OwnW
    rw [List.length_map, hp.length_eq, hl, ← of56]
    exact hown
/-- The writes of the frames that are dirty. -/
def dirtyF (l : List Fr) : List Wr := (l.filter (·.d)).map (·.w)
theorem dirtyF_snoc {l : List Fr} {k : Nat} {f : Fr} (h : l[k]? = some f) : dirtyF (l.take (k + 1)) = if f.d then dirtyF (l.take k) ++ [f.w] else dirtyF (l.take k) := by
  unfold dirtyF
  rw [take_snoc' h, List.filter_append, List.map_append]
  cases hd : f.d <;> simp [hd]
theorem dirtyF_len (l : List Fr) : (dirtyF l).length ≤ l.length := by unfold dirtyF; rw [List.length_map]; exact List.length_filter_le _ _
theorem dirtyF_56 {l : List Fr} (h : FrsOk l) : Len56 (dirtyF l) := fun x hx => by
  unfold dirtyF at hx
  obtain ⟨f, hf, rfl⟩ := List.mem_map.1 hx
  exact (h f (List.mem_filter.1 hf).1).len
theorem dirty_nil (w : World) : Calls Try.prog 18 #[.pointer none] w fun e w' => e = .returned (.slice none 0 0) ∧ w = w' := by
  go_enter Try.func18, Try.ntmps18
  go_wp2
  go_ret
  exact ⟨rfl, rfl⟩
set_option maxRecDepth 100000 in
set_option maxHeartbeats 1600000 in
theorem dirty_any {w : World} {g m : Nat} {l : List Fr} {R : Nat → Prop} (h : CAt w g m l R) :
    Calls Try.prog 18 #[.pointer (some ⟨g, 0, none⟩)] w fun e w' => ∃ v D, e = .returned v ∧ D.Perm (dirtyF l) ∧ D.Pairwise (fun x y => x.t ≤ y.t) ∧ OwnW w' w.heap.size v D ∧ Below w.heap.size w w' := by
  obtain ⟨v, h⟩ := h
  obtain ⟨A, cap, rfl, hc1, hc2, hA⟩ := h.val
  have c0 := h.c0
  have h51 := h.len
  have H := Lib.hid h
  have HA := Lib.hid hA
  have zF56 : zF.w.bs.length = 56 := zW_len
  clear h hA
  generalize hn : l.length = n at *
  have HN := Lib.hid hn
  clear hn
  go_enter Try.func18, Try.ntmps18
  go_wp2
  go_loopw [3, 13] (fun v i wr => ∃ k : Nat, i = .int .i64 k ∧ k ≤ n ∧ OwnW wr w.heap.size v (dirtyF (l.take k)) ∧ Below w.heap.size w wr) (fun _ i _ => n - (intOf i).toNat)
  case atStart => exact ⟨0, rfl, Nat.zero_le _, OwnW.nil _ _, Below.refl _ _⟩
  case round =>
    obtain ⟨v, rfl⟩ : ∃ v, v = u3 := ⟨u3, rfl⟩
    obtain ⟨k, rfl, hk, hown, hbel⟩ := hrel
    obtain ⟨W, rfl⟩ : ∃ W, W = wr := ⟨wr, rfl⟩
    have HOW := Lib.hid hown
    have HBL := Lib.hid hbel
    clear hown hbel c0
    by_cases hlt : k < n
    · have hlt2 : (k : Int) < n := by omega
      obtain ⟨f, hf⟩ : ∃ f, l[k]? = some f := ⟨_, List.getElem?_eq_getElem (by rw [HN.out]; exact hlt)⟩
      obtain ⟨b, rfl⟩ := HA.out k f hf
      have hf56 := (H.out.ok.at hf).len
      have HF := Lib.hid hf
      have HRG := Lib.hid ((H.out.below HBL.out).rangeF hf)
      have HNF := Lib.hid (heap_alloc_new W (.cells (frA zF) 60))
      clear hf
      go_upto_region 7 with (first
        | (refine wpList_allocF rfl rfl ?_)
        | (refine wpList_loadF rfl (.tmp 15) rfl b (k * 59) rfl f hf56 HRG.out ?_)
        | (refine wpList_storeF rfl (.tmp 5) (.tmp 16) rfl W.heap.size rfl f zF rfl hf56 zF56 HNF.out ?_))
      have HN3 := Lib.hid (new_fr W f)
      have hb3 := new_fr_below W f
      have HOW3 := Lib.hid (show OwnW _ w.heap.size v (dirtyF (l.take k)) from ownB HOW.out hb3)
      have HBL3 := Lib.hid (keepB HBL.out hb3)
      clear hb3 HNF HRG HOW HBL
      generalize (W.alloc (.cells (frA zF) 60)).setRow W.heap.size (frA f) = W3 at *
      generalize W.heap.size = g5 at *
      go_wp2_with (first
        | (refine wpList_loadF rfl (.tmp 5) rfl g5 0 rfl f hf56 (range_blk HN3.out) ?_))
      refine (isdirty_any f hf56 W3).mono ?_
      rintro e W4 ⟨rfl, hb4⟩
      have HN4 := Lib.hid (kb hb4 HN3.out)
      have HOW4 := Lib.hid (show OwnW _ w.heap.size v (dirtyF (l.take k)) from ownB HOW3.out hb4)
      have HBL4 := Lib.hid (keepB HBL3.out hb4)
      clear hb4 HN3 HOW3 HBL3
      have HLE : Hid ((dirtyF (l.take k)).length ≤ 1000) := by
        have := dirtyF_len (l.take k)
        rw [List.length_take] at this
        unfold Hid; omega
      have HBS : Hid (w.heap.size ≤ W4.heap.size) := HBL4.out.size
      have hsn := dirtyF_snoc HF.out
      rcases Bool.eq_false_or_eq_true f.d with hd | hd
      · rw [hd, if_pos rfl] at hsn
        have HSN := Lib.hid hsn
        rw [hd]
        clear hsn hd
        go_wp2_with (first
          | (refine wpList_loadWm rfl (.tmp 20) rfl g5 0 rfl f.w hf56 (range_wr hf56 (range_blk HN4.out)) ?_)
          | (refine wpList_oneW rfl (.tmp 21) rfl f.w hf56 rfl ?_)
          | (at_builtin
             refine wpList_app_wr rfl (.tmp 19) (.tmp 22) rfl w.heap.size v (dirtyF (l.take k)) rfl (show OwnW _ _ _ _ from HOW4.out.alloc _) W4.heap.size f.w hf56 rfl (wrAt_blk (heap_alloc_new W4 _)) HLE.out (by rw [size_alloc']; have := HBS.out; omega) ?_
             intro v2 w2 h2 hb2
             have H2 := Lib.hid h2
             have HB2 : Hid (Below w.heap.size w w2) := HBL4.out.trans (((Below.refl _ _).alloc HBS.out _).trans hb2)
             clear h2 hb2))
        go_roundw
        case rel => exact ⟨k + 1, by go_num, by omega, by rw [HSN.out]; exact H2.out, HB2.out⟩
        case measure => simp [intOf]; omega
      · rw [hd] at hsn
        have HSN : Hid (dirtyF (l.take (k + 1)) = dirtyF (l.take k)) := by unfold Hid; rw [hsn]; simp
        rw [hd]
        clear hsn hd
        go_wp2_with fail
        go_roundw
        case rel => exact ⟨k + 1, by go_num, by omega, by rw [HSN.out]; exact HOW4.out, HBL4.out⟩
        case measure => simp [intOf]; omega
    · obtain rfl : k = n := by omega
      have hnn : ¬ (k : Int) < k := by omega
      have hw := HOW.out
      rw [List.take_of_length_le (by rw [HN.out]; omega)] at hw
      have HW := Lib.hid hw
      have HLE : Hid ((dirtyF l).length ≤ 1000) := by have := dirtyF_len l; rw [HN.out] at this; unfold Hid; omega
      clear hw HOW
      go_wp2_with fail
      refine (sort_wr HW.out (dirtyF_56 H.out.ok) HLE.out).mono ?_
      rintro e W2 ⟨rfl, D, hp, hs, hown2, hg2⟩
      go_wp2_with fail
      go_ret
      exact ⟨_, D, rfl, hp, hs, hown2, HBL.out.grown hg2 HBL.out.size (fun k hk => (HW.out.lt k hk).1)⟩
end Go.Proofs.Ytbcnjilhibkcnaa
