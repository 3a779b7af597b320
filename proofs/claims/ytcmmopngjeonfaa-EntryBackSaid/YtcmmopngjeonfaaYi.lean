/- Names come back; a name as an argument, opened; the laws' opening test. -/
import Derived.Test.YtcmmopngjeonfaaYh
namespace Go.Proofs.Ytcmmopngjeonfaa
open Go.ChangeShapes Go.WideShapes Go.ChangeAt Go.RowKit
set_option linter.unusedVariables false
theorem seg_skip (xs ys : List Int) (k o m : Nat) (h : xs.length = k) : seg (xs ++ ys) (k + o) m = seg ys o m := by
  subst h
  unfold seg
  rw [List.drop_append, List.drop_of_length_le (by omega), List.nil_append, Nat.add_sub_cancel_left]
theorem seg_head (xs ys : List Int) (k : Nat) (h : xs.length = k) : seg (xs ++ ys) 0 k = xs := by
  subst h
  unfold seg
  rw [List.drop_zero, List.take_left]
theorem idL_back {l a g : Int} (h : MayI l a g) (hg : u32 g) : labX (idL l a g) = l ∧ (plcX (idL l a g) : Int) = a ∧ (genX (idL l a g) : Int) = g := by
  have h1 := itake_put h hg
  rw [putL_yes h] at h1
  have h2 := h1.2
  unfold takeV at h2
  rw [if_pos h1.1] at h2
  unfold idV at h2
  injection h2 with h2
  have h3 := congrArg Array.toList h2
  simp at h3
  exact h3
theorem pad_bytesE (n : En) : pad (bytesE n) = idL n.l n.a n.g ++ (be n.p.toNat 2 ++ (be n.n.toNat 4 ++ ([(n.t.length : Int)] ++ (n.t ++ List.replicate (56 - (bytesE n).length) 0)))) := by
  unfold pad
  generalize List.replicate (56 - (bytesE n).length) (0 : Int) = z
  unfold bytesE frontE headE
  simp only [List.append_assoc]
set_option maxRecDepth 100000 in
theorem rdE_pad {n : En} (h : MayE n) (hn : EnOk n) : rdE (pad (bytesE n)) = n := by
  have hL := pad_bytesE n
  have h7 := idL_length n.l n.a n.g
  have s0 : seg (pad (bytesE n)) 0 7 = idL n.l n.a n.g := by rw [hL]; exact seg_head _ _ 7 h7
  have s7 : seg (pad (bytesE n)) 7 2 = be n.p.toNat 2 := by rw [hL]; exact (seg_skip _ _ 7 0 2 h7).trans (seg_head _ _ 2 (be_length _ _))
  have s9 : seg (pad (bytesE n)) 9 4 = be n.n.toNat 4 := by rw [hL]; exact (seg_skip _ _ 7 2 4 h7).trans ((seg_skip _ _ 2 0 4 (be_length _ _)).trans (seg_head _ _ 4 (be_length _ _)))
  have s13 : seg (pad (bytesE n)) 13 1 = [(n.t.length : Int)] := by rw [hL]; exact (seg_skip _ _ 7 6 1 h7).trans ((seg_skip _ _ 2 4 1 (be_length _ _)).trans ((seg_skip _ _ 4 0 1 (be_length _ _)).trans (seg_head _ _ 1 rfl)))
  have s14 : seg (pad (bytesE n)) 14 n.t.length = n.t := by rw [hL]; exact (seg_skip _ _ 7 7 _ h7).trans ((seg_skip _ _ 2 5 _ (be_length _ _)).trans ((seg_skip _ _ 4 1 _ (be_length _ _)).trans ((seg_skip _ _ 1 0 _ rfl).trans (seg_head _ _ _ rfl))))
  have g13 : (pad (bytesE n)).getD 13 0 = (n.t.length : Int) := by
    have h1 := congrArg (fun l : List Int => l[0]?) s13
    unfold seg at h1
    simp only [List.getElem?_take, if_pos (show (0 : Nat) < 1 by omega), List.getElem?_drop, Nat.add_zero, List.getElem?_cons_zero] at h1
    rw [List.getD, h1]; rfl
  obtain ⟨hl, ha, hg⟩ := idL_back h.1.1 hn.g
  have hp := h.2.1
  have hn1 := h.2.2
  have hn2 := hn.n.2
  have vp : numV (be n.p.toNat 2) = n.p.toNat := numV_be 2 _ (by omega)
  have vn : numV (be n.n.toNat 4) = n.n.toNat := numV_be 4 _ (by omega)
  rw [En.ext_iff']
  unfold rdE
  rw [s0, s7, s9, g13, vp, vn]
  refine ⟨⟨hl, ha, hg⟩, ?_, ?_, ?_⟩
  · show seg (pad (bytesE n)) 14 ((n.t.length : Int)).toNat = n.t
    rw [Int.toNat_natCast]; exact s14
  · show ((n.p.toNat : Nat) : Int) = n.p; omega
  · show ((n.n.toNat : Nat) : Int) = n.n; omega
theorem putEB_may {n : En} (h : MayE n) : putEB n = pad (bytesE n) := by unfold putEB; rw [if_pos h]
theorem putEK_may {n : En} (h : MayE n) : putEK n = 6 := by unfold putEK; rw [if_pos h]
theorem etaken_pad {n : En} (h : MayE n) (hn : EnOk n) : ETaken 6 (pad (bytesE n)) ∧ takeE 6 (pad (bytesE n)) = n := by
  have hr := rdE_pad h hn
  have htl := h.tl
  have g13 : (pad (bytesE n)).getD 13 0 ≤ 14 := by
    have h13 : (pad (bytesE n))[13]? = some (n.t.length : Int) := by
      unfold pad bytesE frontE
      rw [List.append_assoc, List.append_assoc, List.getElem?_append_right (Nat.le_of_eq (headE_length n)), headE_length]
      rfl
    rw [List.getD, h13]
    show (n.t.length : Int) ≤ 14
    omega
  have ht : ETaken 6 (pad (bytesE n)) := ⟨g13, by rw [hr]; exact h, rfl, by rw [hr]⟩
  exact ⟨ht, by unfold takeE; rw [if_pos ht, hr]⟩
theorem etaken_zero (k : Int) : ¬ ETaken k zBs := fun h => by
  have h1 := h.2.1.2.2
  exact absurd h1 (by decide)
section
variable {H : Type} {enc : TypeId × Value → H} {w : World} {base : Nat} {spare : Nat → Bool} {held : Bool}
theorem cellsEn : Try.prog.cellsOf 26 = 6 := by kernel_rfl
theorem open_en {fuel : Nat} {cs : List Value} {x : DataW H × List MemPlace} (h : DataW.trod enc Try.prog w base spare held fuel 26 cs = some x) :
    ∃ n : En, cs = (enA n).toList ∧ EnOk n := by
  have hS : Try.prog.underlying 26 = some (.struct (Try.prog.fieldsOf 26)) := by kernel_rfl
  obtain ⟨ys, m, _, rfl, hl, hys, hel⟩ := DataW.trod_struct hS h
  rw [cellsEn] at hl
  have hf : (Try.prog.fieldsOf 26).toList.map (fun f => (f.type, f.offset)) = [(24, 0), (9, 3), (3, 4), (22, 5)] := by kernel_rfl
  have hsz : (Try.prog.fieldsOf 26).size = 4 := by kernel_rfl
  obtain ⟨f0, f1, f2, f3, hfs⟩ := four_of (show (Try.prog.fieldsOf 26).toList.length = 4 by simpa using hsz)
  rw [hfs] at hf
  simp only [List.map_cons, List.map_nil, List.cons.injEq, Prod.mk.injEq, and_true] at hf
  obtain ⟨⟨t0, o0⟩, ⟨t1, o1⟩, ⟨t2, o2⟩, ⟨t3, o3⟩⟩ := hf
  have h0 := hel 0 f0 (by rw [← Array.getElem?_toList, hfs]; rfl)
  have h1 := hel 1 f1 (by rw [← Array.getElem?_toList, hfs]; rfl)
  have h2 := hel 2 f2 (by rw [← Array.getElem?_toList, hfs]; rfl)
  have h3 := hel 3 f3 (by rw [← Array.getElem?_toList, hfs]; rfl)
  rw [t0, o0] at h0
  rw [t1, o1] at h1
  rw [t2, o2] at h2
  rw [t3, o3] at h3
  rw [hsz] at hys
  obtain ⟨y0, hy0⟩ : ∃ y, ys[0]? = some y := ⟨_, List.getElem?_eq_getElem (by omega)⟩
  obtain ⟨y1, hy1⟩ : ∃ y, ys[1]? = some y := ⟨_, List.getElem?_eq_getElem (by omega)⟩
  obtain ⟨y2, hy2⟩ : ∃ y, ys[2]? = some y := ⟨_, List.getElem?_eq_getElem (by omega)⟩
  obtain ⟨y3, hy3⟩ : ∃ y, ys[3]? = some y := ⟨_, List.getElem?_eq_getElem (by omega)⟩
  rw [hy0] at h0
  rw [hy1] at h1
  rw [hy2] at h2
  rw [hy3] at h3
  obtain ⟨l, a, g, e0, kl, ka, kg⟩ := open_id h0
  obtain ⟨st, e1, _, w1⟩ := DataW.trod_string Try.underlying9 h1
  obtain ⟨p, e2, _, w2⟩ := DataW.trod_int Try.underlying3 h2
  obtain ⟨q, e3, _, w3⟩ := DataW.trod_int Try.underlying22 h3
  obtain ⟨t, rfl, ht, hlt⟩ := str_nums st
  rw [show Try.prog.cellsOf (24) = 3 from cellsID] at e0
  rw [show Try.prog.cellsOf (9) = 1 from cellsS] at e1
  rw [show Try.prog.cellsOf (3) = 1 from cells3b] at e2
  rw [show Try.prog.cellsOf (22) = 1 from cellsU] at e3
  have c1 := take_one e1
  have c2 := take_one e2
  have c3 := take_one e3
  refine ⟨⟨l, a, g, t, p, q⟩, ?_, ⟨kl, ka, kg, ht, by rw [hlt]; simp only [maxLen] at w1; omega, wf_i64 w2, by have := bounds_u32 w3; unfold u32; omega⟩⟩
  obtain ⟨v0, v1, v2, v3, v4, v5, rfl⟩ := six_of hl
  simp at c1 c2 c3 e0
  obtain ⟨q0, q1, q2⟩ := e0
  rw [c1, c2, c3, q0, q1, q2]
  rfl
end
end Go.Proofs.Ytcmmopngjeonfaa
