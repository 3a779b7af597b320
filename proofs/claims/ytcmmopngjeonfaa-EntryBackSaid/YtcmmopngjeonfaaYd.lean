/- Names as bytes; contracts: entry.putNumber, takeNumber. -/
import Derived.Test.YtcmmopngjeonfaaYc
namespace Go.Proofs.Ytcmmopngjeonfaa
open Go.ChangeShapes Go.WideShapes Go.ChangeAt Go.RowKit
set_option linter.unusedVariables false
/-- A name's bytes. -/
def headE (n : En) : List Int := (idL n.l n.a n.g ++ be n.p.toNat 2) ++ be n.n.toNat 4
def frontE (n : En) : List Int := headE n ++ [(n.t.length : Int)]
def bytesE (n : En) : List Int := frontE n ++ n.t
theorem idL_length (l a g : Int) : (idL l a g).length = 7 := by unfold idL numB; rw [List.length_append, be_length]; rfl
theorem headE_length (n : En) : (headE n).length = 13 := by unfold headE; rw [List.length_append, List.length_append, idL_length, be_length, be_length]
theorem frontE_length (n : En) : (frontE n).length = 14 := by unfold frontE; rw [List.length_append, headE_length]; rfl
theorem bytesE_length (n : En) : (bytesE n).length = 14 + n.t.length := by unfold bytesE; rw [List.length_append, frontE_length]
theorem MayE.tl {n : En} (h : MayE n) : n.t.length ≤ 14 := h.1.2.1.1.2
theorem idL_allB {l a g : Int} (h : MayI l a g) : AllB (idL l a g) := by rw [← putL_yes h]; exact putL_ok _ _ _
theorem bytesE_allB {n : En} (h : MayE n) (ht : AllB n.t) : AllB (bytesE n) := by
  have htl := h.tl
  refine AllB.append (AllB.append (AllB.append (AllB.append (idL_allB h.1.1) (be_allB _ _)) (be_allB _ _)) fun x hx => ?_) ht
  rw [List.mem_singleton] at hx; subst hx; omega
def putEK (n : En) : Int := if MayE n then 6 else 0
def putEB (n : En) : List Int := if MayE n then pad (bytesE n) else zBs
theorem putEB_len {n : En} : (putEB n).length = 56 := by
  unfold putEB; split
  · rename_i h; have := h.tl; exact pad_len (by rw [bytesE_length]; omega)
  · exact zBs_len
theorem putEB_allB {n : En} (ht : AllB n.t) : AllB (putEB n) := by
  unfold putEB; split
  · rename_i h; exact pad_allB (bytesE_allB h ht)
  · exact zBs_allB
/-- Bytes put into a body. -/
def insB (bs ys : List Int) (o : Nat) : List Int := bs.take o ++ ys ++ bs.drop (o + ys.length)
theorem pad_ins {ys zs : List Int} (h : ys.length + zs.length ≤ 56) : insB (pad ys) zs ys.length = pad (ys ++ zs) := by
  unfold insB pad
  rw [List.take_append_of_le_length (Nat.le_refl _), List.take_length, List.drop_append, List.drop_of_length_le (by omega), List.nil_append, Nat.add_sub_cancel_left, List.drop_replicate, List.append_assoc, List.append_assoc, List.length_append, show 56 - ys.length - zs.length = 56 - (ys.length + zs.length) by omega]
theorem ins_len {bs ys : List Int} {o : Nat} (h : bs.length = 56) (ho : o + ys.length ≤ 56) : (insB bs ys o).length = 56 := by
  unfold insB; simp only [List.length_append, List.length_take, List.length_drop]; omega
theorem ins_step (bs ys : List Int) (o s j : Nat) (y : Int) (hs : ys.length = s) (hj : 0 < j) (hjs : j ≤ s) (ho : o + s ≤ bs.length) (hy : ys[j - 1]? = some y) :
    (bs.take (o + j) ++ ys.drop j ++ bs.drop (o + s)).set (o + (j - 1)) y = bs.take (o + (j - 1)) ++ ys.drop (j - 1) ++ bs.drop (o + s) := by
  have e1 : ys.drop (j - 1) = y :: ys.drop j := by
    rw [List.drop_eq_getElem_cons (by omega : j - 1 < ys.length), show j - 1 + 1 = j by omega]
    congr 1
    rw [List.getElem?_eq_getElem (by omega)] at hy
    injection hy
  have e2 : (bs.take (o + j)).set (o + (j - 1)) y = bs.take (o + (j - 1)) ++ [y] := by
    rw [show o + j = o + (j - 1) + 1 by omega, List.take_add_one, List.getElem?_eq_getElem (show o + (j - 1) < bs.length by omega), List.set_append_right _ _ (by rw [List.length_take]; omega), List.length_take, Nat.min_eq_left (by omega), Nat.sub_self]
    rfl
  have hl : (bs.take (o + j)).length = o + j := by rw [List.length_take]; omega
  rw [List.append_assoc, List.set_append_left _ _ (by omega), e2, e1]
  simp only [List.append_assoc, List.cons_append, List.nil_append]
theorem cell_body {W : World} {g : Nat} {k : Int} {bs : List Int} (hg : W.heap[g]? = some (.cells (blkA k bs) 29 (0, 0))) (hb : bs.length = 56) {i : Nat} (hi : i < 56) : ∃ u, W.cell? ⟨g, 1 + i, none⟩ = some u :=
  ⟨_, (blk_cell hg _).trans (Array.getElem?_eq_getElem (by rw [blkA_size hb]; omega))⟩
set_option maxRecDepth 100000 in
set_option maxHeartbeats 3200000 in
theorem entake_num (A : Option Addr) (xs : List Int) (n d : Nat) (w : World) (hn : xs.length = n) (hl : n ≤ 4) (hB : AllB xs) (hy : Byt w A xs) :
    Calls Try.prog 22 #[.slice A n d] w fun e w' => e = .returned (.int .u32 (numV xs)) ∧ w = w' := by
  have HY := Lib.hid hy
  have HN := Lib.hid hn
  have HB := Lib.hid hB
  clear hn hB hy
  go_enter Try.func22, Try.ntmps22
  go_wp2
  go_loop [3, 8] (fun z i => ∃ k : Nat, k ≤ n ∧ i = .int .i64 k ∧ z = .int .u32 (numV (xs.take k) : Nat)) (fun _ i => n - (intOf i).toNat)
  case atStart => exact ⟨0, Nat.zero_le _, rfl, rfl⟩
  case round =>
    obtain ⟨k, hk, rfl, rfl⟩ := hrel
    by_cases hlt : k < n
    · obtain ⟨x, hx⟩ : ∃ x, xs[k]? = some x := ⟨_, List.getElem?_eq_getElem (by rw [HN.out]; exact hlt)⟩
      obtain ⟨ad, rfl, hc0⟩ := HY.out k x hx
      have hxb := HB.out x (List.mem_of_getElem? hx)
      obtain ⟨y, rfl⟩ : ∃ y : Nat, x = (y : Int) := ⟨x.toNat, by omega⟩
      have hyb : y < 256 := by omega
      have HS : Hid (numV (xs.take (k + 1)) = numV (xs.take k) * 256 + y) := by
        unfold Hid; rw [take_snoc' hx, numV_snoc, Int.toNat_natCast]
      have hv := numV_lt k (xs.take k) (by rw [List.length_take, HN.out]; omega) (fun z hz => HB.out z (List.mem_of_mem_take hz))
      have hv2 : 256 ^ k ≤ 256 ^ 3 := Nat.pow_le_pow_right (by omega) (by omega)
      have hv3 : numV (xs.take k) < 16777216 := by omega
      clear hx hxb hv hv2
      generalize numV (xs.take k) = a at *
      have wy : IntKind.u32.wrap (y : Int) = y := IntWalk.u32_in _ (by omega)
      have wa : IntKind.u32.wrap ((a : Int) * 256) = (a : Int) * 256 := IntWalk.u32_in _ (by omega)
      have wb := or_byte a y hv3 hyb
      go_wp2
      go_round
      case rel => exact ⟨k + 1, by omega, by go_num, by rw [HS.out]; go_num⟩
      case measure => simp [intOf]; omega
    · have e : xs.take k = xs := List.take_of_length_le (by rw [HN.out]; omega)
      rw [e]
      go_wp2
      go_ret
      exact ⟨rfl, rfl⟩
set_option maxRecDepth 100000 in
set_option maxHeartbeats 3200000 in
theorem putnum_any (g : Nat) (k : Int) (bs : List Int) (o s c : Nat) (x : Nat) (w : World) (hg : w.heap[g]? = some (.cells (blkA k bs) 29 (0, 0))) (hb : bs.length = 56) (ho : o + s ≤ 56) (hs : s ≤ 4) (hc : s ≤ c) (hx : x < 4294967296) :
    Calls Try.prog 17 #[.slice (some ⟨g, 1 + o, none⟩) s c, .int .u32 x] w fun e w' => e = .returned (.tuple #[]) ∧ w'.heap[g]? = some (.cells (blkA k (insB bs (be x s) o)) 29 (0, 0)) ∧ w.grownBy w' (some g) := by
  have HG := Lib.hid hg
  have HB := Lib.hid hb
  clear hg hb
  go_enter Try.func17, Try.ntmps17
  go_wp2
  refine wp_scope1e (fun a' w' => ∃ j : Nat, j ≤ s ∧ Hid (w'.heap[g]? = some (.cells (blkA k (bs.take (o + j) ++ (be x s).drop j ++ bs.drop (o + s))) 29 (0, 0))) ∧ Hid (w.grownBy w' (some g)) ∧ ∃ (xv : Nat) (u2 u3 u5 u6 u7 u8 u9 u10 u11 u12 u13 u14 u15 u16 u17 : Value), Hid (xv = x / 256 ^ (s - j)) ∧ a' = { tmps := #[.slice (some ⟨g, 1 + o, none⟩) s c, .int .u32 xv, u2, u3, .int .i64 j, u5, u6, u7, u8, u9, u10, u11, u12, u13, u14, u15, u16, u17], defers := [] })
    (fun a' _ => (intOf (a'.tmps.getD 4 undef)).toNat) rfl ?_ ?_
  · intro HF
    go_wp2
    go_step3
    rename_i hK
    refine hK _ _ (HF _ _ ⟨s, Nat.le_refl _, ?_, World.grownBy.refl _ _, x, _, _, _, _, _, _, _, _, _, _, _, _, _, _, _, (by unfold Hid; rw [Nat.sub_self]; simp), rfl⟩)
    unfold Hid
    rw [List.drop_of_length_le (Nat.le_of_eq (be_length _ _)), List.append_nil, List.take_append_drop]; exact HG.out
  · rintro a' W ⟨j, hj, HGW, HBW, xv, u2, u3, u5, u6, u7, u8, u9, u10, u11, u12, u13, u14, u15, u16, u17, HX, rfl⟩
    by_cases hj0 : j = 0
    · subst hj0
      have HGF : Hid (W.heap[g]? = some (.cells (blkA k (insB bs (be x s) o)) 29 (0, 0))) := by
        have h := HGW.out
        unfold Hid insB
        rwa [be_length]
      clear HGW
      go_wp2_with fail
      try simp only [Exit.jump]
      refine bodyPost_ret (results_none rfl _ _ _) rfl ?_
      exact ⟨rfl, HGF.out, HBW.out⟩
    · have hl : (bs.take (o + j) ++ (be x s).drop j ++ bs.drop (o + s)).length = 56 := by
        simp only [List.length_append, List.length_take, List.length_drop, be_length, HB.out]; omega
      have hat := be_at x s (j - 1) (by omega)
      rw [show s - 1 - (j - 1) = s - j by omega] at hat
      have HST := Lib.hid (ins_step bs (be x s) o s j _ (be_length _ _) (by omega) hj (by rw [HB.out]; exact ho) hat)
      rw [← HX.out] at HST
      obtain ⟨u, cu⟩ := cell_body HGW.out hl (i := o + (j - 1)) (by omega)
      have fu : W.frozen? ⟨g, 1 + (o + (j - 1)), none⟩ = false := blk_free HGW.out _
      have HX2 : Hid (xv / 256 = x / 256 ^ (s - (j - 1))) := by
        unfold Hid; rw [HX.out, show s - (j - 1) = s - j + 1 by omega, Nat.pow_succ, Nat.div_div_eq_div_mul]
      have hxv : xv < 4294967296 := by
        rw [HX.out]; exact Nat.lt_of_le_of_lt (Nat.div_le_self _ _) hx
      have HHP : Hid ((W.setCell ⟨g, 1 + (o + (j - 1)), none⟩ (.int .u8 ((xv % 256 : Nat) : Int))).heap[g]? = some (.cells (blkA k (bs.take (o + (j - 1)) ++ (be x s).drop (j - 1) ++ bs.drop (o + s))) 29 (0, 0))) := by
        unfold Hid; rw [heap_setCell_same' HGW.out, blkA_setB, HST.out]
      have HGR : Hid (w.grownBy (W.setCell ⟨g, 1 + (o + (j - 1)), none⟩ (.int .u8 ((xv % 256 : Nat) : Int))) (some g)) :=
        grownBy_trans HBW.out ⟨rfl, rfl, rfl, by simp [World.setCell], fun i _ hi => heap_setCell_other _ _ _ _ (fun e => hi (by simp [e]))⟩
      obtain ⟨m, rfl⟩ : ∃ m, j = m + 1 := ⟨j - 1, by omega⟩
      simp only [Nat.add_sub_cancel] at HHP HGR HX2 cu fu
      rw [← Nat.add_assoc] at HHP HGR cu fu
      have wx : IntKind.u8.wrap (xv : Int) = ((xv % 256 : Nat) : Int) := by
        show (xv : Int) % 256 = _; omega
      have hm2 : m < s := by omega
      clear hl hat HST HGW HBW HX hj0 hx
      generalize ((xv % 256 : Nat) : Int) = yv at *
      go_wp2_with fail
      go_step3
      refine ⟨rfl, ⟨m, by omega, HHP, HGR, xv / 256, _, _, _, _, _, _, _, _, _, _, _, _, _, _, _, HX2, by go_num⟩, ?_⟩
      simp [intOf]
end Go.Proofs.Ytcmmopngjeonfaa
