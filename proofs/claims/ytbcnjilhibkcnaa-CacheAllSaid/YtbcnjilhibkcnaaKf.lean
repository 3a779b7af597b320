/- Contract: slices.Delete of one frame. -/
import Derived.Test.YtbcnjilhibkcnaaKe
import Derived.StillTailTactics
namespace Go.Proofs.Ytbcnjilhibkcnaa
open Go.ChangeShapes Go.WideShapes Go.ChangeAt Go.RowKit
open Fx
set_option linter.unusedVariables false
theorem own_behind {W : World} {base e sz n g cap : Nat} {xs : List Value} (h : W.ownsRow base e sz (.slice (some ⟨g, 0, none⟩) n cap) n xs) {o : Nat} (cs : List Value) (h1 : n * sz ≤ o) (h2 : o + cs.length ≤ cap * sz) : (W.setCells g o cs).ownsRow base e sz (.slice (some ⟨g, 0, none⟩) n cap) n xs := by
  obtain ⟨cur, hg, hn, hm, hs, ht, hb⟩ := own_blk h
  refine ⟨h.1, Or.inr ⟨g, cap, _, rfl, hb, heap_setCells cs o cur W hg (by omega), hn, hm, by simp only [List.size_toArray]; rw [splice_length _ _ _ (by simp; omega)]; simp [hs], ?_⟩⟩
  rw [List.toList_toArray]
  unfold splice
  rw [List.take_append_of_le_length (by simp; omega), List.take_take, show min (n * sz) o = n * sz by omega, ht]
theorem there_of {W : World} {base e sz n g cap o c : Nat} {xs : List Value} (h : W.ownsRow base e sz (.slice (some ⟨g, 0, none⟩) n cap) n xs) (ho : o + c ≤ cap * sz) : W.there g o c := fun j hj => by
  obtain ⟨cur, hg, hn, hm, hs, ht, hb⟩ := own_blk h
  rw [blk_cell hg, blk_free hg]
  exact ⟨by rw [Array.getElem?_eq_getElem (by omega)]; rfl, rfl⟩
theorem grown_setCells {g : Nat} {w : World} : ∀ {W : World} (cs : List Value) (o : Nat), w.grownBy W (some g) → w.grownBy (W.setCells g o cs) (some g)
  | _, [], _, h => h
  | W, v :: r, o, h => grown_setCells r (o + 1) ⟨h.os, h.tape, h.output, by show _ ≤ (W.heap.modify _ _).size; simp; exact h.size, fun k hk hn => by
      rw [heap_setCell_other _ _ _ _ (fun e => hn (by rw [e]))]; exact h.block k hk hn⟩
theorem zero_cells_one (z : Array Value) : (Builtin.zeroCells z 1).toList = z.toList := by
  unfold Builtin.zeroCells
  apply List.ext_getElem
  · simp
  · intro i h1 h2
    have hi : i < z.size := by simpa using h2
    simp [Nat.mod_eq_of_lt hi, hi]
theorem zero_frame (w : World) : (zeroValue 60).run Try.prog w = .ok (.agg (frA zF)) w := by
  rw [← zF_cells]; exact Try.zeroValue60 w
theorem run_clear_frame (W : World) (ty : TypeId) (b o c : Nat) (ht : W.there b o 59) : (Builtin.clear_ #[52] ty #[.slice (some ⟨b, o, none⟩) 1 c]).run Try.prog W = .ok (.tuple #[]) (W.setCells b o (frL zF)) := by
  have hl : (frL zF).length = 59 := frL_length zW_len
  have hst := run_storeCells_cells (P := Try.prog) b o (frL zF) 0 W (fun j hj => by rw [Nat.add_zero]; exact (ht j (by omega)).1) (fun j hj => by rw [Nat.add_zero]; exact (ht j (by omega)).2) (frL_one zF)
  have hz : (Builtin.zeroCells (Value.agg (frA zF)).cells 1).toList = frL zF := by
    rw [zero_cells_one]; unfold frA; simp [Value.cells]
  simp only [Nat.add_zero] at hst
  simp [-Try.zeroValue60, Builtin.clear_, run_underlying Try.underlying52, zero_frame, hz, hst]
section
variable {ops : Array Oper} {rest : List Oper} {o : Oper} {a : Act} {w : World} {Q : Exit → Act → World → Prop}
theorem wpList_del0 (hgd : o.guard = none) (s x : Operand) (ho : o.op = .call { callee := .builtin .append, args := #[s, x], argTypes := #[52, 52] })
    (b n cap i : Nat) (l : List Fr) (hok : FrsOk l) (hn : n = l.length) (hi : i < n) (hown : w.ownsRow 0 60 59 (.slice (some ⟨b, 0, none⟩) n cap) n (rowL frL l)) (ad : Addr) (m c : Nat) (hm : m = n - 1 - i) (had : 0 < m → ad = ⟨b, (i + 1) * 59, none⟩) (hs : a.eval s = .slice (some ⟨b, 0, none⟩) i cap) (hx : a.eval x = .slice (some ad) m c)
    (h : ∀ w', w'.ownsRow 0 60 59 (.slice (some ⟨b, 0, none⟩) (n - 1) cap) (n - 1) (rowL frL (l.eraseIdx i)) → w.grownBy w' (some b) → wpList Try.prog ops Q rest (a.put o.dst (.slice (some ⟨b, 0, none⟩) (n - 1) cap)) w') : wpList Try.prog ops Q (o :: rest) a w := by
  obtain ⟨i0, hi0, hz0, hz1, hz2⟩ := info_parts infoF
  obtain ⟨cur, hg, hnc, hcm, hcs, htake, _⟩ := own_blk hown
  have hnews : ∀ j u, (rowL frL (l.drop (i + 1)))[j]? = some u → w.cell? (ad.add j) = some u := fun j u hj => by
    have hpos : 0 < m := by
      have := (List.getElem?_eq_some_iff.1 hj).1
      rw [rowL_length (fun x hx => hok.fits x (List.mem_of_mem_drop hx)), List.length_drop] at this
      omega
    rw [had hpos, Addr.add_mid]
    refine own_cell hown ?_
    rw [← rowL_drop hok.fits, List.getElem?_drop] at hj
    exact hj
  have hlen : (rowL frL (l.drop (i + 1))).length = m * i0.size := by
    rw [rowL_length (fun x hx => hok.fits x (List.mem_of_mem_drop hx)), List.length_drop, hz1, hm, hn]; congr 1; omega
  have hr := run_append_room (P := Try.prog) w 52 o.type 60 i0 Try.underlying52 hi0 b i cap cur hg ad m c _ hlen hnews (rowL_one frL_one _) (by omega) (by rw [hlen, hz1, hcs, ← Nat.add_mul]; exact Nat.mul_le_mul_right _ (by omega))
  rw [show i + m = n - 1 by omega, hz1] at hr
  have hl0 : (rowL frL (l.eraseIdx i)).length = (n - 1) * 59 := by
    rw [rowL_length (fun x hx => hok.fits x (List.mem_of_mem_eraseIdx hx)), List.length_eraseIdx_of_lt (by omega), hn]
  refine wpList_plain hgd fun _ hK => ?_
  unfold Oper.wp execOp
  simp only [ho, resolve, invoke, builtin, Sem.run_bind, Sem.run_pure, Result.andThen_ok, List.map_toArray, List.map_cons, List.map_nil, hs, hx, hr]
  refine hK _ _ (h _ ⟨hl0, Or.inr ⟨b, cap, _, rfl, Nat.zero_le _, setRow_heap w b cur _ _ _ hg, by omega, hcm, ?_, ?_⟩⟩ ⟨rfl, rfl, rfl, by simp, fun k _ hk => setRow_other w b k _ (fun e => hk (by rw [e]))⟩)
  · have hle : n * 59 ≤ cap * 59 := Nat.mul_le_mul_right _ hnc
    simp only [List.size_toArray, List.length_append, List.length_take, List.length_drop, Array.length_toList, hlen, hz1, hcs, hm]
    omega
  · have e1 : cur.toList.take (i * 59) = rowL frL (l.take i) := by
      rw [← rowL_take hok.fits, ← htake, List.take_take, show min (i * 59) (n * 59) = i * 59 by omega]
    have e2 : cur.toList.take (i * 59) ++ rowL frL (l.drop (i + 1)) = rowL frL (l.eraseIdx i) := by
      rw [e1, ← rowL_append, List.eraseIdx_eq_take_drop_succ]
    rw [List.toList_toArray, e2, List.take_append_of_le_length (by rw [hl0]; omega), List.take_of_length_le (by rw [hl0]; omega)]
theorem wpList_del (hgd : o.guard = none) (s x : Operand) (ho : o.op = .call { callee := .builtin .append, args := #[s, x], argTypes := #[52, 52] })
    (b n cap i : Nat) (l : List Fr) (hok : FrsOk l) (hn : n = l.length) (hi : i < n) (hown : w.ownsRow 0 60 59 (.slice (some ⟨b, 0, none⟩) n cap) n (rowL frL l)) (hs : a.eval s = .slice (some ⟨b, 0, none⟩) i cap) (hx : a.eval x = .slice (if cap = i + 1 then some ⟨b, 0, none⟩ else some ⟨b, (i + 1) * 59, none⟩) (n - (i + 1)) (cap - (i + 1)))
    (h : ∀ w', w'.ownsRow 0 60 59 (.slice (some ⟨b, 0, none⟩) (n - 1) cap) (n - 1) (rowL frL (l.eraseIdx i)) → w.grownBy w' (some b) → wpList Try.prog ops Q rest (a.put o.dst (.slice (some ⟨b, 0, none⟩) (n - 1) cap)) w') : wpList Try.prog ops Q (o :: rest) a w := by
  obtain ⟨_, _, hnc, _⟩ := own_blk hown
  by_cases hc : cap = i + 1
  · rw [if_pos hc] at hx
    exact wpList_del0 hgd s x ho b n cap i l hok hn hi hown _ _ _ (by omega) (fun hp => by omega) hs hx h
  · rw [if_neg hc] at hx
    exact wpList_del0 hgd s x ho b n cap i l hok hn hi hown _ _ _ (by omega) (fun hp => rfl) hs hx h
theorem wpList_clear_frame (hgd : o.guard = none) (x : Operand) (ho : o.op = .call { callee := .builtin .clear, args := #[x], argTypes := #[52] }) (b off c : Nat) (hx : a.eval x = .slice (some ⟨b, off, none⟩) 1 c) (ht : w.there b off 59)
    (h : wpList Try.prog ops Q rest (a.put o.dst (.tuple #[])) (w.setCells b off (frL zF))) : wpList Try.prog ops Q (o :: rest) a w :=
  wpList_plain hgd fun _ hK => by
    unfold Oper.wp execOp
    simp only [ho, resolve, invoke, builtin, Sem.run_bind, Sem.run_pure, Result.andThen_ok, List.map_toArray, List.map_cons, List.map_nil, hx, run_clear_frame w o.type b off c ht]
    exact hK _ _ h
end
set_option maxRecDepth 100000 in
set_option maxHeartbeats 1600000 in
theorem delete_any {w : World} {b n cap i : Nat} {l : List Fr} (hok : FrsOk l) (hn : n = l.length) (hi : i < n) (h51 : n ≤ 51) (hown : w.ownsRow 0 60 59 (.slice (some ⟨b, 0, none⟩) n cap) n (rowL frL l)) :
    Calls Try.prog 32 #[.slice (some ⟨b, 0, none⟩) n cap, .int .i64 i, .int .i64 ((i : Int) + 1)] w fun e w' => e = .returned (.slice (some ⟨b, 0, none⟩) (n - 1 : Nat) cap) ∧ w'.ownsRow 0 60 59 (.slice (some ⟨b, 0, none⟩) (n - 1) cap) (n - 1) (rowL frL (l.eraseIdx i)) ∧ w.grownBy w' (some b) := by
  obtain ⟨cur, hg, hnc, hcm, hcs, htake, _⟩ := own_blk hown
  have hcm2 : cap ≤ 9223372036854775807 := by simp only [maxLen] at hcm; omega
  have HOK := Lib.hid hok
  have HN := Lib.hid hn
  have HO : Hid (w.drew.ownsRow 0 60 59 (.slice (some ⟨b, 0, none⟩) n cap) n (rowL frL l)) := hown
  have HGR : Hid (∀ w' b', w.drew.grownBy w' b' → w.grownBy w' b') := fun w' b' h => ⟨h.os, h.tape, h.output, h.size, h.block⟩
  have i0 : (0 : Int) ≤ i := by omega
  have i1 : (i : Int) ≤ (i : Int) + 1 := by omega
  have i2 : (i : Int) + 1 ≤ (n : Int) := by omega
  have i3 : (n : Int) ≤ (cap : Int) := by omega
  have i4 : ((i : Int) == (i : Int) + 1) = false := by simp; omega
  have i5 : (i : Int) ≤ cap := by omega
  have i6 : i ≤ cap := by omega
  have i7 : i + 1 ≤ n := by omega
  have i8 : i + 1 ≤ cap := by omega
  have i9 : (0 : Int) ≤ (i : Int) + 1 := by omega
  have i10 : (i : Int) + 1 ≤ (cap : Int) := by omega
  have i11 : ((i : Int) + 1).toNat = i + 1 := by omega
  obtain ⟨m, hm⟩ : ∃ m, m = n - 1 := ⟨_, rfl⟩
  have HM := Lib.hid hm
  rw [← hm]
  have m1 : (m : Int) ≤ (n : Int) := by omega
  have m2 : m ≤ cap := by omega
  have m3 : m ≤ n := by omega
  have m4 : (n : Int) - (m : Int) = 1 := by omega
  have m5 : n - m = 1 := by omega
  clear hok hn hown htake hg hcs hcm hm
  go_enter Try.func32, Try.ntmps32
  go_upto_region 5 with fail
  go_still_tail 6, (by kernel_rfl)
  change wpList _ _ _ _ _ w.drew
  generalize w.drew = w2 at *
  go_wp2_with (first
    | (at_builtin
       refine wpList_del rfl (.tmp 22) (.tmp 25) rfl b n cap i l HOK.out HN.out (by omega) HO.out rfl rfl ?_
       rw [← HM.out]
       intro w3 h3 hg3
       have HO3 := Lib.hid h3
       have HG3 := Lib.hid hg3
       have hcl := fun c => run_clear_frame w3 0 b (m * 59) c (there_of h3 (by omega))
       clear h3 hg3))
  all_goals
    go_ret
    first
      | exact ⟨rfl, own_behind HO3.out _ (Nat.le_refl _) (by rw [show (frL zF).length = 59 from frL_length zW_len]; omega), HGR.out _ _ (grown_setCells _ _ HG3.out)⟩
      | (subst_vars; exact ⟨rfl, own_behind HO3.out _ (Nat.le_refl _) (by rw [show (frL zF).length = 59 from frL_length zW_len]; omega), HGR.out _ _ (grown_setCells _ _ HG3.out)⟩)
end Go.Proofs.Ytbcnjilhibkcnaa
