/- Contract: clathriref4's Dirty. -/
import Derived.Test.YtbcnjilhibkcnaaMg
import Derived.BigQuiet
namespace Go.Proofs.Ytbcnjilhibkcnaa
open Go.ChangeShapes Go.WideShapes Go.ChangeAt Go.RowKit
set_option linter.unusedVariables false
section
variable {o : Oper} {a : Act} {w : World} {K : Act → World → Prop} {Q : Exit → Act → World → Prop}
/-- An append of writes, with all that it leaves as it was. -/
theorem wp_app_W (s x : Operand) (ho : o.op = .call { callee := .builtin .append, args := #[s, x], argTypes := #[39, 39] })
    (v : Value) (n : Nat) (xs : List Value) (hs : a.eval s = v) (hown : w.ownsRow 0 36 58 v n xs) (u : Value) (m : Nat) (news : List Value) (hx : a.eval x = u) (hsrc : Src w u m news) (hl : news.length = m * 58) (h1 : ∀ y ∈ news, y.oneCell' = true) (h63 : n + m ≤ 1000)
    (h : ∀ v' w', w'.ownsRow 0 36 58 v' (n + m) (xs ++ news) → w.grownBy w' v.ownBlock → (v'.ownBlock = v.ownBlock ∨ v'.ownBlock = some w.heap.size) → Keeps 36 58 n w w' →
      (∀ (g : Nat) (C : Array Value) (t : TypeId), w.heap[g]? = some (.cells C t (0, 0)) → C.size < (n + 1) * 58 → w'.heap[g]? = w.heap[g]?) → (m = 0 → v' = v) → K (a.put o.dst v') w') : o.wp Try.prog a w K Q := by
  obtain ⟨i0, hi, hz0, hz1, hz2⟩ := info_parts infoW
  have hzs : (Value.agg (wrA zW)).cells.size = 58 := by show (wrA zW).size = 58; exact wrA_size zW_len
  have h63' : n + m ≤ maxLen := by simp only [maxLen]; omega
  have hby : (n + m) * 72 ≤ 140737488355328 := by omega
  rcases hsrc with ⟨rfl, rfl⟩ | ⟨ad, c, rfl, hnews⟩
  · have hn0 : news = [] := List.eq_nil_of_length_eq_zero (by simpa using hl)
    subst hn0
    have hr := run_append_owned_none (P := Try.prog) (w := w) 0 39 o.type 36 i0 58 Try.underlying39 hi v n xs hown
    unfold Oper.wp execOp
    simp only [ho, resolve, invoke, builtin, Sem.run_bind, Sem.run_pure, Result.andThen_ok, List.map_toArray, List.map_cons, List.map_nil, hs, hx, hr]
    exact h v w (by simpa using hown) (World.grownBy.refl w _) (.inl rfl) (Keeps.refl _ _ _ _) (fun _ _ _ _ _ => rfl) (fun _ => rfl)
  · obtain ⟨v', w', hr, h2, h3, h4, h5⟩ := run_append_own_at (P := Try.prog) w 0 39 o.type 36 i0 _ 58 72 Try.underlying39 hi hz0 hz1 hz2 hzs (by decide) v n xs hown ad m c news hl hnews h1 h63' hby (Nat.zero_le _)
    have hrest : (∀ (g : Nat) (C : Array Value) (t : TypeId), w.heap[g]? = some (.cells C t (0, 0)) → C.size < (n + 1) * 58 → w'.heap[g]? = w.heap[g]?) ∧ (m = 0 → v' = v) := by
      rcases hown.2 with ⟨rfl, rfl⟩ | ⟨g, cap, cur, rfl, hb, hg, hnc, hcm, hcs, htake⟩
      · exact ⟨fun g2 C t hg2 _ => h3.block g2 (room_lt hg2) (by simp [Value.ownBlock]), fun hm => h4.2 ⟨rfl, hm⟩⟩
      · by_cases hroom : n + m ≤ cap
        · obtain ⟨w2, hr2, ho2, hg2⟩ := run_append_fits (P := Try.prog) w 0 39 o.type 36 i0 58 Try.underlying39 hi hz1 g n cap xs hown ad m c news hl hnews h1 hroom
          rw [hr] at hr2
          injection hr2 with e1 e2
          subst e2
          refine ⟨fun g2 C t hg3 hlt => ?_, fun hm => by rw [e1, hm]; rfl⟩
          by_cases e : g2 = g
          · subst e
            rw [hg] at hg3
            injection hg3 with hg3; injection hg3 with hC ht
            subst hC
            have hcn : cap = n := by rw [hcs] at hlt; omega
            have hm0 : m = 0 := by omega
            subst hm0; subst hcn
            have hn0 : news = [] := List.eq_nil_of_length_eq_zero (by simpa using hl)
            obtain ⟨cur', hg', _, _, hcs', ht', _⟩ := own_blk ho2
            rw [hg', hg]
            have ec : cur' = cur := by
              apply Array.toList_inj.1
              have a1 : cur'.toList.take ((cap + 0) * 58) = cur'.toList := List.take_of_length_le (by rw [Array.length_toList, hcs']; omega)
              have a2 : cur.toList.take (cap * 58) = cur.toList := List.take_of_length_le (by rw [Array.length_toList, hcs]; omega)
              rw [a1] at ht'
              rw [a2] at htake
              rw [ht', htake, hn0, List.append_nil]
            rw [ec]
          · exact h3.block g2 (room_lt hg3) (fun e' => e (by injection e'))
        · have holds : ∀ j u, xs[j]? = some u → w.cell? ((⟨g, 0, none⟩ : Addr).add j) = some u := hown.cells (g := g) rfl
          have hr2 := run_append_grow (P := Try.prog) w 39 o.type 36 i0 _ Try.underlying39 hi hz0 ⟨g, 0, none⟩ n cap xs (by rw [hz1]; exact hown.1) holds ad m c news (by rw [hz1]; exact hl) hnews (by omega) (by simp only [maxLen] at h63'; omega) (growslice_fits (by omega) (by rw [hz2]; exact hby))
          rw [hr] at hr2
          injection hr2 with e1 e2
          subst e2
          exact ⟨fun g2 C t hg2 _ => Below.heap_alloc w.drew _ g2 (room_lt hg2), fun hm => by omega⟩
    unfold Oper.wp execOp
    simp only [ho, resolve, invoke, builtin, Sem.run_bind, Sem.run_pure, Result.andThen_ok, List.map_toArray, List.map_cons, List.map_nil, hs, hx, hr]
    exact h v' w' h2 h3 h5 (Keeps.of (by decide) hown (append_old 39 o.type 36 i0 _ 58 72 Try.underlying39 hi hz0 hz1 hz2 hzs (by decide) v n xs hown ad m c news hl hnews h1 h63' hby hr) h3) hrest.1 hrest.2
theorem wp_oneWr (x : Operand) (ho : o.op = .buildSlice 39 1 #[(0, x)]) (y : Wr) (h56 : y.bs.length = 56) (hx : a.eval x = .agg (wrA y))
    (h : K (a.put o.dst (.slice (some ⟨w.heap.size, 0, none⟩) 1 1)) (w.alloc (.cells (wrA y) 36))) : o.wp Try.prog a w K Q := by
  obtain ⟨i0, hi, hz0, hz1, hz2⟩ := info_parts infoW
  exact wp_one_of 39 x ho 36 i0 _ 58 Try.underlying39 hi hz0 hz1 (by decide) (by decide) _ hx (by show (wrA y).size = 58; exact wrA_size h56) h
theorem wp_buildWb (x y : Operand) (t c : Int) (bs : List Int) (h56 : bs.length = 56) (ho : o.op = .build 36 #[(0, x), (1, y)]) (hx : a.eval x = .int .i64 t) (hy : a.eval y = .agg (blkA c bs))
    (h : K (a.put o.dst (.agg (wrA ⟨t, c, bs⟩))) w) : o.wp Try.prog a w K Q := by
  unfold Oper.wp execOp
  have hb := run_build (P := Try.prog) w 36 #[(0, .int .i64 t), (1, .agg (blkA c bs))] _ (builtWb t c bs h56)
  simp only [ho, List.map_toArray, List.map_cons, List.map_nil, hx, hy, Sem.run_bind, hb, Result.andThen_ok]
  exact h
end
theorem wrs_row : ∀ (D : List Wr), wrsL D = rowL wrL D
  | [] => rfl
  | x :: D => by show wrL x ++ wrsL D = wrL x ++ rowL wrL D; rw [wrs_row D]
/-- The writes of the entries that are dirty. -/
def dirtyE (X : List Ent) : List Wr := (X.filter (·.2)).map (·.1)
theorem dirtyE_snoc {X : List Ent} {k : Nat} {x : Ent} (h : X[k]? = some x) : dirtyE (X.take (k + 1)) = if x.2 then dirtyE (X.take k) ++ [x.1] else dirtyE (X.take k) := by
  unfold dirtyE
  rw [take_snoc' h, List.filter_append, List.map_append]
  cases hd : x.2 <;> simp [hd]
theorem dirtyE_len (X : List Ent) : (dirtyE X).length ≤ X.length := by unfold dirtyE; rw [List.length_map]; exact List.length_filter_le _ _
def SortW (D : List Wr) : Prop := D.Pairwise (fun x y => x.t ≤ y.t)
theorem SortW.ins {D : List Wr} (h : SortW D) {k : Nat} {x : Wr} (h1 : ∀ (j : Nat) (y : Wr), j < k → D[j]? = some y → y.t < x.t) (h2 : ∀ y, D[k]? = some y → ¬ y.t < x.t) : SortW (D.take k ++ [x] ++ D.drop k) := by
  have hd : ∀ y ∈ D.drop k, x.t ≤ y.t := fun y hy => by
    obtain ⟨j, hj⟩ := List.mem_iff_getElem?.1 hy
    rw [List.getElem?_drop] at hj
    obtain ⟨z, hz⟩ : ∃ z, D[k]? = some z := ⟨_, List.getElem?_eq_getElem (by have := (List.getElem?_eq_some_iff.1 hj).1; omega)⟩
    have hzx := h2 z hz
    rcases Nat.eq_zero_or_pos j with rfl | hpos
    · rw [Nat.add_zero, hz] at hj; injection hj with hj; subst hj; omega
    · have hlz := (List.getElem?_eq_some_iff.1 hz)
      have hly := (List.getElem?_eq_some_iff.1 hj)
      have := (List.pairwise_iff_getElem.1 h) k (k + j) hlz.1 hly.1 (by omega)
      rw [hlz.2, hly.2] at this
      omega
  have ht : ∀ y ∈ D.take k, y.t < x.t := fun y hy => by
    obtain ⟨j, hj⟩ := List.mem_iff_getElem?.1 hy
    rw [List.getElem?_take] at hj
    split at hj
    · exact h1 j y (by assumption) hj
    · cases hj
  unfold SortW at h ⊢
  rw [List.append_assoc, List.pairwise_append, List.singleton_append, List.pairwise_cons]
  refine ⟨h.sublist (List.take_sublist _ _), ⟨hd, h.sublist (List.drop_sublist _ _)⟩, fun y hy z hz => ?_⟩
  have h3 := ht y hy
  rcases List.mem_cons.1 hz with rfl | hz
  · omega
  · have := hd z hz; omega
theorem ins_perm (D : List Wr) (k : Nat) (x : Wr) : (D.take k ++ [x] ++ D.drop k).Perm (D ++ [x]) := by
  have h1 : (D.take k ++ [x] ++ D.drop k).Perm (x :: (D.take k ++ D.drop k)) := by
    rw [List.append_assoc, List.singleton_append]; exact List.perm_middle
  rw [List.take_append_drop] at h1
  exact h1.trans (List.perm_append_singleton x D).symm
/-- What a step of the insertion may change. -/
structure SD (N : Nat) (x : Wr) (w w' : World) : Prop where
  keep : Keeps 36 58 N w w'
  same : ∀ g : Nat, w.heap[g]? = some (.cells (wrA x) 36 (0, 0)) → w'.heap[g]? = some (.cells (wrA x) 36 (0, 0))
  nil : ∀ g : Nat, w.heap[g]? = some (.cells #[] 36 (0, 0)) → w'.heap[g]? = some (.cells #[] 36 (0, 0))
theorem SD.refl {N : Nat} {x : Wr} {w : World} : SD N x w w := ⟨Keeps.refl _ _ _ _, fun _ h => h, fun _ h => h⟩
theorem SD.none {N : Nat} {x : Wr} {w w' : World} (h : w.grownBy w' Option.none) : SD N x w w' := ⟨Keeps.none h, fun g hg => (h.block g (room_lt hg) (by simp)).trans hg, fun g hg => (h.block g (room_lt hg) (by simp)).trans hg⟩
theorem own_val {W : World} {base e sz n : Nat} {v : Value} {xs : List Value} (h : W.ownsRow base e sz v n xs) : ∃ A cap, v = .slice A n cap ∧ n ≤ cap ∧ cap ≤ 9223372036854775807 ∧ (A = Option.none → n = 0 ∧ cap = 0) ∧ (∀ ad, A = some ad → ∃ b : Nat, ad = ⟨b, 0, Option.none⟩) := by
  rcases h.2 with ⟨rfl, h0⟩ | ⟨b, cap, cur, rfl, _, _, hn, hm, _⟩
  · exact ⟨Option.none, 0, by rw [h0], by omega, by omega, fun _ => ⟨h0, rfl⟩, (fun ad e => by cases e)⟩
  · exact ⟨_, cap, rfl, hn, by simp only [maxLen] at hm; omega, (fun e => by cases e), (fun ad e => by injection e with e; exact ⟨b, e.symm⟩)⟩
def nD (k : Nat) : Nat → Nat
  | 23 => k
  | 27 => k + 1
  | _ => 1000000
theorem nD_big {k i : Nat} (h1 : i ≠ 23) (h2 : i ≠ 27) : nD k i = 1000000 := by unfold nD; split <;> first | rfl | contradiction
theorem nD_ge {k i : Nat} (hk : k ≤ 1000) : k ≤ nD k i := by unfold nD; split <;> omega
def VD (w0 : World) (h b nx capx ix n cap k : Nat) (A : Option Addr) (D : List Wr) (x : Wr) (i : Nat) (v : Value) (w : World) : Prop :=
  match i with
  | 1 | 24 => v = .slice A n cap
  | 2 | 25 => v = .int .i64 (k : Int)
  | 3 => v = .slice A k cap
  | 5 | 6 | 13 | 14 => v = .pointer (some ⟨h, 0, none⟩)
  | 7 | 15 => v = .pointer (some ⟨h, 1, none⟩)
  | 8 | 16 => v = .slice (some ⟨b, 0, none⟩) nx capx
  | 9 | 17 => v = .int .i64 (ix : Int)
  | 10 | 11 | 18 => v = .pointer (some ⟨b, ix * 59, none⟩)
  | 12 => v = .int .i64 x.t
  | 19 => v = .pointer (some ⟨b, ix * 59 + 1, none⟩)
  | 20 => v = .agg (blkA x.k x.bs)
  | 21 => v = .agg (wrA x)
  | 0 => ∃ g, v = .slice (some ⟨g, 0, none⟩) 0 0 ∧ w.heap[g]? = some (.cells #[] 36 (0, 0)) ∧ w0.heap.size ≤ g
  | 4 => w.ownsRow 0 36 58 v k (rowL wrL (D.take k)) ∧ (∀ g, v.ownBlock = some g → w0.heap.size ≤ g) ∧ (k = 0 → ∃ g, v = .slice (some ⟨g, 0, none⟩) 0 0)
  | 22 => ∃ g, v = .slice (some ⟨g, 0, none⟩) 1 1 ∧ w.heap[g]? = some (.cells (wrA x) 36 (0, 0)) ∧ w0.heap.size ≤ g
  | 23 => w.ownsRow 0 36 58 v (k + 1) (rowL wrL (D.take k ++ [x])) ∧ ∀ g, v.ownBlock = some g → w0.heap.size ≤ g
  | 26 => (n = k → Src w0 v 0 []) ∧ (k < n → ∃ b2 c, A = some ⟨b2, 0, none⟩ ∧ v = .slice (some ⟨b2, k * 58, none⟩) (n - k) c)
  | 27 => w.ownsRow 0 36 58 v (n + 1) (rowL wrL (D.take k ++ [x] ++ D.drop k)) ∧ ∀ g, v.ownBlock = some g → w0.heap.size ≤ g
  | _ => True
theorem VD.on {w0 : World} {h b nx capx ix n cap k : Nat} {A : Option Addr} {D : List Wr} {x : Wr} {i j : Nat} {v : Value} {w w' : World} (hk : k ≤ 900) (hn : n ≤ 900) (hij : i ≠ j) (hind : j = 27 → i ≠ 23) (H : VD w0 h b nx capx ix n cap k A D x j v w) (hs : SD (nD k i) x w w') : VD w0 h b nx capx ix n cap k A D x j v w' := by
  unfold VD at H ⊢
  split at H
  all_goals try exact H
  · obtain ⟨g, e, hg, hl⟩ := H
    exact ⟨g, e, hs.nil g hg, hl⟩
  · exact ⟨hs.keep _ _ _ (nD_ge (by omega)) H.1, H.2⟩
  · obtain ⟨g, e, hg, hl⟩ := H
    exact ⟨g, e, hs.same g hg, hl⟩
  · refine ⟨hs.keep _ _ _ ?_ H.1, H.2⟩
    by_cases h27 : i = 27
    · subst h27; exact Nat.le_refl _
    · rw [nD_big hij h27]; omega
  · refine ⟨hs.keep _ _ _ ?_ H.1, H.2⟩
    rw [nD_big (hind rfl) hij]; omega
theorem own_base {W : World} {base e sz n : Nat} {v : Value} {xs : List Value} (h : W.ownsRow 0 e sz v n xs) (hb : ∀ g, v.ownBlock = some g → base ≤ g) : W.ownsRow base e sz v n xs := by
  refine ⟨h.1, ?_⟩
  rcases h.2 with h0 | ⟨g, cap, cur, rfl, _, rest⟩
  · exact .inl h0
  · exact .inr ⟨g, cap, cur, rfl, hb g rfl, rest⟩
set_option maxRecDepth 100000 in
set_option maxHeartbeats 6400000 in
theorem rdirty_any {w : World} {h F : Nat} {X : List Ent} {R : Nat → Prop} (H0 : RA w h F X R) :
    Calls Try.prog 19 #[.pointer (some ⟨h, 0, none⟩)] w fun e w' => ∃ v D, e = .returned v ∧ D.Perm (dirtyE X) ∧ SortW D ∧ OwnW w' w.heap.size v D ∧ Below w.heap.size w w' := by
  obtain ⟨vx, H⟩ := H0
  obtain ⟨Ax, capx, rfl, hcx1, hcx2, hAx⟩ := H.val
  have HH := Lib.hid H
  have HA := Lib.hid hAx
  have h51 := H.len
  clear H hAx
  generalize hnx : X.length = nx at *
  have HN := Lib.hid hnx
  clear hnx
  go_enter Try.func19, Try.ntmps19
  go_wp2
  go_loopw [3, 4] (fun v i wr => ∃ (ix : Nat) (D : List Wr), i = .int .i64 ix ∧ ix ≤ nx ∧ Hid (wr.ownsRow w.heap.size 36 58 v D.length (rowL wrL D)) ∧ Hid (D.Perm (dirtyE (X.take ix))) ∧ Hid (SortW D) ∧ Hid (Below w.heap.size w wr)) (fun _ i _ => nx - (intOf i).toNat)
  case atStart => exact ⟨0, [], rfl, Nat.zero_le _, World.ownsRow_nil _ _ _ _, List.Perm.refl _, List.Pairwise.nil, Below.refl _ _⟩
  case round =>
    obtain ⟨v, rfl⟩ : ∃ v, v = u3 := ⟨u3, rfl⟩
    obtain ⟨ix, D, rfl, hix, HO, HP, HS, HB⟩ := hrel
    obtain ⟨W, rfl⟩ : ∃ W, W = wr := ⟨wr, rfl⟩
    have c1 := (HH.out.below HB.out).c1
    by_cases hlt : ix < nx
    · have hlt2 : (ix : Int) < nx := by omega
      obtain ⟨x, hx⟩ : ∃ x, X[ix]? = some x := ⟨_, List.getElem?_eq_getElem (by rw [HN.out]; exact hlt)⟩
      obtain ⟨b, rfl⟩ := HA.out ix x hx
      have hx56 := (HH.out.ok.at hx).len
      have c58 := (HH.out.below HB.out).cell58 hx
      have HXI := Lib.hid hx
      have hdn := dirtyE_snoc hx
      clear hx
      cases hxd : x.2
      · rw [hxd] at c58 hdn
        have HDN : Hid (dirtyE (X.take (ix + 1)) = dirtyE (X.take ix)) := by unfold Hid; rw [hdn]; simp
        clear hdn
        go_wp2_with fail
        go_roundw
        case rel => exact ⟨ix + 1, D, by go_num, hlt, HO, by unfold Hid; rw [HDN.out]; exact HP.out, HS, HB⟩
        case measure => simp [intOf]; omega
      · rw [hxd, if_pos rfl] at hdn
        rw [hxd] at c58
        have HDN := Lib.hid hdn
        clear hdn hxd
        have hdl : D.length ≤ 51 := by
          have h1 := HP.out.length_eq
          have h2 := dirtyE_len (X.take ix)
          rw [List.length_take] at h2
          omega
        have hD56 : Fits wrL 58 D := fun y hy => by
          have h1 := HP.out.subset hy
          unfold dirtyE at h1
          obtain ⟨z, hz, rfl⟩ := List.mem_map.1 h1
          exact wrL_length (HH.out.ok z (List.mem_of_mem_take (List.mem_filter.1 hz).1)).len
        have HF56 := Lib.hid hD56
        clear hD56
        obtain ⟨A, cap, rfl, hnc0, hcm, hA0, hAb⟩ := own_val HO.out
        generalize hnd : D.length = n at *
        have HND := Lib.hid hnd
        clear hnd
        go_wp2_with fail
        go_loopw [5] (fun i wr => ∃ kk : Nat, i = .int .i64 kk ∧ kk ≤ n ∧ Hid (∀ (j : Nat) (y : Wr), j < kk → D[j]? = some y → y.t < x.1.t) ∧ Hid (Below W.heap.size W wr)) (fun i _ => n - (intOf i).toNat)
        case atStart => exact ⟨0, rfl, Nat.zero_le _, fun j y h => by omega, Below.refl _ _⟩
        case round =>
          obtain ⟨kk, rfl, hkk, HLT, HBW⟩ := hrel
          obtain ⟨W5, rfl⟩ : ∃ W5, W5 = wr := ⟨wr, rfl⟩
          have HO5 := Lib.hid (ownB HO.out HBW.out)
          have q1 := fun q => (show ((W5.drewN q).cell? ⟨h, 1, none⟩ = some (.slice (some ⟨b, 0, none⟩) nx capx)) from (HH.out.below (keepB HB.out HBW.out)).c1)
          have q2 := fun q => (show ((W5.drewN q).cell? ⟨b, ix * 59, none⟩ = some (.int .i64 x.1.t)) from (HH.out.below (keepB HB.out HBW.out)).cell0 HXI.out)
          clear c1 c58
          by_cases hkn : kk < n
          · have d1 : decide ((kk : Int) < n) = true := decide_eq_true (by omega)
            have hi1 : (kk : Int) < n := by omega
            have hi0 : (0 : Int) ≤ kk := by omega
            have hx0 : (0 : Int) ≤ ix := by omega
            obtain ⟨y, hy⟩ : ∃ y, D[kk]? = some y := ⟨_, List.getElem?_eq_getElem (by rw [HND.out]; exact hkn)⟩
            have HYI := Lib.hid hy
            clear hy
            obtain ⟨b2, eA⟩ : ∃ b2 : Nat, A = some ⟨b2, 0, none⟩ := by
              cases A with
              | none => have := (hA0 rfl).1; omega
              | some ad => obtain ⟨b2, rfl⟩ := hAb ad rfl; exact ⟨b2, rfl⟩
            subst eA
            have q3 := fun q => (show ((W5.drewN q).cell? ⟨b2, kk * 58, none⟩ = some (.int .i64 y.t)) from own_cell HO5.out (rowL_at HF56.out HYI.out (j := 0) rfl))
            by_cases hyx : y.t < x.1.t
            · have d2 : decide (y.t < x.1.t) = true := decide_eq_true hyx
              have HYX := Lib.hid hyx
              clear hyx
              go_upto_region 7 with fail
              go_quiet (fail)
              go_wp2_with fail
              go_roundw
              case rel => exact ⟨kk + 1, by go_num, hkn, fun j z hj hz => by
                by_cases e : j = kk
                · subst e
                  have h1 := HYI.out
                  rw [hz] at h1; injection h1 with h1; subst h1
                  exact HYX.out
                · exact HLT.out j z (by omega) hz, bdn HBW.out nq⟩
              case measure => simp [intOf]; omega
            have d2 : decide (y.t < x.1.t) = false := decide_eq_false hyx
            have HINS : Hid (∀ z, D[kk]? = some z → ¬ z.t < x.1.t) := fun z hz => by
              have h1 := HYI.out
              rw [hz] at h1; injection h1 with h1; subst h1
              exact hyx
            obtain ⟨A, hAe⟩ : ∃ A, A = some (⟨b2, 0, none⟩ : Addr) := ⟨_, rfl⟩
            clear hyx
            go_upto_region 7 with fail
            go_quiet (fail)
            rw [← hAe] at HO5 hA0 hAb ⊢
            clear q3 hAe
            have HR6 := Lib.hid ((HH.out.below (keepB HB.out (bdn HBW.out nq))))
            have HO6 : Hid ((W5.drewN nq).ownsRow w.heap.size 36 58 (.slice A n cap) n (rowL wrL D)) := HO5.out
            have HB6 := Lib.hid (keepB HB.out (bdn HBW.out nq))
            clear q1 q2 HO5 HO HB HBW
            generalize W5.drewN nq = W6 at *
            go_upto_region 9 with fail
            have hJ0 : Below W6.heap.size W6 W6.drew := (Below.refl _ _).drew
            have HC : Hid (∀ W, Below W6.heap.size W6 W → W.cell? ⟨h, 1, none⟩ = some (.slice (some ⟨b, 0, none⟩) nx capx)) := fun W hb => (HR6.out.below hb).c1
            have HT : Hid (∀ W, Below W6.heap.size W6 W → W.cell? ⟨b, ix * 59, none⟩ = some (.int .i64 x.1.t)) := fun W hb => (HR6.out.below hb).cell0 HXI.out
            have HRB : Hid (∀ W, Below W6.heap.size W6 W → W.rangeAt b (ix * 59 + 1) (blkL x.1.k x.1.bs)) := fun W hb => (HR6.out.below hb).rangeB HXI.out
            have HL4 : Hid ((rowL wrL (D.take kk)).length = kk * 58) := by
              unfold Hid; rw [rowL_length (fun y hy => HF56.out y (List.mem_of_mem_take hy)), List.length_take, HND.out]; congr 1; omega
            have HL27 : Hid ((rowL wrL (D.drop kk)).length = (n - kk) * 58) := by
              unfold Hid; rw [rowL_length (fun y hy => HF56.out y (List.mem_of_mem_drop hy)), List.length_drop, HND.out]
            have HS4 : Hid (∀ W, Below W6.heap.size W6 W → Src W (.slice A kk cap) kk (rowL wrL (D.take kk))) := fun W hb => by
              have ho := ownB HO6.out hb
              cases A with
              | none =>
                obtain ⟨e1, e2⟩ := hA0 rfl
                obtain rfl : kk = 0 := by omega
                exact .inl ⟨by rw [e2], rfl⟩
              | some ad =>
                obtain ⟨b2, rfl⟩ := hAb ad rfl
                refine .inr ⟨_, cap, rfl, fun j u hj => ?_⟩
                rw [Addr.add_mid, Nat.zero_add]
                refine own_cell ho ?_
                rw [← rowL_take HF56.out, List.getElem?_take] at hj
                split at hj
                · exact hj
                · cases hj
            have HS27 : Hid (∀ W, Below W6.heap.size W6 W → ∀ u, ((n = kk → Src W6 u 0 []) ∧ (kk < n → ∃ b2 c, A = some ⟨b2, 0, none⟩ ∧ u = .slice (some ⟨b2, kk * 58, none⟩) (n - kk) c)) → Src W u (n - kk) (rowL wrL (D.drop kk))) := fun W hb u hu => by
              by_cases hkn2 : kk < n
              · obtain ⟨b2, c, eA, eu⟩ := hu.2 hkn2
                subst eA
                have ho := ownB HO6.out hb
                refine .inr ⟨_, c, eu, fun j y hj => ?_⟩
                rw [Addr.add_mid]
                refine own_cell ho ?_
                rw [← rowL_drop HF56.out, List.getElem?_drop] at hj
                exact hj
              · have e : n = kk := by omega
                have e2 : D.drop kk = [] := List.drop_of_length_le (by rw [HND.out]; omega)
                rw [e2, show n - kk = 0 by omega]
                rcases hu.1 e with h0 | ⟨ad, c, h0, _⟩
                · exact .inl h0
                · exact .inr ⟨ad, c, h0, fun j y hj => by cases hj⟩
            have hAs : 0 < n → ∃ b2, A = some ⟨b2, 0, none⟩ := fun hn => by
              cases A with
              | none => have := (hA0 rfl).1; omega
              | some ad => obtain ⟨b2, rfl⟩ := hAb ad rfl; exact ⟨b2, rfl⟩
            have srefl : ∀ (i : Nat) (W : World), SD (nD kk i) x.1 W W := fun i W => SD.refl
            have hix0 : (0 : Int) ≤ ix := by omega
            have hk0 : (0 : Int) ≤ kk := by omega
            have hkc : (kk : Int) ≤ cap := by omega
            have hkc2 : kk ≤ cap := by omega
            have hkn3 : (kk : Int) ≤ n := by omega
            have hnc : (n : Int) ≤ cap := by omega
            refine wp_region_rgk (VD W6 h b nx capx ix n cap kk A D x.1) (fun L W => Below W6.heap.size W6 W) (fun i => SD (nD kk i) x.1) (by kernel_rfl) (by kernel_rfl) (fun i j v' w' w'' hij hind hv hg => VD.on (by omega) (by omega) hij (fun hj hi => by subst hj; subst hi; exact absurd (hind.symm.trans (show indepB _ 27 23 = false by kernel_rfl)) (by decide)) hv hg) hJ0 ?_
            clear hJ0
            simp only [RAll]
            refine ⟨?_, ?_, ?_, ?_, ?_, ?_, ?_, ?_, ?_, ?_, ?_, ?_, ?_, ?_, ?_, ?_, ?_, ?_, ?_, ?_, ?_, ?_, ?_, ?_, ?_, ?_, ?_, ?_, ?_⟩
            · refine RStepK.of rfl fun T W L hag hL hJ hLs hd => ?_   -- 0: 46 := Op.buildSlice 39 0 #[]
              clear hag hd
              go_simp
              exact ⟨_, rfl, ⟨_, rfl, heap_alloc_new W _, hJ.size⟩, hJ.alloc hJ.size _, SD.none (World.grownBy_alloc W _ none)⟩
            · refine RStepK.of rfl fun T W L hag hL hJ hLs hd => ?_   -- 1: 47 := Op.move (Operand.tmp 3)
              have e3 : T.getD 3 undef = _ := (agree_at hag 3 (by kernel_rfl)).trans rfl
              clear hag hd
              go_simp
              exact ⟨_, rfl, rfl⟩
            · refine RStepK.of rfl fun T W L hag hL hJ hLs hd => ?_   -- 2: 48 := Op.move (Operand.tmp 5)
              have e5 : T.getD 5 undef = _ := (agree_at hag 5 (by kernel_rfl)).trans rfl
              clear hag hd
              go_simp
              exact ⟨_, rfl, rfl⟩
            · refine RStepK.of rfl fun T W L hag hL hJ hLs hd => ?_   -- 3: 49 := Op.slice 39 (Operand.tmp 47) none (some (Operand.tmp 48)) no
              have d47 : T.getD 47 undef = _ := hd ⟨1, .data⟩ (by simp) rfl _ rfl
              have d48 : T.getD 48 undef = _ := hd ⟨2, .data⟩ (by simp) rfl _ rfl
              clear hag hd
              cases A with
              | none => 
                obtain ⟨e1, e2⟩ := hA0 rfl
                obtain rfl : kk = 0 := by omega
                subst e1; subst e2
                go_simp
                exact ⟨_, rfl, rfl⟩
              | some ad =>
                obtain ⟨b2, rfl⟩ := hAb ad rfl
                go_simp
                exact ⟨_, rfl, rfl⟩
            · refine RStepK.of rfl fun T W L hag hL hJ hLs hd => ?_   -- 4: 50 := Op.call { callee := Callee.builtin Builtin.append, args := #
              have x46 := hd ⟨0, .data⟩ (by simp) rfl _ rfl
              have d49 : T.getD 49 undef = _ := hd ⟨3, .data⟩ (by simp) rfl _ rfl
              obtain ⟨g0, e46, hg0, hge0⟩ := x46
              have e46 : T.getD 46 undef = .slice (some ⟨g0, 0, none⟩) 0 0 := e46
              clear hag hd
              have ho0 : W.ownsRow 0 36 58 (.slice (some ⟨g0, 0, none⟩) 0 0) 0 [] := ⟨rfl, .inr ⟨g0, 0, #[], rfl, Nat.zero_le _, hg0, Nat.le_refl _, Nat.zero_le _, rfl, rfl⟩⟩
              refine wp_app_W (.tmp 46) (.tmp 49) rfl _ 0 [] e46 ho0 _ kk (rowL wrL (D.take kk)) d49 (HS4.out W hJ) HL4.out (rowL_one wrL_one _) (by omega) ?_
              intro v' w' h1 h2 h3 h4 h5 h6
              have hgn : W.grownBy w' none := ⟨h2.os, h2.tape, h2.output, h2.size, fun g hg _ => by
                by_cases e : g = g0
                · subst e; exact h5 g _ _ hg0 (by simp)
                · exact h2.block g hg (fun e' => e (by injection e'))⟩
              refine ⟨_, rfl, ⟨by simpa using h1, fun y hy => ?_, fun hk => ⟨g0, h6 hk⟩⟩, hJ.grown h2 hJ.size (fun y hy => by injection hy with hy; subst hy; exact hge0), SD.none hgn⟩
              rcases h3 with h3 | h3
              · rw [h3] at hy; injection hy with hy; subst hy; exact hge0
              · rw [h3] at hy; injection hy with hy; subst hy; exact hJ.size
            · refine RStepK.of rfl fun T W L hag hL hJ hLs hd => ?_   -- 5: 51 := Op.move (Operand.tmp 0)
              have e0 : T.getD 0 undef = _ := (agree_at hag 0 (by kernel_rfl)).trans rfl
              clear hag hd
              go_simp
              exact ⟨_, rfl, rfl⟩
            · refine RStepK.of rfl fun T W L hag hL hJ hLs hd => ?_   -- 6: 52 := Op.nilCheck (Operand.tmp 51)
              have d51 : T.getD 51 undef = _ := hd ⟨5, .data⟩ (by simp) rfl _ rfl
              clear hag hd
              go_simp
              exact ⟨_, rfl, rfl⟩
            · refine RStepK.of rfl fun T W L hag hL hJ hLs hd => ?_   -- 7: 53 := Op.fieldAddr 44 (Operand.tmp 52) 1
              have d52 : T.getD 52 undef = _ := hd ⟨6, .data⟩ (by simp) rfl _ rfl
              clear hag hd
              go_simp
              exact ⟨_, rfl, rfl⟩
            · refine RStepK.of rfl fun T W L hag hL hJ hLs hd => ?_   -- 8: 54 := Op.load 42 (Operand.tmp 53)
              have d53 : T.getD 53 undef = _ := hd ⟨7, .data⟩ (by simp) rfl _ rfl
              have fct0 := HC.out W hJ
              clear hag hd
              go_simp
              exact ⟨_, rfl, rfl⟩
            · refine RStepK.of rfl fun T W L hag hL hJ hLs hd => ?_   -- 9: 55 := Op.move (Operand.tmp 4)
              have e4 : T.getD 4 undef = _ := (agree_at hag 4 (by kernel_rfl)).trans rfl
              clear hag hd
              go_simp
              exact ⟨_, rfl, rfl⟩
            · refine RStepK.of rfl fun T W L hag hL hJ hLs hd => ?_   -- 10: 56 := Op.indexAddr 42 (Operand.tmp 54) (Operand.tmp 55)
              have d54 : T.getD 54 undef = _ := hd ⟨8, .data⟩ (by simp) rfl _ rfl
              have d55 : T.getD 55 undef = _ := hd ⟨9, .data⟩ (by simp) rfl _ rfl
              clear hag hd
              go_simp
              exact ⟨_, rfl, rfl⟩
            · refine RStepK.of rfl fun T W L hag hL hJ hLs hd => ?_   -- 11: 57 := Op.fieldAddr 64 (Operand.tmp 56) 0
              have d56 : T.getD 56 undef = _ := hd ⟨10, .data⟩ (by simp) rfl _ rfl
              clear hag hd
              go_simp
              exact ⟨_, rfl, rfl⟩
            · refine RStepK.of rfl fun T W L hag hL hJ hLs hd => ?_   -- 12: 58 := Op.load 3 (Operand.tmp 57)
              have d57 : T.getD 57 undef = _ := hd ⟨11, .data⟩ (by simp) rfl _ rfl
              have fct0 := HT.out W hJ
              clear hag hd
              go_simp
              exact ⟨_, rfl, rfl⟩
            · refine RStepK.of rfl fun T W L hag hL hJ hLs hd => ?_   -- 13: 59 := Op.move (Operand.tmp 0)
              have e0 : T.getD 0 undef = _ := (agree_at hag 0 (by kernel_rfl)).trans rfl
              clear hag hd
              go_simp
              exact ⟨_, rfl, rfl⟩
            · refine RStepK.of rfl fun T W L hag hL hJ hLs hd => ?_   -- 14: 60 := Op.nilCheck (Operand.tmp 59)
              have d59 : T.getD 59 undef = _ := hd ⟨13, .data⟩ (by simp) rfl _ rfl
              clear hag hd
              go_simp
              exact ⟨_, rfl, rfl⟩
            · refine RStepK.of rfl fun T W L hag hL hJ hLs hd => ?_   -- 15: 61 := Op.fieldAddr 44 (Operand.tmp 60) 1
              have d60 : T.getD 60 undef = _ := hd ⟨14, .data⟩ (by simp) rfl _ rfl
              clear hag hd
              go_simp
              exact ⟨_, rfl, rfl⟩
            · refine RStepK.of rfl fun T W L hag hL hJ hLs hd => ?_   -- 16: 62 := Op.load 42 (Operand.tmp 61)
              have d61 : T.getD 61 undef = _ := hd ⟨15, .data⟩ (by simp) rfl _ rfl
              have fct0 := HC.out W hJ
              clear hag hd
              go_simp
              exact ⟨_, rfl, rfl⟩
            · refine RStepK.of rfl fun T W L hag hL hJ hLs hd => ?_   -- 17: 63 := Op.move (Operand.tmp 4)
              have e4 : T.getD 4 undef = _ := (agree_at hag 4 (by kernel_rfl)).trans rfl
              clear hag hd
              go_simp
              exact ⟨_, rfl, rfl⟩
            · refine RStepK.of rfl fun T W L hag hL hJ hLs hd => ?_   -- 18: 64 := Op.indexAddr 42 (Operand.tmp 62) (Operand.tmp 63)
              have d62 : T.getD 62 undef = _ := hd ⟨16, .data⟩ (by simp) rfl _ rfl
              have d63 : T.getD 63 undef = _ := hd ⟨17, .data⟩ (by simp) rfl _ rfl
              clear hag hd
              go_simp
              exact ⟨_, rfl, rfl⟩
            · refine RStepK.of rfl fun T W L hag hL hJ hLs hd => ?_   -- 19: 65 := Op.fieldAddr 64 (Operand.tmp 64) 1
              have d64 : T.getD 64 undef = _ := hd ⟨18, .data⟩ (by simp) rfl _ rfl
              clear hag hd
              go_simp
              exact ⟨_, rfl, rfl⟩
            · refine RStepK.of rfl fun T W L hag hL hJ hLs hd => ?_   -- 20: 66 := Op.load 32 (Operand.tmp 65)
              have d65 : T.getD 65 undef = _ := hd ⟨19, .data⟩ (by simp) rfl _ rfl
              clear hag hd
              exact wp_load_mid 32 (.tmp 65) rfl b (ix * 59 + 1) d65 (blkL x.1.k x.1.bs) _ (HRB.out W hJ) Try.underlying32 rfl (by rw [blkL_length' hx56]; exact size24b) ⟨_, rfl, rfl, hJ, SD.refl⟩
            · refine RStepK.of rfl fun T W L hag hL hJ hLs hd => ?_   -- 21: 67 := Op.build 36 #[(0, Operand.tmp 58), (1, Operand.tmp 66)]
              have d58 : T.getD 58 undef = _ := hd ⟨12, .data⟩ (by simp) rfl _ rfl
              have d66 : T.getD 66 undef = _ := hd ⟨20, .data⟩ (by simp) rfl _ rfl
              clear hag hd
              exact wp_buildWb (.tmp 58) (.tmp 66) x.1.t x.1.k x.1.bs hx56 rfl d58 d66 ⟨_, rfl, rfl, hJ, SD.refl⟩
            · refine RStepK.of rfl fun T W L hag hL hJ hLs hd => ?_   -- 22: 68 := Op.buildSlice 39 1 #[(0, Operand.tmp 67)]
              have d67 : T.getD 67 undef = _ := hd ⟨21, .data⟩ (by simp) rfl _ rfl
              clear hag hd
              exact wp_oneWr (.tmp 67) rfl x.1 hx56 d67 ⟨_, rfl, ⟨_, rfl, heap_alloc_new W _, hJ.size⟩, hJ.alloc hJ.size _, SD.none (World.grownBy_alloc W _ none)⟩
            · refine RStepK.of rfl fun T W L hag hL hJ hLs hd => ?_   -- 23: 69 := Op.call { callee := Callee.builtin Builtin.append, args := #
              have x50 := hd ⟨4, .data⟩ (by simp) rfl _ rfl
              have x68 := hd ⟨22, .data⟩ (by simp) rfl _ rfl
              obtain ⟨g, e68, hg, hge⟩ := x68
              have e68 : T.getD 68 undef = .slice (some ⟨g, 0, none⟩) 1 1 := e68
              have x50 : W.ownsRow 0 36 58 (T.getD 50 undef) kk (rowL wrL (D.take kk)) ∧ (∀ g, (T.getD 50 undef).ownBlock = some g → W6.heap.size ≤ g) ∧ (kk = 0 → ∃ g, (T.getD 50 undef) = .slice (some ⟨g, 0, none⟩) 0 0) := x50
              clear hag hd
              refine wp_app_W (.tmp 50) (.tmp 68) rfl _ kk _ rfl x50.1 _ 1 (rowL wrL [x.1]) e68 (.inr ⟨_, _, rfl, fun j u hj => by rw [Addr.add_mid, Nat.zero_add, blk_cell hg]; unfold wrA; simpa [rowL] using hj⟩) (by simp [rowL, wrL_length hx56]) (rowL_one wrL_one _) (by omega) ?_
              intro v' w' h1 h2 h3 h4 h5 h6
              rw [← rowL_append] at h1
              refine ⟨_, rfl, ⟨h1, fun y hy => ?_⟩, hJ.grown h2 hJ.size x50.2.1, ⟨fun v n2 xs hn => h4 v n2 xs hn, fun g2 hg2 => ?_, fun g2 hg2 => by rw [h5 g2 _ _ hg2 (by simp)]; exact hg2⟩⟩
              · rcases h3 with h3 | h3
                · exact x50.2.1 y (h3.symm.trans hy)
                · rw [h3] at hy; injection hy with hy; subst hy; exact hJ.size
              · by_cases hk : kk = 0
                · obtain ⟨g3, e3⟩ := x50.2.2 hk
                  have h2' : W.grownBy w' (some g3) := by have h2' : W.grownBy w' (T.getD 50 undef).ownBlock := h2; rw [e3] at h2'; exact h2'
                  have ho := x50.1
                  rw [e3, hk] at ho
                  obtain ⟨cur, hc, _, _, hcs, _, _⟩ := own_blk ho
                  rw [h2'.block g2 (room_lt hg2) (fun e => by injection e with e; rw [e, hc] at hg2; injection hg2 with hg2; injection hg2 with hg2; have := congrArg Array.size hg2; rw [wrA_size hx56, hcs] at this; omega)]; exact hg2
                · rw [h5 g2 _ _ hg2 (by rw [wrA_size hx56]; omega)]; exact hg2
            · refine RStepK.of rfl fun T W L hag hL hJ hLs hd => ?_   -- 24: 70 := Op.move (Operand.tmp 3)
              have e3 : T.getD 3 undef = _ := (agree_at hag 3 (by kernel_rfl)).trans rfl
              clear hag hd
              go_simp
              exact ⟨_, rfl, rfl⟩
            · refine RStepK.of rfl fun T W L hag hL hJ hLs hd => ?_   -- 25: 71 := Op.move (Operand.tmp 5)
              have e5 : T.getD 5 undef = _ := (agree_at hag 5 (by kernel_rfl)).trans rfl
              clear hag hd
              go_simp
              exact ⟨_, rfl, rfl⟩
            · refine RStepK.of rfl fun T W L hag hL hJ hLs hd => ?_   -- 26: 72 := Op.slice 39 (Operand.tmp 70) (some (Operand.tmp 71)) none no
              have d70 : T.getD 70 undef = _ := hd ⟨24, .data⟩ (by simp) rfl _ rfl
              have d71 : T.getD 71 undef = _ := hd ⟨25, .data⟩ (by simp) rfl _ rfl
              clear hag hd
              by_cases hkn : kk < n
              · obtain ⟨b2, eA⟩ := hAs (by omega)
                subst eA
                go_simp
                refine ⟨_, rfl, ⟨fun e => by omega, fun _ => ?_⟩⟩
                rw [if_neg (by omega)]
                exact ⟨_, _, rfl, rfl⟩
              · obtain rfl : n = kk := by omega
                cases A with
                | none =>
                  obtain ⟨e1, e2⟩ := hA0 rfl
                  subst e1; subst e2
                  go_simp
                  exact ⟨_, rfl, ⟨fun _ => .inl ⟨rfl, rfl⟩, fun h0 => by omega⟩⟩
                | some ad =>
                  obtain ⟨b2, rfl⟩ := hAb ad rfl
                  go_simp
                  refine ⟨_, rfl, ⟨fun _ => ?_, fun h0 => by omega⟩⟩
                  split
                  · exact .inr ⟨_, _, rfl, fun j u hj => by cases hj⟩
                  · exact .inr ⟨_, _, rfl, fun j u hj => by cases hj⟩
            · refine RStepK.of rfl fun T W L hag hL hJ hLs hd => ?_   -- 27: 73 := Op.call { callee := Callee.builtin Builtin.append, args := #
              have x69 := hd ⟨23, .data⟩ (by simp) rfl _ rfl
              have x72 := hd ⟨26, .data⟩ (by simp) rfl _ rfl
              have x69 : W.ownsRow 0 36 58 (T.getD 69 undef) (kk + 1) (rowL wrL (D.take kk ++ [x.1])) ∧ ∀ g, (T.getD 69 undef).ownBlock = some g → W6.heap.size ≤ g := x69
              have x72 : (n = kk → Src W6 (T.getD 72 undef) 0 []) ∧ (kk < n → ∃ b2 c, A = some ⟨b2, 0, none⟩ ∧ T.getD 72 undef = .slice (some ⟨b2, kk * 58, none⟩) (n - kk) c) := x72
              clear hag hd
              refine wp_app_W (.tmp 69) (.tmp 72) rfl _ (kk + 1) _ rfl x69.1 _ (n - kk) (rowL wrL (D.drop kk)) rfl (HS27.out W hJ _ x72) HL27.out (rowL_one wrL_one _) (by omega) ?_
              intro v' w' h1 h2 h3 h4 h5 h6
              rw [← rowL_append, show kk + 1 + (n - kk) = n + 1 by omega] at h1
              refine ⟨_, rfl, ⟨h1, fun y hy => ?_⟩, hJ.grown h2 hJ.size x69.2, ⟨fun v n2 xs hn => h4 v n2 xs hn, fun g2 hg2 => ?_, fun g2 hg2 => by rw [h5 g2 _ _ hg2 (by simp)]; exact hg2⟩⟩
              · rcases h3 with h3 | h3
                · exact x69.2 y (h3.symm.trans hy)
                · rw [h3] at hy; injection hy with hy; subst hy; exact hJ.size
              · rw [h5 g2 _ _ hg2 (by rw [wrA_size hx56]; omega)]; exact hg2
            · refine RLastK.of rfl fun T W L hag hLs hL hJ hd => ?_
              have x73 : W.ownsRow 0 36 58 (T.getD 73 undef) (n + 1) (rowL wrL (D.take kk ++ [x.1] ++ D.drop kk)) ∧ ∀ g, (T.getD 73 undef).ownBlock = some g → W6.heap.size ≤ g := hd 27 _ (by simp) rfl
              obtain ⟨f, hf, hT⟩ := agree_fn hag
              have h73 := hf 73
              rw [← h73] at x73
              have HX73 := Lib.hid x73
              have HJ := Lib.hid hJ
              clear hag hd x73 h73 hJ hf hLs hL
              rw [hT]
              clear hT
              simp only [List.pop_toArray, List.dropLast_cons_cons, List.dropLast_singleton, List.filterMap_cons, List.filterMap_nil, List.foldl_cons, List.foldl_nil]
              obtain ⟨vn, hvn⟩ : ∃ vn, vn = f 73 := ⟨_, rfl⟩
              rw [← hvn] at HX73 ⊢
              clear hvn HR6 HO6 HC HT HRB HL4 HL27 HS4 HS27 srefl
              have hlen : (D.take kk ++ [x.1] ++ D.drop kk).length = n + 1 := by
                rw [(ins_perm D kk x.1).length_eq, List.length_append, HND.out]; rfl
              have HOW : Hid (W.ownsRow w.heap.size 36 58 vn (D.take kk ++ [x.1] ++ D.drop kk).length (rowL wrL (D.take kk ++ [x.1] ++ D.drop kk))) := by
                unfold Hid; rw [hlen]
                exact own_base HX73.out.1 (fun g hg => Nat.le_trans HB6.out.size (HX73.out.2 g hg))
              have HPE : Hid ((D.take kk ++ [x.1] ++ D.drop kk).Perm (dirtyE (X.take (ix + 1)))) := by
                unfold Hid; rw [HDN.out]
                exact (ins_perm D kk x.1).trans (HP.out.append_right _)
              have HSO : Hid (SortW (D.take kk ++ [x.1] ++ D.drop kk)) := HS.out.ins HLT.out HINS.out
              have HBE := Lib.hid (keepB HB6.out HJ.out)
              clear HX73 HJ hlen
              generalize D.take kk ++ [x.1] ++ D.drop kk = D2 at *
              go_wp2_with fail
              go_roundw
              case rel => exact ⟨ix + 1, D2, by go_num, by omega, HOW, HPE, HSO, HBE⟩
              case measure => simp [intOf]; omega
          · have d1 : decide ((kk : Int) < n) = false := decide_eq_false (by omega)
            have HINS : Hid (∀ z, D[kk]? = some z → ¬ z.t < x.1.t) := fun z hz => by
              have := (List.getElem?_eq_some_iff.1 hz).1
              rw [HND.out] at this
              omega
            go_upto_region 7 with fail
            go_quiet (fail)
            have HR6 := Lib.hid ((HH.out.below (keepB HB.out (bdn HBW.out nq))))
            have HO6 : Hid ((W5.drewN nq).ownsRow w.heap.size 36 58 (.slice A n cap) n (rowL wrL D)) := HO5.out
            have HB6 := Lib.hid (keepB HB.out (bdn HBW.out nq))
            clear q1 q2 HO5 HO HB HBW
            generalize W5.drewN nq = W6 at *
            go_upto_region 9 with fail
            have hJ0 : Below W6.heap.size W6 W6.drew := (Below.refl _ _).drew
            have HC : Hid (∀ W, Below W6.heap.size W6 W → W.cell? ⟨h, 1, none⟩ = some (.slice (some ⟨b, 0, none⟩) nx capx)) := fun W hb => (HR6.out.below hb).c1
            have HT : Hid (∀ W, Below W6.heap.size W6 W → W.cell? ⟨b, ix * 59, none⟩ = some (.int .i64 x.1.t)) := fun W hb => (HR6.out.below hb).cell0 HXI.out
            have HRB : Hid (∀ W, Below W6.heap.size W6 W → W.rangeAt b (ix * 59 + 1) (blkL x.1.k x.1.bs)) := fun W hb => (HR6.out.below hb).rangeB HXI.out
            have HL4 : Hid ((rowL wrL (D.take kk)).length = kk * 58) := by
              unfold Hid; rw [rowL_length (fun y hy => HF56.out y (List.mem_of_mem_take hy)), List.length_take, HND.out]; congr 1; omega
            have HL27 : Hid ((rowL wrL (D.drop kk)).length = (n - kk) * 58) := by
              unfold Hid; rw [rowL_length (fun y hy => HF56.out y (List.mem_of_mem_drop hy)), List.length_drop, HND.out]
            have HS4 : Hid (∀ W, Below W6.heap.size W6 W → Src W (.slice A kk cap) kk (rowL wrL (D.take kk))) := fun W hb => by
              have ho := ownB HO6.out hb
              cases A with
              | none =>
                obtain ⟨e1, e2⟩ := hA0 rfl
                obtain rfl : kk = 0 := by omega
                exact .inl ⟨by rw [e2], rfl⟩
              | some ad =>
                obtain ⟨b2, rfl⟩ := hAb ad rfl
                refine .inr ⟨_, cap, rfl, fun j u hj => ?_⟩
                rw [Addr.add_mid, Nat.zero_add]
                refine own_cell ho ?_
                rw [← rowL_take HF56.out, List.getElem?_take] at hj
                split at hj
                · exact hj
                · cases hj
            have HS27 : Hid (∀ W, Below W6.heap.size W6 W → ∀ u, ((n = kk → Src W6 u 0 []) ∧ (kk < n → ∃ b2 c, A = some ⟨b2, 0, none⟩ ∧ u = .slice (some ⟨b2, kk * 58, none⟩) (n - kk) c)) → Src W u (n - kk) (rowL wrL (D.drop kk))) := fun W hb u hu => by
              by_cases hkn2 : kk < n
              · obtain ⟨b2, c, eA, eu⟩ := hu.2 hkn2
                subst eA
                have ho := ownB HO6.out hb
                refine .inr ⟨_, c, eu, fun j y hj => ?_⟩
                rw [Addr.add_mid]
                refine own_cell ho ?_
                rw [← rowL_drop HF56.out, List.getElem?_drop] at hj
                exact hj
              · have e : n = kk := by omega
                have e2 : D.drop kk = [] := List.drop_of_length_le (by rw [HND.out]; omega)
                rw [e2, show n - kk = 0 by omega]
                rcases hu.1 e with h0 | ⟨ad, c, h0, _⟩
                · exact .inl h0
                · exact .inr ⟨ad, c, h0, fun j y hj => by cases hj⟩
            have hAs : 0 < n → ∃ b2, A = some ⟨b2, 0, none⟩ := fun hn => by
              cases A with
              | none => have := (hA0 rfl).1; omega
              | some ad => obtain ⟨b2, rfl⟩ := hAb ad rfl; exact ⟨b2, rfl⟩
            have srefl : ∀ (i : Nat) (W : World), SD (nD kk i) x.1 W W := fun i W => SD.refl
            have hix0 : (0 : Int) ≤ ix := by omega
            have hk0 : (0 : Int) ≤ kk := by omega
            have hkc : (kk : Int) ≤ cap := by omega
            have hkc2 : kk ≤ cap := by omega
            have hkn3 : (kk : Int) ≤ n := by omega
            have hnc : (n : Int) ≤ cap := by omega
            refine wp_region_rgk (VD W6 h b nx capx ix n cap kk A D x.1) (fun L W => Below W6.heap.size W6 W) (fun i => SD (nD kk i) x.1) (by kernel_rfl) (by kernel_rfl) (fun i j v' w' w'' hij hind hv hg => VD.on (by omega) (by omega) hij (fun hj hi => by subst hj; subst hi; exact absurd (hind.symm.trans (show indepB _ 27 23 = false by kernel_rfl)) (by decide)) hv hg) hJ0 ?_
            clear hJ0
            simp only [RAll]
            refine ⟨?_, ?_, ?_, ?_, ?_, ?_, ?_, ?_, ?_, ?_, ?_, ?_, ?_, ?_, ?_, ?_, ?_, ?_, ?_, ?_, ?_, ?_, ?_, ?_, ?_, ?_, ?_, ?_, ?_⟩
            · refine RStepK.of rfl fun T W L hag hL hJ hLs hd => ?_   -- 0: 46 := Op.buildSlice 39 0 #[]
              clear hag hd
              go_simp
              exact ⟨_, rfl, ⟨_, rfl, heap_alloc_new W _, hJ.size⟩, hJ.alloc hJ.size _, SD.none (World.grownBy_alloc W _ none)⟩
            · refine RStepK.of rfl fun T W L hag hL hJ hLs hd => ?_   -- 1: 47 := Op.move (Operand.tmp 3)
              have e3 : T.getD 3 undef = _ := (agree_at hag 3 (by kernel_rfl)).trans rfl
              clear hag hd
              go_simp
              exact ⟨_, rfl, rfl⟩
            · refine RStepK.of rfl fun T W L hag hL hJ hLs hd => ?_   -- 2: 48 := Op.move (Operand.tmp 5)
              have e5 : T.getD 5 undef = _ := (agree_at hag 5 (by kernel_rfl)).trans rfl
              clear hag hd
              go_simp
              exact ⟨_, rfl, rfl⟩
            · refine RStepK.of rfl fun T W L hag hL hJ hLs hd => ?_   -- 3: 49 := Op.slice 39 (Operand.tmp 47) none (some (Operand.tmp 48)) no
              have d47 : T.getD 47 undef = _ := hd ⟨1, .data⟩ (by simp) rfl _ rfl
              have d48 : T.getD 48 undef = _ := hd ⟨2, .data⟩ (by simp) rfl _ rfl
              clear hag hd
              cases A with
              | none => 
                obtain ⟨e1, e2⟩ := hA0 rfl
                obtain rfl : kk = 0 := by omega
                subst e1; subst e2
                go_simp
                exact ⟨_, rfl, rfl⟩
              | some ad =>
                obtain ⟨b2, rfl⟩ := hAb ad rfl
                go_simp
                exact ⟨_, rfl, rfl⟩
            · refine RStepK.of rfl fun T W L hag hL hJ hLs hd => ?_   -- 4: 50 := Op.call { callee := Callee.builtin Builtin.append, args := #
              have x46 := hd ⟨0, .data⟩ (by simp) rfl _ rfl
              have d49 : T.getD 49 undef = _ := hd ⟨3, .data⟩ (by simp) rfl _ rfl
              obtain ⟨g0, e46, hg0, hge0⟩ := x46
              have e46 : T.getD 46 undef = .slice (some ⟨g0, 0, none⟩) 0 0 := e46
              clear hag hd
              have ho0 : W.ownsRow 0 36 58 (.slice (some ⟨g0, 0, none⟩) 0 0) 0 [] := ⟨rfl, .inr ⟨g0, 0, #[], rfl, Nat.zero_le _, hg0, Nat.le_refl _, Nat.zero_le _, rfl, rfl⟩⟩
              refine wp_app_W (.tmp 46) (.tmp 49) rfl _ 0 [] e46 ho0 _ kk (rowL wrL (D.take kk)) d49 (HS4.out W hJ) HL4.out (rowL_one wrL_one _) (by omega) ?_
              intro v' w' h1 h2 h3 h4 h5 h6
              have hgn : W.grownBy w' none := ⟨h2.os, h2.tape, h2.output, h2.size, fun g hg _ => by
                by_cases e : g = g0
                · subst e; exact h5 g _ _ hg0 (by simp)
                · exact h2.block g hg (fun e' => e (by injection e'))⟩
              refine ⟨_, rfl, ⟨by simpa using h1, fun y hy => ?_, fun hk => ⟨g0, h6 hk⟩⟩, hJ.grown h2 hJ.size (fun y hy => by injection hy with hy; subst hy; exact hge0), SD.none hgn⟩
              rcases h3 with h3 | h3
              · rw [h3] at hy; injection hy with hy; subst hy; exact hge0
              · rw [h3] at hy; injection hy with hy; subst hy; exact hJ.size
            · refine RStepK.of rfl fun T W L hag hL hJ hLs hd => ?_   -- 5: 51 := Op.move (Operand.tmp 0)
              have e0 : T.getD 0 undef = _ := (agree_at hag 0 (by kernel_rfl)).trans rfl
              clear hag hd
              go_simp
              exact ⟨_, rfl, rfl⟩
            · refine RStepK.of rfl fun T W L hag hL hJ hLs hd => ?_   -- 6: 52 := Op.nilCheck (Operand.tmp 51)
              have d51 : T.getD 51 undef = _ := hd ⟨5, .data⟩ (by simp) rfl _ rfl
              clear hag hd
              go_simp
              exact ⟨_, rfl, rfl⟩
            · refine RStepK.of rfl fun T W L hag hL hJ hLs hd => ?_   -- 7: 53 := Op.fieldAddr 44 (Operand.tmp 52) 1
              have d52 : T.getD 52 undef = _ := hd ⟨6, .data⟩ (by simp) rfl _ rfl
              clear hag hd
              go_simp
              exact ⟨_, rfl, rfl⟩
            · refine RStepK.of rfl fun T W L hag hL hJ hLs hd => ?_   -- 8: 54 := Op.load 42 (Operand.tmp 53)
              have d53 : T.getD 53 undef = _ := hd ⟨7, .data⟩ (by simp) rfl _ rfl
              have fct0 := HC.out W hJ
              clear hag hd
              go_simp
              exact ⟨_, rfl, rfl⟩
            · refine RStepK.of rfl fun T W L hag hL hJ hLs hd => ?_   -- 9: 55 := Op.move (Operand.tmp 4)
              have e4 : T.getD 4 undef = _ := (agree_at hag 4 (by kernel_rfl)).trans rfl
              clear hag hd
              go_simp
              exact ⟨_, rfl, rfl⟩
            · refine RStepK.of rfl fun T W L hag hL hJ hLs hd => ?_   -- 10: 56 := Op.indexAddr 42 (Operand.tmp 54) (Operand.tmp 55)
              have d54 : T.getD 54 undef = _ := hd ⟨8, .data⟩ (by simp) rfl _ rfl
              have d55 : T.getD 55 undef = _ := hd ⟨9, .data⟩ (by simp) rfl _ rfl
              clear hag hd
              go_simp
              exact ⟨_, rfl, rfl⟩
            · refine RStepK.of rfl fun T W L hag hL hJ hLs hd => ?_   -- 11: 57 := Op.fieldAddr 64 (Operand.tmp 56) 0
              have d56 : T.getD 56 undef = _ := hd ⟨10, .data⟩ (by simp) rfl _ rfl
              clear hag hd
              go_simp
              exact ⟨_, rfl, rfl⟩
            · refine RStepK.of rfl fun T W L hag hL hJ hLs hd => ?_   -- 12: 58 := Op.load 3 (Operand.tmp 57)
              have d57 : T.getD 57 undef = _ := hd ⟨11, .data⟩ (by simp) rfl _ rfl
              have fct0 := HT.out W hJ
              clear hag hd
              go_simp
              exact ⟨_, rfl, rfl⟩
            · refine RStepK.of rfl fun T W L hag hL hJ hLs hd => ?_   -- 13: 59 := Op.move (Operand.tmp 0)
              have e0 : T.getD 0 undef = _ := (agree_at hag 0 (by kernel_rfl)).trans rfl
              clear hag hd
              go_simp
              exact ⟨_, rfl, rfl⟩
            · refine RStepK.of rfl fun T W L hag hL hJ hLs hd => ?_   -- 14: 60 := Op.nilCheck (Operand.tmp 59)
              have d59 : T.getD 59 undef = _ := hd ⟨13, .data⟩ (by simp) rfl _ rfl
              clear hag hd
              go_simp
              exact ⟨_, rfl, rfl⟩
            · refine RStepK.of rfl fun T W L hag hL hJ hLs hd => ?_   -- 15: 61 := Op.fieldAddr 44 (Operand.tmp 60) 1
              have d60 : T.getD 60 undef = _ := hd ⟨14, .data⟩ (by simp) rfl _ rfl
              clear hag hd
              go_simp
              exact ⟨_, rfl, rfl⟩
            · refine RStepK.of rfl fun T W L hag hL hJ hLs hd => ?_   -- 16: 62 := Op.load 42 (Operand.tmp 61)
              have d61 : T.getD 61 undef = _ := hd ⟨15, .data⟩ (by simp) rfl _ rfl
              have fct0 := HC.out W hJ
              clear hag hd
              go_simp
              exact ⟨_, rfl, rfl⟩
            · refine RStepK.of rfl fun T W L hag hL hJ hLs hd => ?_   -- 17: 63 := Op.move (Operand.tmp 4)
              have e4 : T.getD 4 undef = _ := (agree_at hag 4 (by kernel_rfl)).trans rfl
              clear hag hd
              go_simp
              exact ⟨_, rfl, rfl⟩
            · refine RStepK.of rfl fun T W L hag hL hJ hLs hd => ?_   -- 18: 64 := Op.indexAddr 42 (Operand.tmp 62) (Operand.tmp 63)
              have d62 : T.getD 62 undef = _ := hd ⟨16, .data⟩ (by simp) rfl _ rfl
              have d63 : T.getD 63 undef = _ := hd ⟨17, .data⟩ (by simp) rfl _ rfl
              clear hag hd
              go_simp
              exact ⟨_, rfl, rfl⟩
            · refine RStepK.of rfl fun T W L hag hL hJ hLs hd => ?_   -- 19: 65 := Op.fieldAddr 64 (Operand.tmp 64) 1
              have d64 : T.getD 64 undef = _ := hd ⟨18, .data⟩ (by simp) rfl _ rfl
              clear hag hd
              go_simp
              exact ⟨_, rfl, rfl⟩
            · refine RStepK.of rfl fun T W L hag hL hJ hLs hd => ?_   -- 20: 66 := Op.load 32 (Operand.tmp 65)
              have d65 : T.getD 65 undef = _ := hd ⟨19, .data⟩ (by simp) rfl _ rfl
              clear hag hd
              exact wp_load_mid 32 (.tmp 65) rfl b (ix * 59 + 1) d65 (blkL x.1.k x.1.bs) _ (HRB.out W hJ) Try.underlying32 rfl (by rw [blkL_length' hx56]; exact size24b) ⟨_, rfl, rfl, hJ, SD.refl⟩
            · refine RStepK.of rfl fun T W L hag hL hJ hLs hd => ?_   -- 21: 67 := Op.build 36 #[(0, Operand.tmp 58), (1, Operand.tmp 66)]
              have d58 : T.getD 58 undef = _ := hd ⟨12, .data⟩ (by simp) rfl _ rfl
              have d66 : T.getD 66 undef = _ := hd ⟨20, .data⟩ (by simp) rfl _ rfl
              clear hag hd
              exact wp_buildWb (.tmp 58) (.tmp 66) x.1.t x.1.k x.1.bs hx56 rfl d58 d66 ⟨_, rfl, rfl, hJ, SD.refl⟩
            · refine RStepK.of rfl fun T W L hag hL hJ hLs hd => ?_   -- 22: 68 := Op.buildSlice 39 1 #[(0, Operand.tmp 67)]
              have d67 : T.getD 67 undef = _ := hd ⟨21, .data⟩ (by simp) rfl _ rfl
              clear hag hd
              exact wp_oneWr (.tmp 67) rfl x.1 hx56 d67 ⟨_, rfl, ⟨_, rfl, heap_alloc_new W _, hJ.size⟩, hJ.alloc hJ.size _, SD.none (World.grownBy_alloc W _ none)⟩
            · refine RStepK.of rfl fun T W L hag hL hJ hLs hd => ?_   -- 23: 69 := Op.call { callee := Callee.builtin Builtin.append, args := #
              have x50 := hd ⟨4, .data⟩ (by simp) rfl _ rfl
              have x68 := hd ⟨22, .data⟩ (by simp) rfl _ rfl
              obtain ⟨g, e68, hg, hge⟩ := x68
              have e68 : T.getD 68 undef = .slice (some ⟨g, 0, none⟩) 1 1 := e68
              have x50 : W.ownsRow 0 36 58 (T.getD 50 undef) kk (rowL wrL (D.take kk)) ∧ (∀ g, (T.getD 50 undef).ownBlock = some g → W6.heap.size ≤ g) ∧ (kk = 0 → ∃ g, (T.getD 50 undef) = .slice (some ⟨g, 0, none⟩) 0 0) := x50
              clear hag hd
              refine wp_app_W (.tmp 50) (.tmp 68) rfl _ kk _ rfl x50.1 _ 1 (rowL wrL [x.1]) e68 (.inr ⟨_, _, rfl, fun j u hj => by rw [Addr.add_mid, Nat.zero_add, blk_cell hg]; unfold wrA; simpa [rowL] using hj⟩) (by simp [rowL, wrL_length hx56]) (rowL_one wrL_one _) (by omega) ?_
              intro v' w' h1 h2 h3 h4 h5 h6
              rw [← rowL_append] at h1
              refine ⟨_, rfl, ⟨h1, fun y hy => ?_⟩, hJ.grown h2 hJ.size x50.2.1, ⟨fun v n2 xs hn => h4 v n2 xs hn, fun g2 hg2 => ?_, fun g2 hg2 => by rw [h5 g2 _ _ hg2 (by simp)]; exact hg2⟩⟩
              · rcases h3 with h3 | h3
                · exact x50.2.1 y (h3.symm.trans hy)
                · rw [h3] at hy; injection hy with hy; subst hy; exact hJ.size
              · by_cases hk : kk = 0
                · obtain ⟨g3, e3⟩ := x50.2.2 hk
                  have h2' : W.grownBy w' (some g3) := by have h2' : W.grownBy w' (T.getD 50 undef).ownBlock := h2; rw [e3] at h2'; exact h2'
                  have ho := x50.1
                  rw [e3, hk] at ho
                  obtain ⟨cur, hc, _, _, hcs, _, _⟩ := own_blk ho
                  rw [h2'.block g2 (room_lt hg2) (fun e => by injection e with e; rw [e, hc] at hg2; injection hg2 with hg2; injection hg2 with hg2; have := congrArg Array.size hg2; rw [wrA_size hx56, hcs] at this; omega)]; exact hg2
                · rw [h5 g2 _ _ hg2 (by rw [wrA_size hx56]; omega)]; exact hg2
            · refine RStepK.of rfl fun T W L hag hL hJ hLs hd => ?_   -- 24: 70 := Op.move (Operand.tmp 3)
              have e3 : T.getD 3 undef = _ := (agree_at hag 3 (by kernel_rfl)).trans rfl
              clear hag hd
              go_simp
              exact ⟨_, rfl, rfl⟩
            · refine RStepK.of rfl fun T W L hag hL hJ hLs hd => ?_   -- 25: 71 := Op.move (Operand.tmp 5)
              have e5 : T.getD 5 undef = _ := (agree_at hag 5 (by kernel_rfl)).trans rfl
              clear hag hd
              go_simp
              exact ⟨_, rfl, rfl⟩
            · refine RStepK.of rfl fun T W L hag hL hJ hLs hd => ?_   -- 26: 72 := Op.slice 39 (Operand.tmp 70) (some (Operand.tmp 71)) none no
              have d70 : T.getD 70 undef = _ := hd ⟨24, .data⟩ (by simp) rfl _ rfl
              have d71 : T.getD 71 undef = _ := hd ⟨25, .data⟩ (by simp) rfl _ rfl
              clear hag hd
              by_cases hkn : kk < n
              · obtain ⟨b2, eA⟩ := hAs (by omega)
                subst eA
                go_simp
                refine ⟨_, rfl, ⟨fun e => by omega, fun _ => ?_⟩⟩
                rw [if_neg (by omega)]
                exact ⟨_, _, rfl, rfl⟩
              · obtain rfl : n = kk := by omega
                cases A with
                | none =>
                  obtain ⟨e1, e2⟩ := hA0 rfl
                  subst e1; subst e2
                  go_simp
                  exact ⟨_, rfl, ⟨fun _ => .inl ⟨rfl, rfl⟩, fun h0 => by omega⟩⟩
                | some ad =>
                  obtain ⟨b2, rfl⟩ := hAb ad rfl
                  go_simp
                  refine ⟨_, rfl, ⟨fun _ => ?_, fun h0 => by omega⟩⟩
                  split
                  · exact .inr ⟨_, _, rfl, fun j u hj => by cases hj⟩
                  · exact .inr ⟨_, _, rfl, fun j u hj => by cases hj⟩
            · refine RStepK.of rfl fun T W L hag hL hJ hLs hd => ?_   -- 27: 73 := Op.call { callee := Callee.builtin Builtin.append, args := #
              have x69 := hd ⟨23, .data⟩ (by simp) rfl _ rfl
              have x72 := hd ⟨26, .data⟩ (by simp) rfl _ rfl
              have x69 : W.ownsRow 0 36 58 (T.getD 69 undef) (kk + 1) (rowL wrL (D.take kk ++ [x.1])) ∧ ∀ g, (T.getD 69 undef).ownBlock = some g → W6.heap.size ≤ g := x69
              have x72 : (n = kk → Src W6 (T.getD 72 undef) 0 []) ∧ (kk < n → ∃ b2 c, A = some ⟨b2, 0, none⟩ ∧ T.getD 72 undef = .slice (some ⟨b2, kk * 58, none⟩) (n - kk) c) := x72
              clear hag hd
              refine wp_app_W (.tmp 69) (.tmp 72) rfl _ (kk + 1) _ rfl x69.1 _ (n - kk) (rowL wrL (D.drop kk)) rfl (HS27.out W hJ _ x72) HL27.out (rowL_one wrL_one _) (by omega) ?_
              intro v' w' h1 h2 h3 h4 h5 h6
              rw [← rowL_append, show kk + 1 + (n - kk) = n + 1 by omega] at h1
              refine ⟨_, rfl, ⟨h1, fun y hy => ?_⟩, hJ.grown h2 hJ.size x69.2, ⟨fun v n2 xs hn => h4 v n2 xs hn, fun g2 hg2 => ?_, fun g2 hg2 => by rw [h5 g2 _ _ hg2 (by simp)]; exact hg2⟩⟩
              · rcases h3 with h3 | h3
                · exact x69.2 y (h3.symm.trans hy)
                · rw [h3] at hy; injection hy with hy; subst hy; exact hJ.size
              · rw [h5 g2 _ _ hg2 (by rw [wrA_size hx56]; omega)]; exact hg2
            · refine RLastK.of rfl fun T W L hag hLs hL hJ hd => ?_
              have x73 : W.ownsRow 0 36 58 (T.getD 73 undef) (n + 1) (rowL wrL (D.take kk ++ [x.1] ++ D.drop kk)) ∧ ∀ g, (T.getD 73 undef).ownBlock = some g → W6.heap.size ≤ g := hd 27 _ (by simp) rfl
              obtain ⟨f, hf, hT⟩ := agree_fn hag
              have h73 := hf 73
              rw [← h73] at x73
              have HX73 := Lib.hid x73
              have HJ := Lib.hid hJ
              clear hag hd x73 h73 hJ hf hLs hL
              rw [hT]
              clear hT
              simp only [List.pop_toArray, List.dropLast_cons_cons, List.dropLast_singleton, List.filterMap_cons, List.filterMap_nil, List.foldl_cons, List.foldl_nil]
              obtain ⟨vn, hvn⟩ : ∃ vn, vn = f 73 := ⟨_, rfl⟩
              rw [← hvn] at HX73 ⊢
              clear hvn HR6 HO6 HC HT HRB HL4 HL27 HS4 HS27 srefl
              have hlen : (D.take kk ++ [x.1] ++ D.drop kk).length = n + 1 := by
                rw [(ins_perm D kk x.1).length_eq, List.length_append, HND.out]; rfl
              have HOW : Hid (W.ownsRow w.heap.size 36 58 vn (D.take kk ++ [x.1] ++ D.drop kk).length (rowL wrL (D.take kk ++ [x.1] ++ D.drop kk))) := by
                unfold Hid; rw [hlen]
                exact own_base HX73.out.1 (fun g hg => Nat.le_trans HB6.out.size (HX73.out.2 g hg))
              have HPE : Hid ((D.take kk ++ [x.1] ++ D.drop kk).Perm (dirtyE (X.take (ix + 1)))) := by
                unfold Hid; rw [HDN.out]
                exact (ins_perm D kk x.1).trans (HP.out.append_right _)
              have HSO : Hid (SortW (D.take kk ++ [x.1] ++ D.drop kk)) := HS.out.ins HLT.out HINS.out
              have HBE := Lib.hid (keepB HB6.out HJ.out)
              clear HX73 HJ hlen
              generalize D.take kk ++ [x.1] ++ D.drop kk = D2 at *
              go_wp2_with fail
              go_roundw
              case rel => exact ⟨ix + 1, D2, by go_num, by omega, HOW, HPE, HSO, HBE⟩
              case measure => simp [intOf]; omega
    · obtain rfl : ix = nx := by omega
      have hnn : ¬ (ix : Int) < ix := by omega
      have hp := HP.out
      rw [List.take_of_length_le (by rw [HN.out]; omega)] at hp
      have HP2 := Lib.hid hp
      clear hp
      go_wp2_with fail
      go_ret
      exact ⟨_, rfl, D, HP2.out, HS.out, by unfold OwnW; rw [wrs_row]; exact HO.out, HB.out⟩
end Go.Proofs.Ytbcnjilhibkcnaa
