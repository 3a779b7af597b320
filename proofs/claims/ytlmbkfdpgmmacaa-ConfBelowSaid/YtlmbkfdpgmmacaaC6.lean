/- Contract: the reference's TakeConf. -/
import Derived.Test.YtlmbkfdpgmmacaaC5
namespace Go.Proofs.Ytlmbkfdpgmmacaa
open Go.ChangeShapes Go.WideShapes Go.ChangeAt Go.RowKit
set_option linter.unusedVariables false
theorem refTake_all (b : Int) (w : World) (h : 0 ≤ b ∧ b < 256) :
    Calls Try.prog 24 #[.int .u8 b] w fun e w' => e = .returned (.tuple #[.agg #[.int .i64 (takeL b), .int .i64 (takeC b)], .bool (takeOk b)]) ∧ Below w.heap.size w w' := by
  unfold takeL takeC
  obtain ⟨n, rfl⟩ : ∃ n : Nat, b = n := ⟨b.toNat, by omega⟩
  cases g : takeOk n
  · have := of_decide_eq_false g
    exact refTake_no n w (by omega) (by omega)
  · have := of_decide_eq_true g
    exact refTake_yes n w (by omega)
theorem add_pos (a : Addr) (k : Nat) (h : 0 < k) : a.add k = ⟨a.block, a.off + k, none⟩ := by unfold Addr.add; rw [if_neg (by omega)]
theorem rowsV_len : ∀ (l : Nat) (r : List Int) (acc : List Sh), r.length ≠ 4 * l → rowsV l r acc = none
  | 0, r, acc, h => by
    have : r ≠ [] := fun e => h (by rw [e]; rfl)
    simp [rowsV, this]
  | l + 1, a :: b :: c :: d :: r, acc, h => by
    simp only [rowsV]
    split
    · exact rowsV_len l r _ (by simp at h; omega)
    · rfl
  | _ + 1, [], _, _ => rfl
  | _ + 1, [_], _, _ => rfl
  | _ + 1, [_, _], _, _ => rfl
  | _ + 1, [_, _, _], _, _ => rfl
set_option maxRecDepth 100000 in
set_option maxHeartbeats 3200000 in
theorem refTake_conf (A : Option Addr) (bs : List Int) (c : Nat) (w : World) (hl : bs.length ≤ 1000000) (hc : bs.length ≤ c) (hc2 : c ≤ 9223372036854775807) (hB : AllB bs) (hy : Byt w A bs) :
    Calls Try.prog 10 #[.slice A bs.length c] w fun e w' => TookE (takeV bs) w.heap.size w' e ∧ Below w.heap.size w w' := by
  generalize hn : bs.length = n at *
  have HN := Lib.hid hn
  have HBY := Lib.hid hy
  clear hn hy
  by_cases h3 : n < 3
  · have htv := takeV_short (bs := bs) (by rw [HN.out]; exact h3)
    have HTV := Lib.hid htv
    clear htv
    go_enter Try.func10, Try.ntmps10
    go_wp2
    exact bodyPost_ret (v := .tuple #[.slice none 0 0, .int .i64 1]) (by simp [results, Try.results10, go_sem]) rfl ⟨by rw [HTV.out]; rfl, Below.refl _ _⟩
  · obtain ⟨x, y, z, rest, hbs⟩ : ∃ x y z rest, bs = x :: y :: z :: rest := by
      match bs, HN.out with
      | x :: y :: z :: rest, _ => exact ⟨x, y, z, rest, rfl⟩
      | [], h => simp at h; omega
      | [_], h => simp at h; omega
      | [_, _], h => simp at h; omega
    subst hbs
    have bx := hB x (by simp)
    have by_ := hB y (by simp)
    have bz := hB z (by simp)
    obtain ⟨ad, rfl, hc0⟩ := HBY.out 0 x rfl
    clear hc0
    have hcell : ∀ i v, (x :: y :: z :: rest)[i]? = some v → w.cell? (ad.add i) = some (.int .u8 v) := fun i v hx => by
      obtain ⟨ad', e, h⟩ := HBY.out i v hx
      injection e with e; subst e; exact h
    have hcv := conv_any (A := some ad) (xs := [x, y]) (n := 2) (c := c) (w := w) (fun i v hi => ⟨ad, rfl, hcell i v (by
      match i, hi with
      | 0, hi => exact hi
      | 1, hi => exact hi)⟩) rfl
    have h2 : w.cell? ⟨ad.block, ad.off + 2, none⟩ = some (.int .u8 z) := hcell 2 z rfl
    have hlr : rest.length = n - 3 := by have := HN.out; simp at this; omega
    have HLR := Lib.hid hlr
    have HCE := Lib.hid hcell
    clear hcell hlr
    obtain ⟨q, rfl⟩ : ∃ q : Nat, z = q := ⟨z.toNat, by omega⟩
    by_cases hz : n = 3 + 4 * q
    · have HZ := Lib.hid hz
      have hz1 : ((n : Int) != 3 + 4 * q) = false := by simp; omega
      clear hz
      by_cases hxy : x = 76 ∧ y = 70
      · obtain ⟨rfl, rfl⟩ := hxy
        rw [show strOfNums [76, 70] = ⟨#[76, 70]⟩ from rfl] at hcv
        have htv : takeV (76 :: 70 :: (q : Int) :: rest) = rowsV q rest [] := rfl
        have HTV := Lib.hid htv
        clear htv
        obtain ⟨i0, hi, hz0, hz1', hz2⟩ := info_parts info47
        have HIN := Lib.hid (And.intro hi (And.intro hz0 (And.intro hz1' hz2)))
        clear hi hz0 hz1' hz2
        go_enter Try.func10, Try.ntmps10
        go_wp2
        clear hz1 hcv h2
        go_loopw [4, 5] (fun sv i wr => ∃ (j k : Nat) (cs : List Sh), i = .int .i64 j ∧ j = 3 + 4 * k ∧ k ≤ q ∧ cs.length = k ∧ wr.ownsRow w.heap.size 47 5 sv k (cellsL cs) ∧ ShsOk cs ∧ rowsV q rest [] = rowsV (q - k) (rest.drop (4 * k)) cs ∧ Below w.heap.size w wr) (fun _ i _ => n - (intOf i).toNat)
        case atStart => exact ⟨3, 0, [], rfl, rfl, Nat.zero_le _, rfl, World.ownsRow_nil _ _ _ _, (fun s hs => by cases hs), rfl, Below.refl _ _⟩
        case round =>
          obtain ⟨j, k, cs, rfl, hj, hk, hcs, own, hok, hrows, hBl⟩ := hrel
          have HJ := Lib.hid hj
          have HCS := Lib.hid hcs
          have HROWS := Lib.hid hrows
          clear hj hcs hrows
          by_cases hlt : j < n
          · have hk1 : k < q := by have := HJ.out; have := HZ.out; omega
            obtain ⟨x0, x1, x2, x3, rest', hdrop⟩ : ∃ x0 x1 x2 x3 rest', rest.drop (4 * k) = x0 :: x1 :: x2 :: x3 :: rest' := by
              have hl4 : 4 ≤ (rest.drop (4 * k)).length := by rw [List.length_drop, HLR.out, HZ.out]; omega
              match rest.drop (4 * k), hl4 with
              | x0 :: x1 :: x2 :: x3 :: rest', _ => exact ⟨x0, x1, x2, x3, rest', rfl⟩
            have hat : ∀ i v, (x0 :: x1 :: x2 :: x3 :: rest')[i]? = some v → (76 :: 70 :: (q : Int) :: rest)[j + i]? = some v := fun i v h => by
              rw [← hdrop, List.getElem?_drop] at h
              rw [show j + i = (4 * k + i) + 1 + 1 + 1 by have := HJ.out; omega]
              simpa using h
            have m0 : x0 ∈ rest := List.mem_of_mem_drop (by rw [hdrop]; simp)
            have m1 : x1 ∈ rest := List.mem_of_mem_drop (i := 4 * k) (by rw [hdrop]; simp)
            have m2 : x2 ∈ rest := List.mem_of_mem_drop (i := 4 * k) (by rw [hdrop]; simp)
            have m3 : x3 ∈ rest := List.mem_of_mem_drop (i := 4 * k) (by rw [hdrop]; simp)
            have b0 := hB x0 (by simp [m0])
            have b1 := hB x1 (by simp [m1])
            have b2 := hB x2 (by simp [m2])
            have b3 := hB x3 (by simp [m3])
            clear m0 m1 m2 m3
            have HC0 := Lib.hid (HCE.out _ _ (hat 0 x0 rfl))
            have HC1 := Lib.hid (HCE.out _ _ (hat 1 x1 rfl))
            have HC2 := Lib.hid (HCE.out _ _ (hat 2 x2 rfl))
            have HC3 := Lib.hid (HCE.out _ _ (hat 3 x3 rfl))
            have HD := Lib.hid hdrop
            clear hat hdrop
            have e0 : wr.cell? (ad.add j) = _ := keepC hBl HC0.out
            go_wp2_with fail
            clear e0
            refine (refTake_all x0 _ b0).mono ?_
            rintro e W1 ⟨rfl, hb⟩
            have hB1 := keepB hBl hb
            have own1 := ownB own hb
            clear own hb hBl
            by_cases htk : takeOk x0 = true
            · have HT := Lib.hid htk
              rw [htk]
              clear htk
              generalize hL : takeL x0 = L at *
              generalize hK : takeC x0 = K at *
              have HL := Lib.hid hL
              have HK := Lib.hid hK
              clear hL hK
              go_wp2_with fail
              obtain ⟨W2, hW2⟩ : ∃ W2, W2 = W1.alloc (Obj.cells #[.int .i64 L, .int .i64 K] 45) := ⟨_, rfl⟩
              rw [← hW2]
              have z0 : W2.cell? ⟨W1.heap.size, 0, none⟩ = some (.int .i64 L) := by rw [hW2]; simp [go_sem]
              have z1 : W2.cell? ⟨W1.heap.size, 1, none⟩ = some (.int .i64 K) := by rw [hW2]; simp [go_sem]
              have own2 : W2.drew.ownsRow w.heap.size 47 5 u4 k (cellsL cs) := by rw [hW2]; exact own1.alloc _
              have hB2' : Below w.heap.size w W2 := by rw [hW2]; exact hB1.alloc hB1.size _
              have hB2 : Below w.heap.size w W2.drew := hB2'.drew
              clear hW2
              have e1 : W2.cell? ⟨ad.block, ad.off + (j + 1), none⟩ = _ := keepC hB2' (by have h := HC1.out; rwa [add_pos _ _ (by omega)] at h)
              have e2 : W2.cell? ⟨ad.block, ad.off + (j + 2), none⟩ = _ := keepC hB2' (by have h := HC2.out; rwa [add_pos _ _ (by omega)] at h)
              have e3 : W2.cell? ⟨ad.block, ad.off + (j + 3), none⟩ = _ := keepC hB2' (by have h := HC3.out; rwa [add_pos _ _ (by omega)] at h)
              have hj3 : j + 3 < n := by have := HJ.out; have := HZ.out; omega
              have hjn : (n : Int) ≤ 1000000 := by omega
              generalize W1.heap.size = r at *
              have i1 := IntWalk.i64_in x1 (by omega)
              have i2 := IntWalk.i64_in x2 (by omega)
              have i3 := IntWalk.i64_in x3 (by omega)
              have t1 : ((j : Int) + 1).toNat = j + 1 := by omega
              have t2 : ((j : Int) + 2).toNat = j + 2 := by omega
              have t3 : ((j : Int) + 3).toNat = j + 3 := by omega
              have l1 : (j : Int) + 1 < n := by omega
              have l2 : (j : Int) + 2 < n := by omega
              have l3 : (j : Int) + 3 < n := by omega
              have p1 : 0 ≤ (j : Int) + 1 := by omega
              have p2 : 0 ≤ (j : Int) + 2 := by omega
              have p3 : 0 ≤ (j : Int) + 3 := by omega
              have hkq : k + 1 ≤ 255 := by omega
              have s1 := IntWalk.i64_in ((j : Int) + 1) (by omega)
              have s2 := IntWalk.i64_in ((j : Int) + 2) (by omega)
              have s3 := IntWalk.i64_in ((j : Int) + 3) (by omega)
              go_region_law (refine step_append_own _ rfl (.tmp 44) (.tmp 65) 23 rfl w.heap.size 47 i0 (.agg #[.int .i64 0, .int .i64 0, .int .i64 0, .int .i64 0, .int .i64 0]) 5 40 Try.underlying23 HIN.out.1 HIN.out.2.1 HIN.out.2.2.1 HIN.out.2.2.2 rfl (by decide) _ _ _ rfl (own2.alloc _) ⟨W2.heap.size, 0, none⟩ 1 1 (Sh.cs ⟨L, K, x1, x2, x3⟩) rfl rfl (World.news_of_block (heap_alloc_new W2.drew _)) (fun u hu => cellsL_one [⟨L, K, x1, x2, x3⟩] u (by simpa [cellsL] using hu)) (by simp only [maxLen]; omega) (by omega) ((hB2.alloc hB2.size _).size) ?_; intro v4 w4 hown4 hg4 _; have hB5 := grownB (hB2.alloc hB2.size _) (own2.alloc _) hg4; have HO := Lib.hid hown4; clear hown4 hg4)
              all_goals
                clear i1 i2 i3 t1 t2 t3 s1 s2 s3 l1 l2 l3 p1 p2 p3
                have hjb : j < 1000000 := by omega
                go_wp2
                go_roundw
                case rel =>
                  have hok1 := takeOk_bounds b0.1 HT.out
                  rw [HL.out, HK.out] at hok1
                  refine ⟨j + 4, k + 1, cs ++ [⟨L, K, x1, x2, x3⟩], by go_num, by have := HJ.out; omega, by omega, by simp [HCS.out], by rw [cellsL_snoc]; exact HO.out, ?_, ?_, hB5⟩
                  · intro s hs
                    rcases List.mem_append.1 hs with h | h
                    · exact hok s h
                    · rw [List.mem_singleton.1 h]; exact hok1
                  · rw [HROWS.out, HD.out, show q - k = (q - (k + 1)) + 1 by omega, show 4 * (k + 1) = 4 * k + 4 by omega, ← List.drop_drop, HD.out]
                    show (if takeOk x0 = true then rowsV (q - (k + 1)) rest' (cs ++ [⟨takeL x0, takeC x0, x1, x2, x3⟩]) else none) = _
                    rw [HT.out, HL.out, HK.out]; rfl
                case measure => simp [intOf]; omega
            · have HT := Lib.hid (show takeOk x0 = false by simpa using htk)
              rw [HT.out]
              clear htk
              go_wp2_with fail
              have hrow : rowsV (q - k) (x0 :: x1 :: x2 :: x3 :: rest') cs = none := by
                rw [show q - k = (q - k - 1) + 1 by omega]
                show (if takeOk x0 = true then _ else none) = none
                rw [HT.out]; rfl
              exact bodyPost_ret (v := .tuple #[.slice none 0 0, .int .i64 1]) (by simp [results, Try.results10, go_sem]) rfl ⟨by rw [HTV.out, HROWS.out, HD.out, hrow]; rfl, hB1.alloc hB1.size _⟩
          · have hkq : k = q := by have := HJ.out; have := HZ.out; omega
            have hd : rest.drop (4 * k) = [] := List.drop_eq_nil_of_le (by rw [HLR.out, HZ.out, hkq]; omega)
            have hrow : rowsV (q - k) (rest.drop (4 * k)) cs = if mayConfV cs = true then some cs else none := by
              rw [hd, hkq, Nat.sub_self]; simp [rowsV]
            rw [← HCS.out] at own
            obtain ⟨A2, d, rfl, hd1, hd2, hconf⟩ := conf_own own
            have HM := Lib.hid (refMayConf A2 cs d wr (by have := HCS.out; omega) hconf)
            have HOWN := Lib.hid own
            have HROW := Lib.hid hrow
            clear hconf own hrow hd
            go_wp2_with fail
            refine HM.out.mono ?_
            rintro e W1 ⟨rfl, hb⟩
            cases hmc : mayConfV cs
            · have HC := Lib.hid hmc
              clear hmc
              go_wp2_with fail
              exact bodyPost_ret (v := .tuple #[.slice none 0 0, .int .i64 1]) (by simp [results, Try.results10, go_sem]) rfl ⟨by rw [HTV.out, HROWS.out, HROW.out, HC.out]; rfl, keepB hBl hb⟩
            · have HC := Lib.hid hmc
              clear hmc
              go_wp2_with fail
              exact bodyPost_ret (v := .tuple #[.slice A2 cs.length d, .int .i64 0]) (by simp [results, Try.results10, go_sem]) rfl ⟨by rw [HTV.out, HROWS.out, HROW.out, HC.out]; exact ⟨_, rfl, ownB HOWN.out hb⟩, keepB hBl hb⟩
      · have hS : ((strOfNums [x, y]).toList == [76, 70]) = false := by
          have h := str_beq (xs := [x, y]) (ys := [76, 70]) (fun v hv => hB v (by simp at hv ⊢; rcases hv with h | h <;> simp [h])) (fun v hv => by simp at hv; omega)
          rw [strOfNums_toList [76, 70]] at h
          refine h.trans (decide_eq_false (fun e => hxy ?_))
          injection e with e1 e2
          injection e2 with e2
          exact ⟨e1, e2⟩
        have HTV := Lib.hid (show takeV (x :: y :: (q : Int) :: rest) = none by show (if x = 76 ∧ y = 70 then _ else none) = none; rw [if_neg hxy])
        clear hxy
        generalize strOfNums [x, y] = S at *
        go_enter Try.func10, Try.ntmps10
        go_wp2
        exact bodyPost_ret (v := .tuple #[.slice none 0 0, .int .i64 1]) (by simp [results, Try.results10, go_sem]) rfl ⟨by rw [HTV.out]; rfl, Below.refl _ _⟩
    · have HTV := Lib.hid (show takeV (x :: y :: (q : Int) :: rest) = none by
        show (if x = 76 ∧ y = 70 then rowsV q rest [] else none) = none
        rw [rowsV_len _ _ _ (by rw [HLR.out]; omega)]; simp)
      have hz1 : ((n : Int) != 3 + 4 * q) = true := by simp; omega
      clear hz
      go_enter Try.func10, Try.ntmps10
      go_wp2
      exact bodyPost_ret (v := .tuple #[.slice none 0 0, .int .i64 1]) (by simp [results, Try.results10, go_sem]) rfl ⟨by rw [HTV.out]; rfl, Below.refl _ _⟩
end Go.Proofs.Ytlmbkfdpgmmacaa
