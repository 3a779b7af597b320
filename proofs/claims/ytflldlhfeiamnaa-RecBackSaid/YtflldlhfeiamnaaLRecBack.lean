/- The law RecBack answers true for every input, and leaves its arguments alone. No condition. -/
import Derived.Test.YtflldlhfeiamnaaRows
import Derived.Test.YtflldlhfeiamnaaEx
import Derived.Test.YtflldlhfeiamnaaEu
import Derived.Test.YtflldlhfeiamnaaEh
import Derived.WalkKit
import Derived.ProofKit
import Derived.OpenShut
namespace Go.Proofs.Ytflldlhfeiamnaa.recBack
open Go.ChangeShapes Go.WideShapes Go.ChangeAt Go.RowKit Go.Joins
set_option linter.unusedVariables false
theorem own : ownKnob Try.prog.godebug = none := by kernel_rfl
theorem laidOut : laidOutB Try.prog = true := by kernel_rfl
theorem behind_all : AllB [98, 101, 104, 105, 110, 100] := fun x hx => by simp at hx; rcases hx with rfl | rfl | rfl | rfl | rfl | rfl <;> omega
set_option maxRecDepth 100000 in
set_option maxHeartbeats 6400000 in
theorem walk (x0 : Int) (x1 : Int) (x2 : Int) (A3 : Option Addr) (l3 : List Wr) (d3 : Nat) (x4 : Int) (x5 : Int) (x6 : Int) (x7 : Int) (x8 : Int) (x9 : Int) (w : World) (hx0 : 0 ≤ x0 ∧ x0 ≤ 255) (hx1 : 0 ≤ x1 ∧ x1 ≤ 4294967295) (hx2 : 0 ≤ x2 ∧ x2 ≤ 4294967295) (hd3 : l3.length ≤ d3) (hm3 : d3 ≤ 9223372036854775807) (hB3 : WrsOk l3) (hy3 : Wrs w A3 l3) (hx4 : 0 ≤ x4 ∧ x4 ≤ 255) (hx5 : 0 ≤ x5 ∧ x5 ≤ 255) (hx6 : 0 ≤ x6 ∧ x6 ≤ 255) (hx7 : 0 ≤ x7 ∧ x7 ≤ 255) (hx8 : 0 ≤ x8 ∧ x8 ≤ 255) (hx9 : 0 ≤ x9 ∧ x9 ≤ 255) :
    Calls Try.prog 4 #[.int .u8 x0, .int .u32 x1, .int .u32 x2, .slice A3 l3.length d3, .int .u8 x4, .int .u8 x5, .int .u8 x6, .int .u8 x7, .int .u8 x8, .int .u8 x9] w fun e w' => e = .returned (.bool true) ∧ Below w.heap.size w w' := by
  obtain ⟨e, rfl⟩ : ∃ n : Nat, x1 = (n : Int) := ⟨x1.toNat, by omega⟩
  obtain ⟨s, rfl⟩ : ∃ n : Nat, x2 = (n : Int) := ⟨x2.toNat, by omega⟩
  obtain ⟨m4, rfl⟩ : ∃ n : Nat, x4 = (n : Int) := ⟨x4.toNat, by omega⟩
  obtain ⟨m5, rfl⟩ : ∃ n : Nat, x5 = (n : Int) := ⟨x5.toNat, by omega⟩
  obtain ⟨m7, rfl⟩ : ∃ n : Nat, x7 = (n : Int) := ⟨x7.toNat, by omega⟩
  obtain ⟨m8, rfl⟩ : ∃ n : Nat, x8 = (n : Int) := ⟨x8.toNat, by omega⟩
  have he : e < 4294967296 := by omega
  have hs : s < 4294967296 := by omega
  have H3 := Lib.hid hy3
  have HO3 := Lib.hid hB3
  have kc := fun (w : World) (C : Array Value) (n c : Nat) => Lib.run_convert_bytes_const (P := Try.prog) w 25 5 C n c Try.underlying25 Try.underlying5
  clear hy3 hB3
  generalize hn3 : l3.length = n3 at *
  have HN3 := Lib.hid hn3
  clear hn3
  have HM3 := Lib.hid (fun W (h : Wrs W A3 l3) => rmay_any A3 l3 n3 d3 W HN3.out hd3 hm3 HO3.out h)
  go_enter Try.func4, Try.ntmps4
  go_wp2_with fail
  refine (begun7_any _).mono ?_
  rintro en w1 ⟨rfl, hb1⟩
  have H31 := Lib.hid (H3.out.keep hb1)
  clear H3
  by_cases q3 : MayL l3
  · have HQ3 := Lib.hid q3
    rw [decide_eq_true q3] at HM3
    clear q3
    go_wp2_with fail
    refine (HM3.out w1 H31.out).mono ?_
    rintro en w2 ⟨rfl, hb2⟩
    have H32 := Lib.hid (H31.out.keep hb2)
    have B2 := keepB hb1 hb2
    have hn12 : 1 ≤ n3 ∧ n3 ≤ 12 := by rw [← HN3.out]; exact HQ3.out.1
    have HP := Lib.hid (put_any x0 e s A3 l3 n3 d3 w2 hx0 he hs HN3.out hd3 hm3 HO3.out H32.out)
    rw [decide_eq_true HQ3.out, putX_may HQ3.out] at HP
    obtain ⟨q, hq, HQQ⟩ : ∃ q : Nat, n3 + 1 = q ∧ Hid (q = n3 + 1) := ⟨n3 + 1, rfl, rfl⟩
    have hqi : (n3 : Int) + 1 = q := by omega
    have hqm : (q : Int) - 1 = n3 := by omega
    have hq13 : 2 ≤ q ∧ q ≤ 13 := by omega
    have wq1 : IntKind.i64.wrap (q : Int) = q := IntWalk.i64_in _ (by omega)
    have HPL : Hid ((putL x0 e s l3).length = q) := by unfold Hid; rw [putL_length, HN3.out]; omega
    have HTX := Lib.hid (putL_txOk e s hx0 HQ3.out HO3.out)
    have H64 : Hid (∀ b ∈ putL x0 e s l3, b.length = 64) := fun b hb => putL_64 HQ3.out HO3.out hb
    -- what is taken
    have HT1 := Lib.hid (takeV_put (lb := x0) (e := e) (s := s) (rest := [[98, 101, 104, 105, 110, 100]]) HQ3.out HO3.out he hs)
    have HT1' := Lib.hid ((taken_put (lb := x0) (lb' := x0) (e := e) (e' := e) (s := s) (s' := s) (rest := [[98, 101, 104, 105, 110, 100]]) HQ3.out HO3.out he he hs hs).2 ⟨rfl, rfl, rfl⟩)
    have HT2 : Hid (∀ e' s', e' < 4294967296 → s' < 4294967296 → (Taken x0 e' s' (putL x0 e s l3) ↔ e' = e ∧ s' = s)) := fun e' s' h1 h2 => by
      have h := taken_put (lb := x0) (lb' := x0) (e := e) (e' := e') (s := s) (s' := s') (rest := []) HQ3.out HO3.out he h1 hs h2
      rw [List.append_nil] at h
      rw [h]; exact ⟨fun h => h.2, fun h => ⟨rfl, h⟩⟩
    have HT3 : Hid (Taken x6 e s (putL x0 e s l3) ↔ x6 = x0) := by
      have h := taken_put (lb := x0) (lb' := x6) (e := e) (e' := e) (s := s) (s' := s) (rest := []) HQ3.out HO3.out he he hs hs
      rw [List.append_nil] at h
      unfold Hid
      rw [h]; exact ⟨fun h => h.1, fun h => ⟨h, rfl, rfl⟩⟩
    have HT4 : Hid (¬ Taken x0 e s ((putL x0 e s l3).take n3)) := by
      have h := not_taken_short (lb := x0) (lb' := x0) (e := e) (e' := e) (s := s) (s' := s) HQ3.out
      rw [HN3.out] at h; exact h
    have HT5 : Hid (∀ k c, k < q → ¬ Sealed c → ¬ Taken x0 e s ((putL x0 e s l3).set k c)) := fun k c hk hc => by
      have h := not_taken_set (lb := x0) (lb' := x0) (e := e) (e' := e) (s := s) (s' := s) (rest := []) HQ3.out (k := k) (c := c) (by rw [HN3.out]; have := HQQ.out; omega) hc
      rwa [List.append_nil] at h
    have HSE : Hid (∀ k b, (putL x0 e s l3)[k]? = some b → Sealed b) := fun k b hb => putL_sealed HQ3.out HO3.out hb
    have HTS : Hid (Taken x0 e s (putL x0 e s l3)) := (HT2.out e s he hs).2 ⟨rfl, rfl⟩
    have hl1 : 1 + n3 = q := by omega
    rw [HN3.out, hl1] at HT1
    generalize putL x0 e s l3 = pl at *
    clear hq hl1 H31 HM3 hb1 hb2
    go_wp2_with fail
    refine HP.out.mono ?_
    rintro en w3 ⟨v3, rfl, ot3, hb3⟩
    have H33 := Lib.hid (H32.out.keep hb3)
    have ot3' := ot3.mono B2.size
    have B3 := keepB B2 hb3
    obtain ⟨A0, d0, ev0, hd0, hdm0, htx0⟩ := ot3'.tx
    obtain ⟨gb, cb, ysb, rfl, hcb, hcmb, hgb, hglb, nmb, clb, frb⟩ := ot3'.parts (by rw [HPL.out]; omega)
    rw [HPL.out] at hcb ev0 ⊢
    injection ev0 with ev1 ev2 ev3
    subst ev1; subst ev3
    have HNM := Lib.hid nmb
    have HCL := Lib.hid clb
    have HX3 := Lib.hid htx0
    clear ot3 ot3' H32 HP hb3 B2 nmb clb frb htx0 ev2 hd0
    go_wp2_with fail
    go_loop [23] (fun i => ∃ k : Nat, i = .int .i64 k ∧ k ≤ q) (fun i => q - (intOf i).toNat)
    case atStart => exact ⟨0, rfl, Nat.zero_le _⟩
    case round =>
      obtain ⟨k, rfl, hk⟩ := hrel
      by_cases hlt : k < q
      · obtain ⟨b, hb⟩ : ∃ b, pl[k]? = some b := ⟨_, List.getElem?_eq_getElem (by rw [HPL.out]; exact hlt)⟩
        obtain ⟨gk, dk, hyk, _⟩ := HNM.out.at64 hb (H64.out b (List.mem_of_getElem? hb))
        have ck := HCL.out k _ hyk
        clear hb hyk
        go_wp2
        go_round
        case rel => exact ⟨k + 1, by go_num, by omega⟩
        case measure => simp [intOf]; omega
      · obtain rfl : k = q := by omega
        have hge : ¬ ((k : Int) < k) := by omega
        -- region 13
        have own0 := own_empty w3 w.heap.size B3.size
        have B30 : Below w3.heap.size w3 (w3.alloc (Obj.cells #[] 25)) := (Below.refl _ _).alloc (Nat.le_refl _) _
        go_upto_region 13 with fail
        go_wp2_with (first
          | (at_builtin
             refine wpList_app_txs _ rfl (.tmp 80) (.tmp 81) rfl w.heap.size _ [] rfl own0 ⟨gb, 0, none⟩ k cb rfl ysb pl HPL.out (HNM.out.keep B30) (fun j u hj => by rw [add_at]; exact keepC B30 (HCL.out j u hj)) (by simp only [List.length_nil]; omega) (Nat.le_trans B3.size B30.size) ?_
             intro v4 w4 ot4 hgr4 hnr4
             have B4 : Below w3.heap.size w3 w4 := B30.grown hgr4 B30.size (fun j hj => by have hj' : some w3.heap.size = some j := hj; injection hj' with hj'; exact Nat.le_of_eq hj')
             have HLO : Hid (∀ k, v4.ownBlock = some k → w3.heap.size ≤ k) := fun k hk => by
               rcases hnr4 with h | h
               · rw [h] at hk; have hj' : some w3.heap.size = some k := hk; injection hj' with hj'; exact Nat.le_of_eq hj'
               · have := h k hk; rw [size_alloc'] at this; omega
             have OT4 := Lib.hid (show OwnTx w4 w.heap.size v4 pl from ot4)
             clear ot4 hgr4 hnr4 own0 B30)
          | (at_builtin
             refine wpList_app_tx1 _ rfl (.tmp 82) (.tmp 85) rfl w.heap.size v4 pl rfl ((OT4.out.alloc _).alloc _) ⟨w4.heap.size + 1, 0, none⟩ rfl w4.heap.size 6 6 #[.int .u8 98, .int .u8 101, .int .u8 104, .int .u8 105, .int .u8 110, .int .u8 100] (6, 7) [98, 101, 104, 105, 110, 100] (by
               have h := cell_one_new (w4.alloc (Obj.cells #[.int .u8 98, .int .u8 101, .int .u8 104, .int .u8 105, .int .u8 110, .int .u8 100] 5 (6, 7))) (.slice (some ⟨w4.heap.size, 0, none⟩) 6 6) 25 0 _ rfl
               rwa [size_alloc'] at h) rfl (by omega) (by omega) (heap_alloc2_old _ _ _) rfl (by rw [HPL.out]; omega) (by rw [size_alloc', size_alloc']; have := Nat.le_trans B3.size B4.size; omega) ?_
             intro A5 d5 w5 tx5 h5 hm5 hgr5
             have B5 : Below w3.heap.size w3 w5 := ((B4.alloc B4.size _).alloc (B4.alloc B4.size _).size _).grown hgr5 (by rw [size_alloc', size_alloc']; have := B4.size; omega) (fun j hj => HLO.out j hj)
             have HX5 := Lib.hid tx5
             rw [HPL.out] at h5 ⊢
             clear tx5 hgr5 OT4 HLO B4))
        have HLX : Hid ((pl ++ [[98, 101, 104, 105, 110, 100]]).length = k + 1) := by unfold Hid; rw [List.length_append, HPL.out]; rfl
        have HTA : Hid (TxOk (pl ++ [[98, 101, 104, 105, 110, 100]])) := fun b hb => by
          rcases List.mem_append.1 hb with h | h
          · exact HTX.out b h
          · simp only [List.mem_cons, List.not_mem_nil, or_false] at h; subst h; exact behind_all
        have HC1 := Lib.hid (take_any x0 e s A5 (pl ++ [[98, 101, 104, 105, 110, 100]]) (k + 1) d5 w5 hx0 he hs HLX.out h5 hm5 HTA.out HX5.out)
        rw [decide_eq_true HT1'.out, HT1.out.1, HT1.out.2] at HC1
        clear HX5 HT1 HT1' HTA HLX
        refine HC1.out.mono ?_
        rintro en w6 ⟨v6, rfl, ow6, hb6⟩
        obtain ⟨A6, d6, rfl, hd6, hdm6, hw6⟩ := ow6.wrs HO3.out.len
        rw [HN3.out] at hd6 ⊢
        have HW6 := Lib.hid hw6
        have B6 := keepB B5 hb6
        clear ow6 hw6 hb6 B5 HC1 kc h5
        -- region 14
        have wm4 : IntKind.u32.wrap (m4 : Int) = m4 := IntWalk.u32_in _ (by omega)
        have wm5 : IntKind.u32.wrap (m5 : Int) = m5 := IntWalk.u32_in _ (by omega)
        obtain ⟨e2, hwe, he2, HE2⟩ : ∃ e2 : Nat, IntKind.u32.wrap ((e : Int) + m4) = e2 ∧ e2 < 4294967296 ∧ Hid (e2 = e ↔ m4 = 0) := ⟨(e + m4) % 4294967296, by rw [IntKind.wrap_u32']; omega, by omega, by unfold Hid; omega⟩
        obtain ⟨s2, hws, hs2, HS2⟩ : ∃ s2 : Nat, IntKind.u32.wrap ((s : Int) + m5) = s2 ∧ s2 < 4294967296 ∧ Hid (s2 = s ↔ m5 = 0) := ⟨(s + m5) % 4294967296, by rw [IntKind.wrap_u32']; omega, by omega, by unfold Hid; omega⟩
        obtain ⟨b4, hb4, HB4⟩ : ∃ b : Bool, ((m4 : Int) == 0) = b ∧ Hid (b = decide (m4 = 0)) := ⟨_, rfl, by unfold Hid; rw [Bool.eq_iff_iff]; simp⟩
        obtain ⟨b5, hb5, HB5⟩ : ∃ b : Bool, ((m5 : Int) == 0) = b ∧ Hid (b = decide (m5 = 0)) := ⟨_, rfl, by unfold Hid; rw [Bool.eq_iff_iff]; simp⟩
        obtain ⟨b6, hb6, HB6⟩ : ∃ b : Bool, (x6 == x0) = b ∧ Hid (b = decide (x6 = x0)) := ⟨_, rfl, by unfold Hid; rw [Bool.eq_iff_iff]; simp⟩
        obtain ⟨b9, hb9, HB9⟩ : ∃ b : Bool, (x9 == 0) = b ∧ Hid (b = decide (x9 = 0)) := ⟨_, rfl, by unfold Hid; rw [Bool.eq_iff_iff]; simp⟩
        have hE2 : decide (Taken x0 e2 s2 pl) = (b4 && b5) := by
          rw [HB4.out, HB5.out, Bool.eq_iff_iff, decide_eq_true_eq, HT2.out e2 s2 he2 hs2, HE2.out, HS2.out]; simp
        have hE3 : decide (Taken x6 e s pl) = b6 := by
          rw [HB6.out, Bool.eq_iff_iff, decide_eq_true_eq, HT3.out]; simp
        have HC2 := Lib.hid (fun W (h : Tx W (some ⟨gb, 0, none⟩) pl) => take_any x0 e2 s2 (some ⟨gb, 0, none⟩) pl k cb W hx0 he2 hs2 HPL.out hcb hcmb HTX.out h)
        have HC3 := Lib.hid (fun W (h : Tx W (some ⟨gb, 0, none⟩) pl) => take_any x6 e s (some ⟨gb, 0, none⟩) pl k cb W hx6 he hs HPL.out hcb hcmb HTX.out h)
        have HC4 := Lib.hid (fun W (h : Tx W (some ⟨gb, 0, none⟩) (pl.take n3)) => take_any x0 e s (some ⟨gb, 0, none⟩) (pl.take n3) n3 cb W hx0 he hs (by rw [List.length_take, HPL.out]; omega) (by omega) hcmb (fun b hb => HTX.out b (List.mem_of_mem_take hb)) h)
        rw [hE2] at HC2
        rw [hE3] at HC3
        rw [decide_eq_false HT4.out, (takeV_no HT4.out).1, (takeV_no HT4.out).2] at HC4
        generalize takeN x0 e2 s2 pl = tn2 at *
        generalize takeV x0 e2 s2 pl = tv2 at *
        generalize takeN x6 e s pl = tn3 at *
        generalize takeV x6 e s pl = tv3 at *
        clear hE2 hE3 HT2 HT3 HT4 HE2 HS2
        have HX6 := Lib.hid (HX3.out.keep B6)
        go_wp2_with fail
        refine (HC2.out w6 HX6.out).mono ?_
        rintro en w7 ⟨v7, rfl, ow7, hb7⟩
        have HX7 := Lib.hid (HX6.out.keep hb7)
        have HW7 := Lib.hid (HW6.out.keep hb7)
        have B7 := keepB B6 hb7
        clear ow7 hb7 HX6 HW6 B6 HC2
        go_wp2_with fail
        refine (HC3.out w7 HX7.out).mono ?_
        rintro en w8 ⟨v8, rfl, ow8, hb8⟩
        have HX8 := Lib.hid (HX7.out.keep hb8)
        have HW8 := Lib.hid (HW7.out.keep hb8)
        have B8 := keepB B7 hb8
        clear ow8 hb8 HX7 HW7 B7 HC3
        have hn3k : (n3 : Int) ≤ cb := by omega
        have hn30 : (0 : Int) ≤ n3 := by omega
        go_wp2_with fail
        refine (HC4.out w8 (HX8.out.take _)).mono ?_
        rintro en w9 ⟨v9, rfl, ow9, hb9'⟩
        have HW9 := Lib.hid (HW8.out.keep hb9')
        have B9 := keepB B8 hb9'
        clear ow9 hb9' HX8 HW8 B8 HC4
        -- region 17
        have own0 := own_empty w9 w.heap.size (Nat.le_trans B3.size B9.size)
        have B90 : Below w9.heap.size w9 (w9.alloc (Obj.cells #[] 25)) := (Below.refl _ _).alloc (Nat.le_refl _) _
        have HNM9 := Lib.hid (HNM.out.keep B9)
        have HCL9 : Hid (∀ (j : Nat) (u : Value), ysb[j]? = some u → w9.cell? ⟨gb, j, none⟩ = some u) := fun j u hj => keepC B9 (HCL.out j u hj)
        go_upto_region 18 with (first
          | (at_builtin
             refine wpList_app_txs _ rfl (.tmp 128) (.tmp 129) rfl w.heap.size _ [] rfl own0 ⟨gb, 0, none⟩ k cb rfl ysb pl HPL.out (HNM9.out.keep B90) (fun j u hj => by rw [add_at]; exact keepC B90 (HCL9.out j u hj)) (by simp only [List.length_nil]; omega) (Nat.le_trans (Nat.le_trans B3.size B9.size) B90.size) ?_
             intro va wa ota hgra hnra
             have Ba : Below w9.heap.size w9 wa := B90.grown hgra B90.size (fun j hj => by have hj' : some w9.heap.size = some j := hj; injection hj' with hj'; exact Nat.le_of_eq hj')
             have HLO : Hid (∀ k, va.ownBlock = some k → w9.heap.size ≤ k) := fun k hk => by
               rcases hnra with h | h
               · rw [h] at hk; have hj' : some w9.heap.size = some k := hk; injection hj' with hj'; exact Nat.le_of_eq hj'
               · have := h k hk; rw [size_alloc'] at this; omega
             have OTa := Lib.hid (show OwnTx wa w.heap.size va pl from ota)
             clear ota hgra hnra own0 B90))
        obtain ⟨xsa, owa, nma⟩ := OTa.out
        obtain ⟨ga, ca, ysa, eva, hca, hcma, hga, hgla, _, _, _⟩ := OTa.out.parts (by rw [HPL.out]; omega)
        subst eva
        rw [HPL.out] at hca owa HLO ⊢
        have hga9 : w9.heap.size ≤ ga := HLO.out ga rfl
        have nmA : Named wa w.heap.size xsa pl := ⟨by have := owa.1; rw [HPL.out]; omega, nma⟩
        have HNA := Lib.hid nmA
        have HOA := Lib.hid owa
        -- which block, which byte
        have hk0 : ¬ (k : Int) = 0 := by omega
        have wm7 : IntKind.i64.wrap (m7 : Int) = m7 := IntWalk.i64_in _ (by omega)
        obtain ⟨kk, hkk1, HKK⟩ : ∃ kk : Nat, (m7 : Int) % (k : Int) = kk ∧ Hid (kk < k) := ⟨m7 % k, by omega, Nat.mod_lt _ (by omega)⟩
        have hkk2 : Int.tmod (m7 : Int) (k : Int) = kk := by rw [Int.tmod_eq_emod_of_nonneg (by omega)]; exact hkk1
        have hkkk : kk < k := HKK.out
        have hkki : (kk : Int) < k := by omega
        obtain ⟨bk, hbk⟩ : ∃ bk, pl[kk]? = some bk := ⟨_, List.getElem?_eq_getElem (by rw [HPL.out]; exact hkkk)⟩
        have HBK64 := Lib.hid (H64.out bk (List.mem_of_getElem? hbk))
        have HBKB := Lib.hid (HTX.out bk (List.mem_of_getElem? hbk))
        have HSEB := Lib.hid (HSE.out kk bk hbk)
        obtain ⟨gk, dk, hyk, hrk⟩ := HNA.out.at64 hbk HBK64.out
        have cka : wa.cell? ⟨ga, kk, none⟩ = some (.slice (some ⟨gk, 0, none⟩) 64 dk) := by
          have := HOA.out.cells (g := ga) rfl _ _ hyk
          rwa [add_at] at this
        have fka : wa.frozen? ⟨ga, kk, none⟩ = false := HOA.out.frozenAt kk
        have HRK := Lib.hid hrk
        have HBK := Lib.hid hbk
        clear OTa owa nma nmA hbk hyk hrk HNM9 HCL9 hga hgla
        go_upto_region 19 with fail
        have own0 := own_new wa wa.heap.size 5 0 #[] [] (Nat.le_refl _) rfl (by decide) rfl
        have Bb0 : Below wa.heap.size wa (wa.alloc (Obj.cells #[] 5)) := (Below.refl _ _).alloc (Nat.le_refl _) _
        have hyk : Byt wa (some ⟨gk, 0, none⟩) bk := by
          obtain ⟨A', d', e1, _, _, h⟩ := byt_own HRK.out rfl
          injection e1 with e1 _ _
          rw [e1]; exact h
        have HYK := Lib.hid hyk
        have cka0 := keepA cka (Obj.cells #[] 5)
        clear hyk HRK
        go_upto_region 20 with (first
          | (at_builtin
             refine wpList_app_byt _ rfl (.tmp 138) (.tmp 142) rfl wa.heap.size _ 0 [] rfl own0 (some ⟨gk, 0, none⟩) 64 dk bk rfl (HYK.out.alloc _) HBK64.out (by omega) Bb0.size ?_
             intro vb wb hb' hgb' _
             have Bb : Below wa.heap.size wa wb := Bb0.grown hgb' Bb0.size (fun j hj => (own0.lt j hj).1)
             have ownb : wb.ownsRow wa.heap.size 5 1 vb 64 (Bs bk) := hb'
             obtain ⟨gv, capv, rfl, hnv, hcapv, hgv, hgvlt, hcv, hfv⟩ := own_at ownb (by omega)
             have ckb := keepC Bb cka
             have fkb : wb.frozen? ⟨ga, kk, none⟩ = false := (ownB HOA.out Bb).frozenAt kk
             clear hb' hgb' own0 Bb0))
        obtain ⟨x, hx⟩ : ∃ x, bk[m8 % 64]? = some x := ⟨_, List.getElem?_eq_getElem (by rw [HBK64.out]; omega)⟩
        have hxb := HBKB.out x (List.mem_of_getElem? hx)
        have HX := Lib.hid hx
        have hOb := ownB HOA.out Bb
        have hNb := HNA.out.keep Bb
        have hlow : ∀ u ∈ xsa, ∀ g, u.ownBlock = some g → g < wa.heap.size := fun u hu g hg => by
          obtain ⟨i, hi⟩ := List.mem_iff_getElem?.1 hu
          obtain ⟨b', hb'⟩ : ∃ b', pl[i]? = some b' := ⟨_, List.getElem?_eq_getElem (by rw [← HNA.out.1]; exact (List.getElem?_eq_some_iff.1 hi).1)⟩
          obtain ⟨u', e', hr'⟩ := HNA.out.2 i b' hb'
          rw [hi] at e'; injection e' with e'; subst e'
          exact (hr'.lt g hg).2
        have HTU : Hid (∀ y, Tx ((wb.setCell ⟨ga, kk, none⟩ (.slice (some ⟨gv, 0, none⟩) 64 capv)).setCell ⟨gv, m8 % 64, none⟩ (.int .u8 y)) (some ⟨ga, 0, none⟩) (pl.set kk (bk.set (m8 % 64) y))) := fun y =>
          tx_turned hOb hNb hlow hgv ownb HBK64.out hkkk (Nat.mod_lt _ (by omega))
        have hneq : gv ≠ ga := by
          rcases own_far types_ne hOb ownb with h | h
          · cases h
          · exact fun e => h (by rw [e]; rfl)
        have hT2 : (wb.setCell ⟨ga, kk, none⟩ (.slice (some ⟨gv, 0, none⟩) 64 capv)).ownsRow w.heap.size 25 1 (.slice (some ⟨ga, 0, none⟩) k ca) k (xsa.set kk (.slice (some ⟨gv, 0, none⟩) 64 capv)) := own_set_at hOb hkkk _
        have hk2 := ownSet ownb (.slice (some ⟨gv, 0, none⟩) 64 capv) (a := ⟨ga, kk, none⟩) (by show some gv ≠ some ga; exact fun e => hneq (by injection e with e))
        have cc : (wb.setCell ⟨ga, kk, none⟩ (.slice (some ⟨gv, 0, none⟩) 64 capv)).cell? ⟨ga, kk, none⟩ = some (.slice (some ⟨gv, 0, none⟩) 64 capv) := by
          have := hT2.cells (g := ga) rfl kk _ (List.getElem?_set_self (by rw [HNA.out.1, HPL.out]; exact hkkk))
          rwa [add_at] at this
        obtain ⟨_, _, ev, _, _, _, _, hcv2, hfv2⟩ := own_at hk2 (by omega)
        injection ev with ev1 _ ev3
        injection ev1 with ev1
        injection ev1 with ev1
        subst ev1; subst ev3
        have c0 := hcv2 _ _ hx
        have f0 := hfv2 (m8 % 64)
        have Bc : Below w9.heap.size w9 (wb.setCell ⟨ga, kk, none⟩ (.slice (some ⟨gv, 0, none⟩) 64 capv)) := (keepB Ba Bb).setCell hga9 _
        have hgv9 : w9.heap.size ≤ gv := Nat.le_trans Ba.size hgv
        have hm8 : m8 % 64 < 64 := Nat.mod_lt _ (by omega)
        clear hOb hNb hlow ownb hT2 hk2 hcv2 hfv2 hcv hfv ckb fkb cka cka0 fka HNA HOA hx Bb Ba hgv hgvlt hneq
        generalize wb.setCell ⟨ga, kk, none⟩ (.slice (some ⟨gv, 0, none⟩) 64 capv) = wc at *
        go_upto_region 21 with fail
        have hxor := xor_byte hxb hx9
        generalize bits .xor .u8 x x9 = y at *
        have htx := HTU.out y
        have Bd : Below w9.heap.size w9 (wc.setCell ⟨gv, m8 % 64, none⟩ (.int .u8 y)) := Bc.setCell hgv9 _
        generalize wc.setCell ⟨gv, m8 % 64, none⟩ (.int .u8 y) = wd at *
        have ht : decide (Taken x0 e s (pl.set kk (bk.set (m8 % 64) y))) = b9 := by
          rw [HB9.out]
          by_cases h5 : x9 = 0
          · have hy := hxor.2.2 h5
            have e9 : bk.set (m8 % 64) y = bk := by rw [hy]; exact set_same HX.out
            have e10 : pl.set kk bk = pl := by
              apply List.ext_getElem?
              intro i
              by_cases e : i = kk
              · subst e; rw [List.getElem?_set_self (by rw [HPL.out]; exact hkkk), HBK.out]
              · rw [List.getElem?_set_ne (fun h => e h.symm)]
            rw [e9, e10, decide_eq_true HTS.out, decide_eq_true h5]
          · rw [decide_eq_false (HT5.out kk _ hkkk (turned_not HSEB.out HBKB.out HX.out hxor.1 (fun e => h5 (hxor.2.1 e)))), decide_eq_false h5]
        have HC5 := Lib.hid (take_any x0 e s (some ⟨ga, 0, none⟩) (pl.set kk (bk.set (m8 % 64) y)) k ca wd hx0 he hs (by rw [List.length_set, HPL.out]) hca hcma (fun b hb => by
          rcases List.mem_or_eq_of_mem_set hb with h | h
          · exact HTX.out b h
          · rw [h]; exact set_allB HBKB.out _ hxor.1) htx)
        rw [ht] at HC5
        generalize takeN x0 e s (pl.set kk (bk.set (m8 % 64) y)) = tn5 at *
        generalize takeV x0 e s (pl.set kk (bk.set (m8 % 64) y)) = tv5 at *
        clear ht htx HTU hxor c0 f0 cc Bc HX HT5 HSE HSEB HTS HBK
        go_wp2_with fail
        refine HC5.out.mono ?_
        rintro en we ⟨v10, rfl, ow10, hbe⟩
        have BE9 := keepB Bd hbe
        have BE3 := keepB B9 BE9
        have HWE := Lib.hid (HW9.out.keep BE9)
        have HLE := Lib.hid (H33.out.keep BE3)
        have HSM := Lib.hid (samew_any A6 A3 l3 l3 n3 n3 d6 d3 we HN3.out HN3.out (by omega) HO3.out HO3.out HWE.out HLE.out)
        rw [decide_eq_true (rfl : l3 = l3)] at HSM
        have BEL := Lib.hid (keepB B3 BE3)
        clear ow10 hbe BE9 BE3 Bd HW9 H33 HC5 HWE HLE
        go_wp2_with fail
        refine HSM.out.mono ?_
        rintro en wf ⟨rfl, hbf⟩
        have BELF := Lib.hid (keepB BEL.out hbf)
        clear hbf HSM BEL
        cases b4 <;> cases b5 <;> cases b6 <;> cases b9 <;> (go_wp2; go_ret; exact ⟨rfl, BELF.out⟩)
  · rw [decide_eq_false q3] at HM3
    clear q3
    go_wp2_with fail
    refine (HM3.out w1 H31.out).mono ?_
    rintro en w2 ⟨rfl, hb2⟩
    have B2 := keepB hb1 hb2
    go_wp2
    go_ret
    exact ⟨rfl, B2⟩

set_option maxRecDepth 100000 in
theorem lifted (os : Os) (started : os.Started) (H : Type) (enc : TypeId × Value → H) :
    ReturnsInHanded {} Try.checked os 4 .any (Rows.recBackSpec.pre6 enc Try.prog Try.f4 Rows.recBackRow.domain false) (Rows.recBackSpec.post enc Try.prog Try.f4 false true false false) := by
  refine returnsInHanded_of_change (C := Try.checked) own started (by kernel_rfl) Try.func4
    (ChangeSpec.witness6 (enc := enc) (C := Try.checked) false ⟨#[], #[.int .u8 0, .int .u32 0, .int .u32 0, .slice none 0 0, .int .u8 0, .int .u8 0, .int .u8 0, .int .u8 0, .int .u8 0, .int .u8 0], []⟩ 8 (by kernel_rfl) (by kernel_rfl) (by kernel_rfl) (by kernel_rfl)) ?_
  intro W base args ds gs before hval0 hW hcnd _
  have hval : ∀ (j : Nat) t v, Try.f4.params[j]? = some t → args[j]? = some v → Value.okWide Try.prog W .any base t v := hval0
  have hW' := hW
  obtain ⟨p, q, hA0, hV, rfl, hfz, hnd⟩ := hW
  have hA : DataW.TrodAll enc Try.prog W 0 (fun _ => true) true Try.f4.params.toList args.toList ds p := hA0
  rw [Try.params4] at hA hval
  obtain ⟨v0, vs0, d0, ds0, p0, q0, hargs, rfl, rfl, h0, r0⟩ := trodAll_cons hA
  obtain ⟨v1, vs1, d1, ds1, p1, q1, rfl, rfl, rfl, h1, r1⟩ := trodAll_cons r0
  obtain ⟨v2, vs2, d2, ds2, p2, q2, rfl, rfl, rfl, h2, r2⟩ := trodAll_cons r1
  obtain ⟨v3, vs3, d3, ds3, p3, q3, rfl, rfl, rfl, h3, r3⟩ := trodAll_cons r2
  obtain ⟨v4, vs4, d4, ds4, p4, q4, rfl, rfl, rfl, h4, r4⟩ := trodAll_cons r3
  obtain ⟨v5, vs5, d5, ds5, p5, q5, rfl, rfl, rfl, h5, r5⟩ := trodAll_cons r4
  obtain ⟨v6, vs6, d6, ds6, p6, q6, rfl, rfl, rfl, h6, r6⟩ := trodAll_cons r5
  obtain ⟨v7, vs7, d7, ds7, p7, q7, rfl, rfl, rfl, h7, r7⟩ := trodAll_cons r6
  obtain ⟨v8, vs8, d8, ds8, p8, q8, rfl, rfl, rfl, h8, r8⟩ := trodAll_cons r7
  obtain ⟨v9, vs9, d9, ds9, p9, q9, rfl, rfl, rfl, h9, r9⟩ := trodAll_cons r8
  obtain ⟨rfl, rfl, rfl⟩ := trodAll_nil r9
  obtain rfl : args = #[v0, v1, v2, v3, v4, v5, v6, v7, v8, v9] := by cases args; simp_all
  obtain ⟨rfl, rfl⟩ := trodVars_none hV
  obtain ⟨x0, rfl, rfl, rfl, wx0⟩ := open_int Try.underlying5 (hval 0 5 v0 rfl rfl) h0
  obtain ⟨x1, rfl, rfl, rfl, wx1⟩ := open_int Try.underlying22 (hval 1 22 v1 rfl rfl) h1
  obtain ⟨x2, rfl, rfl, rfl, wx2⟩ := open_int Try.underlying22 (hval 2 22 v2 rfl rfl) h2
  obtain ⟨a3, len3, cap3, rfl⟩ := okWide_slice Try.underlying23 (hval 3 23 v3 rfl rfl)
  obtain ⟨x4, rfl, rfl, rfl, wx4⟩ := open_int Try.underlying5 (hval 4 5 v4 rfl rfl) h4
  obtain ⟨x5, rfl, rfl, rfl, wx5⟩ := open_int Try.underlying5 (hval 5 5 v5 rfl rfl) h5
  obtain ⟨x6, rfl, rfl, rfl, wx6⟩ := open_int Try.underlying5 (hval 6 5 v6 rfl rfl) h6
  obtain ⟨x7, rfl, rfl, rfl, wx7⟩ := open_int Try.underlying5 (hval 7 5 v7 rfl rfl) h7
  obtain ⟨x8, rfl, rfl, rfl, wx8⟩ := open_int Try.underlying5 (hval 8 5 v8 rfl rfl) h8
  obtain ⟨x9, rfl, rfl, rfl, wx9⟩ := open_int Try.underlying5 (hval 9 5 v9 rfl rfl) h9
  clear hA0 hval0
  simp only [List.append_nil] at hW'
  have hlt3 : ∀ y ∈ p3, y.block < W.heap.size := fun y hy => by simpa using hW'.lt y (by simp [hy])
  have harg3 : ∀ W' : World, Below W.heap.size W W' → DataW.Trod enc Try.prog W' 0 (fun b => decide (b < W.heap.size)) true 23 (.slice a3 len3 cap3) d3 p3 :=
    fun W' hn => Below.trod laidOut (by kernel_rfl) (of_decide_eq_true (by kernel_rfl)) h3 hn (fun y hy => hlt3 y hy)
  obtain ⟨fu3, hf3⟩ := h3
  obtain ⟨A3, l3, c3, e3, hd3, hm3, hy3, hB3⟩ := open_wrs hf3
  simp [Value.cells] at e3
  obtain ⟨rfl, rfl, rfl⟩ := e3
  refine (walk x0 x1 x2 a3 l3 cap3 x4 x5 x6 x7 x8 x9 W (by have := bounds_u8 wx0; omega) (by have := bounds_u32 wx1; omega) (by have := bounds_u32 wx2; omega) hd3 hm3 hB3 hy3 (by have := bounds_u8 wx4; omega) (by have := bounds_u8 wx5; omega) (by have := bounds_u8 wx6; omega) (by have := bounds_u8 wx7; omega) (by have := bounds_u8 wx8; omega) (by have := bounds_u8 wx9; omega)).mono fun e W' ⟨he, bel⟩ => ?_
  subst he
  exact ⟨_, rfl, _, _, _, [], _, [], hW', (trodAll_cons_mk (shut_bool Try.underlying4 _) trodAll_mk0), (trodAll_cons_mk (shut_int Try.underlying5 wx0) (trodAll_cons_mk (shut_int Try.underlying22 wx1) (trodAll_cons_mk (shut_int Try.underlying22 wx2) (trodAll_cons_mk (harg3 _ bel) (trodAll_cons_mk (shut_int Try.underlying5 wx4) (trodAll_cons_mk (shut_int Try.underlying5 wx5) (trodAll_cons_mk (shut_int Try.underlying5 wx6) (trodAll_cons_mk (shut_int Try.underlying5 wx7) (trodAll_cons_mk (shut_int Try.underlying5 wx8) (trodAll_cons_mk (shut_int Try.underlying5 wx9) trodAll_mk0)))))))))), rfl, bel.frame _, fun h => by cases h⟩

theorem over : Rows.recBackRow.holds Try.pinned (OpenSpec.ofChange Rows.recBackSpec) :=
  OpenClaim.holds_of_wide 4 Try.f4 rfl rfl rfl rfl rfl rfl rfl ⟨rfl, rfl, rfl, rfl, rfl⟩ rfl rfl rfl rfl rfl (by kernel_rfl) Try.func4 (by kernel_rfl)
    (of_decide_eq_true (by kernel_rfl)) (by unfold Func.isWrapper; first | (rw [if_pos (by decide +kernel)]; kernel_rfl) | (rw [if_neg (by decide +kernel)]; exact ⟨rfl, rfl⟩))
    (fun os started H enc _ => lifted os started H enc)

theorem proved : Rows.RecBackSaid :=
  over
#print axioms proved
end Go.Proofs.Ytflldlhfeiamnaa.recBack
