/- Contract: conf.Take. -/
import Derived.Test.YtlmbkfdpgmmacaaC4
namespace Go.Proofs.Ytlmbkfdpgmmacaa
open Go.ChangeShapes Go.WideShapes Go.ChangeAt Go.RowKit
set_option linter.unusedVariables false
/-- At 'refuse'. -/
def AtRefuse (w : World) (bs : List Int) (a : Act) (W : World) : Prop := Below w.heap.size w W ∧ takeV bs = none ∧ ∃ t, a = ⟨t, []⟩ ∧ t.size = 69
def frameS (u : Nat → Value) (A : Option Addr) (m c : Nat) (sv : Value) (r left : Nat) : Array Value := #[.slice A m c, u 1, .slice none 0 0, .int .i64 0, sv, .pointer (some ⟨r, 0, none⟩), u 6, .int .i64 (left : Int), u 8, u 9, u 10, u 11, u 12, u 13, u 14, u 15, u 16, u 17, u 18, u 19, u 20, u 21, u 22, u 23, u 24, u 25, u 26, u 27, u 28, u 29, u 30, u 31, u 32, u 33, u 34, u 35, u 36, u 37, u 38, u 39, u 40, u 41, u 42, u 43, u 44, u 45, u 46, u 47, u 48, u 49, u 50, u 51, u 52, u 53, u 54, u 55, u 56, u 57, u 58, u 59, u 60, u 61, u 62, u 63, u 64, u 65, u 66, u 67, u 68]
def frameE (u : Nat → Value) (A : Option Addr) (m c : Nat) (sv : Value) : Array Value := #[.slice A m c, u 1, .slice none 0 0, .int .i64 0, sv, u 5, u 6, u 7, u 8, u 9, u 10, u 11, u 12, u 13, u 14, u 15, u 16, u 17, u 18, u 19, u 20, u 21, u 22, u 23, u 24, u 25, u 26, u 27, u 28, u 29, u 30, u 31, u 32, u 33, u 34, u 35, u 36, u 37, u 38, u 39, u 40, u 41, u 42, u 43, u 44, u 45, u 46, u 47, u 48, u 49, u 50, u 51, u 52, u 53, u 54, u 55, u 56, u 57, u 58, u 59, u 60, u 61, u 62, u 63, u 64, u 65, u 66, u 67, u 68]
structure InS (w : World) (bs : List Int) (W : World) (A : Option Addr) (m c : Nat) (sv : Value) (r left : Nat) (C : Array Value) (cs : List Sh) (rest : List Int) : Prop where
  hr : w.heap.size ≤ r
  blk : W.heap[r]? = some (.cells C 47 (0, 0))
  sz : C.size = 5
  own : W.ownsRow w.heap.size 47 5 sv cs.length (cellsL cs)
  ne : sv.ownBlock ≠ some r
  ok : ShsOk cs
  byt : Byt w A rest
  len : rest.length = m
  cap : m ≤ c
  cap2 : c ≤ 9223372036854775807
  allb : AllB rest
  l2 : cs.length + left ≤ 255
  tv : takeV bs = rowsV left rest cs
  bel : Below w.heap.size w W
theorem frameS_of {T : Array Value} {A : Option Addr} {m c : Nat} {sv : Value} {r left : Nat} (hs : T.size = 69) (h0 : T.getD 0 undef = .slice A m c) (h2 : T.getD 2 undef = .slice none 0 0) (h3 : T.getD 3 undef = .int .i64 0) (h4 : T.getD 4 undef = sv) (h5 : T.getD 5 undef = .pointer (some ⟨r, 0, none⟩)) (h7 : T.getD 7 undef = .int .i64 (left : Int)) :
    T = frameS (fun i => T.getD i undef) A m c sv r left := by
  unfold frameS
  rw [← h0, ← h2, ← h3, ← h4, ← h5, ← h7]
  exact lit_of T 69 hs
theorem frameE_of {T : Array Value} {A : Option Addr} {m c : Nat} {sv : Value} (hs : T.size = 69) (h0 : T.getD 0 undef = .slice A m c) (h2 : T.getD 2 undef = .slice none 0 0) (h3 : T.getD 3 undef = .int .i64 0) (h4 : T.getD 4 undef = sv) :
    T = frameE (fun i => T.getD i undef) A m c sv := by
  unfold frameE
  rw [← h0, ← h2, ← h3, ← h4]
  exact lit_of T 69 hs
def AtShare (w : World) (bs : List Int) (a : Act) (W : World) : Prop := ∃ (T : Array Value) (A : Option Addr) (m c : Nat) (sv : Value) (r left : Nat) (C : Array Value) (cs : List Sh) (rest : List Int), a = ⟨T, []⟩ ∧ (T.size = 69 ∧ T.getD 0 undef = .slice A m c ∧ T.getD 2 undef = .slice none 0 0 ∧ T.getD 3 undef = .int .i64 0 ∧ T.getD 4 undef = sv ∧ T.getD 5 undef = .pointer (some ⟨r, 0, none⟩) ∧ T.getD 7 undef = .int .i64 (left : Int)) ∧ InS w bs W A m c sv r left C cs rest
structure InE (w : World) (bs : List Int) (W : World) (m : Nat) (sv : Value) (cs : List Sh) : Prop where
  own : W.ownsRow w.heap.size 47 5 sv cs.length (cellsL cs)
  ok : ShsOk cs
  l2 : cs.length ≤ 255
  tv : takeV bs = if m = 0 ∧ mayConfV cs = true then some cs else none
  bel : Below w.heap.size w W
def AtEnd (w : World) (bs : List Int) (a : Act) (W : World) : Prop := ∃ T A m c sv cs, a = ⟨T, []⟩ ∧ (T.size = 69 ∧ T.getD 0 undef = .slice A m c ∧ T.getD 2 undef = .slice none 0 0 ∧ T.getD 3 undef = .int .i64 0 ∧ T.getD 4 undef = sv) ∧ InE w bs W m sv cs
theorem block_of_add (a : Addr) (n : Nat) : (a.add n).block = a.block := by unfold Addr.add; split <;> rfl
theorem info47 : (Try.prog.info? 47).map (fun i => (i.zero, i.size, i.bytes)) = some (some (.agg #[.int .i64 0, .int .i64 0, .int .i64 0, .int .i64 0, .int .i64 0]), 5, 40) := by kernel_rfl
theorem takeV_short {bs : List Int} (h : bs.length < 3) : takeV bs = none := by
  match bs, h with
  | [], _ => rfl
  | [_], _ => rfl
  | [_, _], _ => rfl
set_option maxRecDepth 100000 in
set_option maxHeartbeats 3200000 in
theorem take_conf (A : Option Addr) (bs : List Int) (c : Nat) (w : World) (hl : bs.length ≤ 1000000) (hc : bs.length ≤ c) (hc2 : c ≤ 9223372036854775807) (hB : AllB bs) (hy : Byt w A bs) :
    Calls Try.prog 9 #[.slice A bs.length c] w fun e w' => TookE (takeV bs) w.heap.size w' e ∧ Below w.heap.size w w' := by
  generalize hn : bs.length = n at *
  have HN := Lib.hid hn
  have HBY := Lib.hid hy
  clear hn hy
  go_enter Try.func9, Try.ntmps9
  go_wp2
  refine wp_scope3e (AtRefuse w bs) (AtEnd w bs) (AtShare w bs) (fun a _ => (intOf (a.tmps.getD 7 undef)).toNat) rfl rfl rfl ?_ ?_ ?_ ?_
  · intro HF
    by_cases h3 : n < 3
    · go_wp2
      go_step3
      exact (show AtRefuse _ _ _ _ from ⟨(Below.refl _ _).alloc (Nat.le_refl _) _, takeV_short (by rw [HN.out]; exact h3), _, rfl, rfl⟩)
    · obtain ⟨x, y, z, rest, hbs⟩ : ∃ x y z rest, bs = x :: y :: z :: rest := by
        match bs, HN.out with
        | x :: y :: z :: rest, _ => exact ⟨x, y, z, rest, rfl⟩
        | [], h => simp at h; omega
        | [_], h => simp at h; omega
        | [_, _], h => simp at h; omega
      subst hbs
      have bx := hB x (by simp)
      have by_ := hB y (by simp)
      have bz := hB z (by simp)
      obtain ⟨ad, rfl, hc0⟩ := HBY.out 0 x rfl
      clear hc0
      have hcell : ∀ i v, (x :: y :: z :: rest)[i]? = some v → w.cell? (ad.add i) = some (.int .u8 v) := fun i v hx => by
        obtain ⟨ad', e, h⟩ := HBY.out i v hx
        injection e with e; subst e; exact h
      have hcv := conv_any (A := some ad) (xs := [x, y]) (n := 2) (c := c) (w := w.alloc (Obj.cells #[.int .i64 0, .int .i64 0, .int .i64 0, .int .i64 0, .int .i64 0] 47)) (fun i v hi => ⟨ad, rfl, by
        rw [World.cell?_alloc_lt _ _ _ (by rw [block_of_add]; have := World.block_lt_of_cell? w _ (hcell 0 x rfl); rwa [block_of_add] at this)]
        refine hcell i v ?_
        match i, hi with
        | 0, hi => exact hi
        | 1, hi => exact hi⟩) rfl
      have h2 : (w.alloc (Obj.cells #[.int .i64 0, .int .i64 0, .int .i64 0, .int .i64 0, .int .i64 0] 47)).cell? ⟨ad.block, ad.off + 2, none⟩ = some (.int .u8 z) := keepA (hcell 2 z rfl) _
      have HCE := Lib.hid hcell
      clear hcell
      by_cases hxy : x = 76 ∧ y = 70
      · obtain ⟨rfl, rfl⟩ := hxy
        rw [show strOfNums [76, 70] = ⟨#[76, 70]⟩ from rfl] at hcv
        go_wp2_with fail
        all_goals
          have hblk : (w.alloc (Obj.cells #[.int .i64 0, .int .i64 0, .int .i64 0, .int .i64 0, .int .i64 0] 47)).heap[w.heap.size]? = some (.cells #[.int .i64 0, .int .i64 0, .int .i64 0, .int .i64 0, .int .i64 0] 47 (0, 0)) := heap_alloc_new w _
          have htv : takeV (76 :: 70 :: z :: rest) = rowsV z.toNat rest [] := rfl
          have hlr : rest.length = n - 3 := by have := HN.out; simp at this; omega
          have hzz : ((z.toNat : Nat) : Int) = z := Int.toNat_of_nonneg bz.1
          have hbel : Below w.heap.size w (w.alloc (Obj.cells #[.int .i64 0, .int .i64 0, .int .i64 0, .int .i64 0, .int .i64 0] 47)) := (Below.refl _ _).alloc (Nat.le_refl _) _
          have hallb : AllB rest := fun v hv => hB v (by simp [hv])
          have hcut := HBY.out.cut (c := c) (k := 3) (by rw [HN.out]; exact hc)
          go_step3
          rename_i hK
        · refine hK _ _ (HF _ _ ⟨_, _, _, _, _, _, z.toNat, _, [], rest, rfl, ⟨rfl, rfl, rfl, rfl, rfl, rfl, by rw [hzz]; rfl⟩, ⟨Nat.le_refl _, hblk, rfl, World.ownsRow_nil _ _ _ _, by simp [Value.ownBlock], (fun s hs => by cases hs), ?_, hlr, ?_, ?_, hallb, (by simp; omega), htv, hbel⟩⟩)
          · have : rest = [] := List.eq_nil_of_length_eq_zero (by omega)
            rw [this]; intro i v hv; cases hv
          · omega
          · omega
        · refine hK _ _ (HF _ _ ⟨_, _, _, _, _, _, z.toNat, _, [], rest, rfl, ⟨rfl, rfl, rfl, rfl, rfl, rfl, by rw [hzz]; rfl⟩, ⟨Nat.le_refl _, hblk, rfl, World.ownsRow_nil _ _ _ _, by simp [Value.ownBlock], (fun s hs => by cases hs), ?_, hlr, ?_, ?_, hallb, (by simp; omega), htv, hbel⟩⟩)
          · unfold cutA at hcut
            rw [if_neg (by assumption)] at hcut
            exact hcut
          · omega
          · omega
      · have hS : ((strOfNums [x, y]).toList == [76, 70]) = false := by
          have h := str_beq (xs := [x, y]) (ys := [76, 70]) (fun v hv => hB v (by simp at hv ⊢; rcases hv with h | h <;> simp [h])) (fun v hv => by simp at hv; omega)
          rw [strOfNums_toList [76, 70]] at h
          refine h.trans (decide_eq_false (fun e => hxy ?_))
          injection e with e1 e2
          injection e2 with e2
          exact ⟨e1, e2⟩
        have HXY := Lib.hid hxy
        clear hxy
        generalize strOfNums [x, y] = S at *
        go_wp2_with fail
        go_step3
        exact (show AtRefuse _ _ _ _ from ⟨(Below.refl _ _).alloc (Nat.le_refl _) _, by show (if x = 76 ∧ y = 70 then _ else none) = none; rw [if_neg HXY.out], _, rfl, rfl⟩)
  · intro a W ⟨hb, ht, t, ha, hs⟩
    subst ha
    go_wp2
    rw [jumps_ret]
    exact bodyPost_ret (v := .tuple #[.slice none 0 0, .int .i64 1]) (by simp [results, Try.results9, go_sem, hs]) rfl ⟨by rw [ht]; rfl, hb⟩
  · intro a W ⟨T, A', m, c', sv, cs, ha, ⟨t0, t1, t2, t3, t4⟩, hE⟩
    rw [frameE_of t0 t1 t2 t3 t4] at ha
    subst ha
    clear t0 t1 t2 t3 t4
    generalize (fun i => T.getD i undef) = u
    clear T
    unfold frameE
    by_cases hm : m = 0
    · obtain ⟨A2, d, rfl, hd1, hd2, hconf⟩ := conf_own hE.own
      have HM := Lib.hid (may_conf A2 cs d W (by have := hE.l2; omega) hd1 hd2 hE.ok hconf)
      have HE := Lib.hid hE
      clear hE hconf
      subst hm
      go_wp2_with fail
      refine HM.out.mono ?_
      rintro e W1 ⟨rfl, hb⟩
      cases hmc : mayConfV cs
      · have HC := Lib.hid hmc
        clear hmc
        go_wp2_with fail
        go_step3
        go_wp2_with fail
        rw [jumps_ret]
        exact bodyPost_ret (v := .tuple #[.slice none 0 0, .int .i64 1]) (by simp [results, Try.results9, go_sem]) rfl ⟨by rw [HE.out.tv, HC.out]; rfl, keepB HE.out.bel hb⟩
      · have HC := Lib.hid hmc
        clear hmc
        go_wp2_with fail
        rw [jumps_ret]
        exact bodyPost_ret (v := .tuple #[.slice A2 cs.length d, .int .i64 0]) (by simp [results, Try.results9, go_sem]) rfl ⟨by rw [HE.out.tv, HC.out]; exact ⟨_, rfl, ownB HE.out.own hb⟩, keepB HE.out.bel hb⟩
    · have HE := Lib.hid hE
      clear hE
      have hm0 : (m == 0) = false := by simpa using hm
      go_wp2
      go_step3
      go_wp2_with fail
      rw [jumps_ret]
      exact bodyPost_ret (v := .tuple #[.slice none 0 0, .int .i64 1]) (by simp [results, Try.results9, go_sem]) rfl ⟨by rw [HE.out.tv, if_neg (fun h => hm h.1)]; rfl, HE.out.bel⟩
  · intro a W ⟨T, A', m, c', sv, r, left, C, cs, rest, ha, ⟨t0, t1, t2, t3, t4, t5, t6⟩, hI⟩
    rw [frameS_of t0 t1 t2 t3 t4 t5 t6] at ha
    subst ha
    clear t0 t1 t2 t3 t4 t5 t6
    generalize (fun i => T.getD i undef) = u
    clear T
    unfold frameS
    have HI := Lib.hid hI
    clear hI
    cases left with
    | zero =>
      go_wp2
      go_step3
      exact (show AtEnd _ _ _ _ from ⟨_, A', m, c', sv, cs, rfl, ⟨rfl, rfl, rfl, rfl, rfl⟩, ⟨HI.out.own, HI.out.ok, by have := HI.out.l2; omega, by rw [HI.out.tv, ← HI.out.len]; simp [rowsV], HI.out.bel⟩⟩)
    | succ l =>
      by_cases hm : m < 4
      · have hrow : rowsV (l + 1) rest cs = none := by
          have := HI.out.len
          match rest, this with
          | [], _ => rfl
          | [_], _ => rfl
          | [_, _], _ => rfl
          | [_, _, _], _ => rfl
          | _ :: _ :: _ :: _ :: _, h => simp at h; omega
        have HR := Lib.hid hrow
        clear hrow
        go_wp2
        go_step3
        exact (show AtRefuse _ _ _ _ from ⟨HI.out.bel, by rw [HI.out.tv, HR.out], _, rfl, rfl⟩)
      · obtain ⟨x0, x1, x2, x3, rest', hrest⟩ : ∃ x0 x1 x2 x3 rest', rest = x0 :: x1 :: x2 :: x3 :: rest' := by
          have := HI.out.len
          match rest, this with
          | x0 :: x1 :: x2 :: x3 :: rest', _ => exact ⟨x0, x1, x2, x3, rest', rfl⟩
          | [], h => simp at h; omega
          | [_], h => simp at h; omega
          | [_, _], h => simp at h; omega
          | [_, _, _], h => simp at h; omega
        subst hrest
        have b0 := HI.out.allb x0 (by simp)
        have b1 := HI.out.allb x1 (by simp)
        have b2 := HI.out.allb x2 (by simp)
        have b3 := HI.out.allb x3 (by simp)
        obtain ⟨ad, rfl, hc0⟩ := HI.out.byt 0 x0 rfl
        have hcell : ∀ i x, (x0 :: x1 :: x2 :: x3 :: rest')[i]? = some x → w.cell? (ad.add i) = some (.int .u8 x) := fun i x hx => by
          obtain ⟨ad', e, h⟩ := HI.out.byt i x hx
          injection e with e; subst e; exact h
        have c0 : w.cell? ad = some (.int .u8 x0) := hcell 0 x0 rfl
        have c1 := hcell 1 x1 rfl
        have c2 := hcell 2 x2 rfl
        have c3 := hcell 3 x3 rfl
        clear hcell hc0
        obtain ⟨v0, v1, v2, v3, v4, hC⟩ := size5 HI.out.sz
        subst hC
        have hblk := HI.out.blk
        have hrW : r < W.heap.size := by
          rcases Nat.lt_or_ge r W.heap.size with h | h
          · exact h
          · rw [Array.getElem?_eq_none h] at hblk; cases hblk
        have hadr : ∀ i, (ad.add i).block ≠ r := fun i => by
          rw [block_of_add]; have := World.block_lt_of_cell? w ad c0; have := HI.out.hr; omega
        have HADR := Lib.hid hadr
        have HBLK := Lib.hid hblk
        have HC1 := Lib.hid c1
        have HC2 := Lib.hid c2
        have HC3 := Lib.hid c3
        have HC0 := Lib.hid c0
        clear hblk hadr c0 c1 c2 c3
        have c0 := keepC HI.out.bel HC0.out
        go_wp2_with fail
        clear c0
        refine (take_all x0 _ b0).mono ?_
        rintro e W1 ⟨rfl, hb⟩
        have HB1 := Lib.hid hb
        have hblk1 : W1.heap[r]? = some (.cells #[v0, v1, v2, v3, v4] 47 (0, 0)) := (hb.block r hrW).trans HBLK.out
        have f0 : W1.cell? ⟨r, 0, none⟩ = some v0 := blk_cell hblk1 0
        have f1 : W1.cell? ⟨r, 1, none⟩ = some v1 := blk_cell hblk1 1
        have g0 := blk_free hblk1 0
        have g1 := blk_free hblk1 1
        have HBLK1 := Lib.hid hblk1
        clear hblk1 hb
        by_cases htk : takeOk x0 = true
        · have HT := Lib.hid htk
          rw [htk]
          clear htk
          generalize hL : takeL x0 = L at *
          generalize hK : takeC x0 = K at *
          have HL := Lib.hid hL
          have HK := Lib.hid hK
          clear hL hK
          go_wp2_with fail
          clear f0 f1 g0 g1
          obtain ⟨W2, hW2⟩ : ∃ W2, W2 = (W1.setCell ⟨r, 0, none⟩ (.int .i64 L)).setCell ⟨r, 1, none⟩ (.int .i64 K) := ⟨_, rfl⟩
          rw [← hW2]
          have hblk2 : W2.heap[r]? = some (.cells #[.int .i64 L, .int .i64 K, v2, v3, v4] 47 (0, 0)) := by
            rw [hW2]; exact heap_setCell_same' (heap_setCell_same' HBLK1.out _) _
          have far : ∀ p : Addr, p.block ≠ r → W2.cell? p = W1.cell? p := fun p hp => by
            rw [hW2, World.cell?_setCell_other _ _ _ _ (fun e => hp (by rw [← e])), World.cell?_setCell_other _ _ _ _ (fun e => hp (by rw [← e]))]
          have own2 : W2.ownsRow w.heap.size 47 5 sv cs.length (cellsL cs) := by
            rw [hW2]; exact ownSet (ownSet (ownB HI.out.own HB1.out) _ HI.out.ne) _ HI.out.ne
          have hB2 : Below w.heap.size w W2 := by
            rw [hW2]; exact ((keepB HI.out.bel HB1.out).setCell HI.out.hr _).setCell HI.out.hr _
          have at2 : ∀ {p : Addr} {v : Value}, w.cell? p = some v → p.block ≠ r → W2.drew.cell? p = some v := fun {p v} hp hn => by
            show W2.cell? p = _
            rw [far p hn]; exact keepC HB1.out (keepC HI.out.bel hp)
          have e1 : W2.cell? ⟨ad.block, ad.off + 1, none⟩ = _ := at2 HC1.out (HADR.out 1)
          have j1 : (1 : Int) < m := by omega
          have e2 : W2.cell? ⟨ad.block, ad.off + 2, none⟩ = _ := at2 HC2.out (HADR.out 2)
          have j2 : (2 : Int) < m := by omega
          have e3 : W2.cell? ⟨ad.block, ad.off + 3, none⟩ = _ := at2 HC3.out (HADR.out 3)
          have j3 : (3 : Int) < m := by omega
          have f2 : W2.cell? ⟨r, 2, none⟩ = some v2 := blk_cell hblk2 2
          have f3 : W2.cell? ⟨r, 3, none⟩ = some v3 := blk_cell hblk2 3
          have f4 : W2.cell? ⟨r, 4, none⟩ = some v4 := blk_cell hblk2 4
          have g2 : W2.frozen? ⟨r, 2, none⟩ = false := blk_free hblk2 2
          have g3 : W2.frozen? ⟨r, 3, none⟩ = false := blk_free hblk2 3
          have g4 : W2.frozen? ⟨r, 4, none⟩ = false := blk_free hblk2 4
          have HBLK2 := Lib.hid hblk2
          have HOWN2 := Lib.hid own2
          have HB2 := Lib.hid hB2
          clear hW2 hblk2 own2 hB2 far at2
          have i1 := IntWalk.i64_in x1 (by omega)
          have i2 := IntWalk.i64_in x2 (by omega)
          have i3 := IntWalk.i64_in x3 (by omega)
          have hne : ad.block ≠ r := HADR.out 0
          have hne' : r ≠ ad.block := fun e => hne e.symm
          go_region
          clear f2 f3 f4 g2 g3 g4 e1 e2 e3 j1 j2 j3 i1 i2 i3 hne hne'
          obtain ⟨W3, hW3⟩ : ∃ W3, W3 = (((W2.setCell ⟨r, 2, none⟩ (.int .i64 x1)).setCell ⟨r, 3, none⟩ (.int .i64 x2)).setCell ⟨r, 4, none⟩ (.int .i64 x3)).drew := ⟨_, rfl⟩
          rw [← hW3]
          have hblk3 : W3.heap[r]? = some (.cells #[.int .i64 L, .int .i64 K, .int .i64 x1, .int .i64 x2, .int .i64 x3] 47 (0, 0)) := by
            rw [hW3]; exact heap_setCell_same' (heap_setCell_same' (heap_setCell_same' HBLK2.out _) _) _
          have own3 : W3.ownsRow w.heap.size 47 5 sv cs.length (cellsL cs) := by
            rw [hW3]; exact ownSet (ownSet (ownSet HOWN2.out _ HI.out.ne) _ HI.out.ne) _ HI.out.ne
          have hB3 : Below w.heap.size w W3 := by
            rw [hW3]; exact (((HB2.out.setCell HI.out.hr _).setCell HI.out.hr _).setCell HI.out.hr _).drew
          clear hW3 HOWN2 HBLK2 HB2
          have f0 : W3.cell? ⟨r, 0, none⟩ = some (.int .i64 L) := blk_cell hblk3 0
          have f1 : W3.cell? ⟨r, 1, none⟩ = some (.int .i64 K) := blk_cell hblk3 1
          have f2 : W3.cell? ⟨r, 2, none⟩ = some (.int .i64 x1) := blk_cell hblk3 2
          have f3 : W3.cell? ⟨r, 3, none⟩ = some (.int .i64 x2) := blk_cell hblk3 3
          have f4 : W3.cell? ⟨r, 4, none⟩ = some (.int .i64 x3) := blk_cell hblk3 4
          have HBLK3 := Lib.hid hblk3
          clear hblk3
          obtain ⟨i0, hi, hz0, hz1, hz2⟩ := info_parts info47
          have HIN := Lib.hid (And.intro hi (And.intro hz0 (And.intro hz1 hz2)))
          clear hi hz0 hz1 hz2
          have hl2 := HI.out.l2
          go_wp2_with (at_builtin; refine wpList_append_own_at _ rfl (.tmp 53) (.tmp 55) 23 rfl w.heap.size 47 i0 (.agg #[.int .i64 0, .int .i64 0, .int .i64 0, .int .i64 0, .int .i64 0]) 5 40 Try.underlying23 HIN.out.1 HIN.out.2.1 HIN.out.2.2.1 HIN.out.2.2.2 rfl (by decide) sv _ _ rfl (own3.alloc _) ⟨W3.heap.size, 0, none⟩ 1 1 (Sh.cs ⟨L, K, x1, x2, x3⟩) rfl rfl (World.news_of_block (heap_alloc_new W3 _)) (fun u hu => cellsL_one [⟨L, K, x1, x2, x3⟩] u (by simpa [cellsL] using hu)) (by simp only [maxLen]; omega) (by omega) ((hB3.alloc hB3.size _).size) ?_; intro v4 w4 hown4 hg4 _ hat4; have hB5 := grownB (hB3.alloc hB3.size _) (own3.alloc _) hg4; have HO := Lib.hid hown4; have HG := Lib.hid hg4; have HAT := Lib.hid hat4; clear hown4 hg4 hat4)
          all_goals
            go_step3
            have hlen : rest'.length = m - 4 := by have := HI.out.len; simp at this; omega
            have hrow : rowsV (l + 1) (x0 :: x1 :: x2 :: x3 :: rest') cs = rowsV l rest' (cs ++ [⟨L, K, x1, x2, x3⟩]) := by
              show (if takeOk x0 = true then rowsV l rest' (cs ++ [⟨takeL x0, takeC x0, x1, x2, x3⟩]) else none) = _
              rw [HT.out, HL.out, HK.out]; rfl
            have hok := takeOk_bounds b0.1 HT.out
            rw [HL.out, HK.out] at hok
            have hown : w4.ownsRow w.heap.size 47 5 v4 (cs ++ [(⟨L, K, x1, x2, x3⟩ : Sh)]).length (cellsL (cs ++ [⟨L, K, x1, x2, x3⟩])) := by
              rw [cellsL_snoc, List.length_append]; exact HO.out
            have hne4 : v4.ownBlock ≠ some r := by
              rcases HAT.out with e | e
              · rw [e]; exact HI.out.ne
              · rw [e]; intro e2; injection e2 with e2
                have : r < W3.heap.size := by
                  rcases Nat.lt_or_ge r W3.heap.size with h | h
                  · exact h
                  · have := HBLK3.out; rw [Array.getElem?_eq_none h] at this; cases this
                simp at e2; omega
            have hblk4 : w4.heap[r]? = some (.cells #[.int .i64 L, .int .i64 K, .int .i64 x1, .int .i64 x2, .int .i64 x3] 47 (0, 0)) := by
              have hr3 : r < W3.heap.size := by
                rcases Nat.lt_or_ge r W3.heap.size with h | h
                · exact h
                · have := HBLK3.out; rw [Array.getElem?_eq_none h] at this; cases this
              rw [HG.out.block r (by simp; omega) (fun e => HI.out.ne e.symm), heap_alloc_old _ _ hr3]
              exact HBLK3.out
            have hoks : ShsOk (cs ++ [⟨L, K, x1, x2, x3⟩]) := fun s hs => by
              rcases List.mem_append.1 hs with h | h
              · exact HI.out.ok s h
              · rw [List.mem_singleton.1 h]; exact hok
            have hallb : AllB rest' := fun x hx => HI.out.allb x (by simp [hx])
            have hl3 : (cs ++ [(⟨L, K, x1, x2, x3⟩ : Sh)]).length + l ≤ 255 := by simp; omega
            have hcp := HI.out.cap
            have hcp2 := HI.out.cap2
          · have hnil : rest' = [] := List.eq_nil_of_length_eq_zero (by omega)
            refine (show AtShare _ _ _ _ ∧ _ from ⟨⟨_, _, _, _, _, _, l, _, _, rest', rfl, ⟨rfl, rfl, rfl, rfl, rfl, rfl, rfl⟩, ⟨HI.out.hr, hblk4, rfl, hown, hne4, hoks, ?_, hlen, ?_, ?_, hallb, hl3, by rw [HI.out.tv, hrow], hB5⟩⟩, ?_⟩)
            · rw [hnil]; intro i x hx; cases hx
            · omega
            · omega
            · simp [intOf]
          · refine (show AtShare _ _ _ _ ∧ _ from ⟨⟨_, _, _, _, _, _, l, _, _, rest', rfl, ⟨rfl, rfl, rfl, rfl, rfl, rfl, rfl⟩, ⟨HI.out.hr, hblk4, rfl, hown, hne4, hoks, ?_, hlen, ?_, ?_, hallb, hl3, by rw [HI.out.tv, hrow], hB5⟩⟩, ?_⟩)
            · have := HI.out.byt.cut (c := c') (k := 4) (by rw [HI.out.len]; exact hcp)
              unfold cutA at this
              rw [if_neg (by assumption)] at this
              exact this
            · omega
            · omega
            · simp [intOf]
        · have HT := Lib.hid (show takeOk x0 = false by simpa using htk)
          rw [HT.out]
          clear htk
          go_wp2_with fail
          go_step3
          have hbel : Below w.heap.size w W1 := keepB HI.out.bel HB1.out
          have hrow : rowsV (l + 1) (x0 :: x1 :: x2 :: x3 :: rest') cs = none := by
            show (if takeOk x0 = true then _ else none) = none
            rw [HT.out]; rfl
          exact (show AtRefuse _ _ _ _ from ⟨(hbel.setCell HI.out.hr _).setCell HI.out.hr _, by rw [HI.out.tv, hrow], _, rfl, rfl⟩)
end Go.Proofs.Ytlmbkfdpgmmacaa
