/- Contract: New. -/
import Derived.Test.YtocmjbfbjiinhaaV22
namespace Go.Proofs.Ytocmjbfbjiinhaa
open Go.ChangeShapes Go.WideShapes Go.ChangeAt Go.RowKit
set_option linter.unusedVariables false
def VN7 (q f : Nat) (w1 : World) (Own : Nat → Prop) (v0 : Value) (n k : Nat) (vs : List Value) (i : Nat) (v : Value) (w : World) : Prop :=
  match i with
  | 0 | 1 | 2 | 9 => v = .pointer (some ⟨q, 0, none⟩)
  | 3 | 10 => v = .pointer (some ⟨q, f, none⟩)
  | 4 => v = v0
  | 5 => v = .int .i64 n
  | 6 => ∃ g, v = .slice (some ⟨g, 0, none⟩) n n ∧ w1.heap.size ≤ g ∧ RowAt w (fun x => x = g) 73 64 (.slice (some ⟨g, 0, none⟩) n n) n (List.replicate (n * 64) (.int .u8 0))
  | 7 => ∃ x g, v = .slice (some ⟨x, 0, none⟩) 1 1 ∧ w1.heap.size ≤ x ∧ w.heap[x]? = some (.cells #[.slice (some ⟨g, 0, none⟩) n n] 64 (0, 0)) ∧ w1.heap.size ≤ g ∧ RowAt w (fun x => x = g) 73 64 (.slice (some ⟨g, 0, none⟩) n n) n (List.replicate (n * 64) (.int .u8 0))
  | 8 => ∃ g, w1.heap.size ≤ g ∧ RowAt w (fun x => Own x ∨ w1.heap.size ≤ x) 64 1 v (k + 1) (vs ++ [.slice (some ⟨g, 0, none⟩) n n]) ∧ RowAt w (fun x => x = g) 73 64 (.slice (some ⟨g, 0, none⟩) n n) n (List.replicate (n * 64) (.int .u8 0))
  | _ => True
def SN7 (v0 : Value) (i : Nat) (w w' : World) : Prop := if i = 8 then w.grownBy w' v0.ownBlock else w.grownBy w' none
theorem VN7.on {q f : Nat} {w1 : World} {Own : Nat → Prop} {v0 : Value} {n k : Nat} {vs : List Value} (hB : ∀ x, v0.ownBlock = some x → x < w1.heap.size) {i j : Nat} {v : Value} {w w' : World} (hij : i ≠ j) (h : VN7 q f w1 Own v0 n k vs j v w) (hg : SN7 v0 i w w') : VN7 q f w1 Own v0 n k vs j v w' := by
  have kp : ∀ x, x < w.heap.size → w1.heap.size ≤ x → w'.heap[x]? = w.heap[x]? := fun x hx hl => by
    unfold SN7 at hg
    split at hg
    · exact hg.block x hx (fun e => by have := hB x e.symm; omega)
    · exact hg.block x hx (by simp)
  unfold VN7 at *
  split <;> try exact h
  · obtain ⟨g, e, h1, h2⟩ := h
    exact ⟨g, e, h1, h2.keep fun x hx e => kp x hx (by omega)⟩
  · obtain ⟨x, g, e, h1, h2, h3, h4⟩ := h
    exact ⟨x, g, e, h1, (kp x (room_lt h2) h1).trans h2, h3, h4.keep fun x hx e => kp x hx (by omega)⟩
  · obtain ⟨g, h1, h2, h3⟩ := h
    unfold SN7 at hg
    rw [if_neg hij] at hg
    exact ⟨g, h1, h2.keep fun x hx _ => hg.block x hx (by simp), h3.keep fun x hx _ => hg.block x hx (by simp)⟩
  · trivial
def DM.make (zs : List Int) : DM := { now := zs.map zeroRow, sure := zs.map zeroRow, done := [], uns := List.replicate zs.length 0, stops := false, left := 0 }
theorem DM.make_ok {zs : List Int} (h : mayV zs = true) : (DM.make zs).Ok := by
  unfold mayV at h
  simp only [Bool.and_eq_true, decide_eq_true_eq, Bool.not_eq_true', List.any_eq_false, badSize, Bool.or_eq_true, not_or] at h
  obtain ⟨h1, h2, h3⟩ := h
  have row : ∀ (r : Nat) (row : List (List Int)), (zs.map zeroRow)[r]? = some row → row.length ≤ 1000 ∧ ∀ b ∈ row, BlkOk b := fun r row hr => by
    rw [List.getElem?_map] at hr
    obtain ⟨z, hz, rfl⟩ := Option.map_eq_some_iff.1 hr
    have := h3 z (List.mem_of_getElem? hz)
    exact ⟨by unfold zeroRow; rw [List.length_replicate]; omega, zeroRow_ok z⟩
  exact { pos := by show 0 < (zs.map zeroRow).length; simpa using h1, few := by show (zs.map zeroRow).length ≤ 8; simpa using h2, sureLen := rfl, unsLen := by show (List.replicate zs.length 0).length = (zs.map zeroRow).length; simp
          rows := row, sures := fun r row' hr => ⟨⟨row', hr, rfl⟩, (row r row' hr).2⟩, dones := fun x hx => by cases hx
          unss := fun r u hu => by
            have hu' : (List.replicate zs.length 0)[r]? = some u := hu
            rw [List.getElem?_replicate] at hu'
            split at hu'
            · injection hu' with hu'; omega
            · cases hu'
          left := by show 0 ≤ _; omega }
/-- The device is made. -/
theorem dev_of_new {w : World} {B q R : Nat} {vu v9 v14 : Value} {T : Nat → Nat} {zs : List Int} (h : NewAt w B q vu R T v9 v14 (zs.map zeroRow) (zs.map zeroRow)) (hR : zs.length = R) (hok : (DM.make zs).Ok) : ∃ F, Dev w F q (DM.make zs) ∧ ∀ k, F k → B ≤ k := by
  classical
  obtain ⟨hd, hq, hn, hs, h7⟩ := h
  let O : Nat → DRole := fun x => if x = q then .hd else if vu.ownBlock = some x then .uns else
    if B ≤ x ∧ x < w.heap.size then (if T x = 0 then .nowT else if T x = 1 then .sureT else if T x % 2 = 0 then .now (T x / 2 - 1) else .sure (T x / 2 - 1)) else .none
  have hO : ∀ x, O x = if x = q then .hd else if vu.ownBlock = some x then .uns else
    if B ≤ x ∧ x < w.heap.size then (if T x = 0 then .nowT else if T x = 1 then .sureT else if T x % 2 = 0 then .now (T x / 2 - 1) else .sure (T x / 2 - 1)) else .none := fun _ => rfl
  clear_value O
  have ty : ∀ {x cur E}, w.heap[x]? = some (.cells cur E (0, 0)) → (E ≠ 63 → x ≠ q) ∧ (E ≠ 3 → vu.ownBlock ≠ some x) := by
    intro x cur E hx
    refine ⟨fun hE e => ?_, fun hE e => ?_⟩
    · subst e; rw [hd] at hx; injection hx with hx; injection hx with _ hx; exact hE hx.symm
    · rcases h7.1.2 with ⟨e', _⟩ | ⟨g, cap, cur', e', _, hc, _⟩
      · rw [e'] at e; cases e
      · rw [e'] at e; injection e with e; dsimp only at e; subst e; rw [hc] at hx; injection hx with hx; injection hx with _ hx; exact hE hx.symm
  have tabO : ∀ {OT : Nat → Prop} {OR : Nat → Nat → Prop} {OT' : Nat → Prop} {OR' : Nat → Nat → Prop} {v : Value} {rows : List (List (List Int))}, RowsAt w OT OR 64 73 64 encB v rows →
      (∀ k, (k ≠ q ∧ vu.ownBlock ≠ some k) → OT k → OT' k) → (∀ r k, (k ≠ q ∧ vu.ownBlock ≠ some k) → OR r k → OR' r k) → RowsAt w OT' OR' 64 73 64 encB v rows := by
    intro OT OR OT' OR' v rows h a b
    obtain ⟨vs, t1, t2⟩ := h
    refine ⟨vs, t1.ownerT fun g cur hg _ ho => a g ⟨(ty hg).1 (by decide), (ty hg).2 (by decide)⟩ ho, fun r row hr => ?_⟩
    obtain ⟨u, hu, t3⟩ := t2 r row hr
    exact ⟨u, hu, t3.ownerT fun g cur hg _ ho => b r g ⟨(ty hg).1 (by decide), (ty hg).2 (by decide)⟩ ho⟩
  refine ⟨fun k => O k ≠ .none, ⟨O, ⟨v9, v14, .slice none 0 0, vu⟩, ⟨⟨hd, by rw [hO, if_pos rfl], ?_, ?_, RowAt.nil _ _ _ _, ?_⟩, hok⟩, fun _ => Iff.rfl, fun k hk => ?_⟩, fun k hk => ?_⟩
  · refine tabO hn (fun k hk ho => ?_) (fun r k hk ho => ?_)
    · rw [hO, if_neg hk.1, if_neg hk.2, if_pos ⟨ho.1, ho.2.1⟩, if_pos ho.2.2]
    · rw [hO, if_neg hk.1, if_neg hk.2, if_pos ⟨ho.1, ho.2.1⟩, if_neg (by omega), if_neg (by omega), if_pos (by omega), ho.2.2]
      congr 1; omega
  · refine tabO hs (fun k hk ho => ?_) (fun r k hk ho => ?_)
    · rw [hO, if_neg hk.1, if_neg hk.2, if_pos ⟨ho.1, ho.2.1⟩, if_neg (by omega), if_pos ho.2.2]
    · rw [hO, if_neg hk.1, if_neg hk.2, if_pos ⟨ho.1, ho.2.1⟩, if_neg (by omega), if_neg (by omega), if_neg (by omega), ho.2.2]
      congr 1; omega
  · show RowAt w _ _ 1 vu (List.replicate zs.length 0).length (encN (List.replicate zs.length 0))
    rw [List.length_replicate, hR]
    exact h7.ownerT fun g cur hg he ho => by rw [hO, if_neg ((ty hg).1 (by decide)), if_pos he]
  · replace hk : O k ≠ .none := hk
    rw [hO] at hk
    split at hk
    · rename_i e; rw [e]; exact room_lt hd
    · split at hk
      · rename_i e; exact (h7.1.lt k e).2
      · split at hk
        · omega
        · exact absurd rfl hk
  · replace hk : O k ≠ .none := hk
    rw [hO] at hk
    split at hk
    · omega
    · split at hk
      · rename_i e; exact h7.2 k e
      · split at hk
        · omega
        · exact absurd rfl hk
set_option maxRecDepth 100000 in
set_option maxHeartbeats 3200000 in
theorem new_yes (A : Option Addr) (zs : List Int) (c : Nat) (w0 : World) (hB0 : AllI zs) (hy : Nts w0 A zs) (hm : mayV zs = true) :
    Calls Try.prog 11 #[.slice A zs.length c] w0 fun e w' => (∃ q F, e = .returned (.tuple #[.pointer (some ⟨q, 0, none⟩), .bool true]) ∧ Dev w' F q (DM.make zs) ∧ ∀ k, F k → w0.heap.size ≤ k) ∧ Below w0.heap.size w0 w' := by
  have hmk := DM.make_ok hm
  have hzs : ∀ z ∈ zs, 1 ≤ z ∧ z ≤ 1000 := by
    unfold mayV at hm
    simp only [Bool.and_eq_true, decide_eq_true_eq, Bool.not_eq_true', List.any_eq_false, badSize, Bool.or_eq_true, not_or] at hm
    intro z hz
    have := hm.2.2 z hz
    omega
  have hl8 : zs.length ≤ 8 := by
    unfold mayV at hm
    simp only [Bool.and_eq_true, decide_eq_true_eq] at hm
    exact hm.2.1
  have hF := Lib.hid (may_any A zs c w0 hB0 hy (by omega))
  rw [hm] at hF
  have HZ := Lib.hid hzs
  have HY := Lib.hid hy
  have HOK := Lib.hid hmk
  clear hm hB0 hy hzs hmk
  generalize hR : zs.length = R at *
  have HR := Lib.hid hR
  clear hR
  obtain ⟨iu, hiu, hzu, hsu, hbu⟩ := info_parts infoInt
  have hmu := fun w : World => run_make (P := Try.prog) w 22 3 iu _ Try.underlying22 hiu hzu .i64 .i64 R R (by omega) (by omega) (by rw [hbu]; omega) (by omega)
  simp only [Int.toNat_natCast] at hmu
  generalize hC : madeCells (Value.int .i64 0).cells (R * iu.size) = CU at hmu
  have hCU : CU.toList = encN (List.replicate R 0) ∧ CU.size = R := by
    rw [hsu, Nat.mul_one] at hC
    rw [← hC]
    constructor
    · rw [show (Value.int .i64 0).cells = #[.int .i64 0] from rfl, toList_madeCells_one]
      unfold encN; rw [List.map_replicate]; rfl
    · simp [madeCells]
  have HCU := Lib.hid hCU
  clear hC hCU hiu hzu hsu hbu
  go_enter Try.func11, Try.ntmps11
  go_wp2_with fail
  refine hF.out.mono ?_
  rintro e w' ⟨rfl, rfl⟩
  go_wp2_with fail
  obtain ⟨B, hB⟩ : ∃ B, B = w0.heap.size := ⟨_, rfl⟩
  obtain ⟨q, hq⟩ : ∃ q, q = w0.heap.size + 1 := ⟨_, rfl⟩
  obtain ⟨vu, hvu⟩ : ∃ vu : Value, vu = .slice (some ⟨w0.heap.size, 0, none⟩) R R := ⟨_, rfl⟩
  have HBB := Lib.hid hB
  clear hB
  have h0 : NewAt ((w0.alloc (.cells CU 3)).alloc (.cells #[.slice none 0 0, .slice none 0 0, .slice none 0 0, vu, .bool false, .int .i64 0] 63)) B q vu R (fun _ => 0) (.slice none 0 0) (.slice none 0 0) [] [] := by
    subst hq; subst hvu
    refine ⟨heap_alloc2_new _ _ _, by rw [HBB.out]; omega, RowsAt.nil _ _ _ _ _ _ _, RowsAt.nil _ _ _ _ _ _ _, ?_⟩
    have := rowAt_new w0 3 1 R CU (by simp only [maxLen]; omega) (by rw [HCU.out.2]; omega) (fun k => B ≤ k) (by rw [HBB.out]; exact Nat.le_refl _)
    rw [HCU.out.1] at this
    exact this.keep fun k hk _ => Below.heap_alloc _ _ k hk
  have hb0 : Below B w0 ((w0.alloc (.cells CU 3)).alloc (.cells #[.slice none 0 0, .slice none 0 0, .slice none 0 0, vu, .bool false, .int .i64 0] 63)) := by
    rw [HBB.out]; exact ((Below.refl _ _).alloc (Nat.le_refl _) _).alloc (by simp) _
  have H0 := Lib.hid h0
  have HB0 := Lib.hid hb0
  clear h0 hb0
  rw [← hq, ← hvu]
  generalize ((w0.alloc (.cells CU 3)).alloc (.cells #[.slice none 0 0, .slice none 0 0, .slice none 0 0, vu, .bool false, .int .i64 0] 63)) = wA at *
  have HQ := Lib.hid hq
  have HVU := Lib.hid hvu
  clear hq hvu hmu
  go_loopw [17] (fun i wr => ∃ (k : Nat) (T : Nat → Nat) (v9 v14 : Value), i = .int .i64 k ∧ k ≤ R ∧ NewAt wr B q vu R T v9 v14 ((zs.take k).map zeroRow) ((zs.take k).map zeroRow) ∧ Below B w0 wr) (fun i _ => R - (intOf i).toNat)
  case atStart => exact ⟨0, _, _, _, rfl, Nat.zero_le _, H0.out, HB0.out⟩
  case round =>
    obtain ⟨k, T, v9, v14, rfl, hk, hn, hb⟩ := hrel
    clear H0 HB0
    by_cases hlt : k < R
    · obtain ⟨z, hz⟩ : ∃ z, zs[k]? = some z := ⟨_, List.getElem?_eq_getElem (by rw [HR.out]; exact hlt)⟩
      obtain ⟨a, rfl, hc⟩ := HY.out _ _ hz
      have hzb := HZ.out z (List.mem_of_getElem? hz)
      obtain ⟨n, rfl⟩ : ∃ n : Nat, z = (n : Int) := ⟨z.toNat, by omega⟩
      have hn1000 : n ≤ 1000 := by omega
      have hcell : wr.cell? (a.add k) = some (.int .i64 n) := by rw [hb.cell (by rw [HBB.out]; exact World.block_lt_of_cell? w0 _ hc)]; exact hc
      have hsn : (zs.take (k + 1)).map zeroRow = (zs.take k).map zeroRow ++ [zeroRow (n : Int)] := by rw [take_snoc' hz, List.map_append]; rfl
      have hkl : ((zs.take k).map zeroRow).length = k := by rw [List.length_map]; exact List.length_take_of_le (by rw [HR.out]; omega)
      have HSN := Lib.hid hsn
      have HK := Lib.hid hkl
      have hkk : (k : Int) < R := by omega
      clear hz hc hsn hkl hzb
      generalize (zs.take k).map zeroRow = rows at *
      obtain ⟨w1, rfl⟩ : ∃ w1, w1 = wr := ⟨wr, rfl⟩
      have HW1 := Lib.hid hb
      have hb1 : B ≤ w1.heap.size := by rw [HBB.out]; exact hb.size
      have HB1 := Lib.hid hb1
      obtain ⟨vs, t1, t2⟩ := hn.t9
      have HRL : Hid (rows.length = k) := HK
      rw [HRL.out] at t1
      have HT1 := Lib.hid t1
      have HT2 := Lib.hid t2
      have HN := Lib.hid hn
      have hqn : ¬ ((v9 : Value).ownBlock = some q) := fun e => by
        rcases t1.1.2 with ⟨e', _⟩ | ⟨b', _, c', e', _, hc', _⟩
        · rw [e'] at e; cases e
        · rw [e'] at e; injection e with e; dsimp only at e; subst e; rw [hn.hd] at hc'; injection hc' with hc'; injection hc' with _ hc'; exact absurd hc' (by decide)
      have HQN := Lib.hid hqn
      clear t1 t2 hqn hb1 hb hn
      go_wp2_with fail
      go_upto_region 7 with fail
      go_cut [4, 6, 17] (fun s4 s6 s17 wx => ∃ (T' : Nat → Nat) (v9' : Value), s4 = .pointer (some ⟨q, 0, none⟩) ∧ s6 = .int .i64 n ∧ s17 = .int .i64 k ∧ NewAt wx B q vu R T' v9' v14 (rows ++ [zeroRow (n : Int)]) rows ∧ Below B w0 wx)
      case first =>
        have hBd : ∀ x, (v9 : Value).ownBlock = some x → x < w1.heap.size := fun x hx => (HT1.out.1.lt x hx).2
        have srefl : ∀ (i : Nat) (W : World), SN7 v9 i W W := fun i W => by unfold SN7; split <;> exact World.grownBy.refl W _
        have hJ0 : Touch (fun x => (v9 : Value).ownBlock = some x) w1 w1.drew ∧ RowAt w1.drew (fun x => B ≤ x ∧ x < w1.heap.size ∧ T x = 0) 64 1 v9 k vs := ⟨(Touch.refl _ _).drew, HT1.out⟩
        refine wp_region_rgi (VN7 q 0 w1 (fun x => B ≤ x ∧ x < w1.heap.size ∧ T x = 0) v9 n k vs) (fun W => Touch (fun x => (v9 : Value).ownBlock = some x) w1 W ∧ RowAt W (fun x => B ≤ x ∧ x < w1.heap.size ∧ T x = 0) 64 1 v9 k vs) (SN7 v9) (by kernel_rfl) (by kernel_rfl) (fun i j v w w' hij h hg => h.on hBd hij hg) hJ0 ?_
        clear hJ0
        simp only [RAll]
        refine ⟨?_, ?_, ?_, ?_, ?_, ?_, ?_, ?_, ?_, ?_, ?_, ?_⟩
        · refine RStep.of rfl fun T W hag hJ hd => ?_
          have e4 : T.getD 4 undef = .pointer (some ⟨q, 0, none⟩) := (agree_at hag 4 (by kernel_rfl)).trans rfl
          clear hag hd
          go_simp
          first | exact ⟨_, rfl, rfl⟩ | exact ⟨_, rfl, rfl, hJ, srefl _ _⟩
        · refine RStep.of rfl fun T W hag hJ hd => ?_
          have e4 : T.getD 4 undef = .pointer (some ⟨q, 0, none⟩) := (agree_at hag 4 (by kernel_rfl)).trans rfl
          clear hag hd
          go_simp
          first | exact ⟨_, rfl, rfl⟩ | exact ⟨_, rfl, rfl, hJ, srefl _ _⟩
        · refine RStep.of rfl fun T W hag hJ hd => ?_
          have d1 : T.getD 22 undef = _ := hd ⟨1, .data⟩ (by simp) rfl _ rfl
          clear hag hd
          go_simp
          first | exact ⟨_, rfl, rfl⟩ | exact ⟨_, rfl, rfl, hJ, srefl _ _⟩
        · refine RStep.of rfl fun T W hag hJ hd => ?_
          have d2 : T.getD 23 undef = _ := hd ⟨2, .data⟩ (by simp) rfl _ rfl
          clear hag hd
          go_simp
          first | exact ⟨_, rfl, rfl⟩ | exact ⟨_, rfl, rfl, hJ, srefl _ _⟩
        · refine RStep.of rfl fun T W hag hJ hd => ?_
          have d3 : T.getD 24 undef = _ := hd ⟨3, .data⟩ (by simp) rfl _ rfl
          have c0 : W.cell? ⟨q, 0, none⟩ = some v9 := keepT hJ.1 (blk_cell HN.out.hd 0) HQN.out
          clear hag hd
          go_simp
          first | exact ⟨_, rfl, rfl⟩ | exact ⟨_, rfl, rfl, hJ, srefl _ _⟩
        · refine RStep.of rfl fun T W hag hJ hd => ?_
          have e6 : T.getD 6 undef = .int .i64 n := (agree_at hag 6 (by kernel_rfl)).trans rfl
          clear hag hd
          go_simp
          first | exact ⟨_, rfl, rfl⟩ | exact ⟨_, rfl, rfl, hJ, srefl _ _⟩
        · refine RStep.of rfl fun T W hag hJ hd => ?_
          have d5 : T.getD 26 undef = .int .i64 n := hd ⟨5, .data⟩ (by simp) rfl _ rfl
          obtain ⟨i0, hi0, hz0, hz1, hz2⟩ := info_parts info73
          refine wp_make_of 64 (.tmp 26) (.tmp 26) rfl 73 i0 _ 64 Try.underlying64 hi0 hz0 hz1 n .i64 .i64 d5 d5 (by rw [hz2]; omega) (by simp only [maxLen]; omega) ?_
          intro w' hrow hgr hsz
          rw [made_zero] at hrow
          refine ⟨_, rfl, ⟨W.heap.size, rfl, hJ.1.size, hrow, fun g hg => by injection hg with hg; exact hg.symm⟩, ⟨hJ.1.trans' (Touch.of_grown hgr) (fun x hx => by cases hx), hJ.2.keep fun x hx _ => hgr.block x hx (by simp)⟩, ?_⟩
          exact hgr
        · refine RStep.of rfl fun T W hag hJ hd => ?_
          obtain ⟨g, (d6 : T.getD 27 undef = _), hg, hrow⟩ := hd ⟨6, .data⟩ (by simp) rfl _ rfl
          obtain ⟨i0, hi0, hz0, hz1, hz2⟩ := info_parts infoRow
          refine wp_one_of 60 (.tmp 27) rfl 64 i0 _ 1 Try.underlying60 hi0 hz0 hz1 (by decide) (by decide) _ d6 rfl ?_
          refine ⟨_, rfl, ⟨W.heap.size, g, rfl, hJ.1.size, heap_alloc_new W _, hg, hrow.keep fun x hx _ => Below.heap_alloc W _ x hx⟩, ⟨hJ.1.alloc _, hJ.2.keep fun x hx _ => Below.heap_alloc W _ x hx⟩, ?_⟩
          exact World.grownBy_alloc W _ _
        · refine RStep.of rfl fun T W hag hJ hd => ?_
          have d4 : T.getD 25 undef = v9 := hd ⟨4, .data⟩ (by simp) rfl _ rfl
          obtain ⟨x, g, (d7 : T.getD 28 undef = _), hx1, hx2, hg, hrow⟩ := hd ⟨7, .data⟩ (by simp) rfl _ rfl
          obtain ⟨i0, hi0, hz0, hz1, hz2⟩ := info_parts infoRow
          refine wp_push_of (.tmp 25) (.tmp 28) 60 rfl 64 i0 _ 1 24 Try.underlying60 hi0 hz0 hz1 hz2 rfl (by decide) v9 k vs d4 _ hJ.2 ⟨x, 0, none⟩ 1 1 [.slice (some ⟨g, 0, none⟩) n n] d7 rfl (World.news_of_block hx2) (fun u hu => by rw [List.mem_singleton.1 hu]; rfl) (by simp only [maxLen]; omega) (by omega) ?_
          intro v' w' hnew hgr hold
          refine ⟨_, rfl, ⟨g, hg, hnew.owner ?_, hrow.keep fun y hy e => hgr.block y hy (fun e2 => ?_)⟩, ⟨hJ.1.trans' (Touch.of_grown hgr) (fun y hy => Or.inl hy.symm), hold⟩, hgr⟩
          · intro y _ hy
            rcases hy with hy | hy
            · exact Or.inl hy
            · exact Or.inr (by have := hJ.1.size; omega)
          · have := (hJ.2.2 y e2.symm).2.1; omega
        · refine RStep.of rfl fun T W hag hJ hd => ?_
          have d0 : T.getD 21 undef = _ := hd ⟨0, .data⟩ (by simp) rfl _ rfl
          clear hag hd
          go_simp
          first | exact ⟨_, rfl, rfl⟩ | exact ⟨_, rfl, rfl, hJ, srefl _ _⟩
        · refine RStep.of rfl fun T W hag hJ hd => ?_
          have d9 : T.getD 30 undef = _ := hd ⟨9, .data⟩ (by simp) rfl _ rfl
          clear hag hd
          go_simp
          first | exact ⟨_, rfl, rfl⟩ | exact ⟨_, rfl, rfl, hJ, srefl _ _⟩
        · refine RLast.of rfl fun T' W hag hJ hd => ?_
          have d10 : T'.getD 31 undef = _ := hd 10 _ (by simp) rfl
          obtain ⟨g, hg, hnew, hrow⟩ := hd 8 _ (by simp) rfl
          obtain ⟨v, d8⟩ : ∃ v, T'.getD 29 undef = v := ⟨_, rfl⟩
          replace hnew : RowAt W _ _ 1 (T'.getD 29 undef) _ _ := hnew
          rw [d8] at hnew
          obtain ⟨A2, cq, rfl, hz1, hz2⟩ := hnew.val
          have hqW : W.heap[q]? = _ := (hJ.1.block q (room_lt HN.out.hd) HQN.out).trans HN.out.hd
          have hst : (W.setCell ⟨q, 0, none⟩ (.slice A2 (k + 1) cq)).heap[q]? = some (.cells #[.slice A2 (k + 1) cq, v14, .slice none 0 0, vu, .bool false, .int .i64 0] 63 (0, 0)) := heap_setCell_same' hqW _
          have hrl := HRL.out
          have hpush := TabL.push (q := q) (f := 0) (row := zeroRow (n : Int)) HB1.out HN.out.hd (by rw [hrl]; exact HT1.out) HT2.out hJ.1 (by rw [hrl]; exact hnew) hg (by unfold zeroRow; rw [encB_zero, List.length_replicate, Int.toNat_natCast]; exact hrow) ⟨q, 0, none⟩ rfl (.slice A2 (k + 1) cq)
          have hoth := TabL.other (q := q) (g := g) (k := k) HN.out.hd HN.out.t14 (by omega) (by omega) (by omega) HT1.out hJ.1 ⟨q, 0, none⟩ rfl (.slice A2 (k + 1) cq)
          have hun : RowAt (W.setCell ⟨q, 0, none⟩ (.slice A2 (k + 1) cq)) (fun x => B ≤ x) 3 1 vu R (encN (List.replicate R 0)) := by
            refine ⟨⟨HN.out.un.1.1, ?_⟩, HN.out.un.2⟩
            rcases HN.out.un.1.2 with h0 | ⟨b, cap, cur, rfl, q0, q1, q2⟩
            · exact Or.inl h0
            · exact Or.inr ⟨b, cap, cur, rfl, q0, by rw [Below.heap_setCell _ _ _ _ (blk_type HN.out.hd q1 (by decide)), hJ.1.block b (room_lt q1) (fun e => by
                rcases HT1.out.1.2 with ⟨e', _⟩ | ⟨b', _, c', e', _, hc', _⟩
                · rw [e'] at e; cases e
                · rw [e'] at e; injection e with e; dsimp only at e; subst e; rw [q1] at hc'; injection hc' with hc'; injection hc' with _ hc'; exact absurd hc' (by decide))]; exact q1, q2⟩
          have hbel : Below B w0 (W.setCell ⟨q, 0, none⟩ (.slice A2 (k + 1) cq)) := HW1.out.trans ((hJ.1.below HB1.out (fun x hx => (HT1.out.2 x hx).1)).setCell (by exact HN.out.hq) _)
          rw [hrl] at hpush
          have hnewat : NewAt (W.setCell ⟨q, 0, none⟩ (.slice A2 (k + 1) cq)) B q vu R (fun x => if x < w1.heap.size then T x else if x = g then 2 * k + 2 + 0 else 0) (.slice A2 (k + 1) cq) v14 (rows ++ [zeroRow (n : Int)]) rows := ⟨hst, HN.out.hq, hpush, hoth, hun⟩
          have HM := Lib.hid (And.intro hnewat hbel)
          have c0 : W.cell? ⟨q, 0, none⟩ = some v9 := blk_cell hqW 0
          have f0 : W.frozen? ⟨q, 0, none⟩ = false := blk_free hqW 0
          have d8' := d8
          have d10' := d10
          rw [Array.getD_eq_getD_getElem?] at d8' d10'
          have HAG := Lib.hid hag
          clear hag hd hqW hst hrl hpush hoth hun hbel hnewat hnew hrow
          go_simp
          obtain ⟨fT, hf, hT⟩ := agree_fn HAG.out
          generalize (W.setCell ⟨q, 0, none⟩ (.slice A2 (k + 1) cq)) = W2 at *
          clear HAG hf d8 d10 d8' d10' c0 f0
          rw [hT]
          clear hT
          simp only [List.filterMap_cons, List.filterMap_nil, List.foldl_cons, List.foldl_nil, List.setIfInBounds_toArray, List.set_cons_succ, List.set_cons_zero]
          rename_i hJc hKc
          refine hKc _ _ (hJc _ _ ?_)
          repeat apply Exists.intro
          exact ⟨⟨_, _, rfl, rfl, rfl, HM.out⟩, rfl⟩
      case rest =>
        obtain ⟨T2, v92, rfl, rfl, rfl, hn2, hb2⟩ := hcut
        clear HW1 HB1 HT1 HT2 HN HQN HRL hcell
        obtain ⟨w2, rfl⟩ : ∃ w2, w2 = wc := ⟨wc, rfl⟩
        have HW1 := Lib.hid hb2
        have hb1 : B ≤ w2.heap.size := by rw [HBB.out]; exact hb2.size
        have HB1 := Lib.hid hb1
        obtain ⟨vs, t1, t2⟩ := hn2.t14
        have HRL : Hid (rows.length = k) := HK
        rw [HRL.out] at t1
        have HT1 := Lib.hid t1
        have HT2 := Lib.hid t2
        have HN := Lib.hid hn2
        have hqn : ¬ ((v14 : Value).ownBlock = some q) := fun e => by
          rcases t1.1.2 with ⟨e', _⟩ | ⟨b', _, c', e', _, hc', _⟩
          · rw [e'] at e; cases e
          · rw [e'] at e; injection e with e; dsimp only at e; subst e; rw [hn2.hd] at hc'; injection hc' with hc'; injection hc' with _ hc'; exact absurd hc' (by decide)
        have HQN := Lib.hid hqn
        clear t1 t2 hqn hb1 hb2 hn2
        go_wp2_with fail
        go_upto_region 8 with fail
        have hBd : ∀ x, (v14 : Value).ownBlock = some x → x < w2.heap.size := fun x hx => (HT1.out.1.lt x hx).2
        have srefl : ∀ (i : Nat) (W : World), SN7 v14 i W W := fun i W => by unfold SN7; split <;> exact World.grownBy.refl W _
        have hJ0 : Touch (fun x => (v14 : Value).ownBlock = some x) w2 w2.drew ∧ RowAt w2.drew (fun x => B ≤ x ∧ x < w2.heap.size ∧ T2 x = 1) 64 1 v14 k vs := ⟨(Touch.refl _ _).drew, HT1.out⟩
        refine wp_region_rgi (VN7 q 1 w2 (fun x => B ≤ x ∧ x < w2.heap.size ∧ T2 x = 1) v14 n k vs) (fun W => Touch (fun x => (v14 : Value).ownBlock = some x) w2 W ∧ RowAt W (fun x => B ≤ x ∧ x < w2.heap.size ∧ T2 x = 1) 64 1 v14 k vs) (SN7 v14) (by kernel_rfl) (by kernel_rfl) (fun i j v w w' hij h hg => h.on hBd hij hg) hJ0 ?_
        clear hJ0
        simp only [RAll]
        refine ⟨?_, ?_, ?_, ?_, ?_, ?_, ?_, ?_, ?_, ?_, ?_, ?_⟩
        · refine RStep.of rfl fun T W hag hJ hd => ?_
          have e4 : T.getD 4 undef = .pointer (some ⟨q, 0, none⟩) := (agree_at hag 4 (by kernel_rfl)).trans rfl
          clear hag hd
          go_simp
          first | exact ⟨_, rfl, rfl⟩ | exact ⟨_, rfl, rfl, hJ, srefl _ _⟩
        · refine RStep.of rfl fun T W hag hJ hd => ?_
          have e4 : T.getD 4 undef = .pointer (some ⟨q, 0, none⟩) := (agree_at hag 4 (by kernel_rfl)).trans rfl
          clear hag hd
          go_simp
          first | exact ⟨_, rfl, rfl⟩ | exact ⟨_, rfl, rfl, hJ, srefl _ _⟩
        · refine RStep.of rfl fun T W hag hJ hd => ?_
          have d1 : T.getD 33 undef = _ := hd ⟨1, .data⟩ (by simp) rfl _ rfl
          clear hag hd
          go_simp
          first | exact ⟨_, rfl, rfl⟩ | exact ⟨_, rfl, rfl, hJ, srefl _ _⟩
        · refine RStep.of rfl fun T W hag hJ hd => ?_
          have d2 : T.getD 34 undef = _ := hd ⟨2, .data⟩ (by simp) rfl _ rfl
          clear hag hd
          go_simp
          first | exact ⟨_, rfl, rfl⟩ | exact ⟨_, rfl, rfl, hJ, srefl _ _⟩
        · refine RStep.of rfl fun T W hag hJ hd => ?_
          have d3 : T.getD 35 undef = _ := hd ⟨3, .data⟩ (by simp) rfl _ rfl
          have c0 : W.cell? ⟨q, 1, none⟩ = some v14 := keepT hJ.1 (blk_cell HN.out.hd 1) HQN.out
          clear hag hd
          go_simp
          first | exact ⟨_, rfl, rfl⟩ | exact ⟨_, rfl, rfl, hJ, srefl _ _⟩
        · refine RStep.of rfl fun T W hag hJ hd => ?_
          have e6 : T.getD 6 undef = .int .i64 n := (agree_at hag 6 (by kernel_rfl)).trans rfl
          clear hag hd
          go_simp
          first | exact ⟨_, rfl, rfl⟩ | exact ⟨_, rfl, rfl, hJ, srefl _ _⟩
        · refine RStep.of rfl fun T W hag hJ hd => ?_
          have d5 : T.getD 37 undef = .int .i64 n := hd ⟨5, .data⟩ (by simp) rfl _ rfl
          obtain ⟨i0, hi0, hz0, hz1, hz2⟩ := info_parts info73
          refine wp_make_of 64 (.tmp 37) (.tmp 37) rfl 73 i0 _ 64 Try.underlying64 hi0 hz0 hz1 n .i64 .i64 d5 d5 (by rw [hz2]; omega) (by simp only [maxLen]; omega) ?_
          intro w' hrow hgr hsz
          rw [made_zero] at hrow
          refine ⟨_, rfl, ⟨W.heap.size, rfl, hJ.1.size, hrow, fun g hg => by injection hg with hg; exact hg.symm⟩, ⟨hJ.1.trans' (Touch.of_grown hgr) (fun x hx => by cases hx), hJ.2.keep fun x hx _ => hgr.block x hx (by simp)⟩, ?_⟩
          exact hgr
        · refine RStep.of rfl fun T W hag hJ hd => ?_
          obtain ⟨g, (d6 : T.getD 38 undef = _), hg, hrow⟩ := hd ⟨6, .data⟩ (by simp) rfl _ rfl
          obtain ⟨i0, hi0, hz0, hz1, hz2⟩ := info_parts infoRow
          refine wp_one_of 60 (.tmp 38) rfl 64 i0 _ 1 Try.underlying60 hi0 hz0 hz1 (by decide) (by decide) _ d6 rfl ?_
          refine ⟨_, rfl, ⟨W.heap.size, g, rfl, hJ.1.size, heap_alloc_new W _, hg, hrow.keep fun x hx _ => Below.heap_alloc W _ x hx⟩, ⟨hJ.1.alloc _, hJ.2.keep fun x hx _ => Below.heap_alloc W _ x hx⟩, ?_⟩
          exact World.grownBy_alloc W _ _
        · refine RStep.of rfl fun T W hag hJ hd => ?_
          have d4 : T.getD 36 undef = v14 := hd ⟨4, .data⟩ (by simp) rfl _ rfl
          obtain ⟨x, g, (d7 : T.getD 39 undef = _), hx1, hx2, hg, hrow⟩ := hd ⟨7, .data⟩ (by simp) rfl _ rfl
          obtain ⟨i0, hi0, hz0, hz1, hz2⟩ := info_parts infoRow
          refine wp_push_of (.tmp 36) (.tmp 39) 60 rfl 64 i0 _ 1 24 Try.underlying60 hi0 hz0 hz1 hz2 rfl (by decide) v14 k vs d4 _ hJ.2 ⟨x, 0, none⟩ 1 1 [.slice (some ⟨g, 0, none⟩) n n] d7 rfl (World.news_of_block hx2) (fun u hu => by rw [List.mem_singleton.1 hu]; rfl) (by simp only [maxLen]; omega) (by omega) ?_
          intro v' w' hnew hgr hold
          refine ⟨_, rfl, ⟨g, hg, hnew.owner ?_, hrow.keep fun y hy e => hgr.block y hy (fun e2 => ?_)⟩, ⟨hJ.1.trans' (Touch.of_grown hgr) (fun y hy => Or.inl hy.symm), hold⟩, hgr⟩
          · intro y _ hy
            rcases hy with hy | hy
            · exact Or.inl hy
            · exact Or.inr (by have := hJ.1.size; omega)
          · have := (hJ.2.2 y e2.symm).2.1; omega
        · refine RStep.of rfl fun T W hag hJ hd => ?_
          have d0 : T.getD 32 undef = _ := hd ⟨0, .data⟩ (by simp) rfl _ rfl
          clear hag hd
          go_simp
          first | exact ⟨_, rfl, rfl⟩ | exact ⟨_, rfl, rfl, hJ, srefl _ _⟩
        · refine RStep.of rfl fun T W hag hJ hd => ?_
          have d9 : T.getD 41 undef = _ := hd ⟨9, .data⟩ (by simp) rfl _ rfl
          clear hag hd
          go_simp
          first | exact ⟨_, rfl, rfl⟩ | exact ⟨_, rfl, rfl, hJ, srefl _ _⟩
        · refine RLast.of rfl fun T' W hag hJ hd => ?_
          have d10 : T'.getD 42 undef = _ := hd 10 _ (by simp) rfl
          obtain ⟨g, hg, hnew, hrow⟩ := hd 8 _ (by simp) rfl
          obtain ⟨v, d8⟩ : ∃ v, T'.getD 40 undef = v := ⟨_, rfl⟩
          replace hnew : RowAt W _ _ 1 (T'.getD 40 undef) _ _ := hnew
          rw [d8] at hnew
          obtain ⟨A2, cq, rfl, hz1, hz2⟩ := hnew.val
          have hqW : W.heap[q]? = _ := (hJ.1.block q (room_lt HN.out.hd) HQN.out).trans HN.out.hd
          have hst : (W.setCell ⟨q, 1, none⟩ (.slice A2 (k + 1) cq)).heap[q]? = some (.cells #[v92, .slice A2 (k + 1) cq, .slice none 0 0, vu, .bool false, .int .i64 0] 63 (0, 0)) := heap_setCell_same' hqW _
          have hrl := HRL.out
          have hpush := TabL.push (q := q) (f := 1) (row := zeroRow (n : Int)) HB1.out HN.out.hd (by rw [hrl]; exact HT1.out) HT2.out hJ.1 (by rw [hrl]; exact hnew) hg (by unfold zeroRow; rw [encB_zero, List.length_replicate, Int.toNat_natCast]; exact hrow) ⟨q, 1, none⟩ rfl (.slice A2 (k + 1) cq)
          have hoth := TabL.other (q := q) (g := g) (k := k) HN.out.hd HN.out.t9 (by omega) (by omega) (by omega) HT1.out hJ.1 ⟨q, 1, none⟩ rfl (.slice A2 (k + 1) cq)
          have hun : RowAt (W.setCell ⟨q, 1, none⟩ (.slice A2 (k + 1) cq)) (fun x => B ≤ x) 3 1 vu R (encN (List.replicate R 0)) := by
            refine ⟨⟨HN.out.un.1.1, ?_⟩, HN.out.un.2⟩
            rcases HN.out.un.1.2 with h0 | ⟨b, cap, cur, rfl, q0, q1, q2⟩
            · exact Or.inl h0
            · exact Or.inr ⟨b, cap, cur, rfl, q0, by rw [Below.heap_setCell _ _ _ _ (blk_type HN.out.hd q1 (by decide)), hJ.1.block b (room_lt q1) (fun e => by
                rcases HT1.out.1.2 with ⟨e', _⟩ | ⟨b', _, c', e', _, hc', _⟩
                · rw [e'] at e; cases e
                · rw [e'] at e; injection e with e; dsimp only at e; subst e; rw [q1] at hc'; injection hc' with hc'; injection hc' with _ hc'; exact absurd hc' (by decide))]; exact q1, q2⟩
          have hbel : Below B w0 (W.setCell ⟨q, 1, none⟩ (.slice A2 (k + 1) cq)) := HW1.out.trans ((hJ.1.below HB1.out (fun x hx => (HT1.out.2 x hx).1)).setCell (by exact HN.out.hq) _)
          rw [hrl] at hpush
          have hnewat : NewAt (W.setCell ⟨q, 1, none⟩ (.slice A2 (k + 1) cq)) B q vu R (fun x => if x < w2.heap.size then T2 x else if x = g then 2 * k + 2 + 1 else 1) v92 (.slice A2 (k + 1) cq) (rows ++ [zeroRow (n : Int)]) (rows ++ [zeroRow (n : Int)]) := ⟨hst, HN.out.hq, hoth, hpush, hun⟩
          have HM := Lib.hid (And.intro hnewat hbel)
          have c0 : W.cell? ⟨q, 1, none⟩ = some v14 := blk_cell hqW 1
          have f0 : W.frozen? ⟨q, 1, none⟩ = false := blk_free hqW 1
          have d8' := d8
          have d10' := d10
          rw [Array.getD_eq_getD_getElem?] at d8' d10'
          have HAG := Lib.hid hag
          clear hag hd hqW hst hrl hpush hoth hun hbel hnewat hnew hrow
          go_simp
          obtain ⟨fT, hf, hT⟩ := agree_fn HAG.out
          generalize (W.setCell ⟨q, 1, none⟩ (.slice A2 (k + 1) cq)) = W2 at *
          clear HAG hf d8 d10 d8' d10' c0 f0
          rw [hT]
          clear hT
          simp only [List.filterMap_cons, List.filterMap_nil, List.foldl_cons, List.foldl_nil, List.setIfInBounds_toArray, List.set_cons_succ, List.set_cons_zero]
          go_wp2
          go_roundw
          case rel => exact ⟨k + 1, _, _, _, by go_num, by omega, by rw [HSN.out]; exact HM.out.1, HM.out.2⟩
          case measure => simp [intOf]; omega
    · obtain rfl : k = R := by omega
      rw [List.take_of_length_le (by rw [HR.out]; exact Nat.le_refl _)] at hn
      have HN := Lib.hid hn
      have HB1 := Lib.hid hb
      clear hn hb
      go_wp2
      go_ret2
      obtain ⟨F, hF, hFB⟩ := dev_of_new HN.out (by rw [HR.out]) HOK.out
      rw [HBB.out] at hFB
      exact ⟨⟨q, F, rfl, hF, hFB⟩, by have := HB1.out; rw [HBB.out] at this; exact this⟩
end Go.Proofs.Ytocmjbfbjiinhaa
