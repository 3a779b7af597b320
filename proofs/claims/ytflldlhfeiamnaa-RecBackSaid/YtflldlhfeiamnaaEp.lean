/- Contract: rec.read. -/
import Derived.Test.YtflldlhfeiamnaaEo
import Derived.Deep.DeepCutAuto
import Derived.StillTailTactics
import Derived.Test.YtflldlhfeiamnaaRk
namespace Go.Proofs.Ytflldlhfeiamnaa
open Go.ChangeShapes Go.WideShapes Go.ChangeAt Go.RowKit
set_option linter.unusedVariables false
def RdEnd (w : World) (a' : Act) (w' : World) : Prop := Below w.heap.size w w' ∧ ∃ u0 u1 u2 u3 u4 u5 u6 u7 u8 u9 u10 u11 u12 u13 u14 u15 u16 u17 u18 u19 u20 u21 u22 u23 u24 u25 u26 u27 u28 u29 u30 u31 u32 u33 u34 u35 u36 u37 u38 u39 u40 u41 u42 u43 u44 u45 u46 u47 u48 u49 u50 u51 u52 : Value, a' = { tmps := #[u0, u1, u2, u3, u4, u5, u6, u7, u8, u9, u10, u11, u12, u13, u14, u15, u16, u17, u18, u19, u20, u21, u22, u23, u24, u25, u26, u27, u28, u29, u30, u31, u32, u33, u34, u35, u36, u37, u38, u39, u40, u41, u42, u43, u44, u45, u46, u47, u48, u49, u50, u51, u52], defers := [] }
def RdNext (w : World) (A : Option Addr) (n c : Nat) (fa : Addr) (fd cn : Nat) (log : List (List Int)) (a' : Act) (w' : World) : Prop := ∃ (k : Nat) (v : Value), k ≤ cn ∧ OwnW w' w.heap.size v (readW log k) ∧ Below w.heap.size w w' ∧ sliceLen v = k ∧ ∃ u1 u7 u8 u9 u10 u11 u12 u13 u14 u15 u16 u17 u18 u19 u20 u21 u22 u23 u24 u25 u26 u27 u28 u29 u30 u31 u32 u33 u34 u35 u36 u37 u38 u39 u40 u41 u42 u43 u44 u45 u46 u47 u48 u49 u50 u51 u52 : Value, a' = { tmps := #[.slice A n c, u1, .slice none 0 0, .bool false, v, .slice (some fa) 64 fd, .int .i64 cn, u7, u8, u9, u10, u11, u12, u13, u14, u15, u16, u17, u18, u19, u20, u21, u22, u23, u24, u25, u26, u27, u28, u29, u30, u31, u32, u33, u34, u35, u36, u37, u38, u39, u40, u41, u42, u43, u44, u45, u46, u47, u48, u49, u50, u51, u52], defers := [] }
theorem own_len {w : World} {base : Nat} {v : Value} {l : List Wr} (h : OwnW w base v l) : sliceLen v = l.length := by
  rcases h.2 with ⟨rfl, h0⟩ | ⟨g, cap, cur, rfl, _⟩
  · rw [h0]; rfl
  · rfl
/-- What the region keeps. -/
structure JRD (base : Nat) (w : World) (lv : Value) (l : List Wr) (W : World) : Prop where
  bel : Below base w W
  row : OwnW W base lv l
def VRD (base : Nat) (ad fa : Addr) (n c fd k p q d bl : Nat) (B Av : Option Addr) (dv : Nat) (y : Wr) (l : List Wr) (i : Nat) (v : Value) (w : World) : Prop :=
  match i with
  | 0 | 2 | 8 => v = .slice Av k dv
  | 1 => v = .slice (some fa) 64 fd
  | 3 | 9 => v = .int .i64 k
  | 4 => v = .int .i64 (3 * (k : Int))
  | 5 => v = .int .i64 (q : Nat)
  | 6 => v = .slice (some (fa.add q)) (64 - q) (fd - q)
  | 7 => v = .slice (some ad) n c
  | 10 => v = .int .i64 (p : Nat)
  | 11 => v = .pointer (some (ad.add p))
  | 12 => v = .slice B bl d
  | 13 => v = .agg (wrA y)
  | 14 => ∃ g, v = .slice (some ⟨g, 0, none⟩) 1 1 ∧ w.heap[g]? = some (.cells (wrA y) 46 (0, 0)) ∧ (Value.slice Av k dv).ownBlock ≠ some g
  | 15 => OwnW w base v (l ++ [y])
  | _ => True
def SRD (lv : Value) (i : Nat) (w w' : World) : Prop := w.grownBy w' (if i = 15 then lv.ownBlock else none)
theorem VRD.on {base : Nat} {ad fa : Addr} {n c fd k p q d bl : Nat} {B Av : Option Addr} {dv : Nat} {y : Wr} {l : List Wr} {i j : Nat} {v : Value} {w w' : World} (hij : i ≠ j) (h : VRD base ad fa n c fd k p q d bl B Av dv y l j v w) (hs : SRD (.slice Av k dv) i w w') : VRD base ad fa n c fd k p q d bl B Av dv y l j v w' := by
  unfold SRD at hs
  unfold VRD at *
  split <;> try exact h
  · obtain ⟨g, h1, h2, h3⟩ := h
    refine ⟨g, h1, ?_, h3⟩
    rw [hs.block g (room_lt h2) (by split; exact fun e => h3 e.symm; simp)]; exact h2
  · rw [if_neg hij] at hs
    exact World.ownsRow.kept h hs (by cases v.ownBlock <;> simp)
  · trivial
/-- append of a write: the old row reads as it did. -/
theorem wp_app_wr {w : World} {o : Oper} {a : Act} {K : Act → World → Prop} {Q : Exit → Act → World → Prop} (s x : Operand)
    (ho : o.op = .call { callee := .builtin .append, args := #[s, x], argTypes := #[23, 23] })
    (base : Nat) (v : Value) (l : List Wr) (hs : a.eval s = v) (hown : OwnW w base v l) (g : Nat) (y : Wr) (h56 : y.bs.length = 56) (hx : a.eval x = .slice (some ⟨g, 0, none⟩) 1 1) (hg : WrAt w ⟨g, 0, none⟩ y) (h63 : l.length ≤ 1000) (hbase : base ≤ w.heap.size)
    (h : ∀ v' w', OwnW w' base v' (l ++ [y]) → w.grownBy w' v.ownBlock → OwnW w' base v l → K (a.put o.dst v') w') : o.wp Try.prog a w K Q := by
  obtain ⟨i0, hi, hz0, hz1, hz2⟩ := info_parts infoW
  have hzs : (Value.agg (wrA zW)).cells.size = 58 := by show (wrA zW).size = 58; exact wrA_size zW_len
  obtain ⟨v', w', hr, h2, h3, _, _⟩ := run_append_own_at (P := Try.prog) w base 23 o.type 46 i0 _ 58 72 Try.underlying23 hi hz0 hz1 hz2 hzs (by decide) v l.length _ hown ⟨g, 0, none⟩ 1 1 (wrL y) (by rw [wrL_length h56]) hg (wrL_one y) (by simp only [maxLen]; omega) (by omega) hbase
  have h4 := append_old (w := w) (w' := w') 23 o.type 46 i0 _ 58 72 Try.underlying23 hi hz0 hz1 hz2 hzs (by decide) v l.length _ (hown.mono (Nat.zero_le _)) ⟨g, 0, none⟩ 1 1 (wrL y) (by rw [wrL_length h56]) hg (wrL_one y) (by simp only [maxLen]; omega) (by omega) hr
  have h5 : OwnW w' base v l := by
    refine ⟨h4.1, ?_⟩
    rcases h4.2 with h6 | ⟨g', cap, cur, e, _, h7⟩
    · exact Or.inl h6
    · exact Or.inr ⟨g', cap, cur, e, (hown.lt g' (by rw [e]; rfl)).1, h7⟩
  unfold Oper.wp execOp
  simp only [ho, resolve, invoke, builtin, Sem.run_bind, Sem.run_pure, Result.andThen_ok, List.map_toArray, List.map_cons, List.map_nil, hs, hx, hr]
  refine h v' w' ?_ h3 h5
  unfold OwnW
  rw [wrsL_append, List.length_append]
  simpa [wrsL] using h2
def readX (log : List (List Int)) : List Wr := if CanRead log then readW log (cnt log) else []
set_option maxRecDepth 100000 in
set_option maxHeartbeats 3200000 in
theorem read_any (A : Option Addr) (log : List (List Int)) (n c : Nat) (w : World) (hn : log.length = n) (hl : n ≤ c) (hc : c ≤ 9223372036854775807) (hok : TxOk log) (hy : Tx w A log) :
    Calls Try.prog 26 #[.slice A n c] w fun e w' => ∃ v, e = .returned (.tuple #[v, .bool (decide (CanRead log))]) ∧ OwnW w' w.heap.size v (readX log) ∧ Below w.heap.size w w' := by
  have HY := Lib.hid hy
  have HN := Lib.hid hn
  have HO := Lib.hid hok
  clear hn hok hy
  have hno : ¬ CanRead log → readX log = [] := fun h => by unfold readX; rw [if_neg h]
  have HNO := Lib.hid hno
  clear hno
  go_enter Try.func26, Try.ntmps26
  go_wp2
  by_cases h0 : n = 0
  · subst h0
    have HF : Hid (¬ CanRead log) := fun h => by have := h.2.2; rw [HN.out] at this; omega
    refine wp_scope2f (RdEnd w) (fun _ _ => False) (fun _ _ => 0) rfl rfl ?_ (fun _ _ h => h.elim) ?_
    · intro _
      go_wp2
      go_step3
      exact (show RdEnd _ _ _ from ⟨Below.refl _ _, _, _, _, _, _, _, _, _, _, _, _, _, _, _, _, _, _, _, _, _, _, _, _, _, _, _, _, _, _, _, _, _, _, _, _, _, _, _, _, _, _, _, _, _, _, _, _, _, _, _, _, _, _,  rfl⟩)
    · rintro a' W ⟨hbel, u0, u1, u2, u3, u4, u5, u6, u7, u8, u9, u10, u11, u12, u13, u14, u15, u16, u17, u18, u19, u20, u21, u22, u23, u24, u25, u26, u27, u28, u29, u30, u31, u32, u33, u34, u35, u36, u37, u38, u39, u40, u41, u42, u43, u44, u45, u46, u47, u48, u49, u50, u51, u52, rfl⟩
      go_wp2
      try simp only [jumps]
      go_ret2
      exact ⟨.slice none 0 0, by rw [decide_eq_false HF.out]; rfl, by rw [HNO.out HF.out]; exact OwnW.nil _ _, hbel⟩
  · obtain ⟨b0, hb0⟩ : ∃ b0, log[0]? = some b0 := ⟨_, List.getElem?_eq_getElem (by rw [HN.out]; omega)⟩
    have hhd : log.headD [] = b0 := by
      cases log with
      | nil => cases hb0
      | cons y l => injection hb0
    obtain ⟨ad, F, fd, rfl, hc0, hfl, hfd, hby⟩ := HY.out 0 b0 hb0
    have ea : ad.add 0 = ad := by unfold Addr.add; simp
    rw [ea] at hc0
    have HB0 := Lib.hid (HO.out b0 (List.mem_of_getElem? hb0))
    have HHD := Lib.hid hhd
    have HBY := Lib.hid hby
    clear ea hby hhd hb0
    by_cases h64 : b0.length = 64
    · have HL64 := Lib.hid h64
      rw [h64] at hc0 hfl
      obtain ⟨x10, hx10⟩ : ∃ x10, b0[10]? = some x10 := ⟨_, List.getElem?_eq_getElem (by rw [h64]; omega)⟩
      obtain ⟨fa, rfl, hc10⟩ := HBY.out 10 x10 hx10
      have hxb := HB0.out x10 (List.mem_of_getElem? hx10)
      obtain ⟨cn, rfl⟩ : ∃ cn : Nat, x10 = (cn : Int) := ⟨x10.toNat, by omega⟩
      have HCN : Hid (cnt log = cn) := by unfold Hid cnt; rw [HHD.out, List.getD, hx10]; simp
      rw [show (10 : Nat) = 9 + 1 from rfl, add_sum fa 9] at hc10
      clear hx10 h64
      by_cases h12 : 12 < cn
      · have HF : Hid (¬ CanRead log) := fun h => by have := h.2.1; rw [HCN.out] at this; omega
        have hd1 : decide (12 < (cn : Int)) = true := decide_eq_true (by omega)
        refine wp_scope2f (RdEnd w) (fun _ _ => False) (fun _ _ => 0) rfl rfl ?_ (fun _ _ h => h.elim) ?_
        · intro _
          go_wp2
          go_step3
          exact (show RdEnd _ _ _ from ⟨Below.refl _ _, _, _, _, _, _, _, _, _, _, _, _, _, _, _, _, _, _, _, _, _, _, _, _, _, _, _, _, _, _, _, _, _, _, _, _, _, _, _, _, _, _, _, _, _, _, _, _, _, _, _, _, _, _,  rfl⟩)
        · rintro a' W ⟨hbel, u0, u1, u2, u3, u4, u5, u6, u7, u8, u9, u10, u11, u12, u13, u14, u15, u16, u17, u18, u19, u20, u21, u22, u23, u24, u25, u26, u27, u28, u29, u30, u31, u32, u33, u34, u35, u36, u37, u38, u39, u40, u41, u42, u43, u44, u45, u46, u47, u48, u49, u50, u51, u52, rfl⟩
          go_wp2
          try simp only [jumps]
          go_ret2
          exact ⟨.slice none 0 0, by rw [decide_eq_false HF.out]; rfl, by rw [HNO.out HF.out]; exact OwnW.nil _ _, hbel⟩
      have hd1 : decide (12 < (cn : Int)) = false := decide_eq_false (by omega)
      by_cases hcn : n ≤ cn
      · have HF : Hid (¬ CanRead log) := fun h => by have := h.2.2; rw [HCN.out, HN.out] at this; omega
        have hd2 : decide ((n : Int) ≤ cn) = true := decide_eq_true (by omega)
        refine wp_scope2f (RdEnd w) (fun _ _ => False) (fun _ _ => 0) rfl rfl ?_ (fun _ _ h => h.elim) ?_
        · intro _
          go_wp2
          go_step3
          exact (show RdEnd _ _ _ from ⟨Below.refl _ _, _, _, _, _, _, _, _, _, _, _, _, _, _, _, _, _, _, _, _, _, _, _, _, _, _, _, _, _, _, _, _, _, _, _, _, _, _, _, _, _, _, _, _, _, _, _, _, _, _, _, _, _, _,  rfl⟩)
        · rintro a' W ⟨hbel, u0, u1, u2, u3, u4, u5, u6, u7, u8, u9, u10, u11, u12, u13, u14, u15, u16, u17, u18, u19, u20, u21, u22, u23, u24, u25, u26, u27, u28, u29, u30, u31, u32, u33, u34, u35, u36, u37, u38, u39, u40, u41, u42, u43, u44, u45, u46, u47, u48, u49, u50, u51, u52, rfl⟩
          go_wp2
          try simp only [jumps]
          go_ret2
          exact ⟨.slice none 0 0, by rw [decide_eq_false HF.out]; rfl, by rw [HNO.out HF.out]; exact OwnW.nil _ _, hbel⟩
      have hd2 : decide ((n : Int) ≤ cn) = false := decide_eq_false (by omega)
      have HT : Hid (CanRead log) := ⟨by rw [HHD.out]; exact HL64.out, by rw [HCN.out]; omega, by rw [HCN.out, HN.out]; omega⟩
      have HRX : Hid (readX log = readW log cn) := by unfold Hid readX; rw [if_pos HT.out, HCN.out]
      refine wp_scope2f (fun _ _ => False) (RdNext w (some ad) n c fa fd cn log) (fun a' _ => cn - sliceLen (a'.tmps.getD 4 undef)) rfl rfl ?_ ?_ (fun _ _ h => h.elim)
      · intro HF0
        have HF := Lib.hid HF0
        clear HF0
        go_wp2
        go_step3
        rename_i hK
        refine hK _ _ (HF.out _ _ ⟨0, .slice none 0 0, Nat.zero_le _, OwnW.nil _ _, Below.refl _ _, rfl, _, _, _, _, _, _, _, _, _, _, _, _, _, _, _, _, _, _, _, _, _, _, _, _, _, _, _, _, _, _, _, _, _, _, _, _, _, _, _, _, _, _, _, _, _, _, _,  rfl⟩)
      · rintro a' W ⟨k, v, hk, own, hbel, hsl, u1, u7, u8, u9, u10, u11, u12, u13, u14, u15, u16, u17, u18, u19, u20, u21, u22, u23, u24, u25, u26, u27, u28, u29, u30, u31, u32, u33, u34, u35, u36, u37, u38, u39, u40, u41, u42, u43, u44, u45, u46, u47, u48, u49, u50, u51, u52, rfl⟩
        have h56 := (readW_ok HO.out k).len
        obtain ⟨Av, dv, rfl, _, _, _⟩ := own.wrs h56
        rw [readW_length]
        have HOW := Lib.hid own
        rw [readW_length] at HOW
        clear own h56 hsl
        by_cases hkc : k = cn
        · subst hkc
          go_wp2
          try simp only [jumps]
          go_ret2
          exact ⟨_, by rw [decide_eq_true HT.out]; rfl, by rw [HRX.out]; exact HOW.out, hbel⟩
        · have hq : ((k : Int) == cn) = false := by simp; omega
          obtain ⟨bx, hbx⟩ : ∃ bx, log[1 + k]? = some bx := ⟨_, List.getElem?_eq_getElem (by rw [HN.out]; omega)⟩
          obtain ⟨a', B, d, e', hcx, hbl, hd', hbyx⟩ := HY.out (1 + k) bx hbx
          injection e' with e'; subst e'
          obtain ⟨p, hp, HP⟩ : ∃ p : Nat, 1 + (k : Int) = p ∧ Hid (p = 1 + k) := ⟨1 + k, by omega, rfl⟩
          obtain ⟨q, hqq, HQ⟩ : ∃ q : Nat, 11 + 3 * (k : Int) = q ∧ Hid (q = 11 + 3 * k) := ⟨11 + 3 * k, by omega, rfl⟩
          have hpn : (p : Int) < n := by omega
          have hq64 : q ≤ 44 := by omega
          have hq64' : (q : Int) ≤ 64 := by omega
          have hfq : ¬ fd = q := by omega
          have w3 : IntKind.i64.wrap (3 * (k : Int)) = 3 * (k : Int) := IntWalk.i64_in _ (by omega)
          have wq : IntKind.i64.wrap (q : Int) = q := IntWalk.i64_in _ (by omega)
          have wp : IntKind.i64.wrap (p : Int) = p := IntWalk.i64_in _ (by omega)
          have HC1 : Hid (∀ W', Below w.heap.size w W' → W'.cell? (ad.add p) = some (.slice B bx.length d)) := fun W' hW => by rw [HP.out]; exact keepC hW hcx
          have HBX := Lib.hid hbx
          have hwat : wAt log k = ⟨numV ((b0.drop q).take 2), b0.getD (q + 2) 0, padB bx⟩ := by
            unfold wAt; rw [HHD.out, HQ.out, List.getD_eq_getElem?_getD (l := log), hbx, show 11 + 3 * k + 2 = 13 + 3 * k by omega]; rfl
          obtain ⟨y2, hy2⟩ : ∃ y2, b0[q + 2]? = some y2 := ⟨_, List.getElem?_eq_getElem (by rw [HL64.out]; omega)⟩
          have hyg : b0.getD (q + 2) 0 = y2 := by rw [List.getD, hy2]; rfl
          rw [hyg] at hwat
          have HW : Hid (∀ W', Below w.heap.size w W' → Calls Try.prog 34 #[.slice (some (fa.add q)) (64 - q) (fd - q), .slice B bx.length d] W' fun e w' => e = .returned (.agg (wrA (wAt log k))) ∧ Below W'.heap.size W' w') := fun W' hW => by
            rw [hwat]
            refine writeof_any _ B (b0.drop q) bx (64 - q) (fd - q) bx.length d y2 W' (by rw [List.length_drop, HL64.out]) (by omega) (by omega) (by omega) rfl (fun z hz => HB0.out z (List.mem_of_mem_drop hz)) (by rw [List.getElem?_drop]; exact hy2) ?_ (hbyx.keep hW)
            intro i z hz
            rw [List.getElem?_drop] at hz
            obtain ⟨a2, e2, h2⟩ := (HBY.out.keep hW) _ _ hz
            injection e2 with e2; subst e2
            exact ⟨_, rfl, by rw [add_add']; exact h2⟩
          have HY56 : Hid ((wAt log k).bs.length = 56) := (wAt_ok HO.out k).len
          clear hcx hbx hbyx hwat hy2 hyg
          go_upto_region 10 with fail
          have srefl : ∀ (i : Nat) (W : World), SRD (.slice Av k dv) i W W := fun i W => World.grownBy.refl _ _
          have hJ0 : JRD w.heap.size w (.slice Av k dv) (readW log k) W.drew := ⟨hbel.drew, HOW.out⟩
          refine wp_region_rgk (VRD w.heap.size ad fa n c fd k p q d bx.length B Av dv (wAt log k) (readW log k)) (fun _ W => JRD w.heap.size w (.slice Av k dv) (readW log k) W) (SRD (.slice Av k dv)) (by kernel_rfl) (by kernel_rfl) (fun i j v' w' w'' hij hind h hg => h.on hij hg) hJ0 ?_
          clear hJ0
          simp only [RAll]
          refine ⟨?_, ?_, ?_, ?_, ?_, ?_, ?_, ?_, ?_, ?_, ?_, ?_, ?_, ?_, ?_, ?_, ?_⟩
          · refine RStepK.of rfl fun T W L hag hL hJ hLs hd => ?_   -- 0: 37 := Op.move (Operand.tmp 4)
            have e4 : T.getD 4 undef = _ := (agree_at hag 4 (by kernel_rfl)).trans rfl
            clear hag hd
            go_simp
            exact ⟨_, rfl, rfl⟩
          · refine RStepK.of rfl fun T W L hag hL hJ hLs hd => ?_   -- 1: 38 := Op.move (Operand.tmp 5)
            have e5 : T.getD 5 undef = _ := (agree_at hag 5 (by kernel_rfl)).trans rfl
            clear hag hd
            go_simp
            exact ⟨_, rfl, rfl⟩
          · refine RStepK.of rfl fun T W L hag hL hJ hLs hd => ?_   -- 2: 39 := Op.move (Operand.tmp 4)
            have e4 : T.getD 4 undef = _ := (agree_at hag 4 (by kernel_rfl)).trans rfl
            clear hag hd
            go_simp
            exact ⟨_, rfl, rfl⟩
          · refine RStepK.of rfl fun T W L hag hL hJ hLs hd => ?_   -- 3: 40 := Op.call { callee := Callee.builtin Builtin.len, args := #[Operand.tmp 
            have d39 : T.getD 39 undef = _ := hd ⟨2, .data⟩ (by simp) rfl _ rfl
            clear hag hd
            go_simp
            exact ⟨_, rfl, rfl⟩
          · refine RStepK.of rfl fun T W L hag hL hJ hLs hd => ?_   -- 4: 41 := Op.binOp BinOp.mul 3 (Operand.const (Value.int IntKind.i64 3)) (Operan
            have d40 : T.getD 40 undef = _ := hd ⟨3, .data⟩ (by simp) rfl _ rfl
            clear hag hd
            go_simp
            exact ⟨_, rfl, rfl⟩
          · refine RStepK.of rfl fun T W L hag hL hJ hLs hd => ?_   -- 5: 42 := Op.binOp BinOp.add 3 (Operand.const (Value.int IntKind.i64 11)) (Opera
            have d41 : T.getD 41 undef = _ := hd ⟨4, .data⟩ (by simp) rfl _ rfl
            clear hag hd
            go_simp
            exact ⟨_, rfl, rfl⟩
          · refine RStepK.of rfl fun T W L hag hL hJ hLs hd => ?_   -- 6: 43 := Op.slice 25 (Operand.tmp 38) (some (Operand.tmp 42)) none none
            have d38 : T.getD 38 undef = _ := hd ⟨1, .data⟩ (by simp) rfl _ rfl
            have d42 : T.getD 42 undef = _ := hd ⟨5, .data⟩ (by simp) rfl _ rfl
            clear hag hd
            go_simp
            exact ⟨_, rfl, rfl⟩
          · refine RStepK.of rfl fun T W L hag hL hJ hLs hd => ?_   -- 7: 44 := Op.move (Operand.tmp 0)
            have e0 : T.getD 0 undef = _ := (agree_at hag 0 (by kernel_rfl)).trans rfl
            clear hag hd
            go_simp
            exact ⟨_, rfl, rfl⟩
          · refine RStepK.of rfl fun T W L hag hL hJ hLs hd => ?_   -- 8: 45 := Op.move (Operand.tmp 4)
            have e4 : T.getD 4 undef = _ := (agree_at hag 4 (by kernel_rfl)).trans rfl
            clear hag hd
            go_simp
            exact ⟨_, rfl, rfl⟩
          · refine RStepK.of rfl fun T W L hag hL hJ hLs hd => ?_   -- 9: 46 := Op.call { callee := Callee.builtin Builtin.len, args := #[Operand.tmp 
            have d45 : T.getD 45 undef = _ := hd ⟨8, .data⟩ (by simp) rfl _ rfl
            clear hag hd
            go_simp
            exact ⟨_, rfl, rfl⟩
          · refine RStepK.of rfl fun T W L hag hL hJ hLs hd => ?_   -- 10: 47 := Op.binOp BinOp.add 3 (Operand.const (Value.int IntKind.i64 1)) (Operan
            have d46 : T.getD 46 undef = _ := hd ⟨9, .data⟩ (by simp) rfl _ rfl
            clear hag hd
            go_simp
            exact ⟨_, rfl, rfl⟩
          · refine RStepK.of rfl fun T W L hag hL hJ hLs hd => ?_   -- 11: 48 := Op.indexAddr 24 (Operand.tmp 44) (Operand.tmp 47)
            have d44 : T.getD 44 undef = _ := hd ⟨7, .data⟩ (by simp) rfl _ rfl
            have d47 : T.getD 47 undef = _ := hd ⟨10, .data⟩ (by simp) rfl _ rfl
            clear hag hd
            go_simp
            exact ⟨_, rfl, rfl⟩
          · refine RStepK.of rfl fun T W L hag hL hJ hLs hd => ?_   -- 12: 49 := Op.load 25 (Operand.tmp 48)
            have d48 : T.getD 48 undef = _ := hd ⟨11, .data⟩ (by simp) rfl _ rfl
            have fct0 := HC1.out W hJ.bel
            clear hag hd
            go_simp
            exact ⟨_, rfl, rfl⟩
          · refine RStepK.of rfl fun T W L hag hL hJ hLs hd => ?_   -- 13: 50 := Op.call { callee := Callee.value (Operand.func 34), args := #[Operand.
            have d43 : T.getD 43 undef = _ := hd ⟨6, .data⟩ (by simp) rfl _ rfl
            have d49 : T.getD 49 undef = _ := hd ⟨12, .data⟩ (by simp) rfl _ rfl
            clear hag hd
            go_simp
            refine (HW.out W hJ.bel).mono ?_; rintro en w' ⟨rfl, hb⟩
            exact ⟨_, rfl, rfl, ⟨hJ.bel.trans (hb.mono hJ.bel.size), ownB hJ.row hb⟩, growN hb⟩
          · refine RStepK.of rfl fun T W L hag hL hJ hLs hd => ?_   -- 14: 51 := Op.buildSlice 23 1 #[(0, Operand.tmp 50)]
            have d50 : T.getD 50 undef = _ := hd ⟨13, .data⟩ (by simp) rfl _ rfl
            clear hag hd
            obtain ⟨i0, hi, hz0, hz1, hz2⟩ := info_parts infoW
            refine wp_one_of 23 (.tmp 50) rfl 46 i0 _ 58 Try.underlying23 hi hz0 hz1 (by decide) (by decide) _ d50 (by show (wrA _).size = 58; exact wrA_size HY56.out) ?_
            exact ⟨_, rfl, ⟨W.heap.size, rfl, heap_alloc_new W _, fun e => Nat.lt_irrefl _ (hJ.row.lt _ e).2⟩, ⟨hJ.bel.alloc hJ.bel.size _, hJ.row.alloc _⟩, World.grownBy_alloc W _ _⟩
          · refine RStepK.of rfl fun T W L hag hL hJ hLs hd => ?_   -- 15: 52 := Op.call { callee := Callee.builtin Builtin.append, args := #[Operand.t
            have d37 : T.getD 37 undef = _ := hd ⟨0, .data⟩ (by simp) rfl _ rfl
            obtain ⟨g, (e51 : T.getD 51 undef = _), hg, hne⟩ := hd ⟨14, .data⟩ (by simp) rfl _ rfl
            refine wp_app_wr (.tmp 37) (.tmp 51) rfl w.heap.size _ _ d37 hJ.row g _ HY56.out e51 (wrAt_blk hg) (by rw [readW_length]; omega) hJ.bel.size ?_
            intro v' w' h1 h2 h3
            exact ⟨_, rfl, h1, ⟨hJ.bel.trans (grown_below h2 hJ.bel.size (fun k hk => (hJ.row.lt k hk).1)), h3⟩, h2⟩
          · refine RLastK.of rfl fun T W L hag hLs hL hJ hd => ?_   -- 16: 4 := Op.assign (Operand.tmp 52)
            have x52 : OwnW W w.heap.size (T.getD 52 undef) (readW log k ++ [wAt log k]) := hd 15 _ (by simp) rfl
            obtain ⟨f, hf, hT⟩ := agree_fn hag
            have h52 := hf 52
            rw [← h52] at x52
            have HX := Lib.hid x52
            have HJ := Lib.hid hJ.bel
            clear hag hd x52 h52 hJ hf
            rw [hT]
            clear hT
            simp only [List.pop_toArray, List.dropLast_cons_cons, List.dropLast_singleton, List.filterMap_cons, List.filterMap_nil, List.foldl_cons, List.foldl_nil, List.setIfInBounds_toArray, List.set_cons_succ, List.set_cons_zero]
            go_wp2_with fail
            go_step3
            exact ⟨⟨k + 1, _, by omega, by rw [readW_snoc]; exact HX.out, HJ.out, by rw [own_len HX.out]; simp [readW_length], _, _, _, _, _, _, _, _, _, _, _, _, _, _, _, _, _, _, _, _, _, _, _, _, _, _, _, _, _, _, _, _, _, _, _, _, _, _, _, _, _, _, _, _, _, _, _,  rfl⟩, by have := own_len HX.out; simp [sliceLen, readW_length] at this ⊢; omega⟩
    · have HF : Hid (¬ CanRead log) := fun h => h64 (by have := h.1; rwa [HHD.out] at this)
      generalize b0.length = bl at *
      have hq0 : ((n : Int) == 0) = false := by simp; omega
      have hq1 : ((bl : Int) != 64) = true := by simp; omega
      refine wp_scope2f (RdEnd w) (fun _ _ => False) (fun _ _ => 0) rfl rfl ?_ (fun _ _ h => h.elim) ?_
      · intro _
        go_wp2
        go_step3
        exact (show RdEnd _ _ _ from ⟨Below.refl _ _, _, _, _, _, _, _, _, _, _, _, _, _, _, _, _, _, _, _, _, _, _, _, _, _, _, _, _, _, _, _, _, _, _, _, _, _, _, _, _, _, _, _, _, _, _, _, _, _, _, _, _, _, _,  rfl⟩)
      · rintro a' W ⟨hbel, u0, u1, u2, u3, u4, u5, u6, u7, u8, u9, u10, u11, u12, u13, u14, u15, u16, u17, u18, u19, u20, u21, u22, u23, u24, u25, u26, u27, u28, u29, u30, u31, u32, u33, u34, u35, u36, u37, u38, u39, u40, u41, u42, u43, u44, u45, u46, u47, u48, u49, u50, u51, u52, rfl⟩
        go_wp2
        try simp only [jumps]
        go_ret2
        exact ⟨.slice none 0 0, by rw [decide_eq_false HF.out]; rfl, by rw [HNO.out HF.out]; exact OwnW.nil _ _, hbel⟩
end Go.Proofs.Ytflldlhfeiamnaa
