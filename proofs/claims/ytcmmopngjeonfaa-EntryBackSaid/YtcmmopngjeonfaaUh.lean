/- Contract: the reference's TakeID. -/
import Derived.Test.YtcmmopngjeonfaaUf
import Derived.Test.YtcmmopngjeonfaaUg
namespace Go.Proofs.Ytcmmopngjeonfaa
open Go.ChangeShapes Go.WideShapes Go.ChangeAt Go.RowKit
set_option linter.unusedVariables false
theorem putL_allB {l a g : Int} (hm : MayI l a g → True) : AllB (putL l a g) := by
  unfold putL
  split
  · rename_i h
    unfold idL numB
    refine AllB.append ?_ (be_allB _ _)
    unfold MayI Within at h
    intro x hx
    simp only [List.mem_cons, List.not_mem_nil, or_false] at hx
    rcases hx with rfl | rfl | rfl <;> omega
  · intro x hx; cases hx
/-- The label that the reference reads. -/
def labR (b0 : Nat) : Int := if b0 = 255 then -1 else b0
theorem be4_of (b3 b4 b5 b6 : Nat) (h3 : b3 < 256) (h4 : b4 < 256) (h5 : b5 < 256) (h6 : b6 < 256) : be (b3 * 16777216 + b4 * 65536 + b5 * 256 + b6) 4 = [(b3 : Int), (b4 : Int), (b5 : Int), (b6 : Int)] := by
  rw [be4_eq, show (b3 * 16777216 + b4 * 65536 + b5 * 256 + b6) / 16777216 % 256 = b3 by omega, show (b3 * 16777216 + b4 * 65536 + b5 * 256 + b6) / 65536 % 256 = b4 by omega, show (b3 * 16777216 + b4 * 65536 + b5 * 256 + b6) / 256 % 256 = b5 by omega, show (b3 * 16777216 + b4 * 65536 + b5 * 256 + b6) / 1 % 256 = b6 by omega]
theorem back_iff (b0 b1 b2 b3 b4 b5 b6 : Nat) (h0 : b0 < 256) (h1 : b1 < 256) (h2 : b2 < 256) (h3 : b3 < 256) (h4 : b4 < 256) (h5 : b5 < 256) (h6 : b6 < 256) (gn : Nat) (hg : gn = b3 * 16777216 + b4 * 65536 + b5 * 256 + b6) (pn : Nat) (hp : pn = b1 * 256 + b2) :
    (putL (labR b0) pn gn = [(b0 : Int), (b1 : Int), (b2 : Int), (b3 : Int), (b4 : Int), (b5 : Int), (b6 : Int)] ↔ MayI (labI b0) pn gn) ∧ (MayI (labI b0) pn gn → labR b0 = labI b0) := by
  have key : MayI (labI b0) pn gn → labR b0 = labI b0 := by
    intro h; unfold MayI Within at h; unfold labI labR at *; split at h <;> split <;> omega
  have key2 : MayI (labR b0) pn gn → labR b0 = labI b0 := by
    intro h; unfold MayI Within at h; unfold labI labR at *; split at h <;> split <;> omega
  refine ⟨⟨fun h => ?_, fun h => ?_⟩, key⟩
  · unfold putL at h
    by_cases hm : MayI (labR b0) pn gn
    · rw [← key2 hm]; exact hm
    · rw [if_neg hm] at h; cases h
  · have hl := key h
    have hlb : labI b0 % 256 = b0 := by unfold MayI Within at h; unfold labI at *; split at h <;> split <;> omega
    rw [hl]
    unfold putL idL numB
    rw [if_pos h, Int.toNat_natCast, hg, be4_of b3 b4 b5 b6 h3 h4 h5 h6, hlb]
    unfold MayI Within at h
    have e1 : ((pn : Int)) / 256 = (b1 : Int) := by omega
    have e2 : (pn : Int) = (b2 : Int) := by omega
    rw [e1, e2]; rfl
structure JRT (w : World) (p : Nat) (W : World) : Prop where
  bel : Below p w W
  sz : p < W.heap.size
  at_ : IdAt W p 0 0 0
def VRT (p : Nat) (ad : Addr) (c b0 pn gn : Nat) (i : Nat) (v : Value) (W : World) : Prop :=
  match i with
  | 0 | 4 | 8 => v = .slice (some ad) 7 c
  | 1 => v = .pointer (some ad)
  | 2 => v = .int .u8 b0
  | 3 => v = .int .i64 b0
  | 5 => v = .slice (some ⟨ad.block, ad.off + 1, none⟩) 2 (c - 1)
  | 6 => v = .int .u64 pn
  | 7 => v = .int .i64 pn
  | 9 => v = .slice (some ⟨ad.block, ad.off + 3, none⟩) 4 (c - 3)
  | 10 => v = .int .u64 gn
  | 11 => v = .int .u32 gn
  | 12 => v = .agg (idA b0 pn gn)
  | 13 => ∃ q, v = .pointer (some ⟨q, 0, none⟩) ∧ p < q ∧ IdAt W q 0 0 0
  | _ => True
theorem VRT.on {p : Nat} {ad : Addr} {c b0 pn gn j : Nat} {v : Value} {w w' : World} (h : VRT p ad c b0 pn gn j v w) (hs : w.grownBy w' none) : VRT p ad c b0 pn gn j v w' := by
  unfold VRT at *
  split <;> try exact h
  · obtain ⟨q, h1, h2, h3⟩ := h; exact ⟨q, h1, h2, h3.grown hs⟩
  · trivial
structure JRU (w : World) (p q : Nat) (l : Int) (pn gn : Nat) (W : World) : Prop where
  bel : Below p w W
  sz : p < W.heap.size
  at_ : IdAt W p 0 0 0
  q : IdAt W q l pn gn
def VRU (p : Nat) (ad : Addr) (c : Nat) (lr : Int) (pn gn : Nat) (M X : List Int) (i : Nat) (v : Value) (W : World) : Prop :=
  match i with
  | 0 => v = .agg (idA lr pn gn)
  | 2 => v = .string (strOfNums M)
  | 3 => v = .slice (some ad) 7 c
  | 4 => v = .string (strOfNums X)
  | 1 => W.ownsRow p 5 1 v M.length (Bs M)
  | _ => True
theorem VRU.on {p : Nat} {ad : Addr} {c : Nat} {lr : Int} {pn gn : Nat} {M X : List Int} {j : Nat} {v : Value} {w w' : World} (h : VRU p ad c lr pn gn M X j v w) (hs : w.grownBy w' none) : VRU p ad c lr pn gn M X j v w' := by
  unfold VRU at *
  split <;> try exact h
  · exact World.ownsRow.kept h hs (by cases v.ownBlock <;> simp)
  · trivial
set_option maxRecDepth 100000 in
set_option maxHeartbeats 3200000 in
theorem irtake_any (A : Option Addr) (xs : List Int) (c : Nat) (w : World) (hc : xs.length ≤ c) (hc2 : c ≤ 9223372036854775807) (hB : AllB xs) (hy : Byt w A xs) :
    Calls Try.prog 23 #[.slice A xs.length c] w fun e w' => e = .returned (.tuple #[takeV xs, .bool (decide (ITaken xs))]) ∧ Below w.heap.size w w' := by
  have H0 := Lib.hid (IdAt.new w 0 0 0)
  have HB := Lib.hid (bel1 (w := w) (Obj.cells #[.int .i64 0, .int .i64 0, .int .u32 0] 24))
  have b0' := built0
  by_cases h7 : xs.length = 7
  · obtain ⟨b0, b1, b2, b3, b4, b5, b6, rfl, l0, l1, l2, l3, l4, l5, l6⟩ := seven h7 hB
    obtain ⟨ad, rfl, c0⟩ := hy 0 _ rfl
    have HY := Lib.hid hy
    have HBX := Lib.hid hB
    have cc : ∀ i x, ([(b0 : Int), (b1 : Int), (b2 : Int), (b3 : Int), (b4 : Int), (b5 : Int), (b6 : Int)])[i]? = some x → w.cell? (ad.add i) = some (.int .u8 x) := fun i x hi => by
      obtain ⟨a', e, h⟩ := hy i x hi
      injection e with e; subst e; exact h
    rw [add_zero'] at c0
    have HC0 : Hid (∀ W, Below w.heap.size w W → W.cell? ad = some (.int .u8 b0)) := fun W hW => keepC hW c0
    have HTN : Hid (∀ W, Below w.heap.size w W → Calls Try.prog 24 #[.slice (some ⟨ad.block, ad.off + 1, none⟩) 2 (c - 1)] W fun e w' => e = .returned (.int .u64 ((b1 * 256 + b2 : Nat) : Int)) ∧ W = w') := fun W hW => by
      have h := rnum_any (some ⟨ad.block, ad.off + 1, none⟩) [(b1 : Int), (b2 : Int)] 2 (c - 1) W rfl (by omega) (fun x hx => by simp only [List.mem_cons, List.not_mem_nil, or_false] at hx; omega) (fun i x hi => ⟨_, rfl, by
        have h2 := keepC hW (cc (i + 1) x (by
          match i, hi with
          | 0, hi => exact hi
          | 1, hi => exact hi))
        rw [add_pos _ _ (by omega)] at h2
        rw [← add_pos ad 1 (by omega), add_add', Nat.add_comm 1 i, add_pos _ _ (by omega)]; exact h2⟩)
      rwa [show numV [(b1 : Int), (b2 : Int)] = b1 * 256 + b2 by simp [numV]] at h
    have HTG : Hid (∀ W, Below w.heap.size w W → Calls Try.prog 24 #[.slice (some ⟨ad.block, ad.off + 3, none⟩) 4 (c - 3)] W fun e w' => e = .returned (.int .u64 ((b3 * 16777216 + b4 * 65536 + b5 * 256 + b6 : Nat) : Int)) ∧ W = w') := fun W hW => by
      have h := rnum_any (some ⟨ad.block, ad.off + 3, none⟩) [(b3 : Int), (b4 : Int), (b5 : Int), (b6 : Int)] 4 (c - 3) W rfl (by omega) (fun x hx => by simp only [List.mem_cons, List.not_mem_nil, or_false] at hx; omega) (fun i x hi => ⟨_, rfl, by
        have h2 := keepC hW (cc (i + 3) x (by
          match i, hi with
          | 0, hi => exact hi
          | 1, hi => exact hi
          | 2, hi => exact hi
          | 3, hi => exact hi))
        rw [add_pos _ _ (by omega)] at h2
        rw [← add_pos ad 3 (by omega), add_add', Nat.add_comm 3 i, add_pos _ _ (by omega)]; exact h2⟩)
      rwa [show numV [(b3 : Int), (b4 : Int), (b5 : Int), (b6 : Int)] = b3 * 16777216 + b4 * 65536 + b5 * 256 + b6 by simp [numV]; omega] at h
    have hT : ITaken [(b0 : Int), (b1 : Int), (b2 : Int), (b3 : Int), (b4 : Int), (b5 : Int), (b6 : Int)] ↔ MayI (labI b0) ((b1 * 256 + b2 : Nat) : Int) ((b3 * 16777216 + b4 * 65536 + b5 * 256 + b6 : Nat) : Int) :=
      ⟨fun h => h.2, fun h => ⟨rfl, h⟩⟩
    have hbk := back_iff b0 b1 b2 b3 b4 b5 b6 l0 l1 l2 l3 l4 l5 l6 _ rfl _ rfl
    have HX7 := Lib.hid h7
    obtain ⟨X, hX⟩ : ∃ X, X = [(b0 : Int), (b1 : Int), (b2 : Int), (b3 : Int), (b4 : Int), (b5 : Int), (b6 : Int)] := ⟨_, rfl⟩
    obtain ⟨pn, hpn⟩ : ∃ pn, pn = b1 * 256 + b2 := ⟨_, rfl⟩
    obtain ⟨gn, hgn⟩ : ∃ gn, gn = b3 * 16777216 + b4 * 65536 + b5 * 256 + b6 := ⟨_, rfl⟩
    obtain ⟨lr, hlr⟩ : ∃ lr, lr = labR b0 := ⟨_, rfl⟩
    have hV : takeV [(b0 : Int), (b1 : Int), (b2 : Int), (b3 : Int), (b4 : Int), (b5 : Int), (b6 : Int)] = if putL lr pn gn = X then idV lr pn gn else idV 0 0 0 := by
      unfold takeV
      by_cases h : ITaken [(b0 : Int), (b1 : Int), (b2 : Int), (b3 : Int), (b4 : Int), (b5 : Int), (b6 : Int)]
      · have h2 := hT.1 h
        rw [if_pos h, hX, hlr, hpn, hgn, if_pos (hbk.1.2 h2), hbk.2 h2]; rfl
      · rw [if_neg h, hX, hlr, hpn, hgn, if_neg (fun q => h (hT.2 (hbk.1.1 q)))]
    have hD : decide (ITaken [(b0 : Int), (b1 : Int), (b2 : Int), (b3 : Int), (b4 : Int), (b5 : Int), (b6 : Int)]) = decide (putL lr pn gn = X) := by
      rw [hX, hlr, hpn, hgn]; exact decide_eq_decide.2 (hT.trans hbk.1.symm)
    rw [hV, hD, h7]
    rw [← hX] at HY HBX HX7
    rw [← hpn] at HTN
    rw [← hgn] at HTG
    have hpn2 : pn < 65536 := by omega
    have hgn2 : gn < 4294967296 := by omega
    have hlr2 : i64 lr ∧ lr < 256 ∧ -1 ≤ lr := by rw [hlr]; unfold labR i64; split <;> omega
    have HPUT := Lib.hid (fun W => irput_any lr pn gn W hlr2.1 (by constructor <;> omega) (by constructor <;> omega))
    have HSB := Lib.hid (str_beq (putL_allB (l := lr) (a := pn) (g := gn) (fun _ => trivial)) HBX.out)
    have HLR := Lib.hid hlr
    have hc3 : ¬ c = 3 := by rw [h7] at hc; omega
    have hc1 : ¬ c = 1 := by rw [h7] at hc; omega
    have hc7 : 7 ≤ c := by rw [h7] at hc; omega
    have hc3i : (3 : Int) ≤ (c : Int) := by omega
    have wp1 : IntKind.i64.wrap (pn : Int) = pn := IntWalk.i64_in _ (by omega)
    have wg1 : IntKind.u32.wrap (gn : Int) = gn := IntWalk.u32_in _ (by omega)
    have wb1 : IntKind.i64.wrap (b0 : Int) = b0 := IntWalk.i64_in _ (by omega)
    clear hpn hgn hV hT hD cc c0 hy hB hc l1 l2 l3 l4 l5 l6 h7 hlr2 hbk hX HBX hlr
    obtain ⟨r, hr⟩ : ∃ r, r = if putL lr pn gn = X then idV lr pn gn else idV 0 0 0 := ⟨_, rfl⟩
    rw [← hr]
    have HIF := Lib.hid hr
    clear hr
    generalize putL lr pn gn = M at *
    go_enter Try.func23, Try.ntmps23
    go_upto_region 3 with fail
    generalize hp : w.heap.size = p at *
    have HP := Lib.hid hp
    have hJ0 : JRT w p (w.alloc (Obj.cells #[.int .i64 0, .int .i64 0, .int .u32 0] 24)).drew := ⟨HB.out.drew, by show p < (w.alloc _).heap.size; rw [size_alloc', hp]; omega, H0.out⟩
    refine wp_region_rgk (VRT p ad c b0 pn gn) (fun _ W => JRT w p W) (fun _ w w' => w.grownBy w' none) (by kernel_rfl) (by kernel_rfl) (fun i j v' w' w'' hij hind h hg => h.on hg) hJ0 ?_
    have srefl : ∀ (W : World), W.grownBy W none := fun W => World.grownBy.refl _ _
    clear hJ0 hp HB H0
    simp only [RAll]
    refine ⟨?_, ?_, ?_, ?_, ?_, ?_, ?_, ?_, ?_, ?_, ?_, ?_, ?_, ?_, ?_⟩
    · refine RStepK.of rfl fun T W L hag hL hJ hLs hd => ?_   -- 0: 9 := Op.move (Operand.tmp 0)
      have e0 : T.getD 0 undef = _ := (agree_at hag 0 (by kernel_rfl)).trans rfl
      clear hag hd
      go_simp
      exact ⟨_, rfl, rfl⟩
    · refine RStepK.of rfl fun T W L hag hL hJ hLs hd => ?_   -- 1: 10 := Op.indexAddr 25 (Operand.tmp 9) (Operand.const (Value.int In
      have d9 : T.getD 9 undef = _ := hd ⟨0, .data⟩ (by simp) rfl _ rfl
      clear hag hd
      go_simp
      exact ⟨_, rfl, rfl⟩
    · refine RStepK.of rfl fun T W L hag hL hJ hLs hd => ?_   -- 2: 11 := Op.load 5 (Operand.tmp 10)
      have d10 : T.getD 10 undef = _ := hd ⟨1, .data⟩ (by simp) rfl _ rfl
      have fct0 := HC0.out W hJ.bel
      clear hag hd
      go_simp
      exact ⟨_, rfl, rfl⟩
    · refine RStepK.of rfl fun T W L hag hL hJ hLs hd => ?_   -- 3: 12 := Op.convert 5 3 (Operand.tmp 11)
      have d11 : T.getD 11 undef = _ := hd ⟨2, .data⟩ (by simp) rfl _ rfl
      clear hag hd
      go_simp
      exact ⟨_, rfl, rfl⟩
    · refine RStepK.of rfl fun T W L hag hL hJ hLs hd => ?_   -- 4: 13 := Op.move (Operand.tmp 0)
      have e0 : T.getD 0 undef = _ := (agree_at hag 0 (by kernel_rfl)).trans rfl
      clear hag hd
      go_simp
      exact ⟨_, rfl, rfl⟩
    · refine RStepK.of rfl fun T W L hag hL hJ hLs hd => ?_   -- 5: 14 := Op.slice 25 (Operand.tmp 13) (some (Operand.const (Value.int
      have d13 : T.getD 13 undef = _ := hd ⟨4, .data⟩ (by simp) rfl _ rfl
      clear hag hd
      go_simp
      exact ⟨_, rfl, rfl⟩
    · refine RStepK.of rfl fun T W L hag hL hJ hLs hd => ?_   -- 6: 15 := Op.call { callee := Callee.value (Operand.func 17), args := 
      have d14 : T.getD 14 undef = _ := hd ⟨5, .data⟩ (by simp) rfl _ rfl
      clear hag hd
      go_simp
      refine (HTN.out W hJ.bel).mono ?_
      rintro en w' ⟨rfl, rfl⟩
      exact ⟨_, rfl, rfl, hJ, World.grownBy.refl _ _⟩
    · refine RStepK.of rfl fun T W L hag hL hJ hLs hd => ?_   -- 7: 16 := Op.convert 41 3 (Operand.tmp 15)
      have d15 : T.getD 15 undef = _ := hd ⟨6, .data⟩ (by simp) rfl _ rfl
      clear hag hd
      go_simp
      exact ⟨_, rfl, rfl⟩
    · refine RStepK.of rfl fun T W L hag hL hJ hLs hd => ?_   -- 8: 17 := Op.move (Operand.tmp 0)
      have e0 : T.getD 0 undef = _ := (agree_at hag 0 (by kernel_rfl)).trans rfl
      clear hag hd
      go_simp
      exact ⟨_, rfl, rfl⟩
    · refine RStepK.of rfl fun T W L hag hL hJ hLs hd => ?_   -- 9: 18 := Op.slice 25 (Operand.tmp 17) (some (Operand.const (Value.int
      have d17 : T.getD 17 undef = _ := hd ⟨8, .data⟩ (by simp) rfl _ rfl
      clear hag hd
      go_simp
      exact ⟨_, rfl, rfl⟩
    · refine RStepK.of rfl fun T W L hag hL hJ hLs hd => ?_   -- 10: 19 := Op.call { callee := Callee.value (Operand.func 17), args := 
      have d18 : T.getD 18 undef = _ := hd ⟨9, .data⟩ (by simp) rfl _ rfl
      clear hag hd
      go_simp
      refine (HTG.out W hJ.bel).mono ?_
      rintro en w' ⟨rfl, rfl⟩
      exact ⟨_, rfl, rfl, hJ, World.grownBy.refl _ _⟩
    · refine RStepK.of rfl fun T W L hag hL hJ hLs hd => ?_   -- 11: 20 := Op.convert 41 22 (Operand.tmp 19)
      have d19 : T.getD 19 undef = _ := hd ⟨10, .data⟩ (by simp) rfl _ rfl
      clear hag hd
      go_simp
      exact ⟨_, rfl, rfl⟩
    · refine RStepK.of rfl fun T W L hag hL hJ hLs hd => ?_   -- 12: 21 := Op.build 24 #[(0, Operand.tmp 12), (1, Operand.tmp 16), (2, 
      have d12 : T.getD 12 undef = _ := hd ⟨3, .data⟩ (by simp) rfl _ rfl
      have d16 : T.getD 16 undef = _ := hd ⟨7, .data⟩ (by simp) rfl _ rfl
      have d20 : T.getD 20 undef = _ := hd ⟨11, .data⟩ (by simp) rfl _ rfl
      simp only [Array.getD_eq_getD_getElem?] at d12 d16 d20
      clear hag hd
      go_simp
      exact ⟨_, rfl, rfl⟩
    · refine RStepK.of rfl fun T W L hag hL hJ hLs hd => ?_   -- 13: 4 := Op.alloc 24
      clear hag hd
      go_simp
      exact ⟨_, rfl, ⟨_, rfl, hJ.sz, IdAt.new W 0 0 0⟩, ⟨hJ.bel.alloc (Nat.le_of_lt hJ.sz) _, by rw [size_alloc']; exact Nat.lt_succ_of_lt hJ.sz, hJ.at_.alloc _⟩, World.grownBy_alloc W _ _⟩
    · refine RLastK.of rfl fun T W L hag hLs hL hJ hd => ?_   -- 14: None := Op.store 24 (Operand.tmp 4) (Operand.tmp 21)
      have x4 : ∃ q, (T.getD 4 undef) = .pointer (some ⟨q, 0, none⟩) ∧ p < q ∧ IdAt W q 0 0 0 := hd 13 _ (by simp) rfl
      have d21 : T.getD 21 undef = _ := hd 12 _ (by simp) rfl
      obtain ⟨f, hf, hT⟩ := agree_fn hag
      have h21 := (hf 21).trans d21
      have h4 := hf 4
      rw [← h4] at x4
      have HX4 := Lib.hid x4
      clear h4 x4
      have HJ := Lib.hid hJ
      clear hag hd d21 hJ hf
      rw [hT]
      clear hT
      simp only [List.pop_toArray, List.dropLast_cons_cons, List.dropLast_singleton, List.filterMap_cons, List.filterMap_nil, List.foldl_cons, List.foldl_nil, List.setIfInBounds_toArray, List.set_cons_succ, List.set_cons_zero, h21]
      obtain ⟨q, hq, hpq, hqi⟩ := HX4.out
      have HQI := Lib.hid hqi
      have HPQ := Lib.hid hpq
      rw [hq]
      clear hq hqi hpq HX4
      have HQS := Lib.hid (HQI.out.set b0 pn gn)
      have HPI : Hid (IdAt (W.setRow q (idA b0 pn gn)) p 0 0 0) := by unfold Hid IdAt; rw [setRow_other W q _ _ (fun e => by have := HPQ.out; omega)]; exact HJ.out.at_
      have HBL := Lib.hid (below_setRow HJ.out.bel (Nat.le_of_lt HPQ.out) (idA b0 pn gn))
      refine wp_storeI (.tmp 4) (.tmp 21) rfl q rfl b0 pn gn rfl 0 0 0 HQI.out ?_
      have hz := HC0.out _ HBL.out
      generalize W.setRow q (idA b0 pn gn) = W2 at *
      by_cases h255 : b0 = 255
      · subst h255
        have hc := HQS.out.cell 0
        have hf := blk_free HQS.out 0
        go_upto_region 6 with fail
        have HQ3 : Hid (IdAt (W2.setCell ⟨q, 0, none⟩ (.int .i64 (-1))) q lr pn gn) := by
          unfold Hid; rw [HLR.out]; exact heap_setCell_same' HQS.out _
        have HP3 : Hid (IdAt (W2.setCell ⟨q, 0, none⟩ (.int .i64 (-1))) p 0 0 0) := by
          unfold Hid IdAt; rw [World.setCell]; simp only [Array.getElem?_modify]; rw [if_neg (fun e => by have := HPQ.out; omega)]; exact HPI.out
        have HB3 := Lib.hid (HBL.out.setCell (p := ⟨q, 0, none⟩) (Nat.le_of_lt HPQ.out) (.int .i64 (-1)))
        have HS3 : Hid (p < (W2.setCell ⟨q, 0, none⟩ (.int .i64 (-1))).heap.size) := room_lt HP3.out
        generalize W2.setCell ⟨q, 0, none⟩ (.int .i64 (-1)) = W3 at *
        clear HQS HPI HBL HJ HQI hc hf hz
        have hJ1 : JRU w p q lr pn gn W3.drew := ⟨HB3.out.drew, HS3.out, HP3.out, HQ3.out⟩
        refine wp_region_rgk (VRU p ad c lr pn gn M X) (fun _ W => JRU w p q lr pn gn W) (fun _ w w' => w.grownBy w' none) (by kernel_rfl) (by kernel_rfl) (fun i j v' w' w'' hij hind h hg => h.on hg) hJ1 ?_
        clear hJ1 HB3 HS3 HP3 HQ3
        simp only [RAll]
        refine ⟨?_, ?_, ?_, ?_, ?_, ?_⟩
        · refine RStepK.of rfl fun T W L hag hL hJ hLs hd => ?_   -- 0: 27 := Op.load 24 (Operand.tmp 4)
          have e4 : T.getD 4 undef = _ := (agree_at hag 4 (by kernel_rfl)).trans rfl
          refine wp_loadI (.tmp 4) rfl q e4 lr pn gn hJ.q ?_
          exact ⟨_, rfl, rfl, hJ, World.grownBy.refl _ _⟩
        · refine RStepK.of rfl fun T W L hag hL hJ hLs hd => ?_   -- 1: 28 := Op.call { callee := Callee.value (Operand.func 12), args := 
          have d27 : T.getD 27 undef = _ := hd ⟨0, .data⟩ (by simp) rfl _ rfl
          clear hag hd
          go_simp
          refine (HPUT.out W).mono ?_
          rintro en w' ⟨u, rfl, ho, hb⟩
          exact ⟨_, rfl, World.ownsRow.mono ho (Nat.le_of_lt hJ.sz), ⟨hJ.bel.trans (hb.mono (Nat.le_of_lt hJ.sz)), Nat.lt_of_lt_of_le hJ.sz hb.size, hJ.at_.below hb, hJ.q.below hb⟩, growN hb⟩
        · refine RStepK.of rfl fun T W L hag hL hJ hLs hd => ?_   -- 2: 29 := Op.convert 25 9 (Operand.tmp 28)
          have x28 : W.ownsRow p 5 1 (T.getD 28 undef) M.length (Bs M) := hd ⟨1, .data⟩ (by simp) rfl _ rfl
          obtain ⟨A1, d1, (e28 : T.getD 28 undef = _), _, _, hy1⟩ := byt_own x28 rfl
          have cv := conv_any (c := d1) hy1 rfl
          clear hag hd x28
          go_simp
          exact ⟨_, rfl, rfl⟩
        · refine RStepK.of rfl fun T W L hag hL hJ hLs hd => ?_   -- 3: 30 := Op.move (Operand.tmp 0)
          have e0 : T.getD 0 undef = _ := (agree_at hag 0 (by kernel_rfl)).trans rfl
          clear hag hd
          go_simp
          exact ⟨_, rfl, rfl⟩
        · refine RStepK.of rfl fun T W L hag hL hJ hLs hd => ?_   -- 4: 31 := Op.convert 25 9 (Operand.tmp 30)
          have d30 : T.getD 30 undef = _ := hd ⟨3, .data⟩ (by simp) rfl _ rfl
          have cv := conv_any (c := c) (HY.out.keep (HP.out.symm ▸ hJ.bel)) HX7.out
          clear hag hd
          go_simp
          exact ⟨_, rfl, rfl⟩
        · refine RLastK.of rfl fun T W L hag hLs hL hJ hd => ?_   -- 5: 32 := Op.binOp BinOp.neq 9 (Operand.tmp 29) (Operand.tmp 31) 9
          have d29 : T.getD 29 undef = _ := hd 2 _ (by simp) rfl
          have d31 : T.getD 31 undef = _ := hd 4 _ (by simp) rfl
          obtain ⟨f, hf, hT⟩ := agree_fn hag
          have h29 := (hf 29).trans d29
          have h31 := (hf 31).trans d31
          have HJ := Lib.hid hJ
          clear hag hd d29 d31 hJ hf
          rw [hT]
          clear hT
          simp only [List.pop_toArray, List.dropLast_cons_cons, List.dropLast_singleton, List.filterMap_cons, List.filterMap_nil, List.foldl_cons, List.foldl_nil, List.setIfInBounds_toArray, List.set_cons_succ, List.set_cons_zero, h29, h31]
          have HB5 := Lib.hid HJ.out.bel
          have HP5 := Lib.hid HJ.out.at_
          have HQ5 := Lib.hid HJ.out.q
          clear HJ
          have hsb := HSB.out
          by_cases hq : M = X
          · rw [decide_eq_true hq] at hsb
            have HRR : Hid (r = idV lr pn gn) := by unfold Hid; rw [HIF.out, if_pos hq]
            have HDD : Hid (decide (M = X) = true) := decide_eq_true hq
            clear hq HIF HSB
            generalize strOfNums M = s1 at *
            generalize strOfNums X = s2 at *
            go_wp2_with (first
              | (refine wpList_loadI rfl (.tmp 4) rfl q rfl lr pn gn HQ5.out ?_)
              | (refine wpList_storeI rfl (.tmp 2) (.tmp 34) rfl p rfl lr pn gn rfl 0 0 0 HP5.out ?_))
            refine bodyPost_ret (results_idu rfl _ _ p lr pn gn rfl (HP5.out.set _ _ _)) rfl ?_
            refine ⟨by rw [HRR.out, HDD.out]; rfl, ?_⟩
            rw [HP.out]
            exact below_setRow HB5.out (Nat.le_refl _) _
          · rw [decide_eq_false hq] at hsb
            have HRR : Hid (r = idV 0 0 0) := by unfold Hid; rw [HIF.out, if_neg hq]
            have HDD : Hid (decide (M = X) = false) := decide_eq_false hq
            clear hq HIF HSB
            generalize strOfNums M = s1 at *
            generalize strOfNums X = s2 at *
            go_wp2_with (first
              | (refine wpList_storeI rfl (.tmp 2) (.tmp 33) rfl p rfl 0 0 0 rfl 0 0 0 HP5.out ?_))
            refine bodyPost_ret (results_idu rfl _ _ p 0 0 0 rfl (HP5.out.set _ _ _)) rfl ?_
            refine ⟨by rw [HRR.out, HDD.out]; rfl, ?_⟩
            rw [HP.out]
            exact below_setRow HB5.out (Nat.le_refl _) _
      · have h255i : ((b0 : Int) == 255) = false := by simp; omega
        go_upto_region 6 with fail
        have HQ3 : Hid (IdAt W2 q lr pn gn) := by unfold Hid; rw [HLR.out]; unfold labR; rw [if_neg h255]; exact HQS.out
        have HP3 := HPI
        have HB3 := HBL
        have HS3 : Hid (p < W2.heap.size) := room_lt HP3.out
        clear HQS HPI HBL HJ HQI hz
        generalize W2 = W3 at *
        have hJ1 : JRU w p q lr pn gn W3.drew := ⟨HB3.out.drew, HS3.out, HP3.out, HQ3.out⟩
        refine wp_region_rgk (VRU p ad c lr pn gn M X) (fun _ W => JRU w p q lr pn gn W) (fun _ w w' => w.grownBy w' none) (by kernel_rfl) (by kernel_rfl) (fun i j v' w' w'' hij hind h hg => h.on hg) hJ1 ?_
        clear hJ1 HB3 HS3 HP3 HQ3
        simp only [RAll]
        refine ⟨?_, ?_, ?_, ?_, ?_, ?_⟩
        · refine RStepK.of rfl fun T W L hag hL hJ hLs hd => ?_   -- 0: 27 := Op.load 24 (Operand.tmp 4)
          have e4 : T.getD 4 undef = _ := (agree_at hag 4 (by kernel_rfl)).trans rfl
          refine wp_loadI (.tmp 4) rfl q e4 lr pn gn hJ.q ?_
          exact ⟨_, rfl, rfl, hJ, World.grownBy.refl _ _⟩
        · refine RStepK.of rfl fun T W L hag hL hJ hLs hd => ?_   -- 1: 28 := Op.call { callee := Callee.value (Operand.func 12), args := 
          have d27 : T.getD 27 undef = _ := hd ⟨0, .data⟩ (by simp) rfl _ rfl
          clear hag hd
          go_simp
          refine (HPUT.out W).mono ?_
          rintro en w' ⟨u, rfl, ho, hb⟩
          exact ⟨_, rfl, World.ownsRow.mono ho (Nat.le_of_lt hJ.sz), ⟨hJ.bel.trans (hb.mono (Nat.le_of_lt hJ.sz)), Nat.lt_of_lt_of_le hJ.sz hb.size, hJ.at_.below hb, hJ.q.below hb⟩, growN hb⟩
        · refine RStepK.of rfl fun T W L hag hL hJ hLs hd => ?_   -- 2: 29 := Op.convert 25 9 (Operand.tmp 28)
          have x28 : W.ownsRow p 5 1 (T.getD 28 undef) M.length (Bs M) := hd ⟨1, .data⟩ (by simp) rfl _ rfl
          obtain ⟨A1, d1, (e28 : T.getD 28 undef = _), _, _, hy1⟩ := byt_own x28 rfl
          have cv := conv_any (c := d1) hy1 rfl
          clear hag hd x28
          go_simp
          exact ⟨_, rfl, rfl⟩
        · refine RStepK.of rfl fun T W L hag hL hJ hLs hd => ?_   -- 3: 30 := Op.move (Operand.tmp 0)
          have e0 : T.getD 0 undef = _ := (agree_at hag 0 (by kernel_rfl)).trans rfl
          clear hag hd
          go_simp
          exact ⟨_, rfl, rfl⟩
        · refine RStepK.of rfl fun T W L hag hL hJ hLs hd => ?_   -- 4: 31 := Op.convert 25 9 (Operand.tmp 30)
          have d30 : T.getD 30 undef = _ := hd ⟨3, .data⟩ (by simp) rfl _ rfl
          have cv := conv_any (c := c) (HY.out.keep (HP.out.symm ▸ hJ.bel)) HX7.out
          clear hag hd
          go_simp
          exact ⟨_, rfl, rfl⟩
        · refine RLastK.of rfl fun T W L hag hLs hL hJ hd => ?_   -- 5: 32 := Op.binOp BinOp.neq 9 (Operand.tmp 29) (Operand.tmp 31) 9
          have d29 : T.getD 29 undef = _ := hd 2 _ (by simp) rfl
          have d31 : T.getD 31 undef = _ := hd 4 _ (by simp) rfl
          obtain ⟨f, hf, hT⟩ := agree_fn hag
          have h29 := (hf 29).trans d29
          have h31 := (hf 31).trans d31
          have HJ := Lib.hid hJ
          clear hag hd d29 d31 hJ hf
          rw [hT]
          clear hT
          simp only [List.pop_toArray, List.dropLast_cons_cons, List.dropLast_singleton, List.filterMap_cons, List.filterMap_nil, List.foldl_cons, List.foldl_nil, List.setIfInBounds_toArray, List.set_cons_succ, List.set_cons_zero, h29, h31]
          have HB5 := Lib.hid HJ.out.bel
          have HP5 := Lib.hid HJ.out.at_
          have HQ5 := Lib.hid HJ.out.q
          clear HJ
          have hsb := HSB.out
          by_cases hq : M = X
          · rw [decide_eq_true hq] at hsb
            have HRR : Hid (r = idV lr pn gn) := by unfold Hid; rw [HIF.out, if_pos hq]
            have HDD : Hid (decide (M = X) = true) := decide_eq_true hq
            clear hq HIF HSB
            generalize strOfNums M = s1 at *
            generalize strOfNums X = s2 at *
            go_wp2_with (first
              | (refine wpList_loadI rfl (.tmp 4) rfl q rfl lr pn gn HQ5.out ?_)
              | (refine wpList_storeI rfl (.tmp 2) (.tmp 34) rfl p rfl lr pn gn rfl 0 0 0 HP5.out ?_))
            refine bodyPost_ret (results_idu rfl _ _ p lr pn gn rfl (HP5.out.set _ _ _)) rfl ?_
            refine ⟨by rw [HRR.out, HDD.out]; rfl, ?_⟩
            rw [HP.out]
            exact below_setRow HB5.out (Nat.le_refl _) _
          · rw [decide_eq_false hq] at hsb
            have HRR : Hid (r = idV 0 0 0) := by unfold Hid; rw [HIF.out, if_neg hq]
            have HDD : Hid (decide (M = X) = false) := decide_eq_false hq
            clear hq HIF HSB
            generalize strOfNums M = s1 at *
            generalize strOfNums X = s2 at *
            go_wp2_with (first
              | (refine wpList_storeI rfl (.tmp 2) (.tmp 33) rfl p rfl 0 0 0 rfl 0 0 0 HP5.out ?_))
            refine bodyPost_ret (results_idu rfl _ _ p 0 0 0 rfl (HP5.out.set _ _ _)) rfl ?_
            refine ⟨by rw [HRR.out, HDD.out]; rfl, ?_⟩
            rw [HP.out]
            exact below_setRow HB5.out (Nat.le_refl _) _
  · have hT : ¬ ITaken xs := fun h => h7 h.1
    have hV : takeV xs = idV 0 0 0 := by unfold takeV; rw [if_neg hT]
    rw [hV, decide_eq_false hT]
    clear hT hV hB hy
    generalize xs.length = n at *
    have hq : ((n : Int) != 7) = true := by simp; omega
    go_enter Try.func23, Try.ntmps23
    go_wp2_with (refine wpList_storeI rfl (.tmp 2) (.tmp 8) rfl w.heap.size rfl 0 0 0 rfl 0 0 0 H0.out ?_)
    refine bodyPost_ret (results_idu rfl _ _ w.heap.size 0 0 0 rfl (H0.out.set _ _ _)) rfl ?_
    exact ⟨rfl, below_setRow HB.out (Nat.le_refl _) _⟩
end Go.Proofs.Ytcmmopngjeonfaa
