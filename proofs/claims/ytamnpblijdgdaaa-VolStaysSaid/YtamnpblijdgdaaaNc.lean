/- What a ground reads; contracts: fits, epoch. -/
import Derived.Test.YtamnpblijdgdaaaNb
namespace Go.Proofs.Ytamnpblijdgdaaa
open Go.ChangeShapes Go.WideShapes Go.ChangeAt Go.RowKit
set_option linter.unusedVariables false
set_option maxRecDepth 100000
/-- What Read answers of a region whose blocks are those. -/
def RdA (row : Int → Option (List Int)) (i : Int) (W0 : World) (v : Value) (W : World) : Prop :=
  (row i = none ∧ v = .tuple #[.slice none 0 0, .bool false]) ∨
  ∃ (p : Nat) (b : List Int), row i = some b ∧ BlkOk b ∧ v = .tuple #[.slice (some ⟨p, 0, none⟩) 64 64, .bool true] ∧ W0.heap.size ≤ p ∧ W.heap[p]? = some (.cells (Bs b).toArray 104 (0, 0))
/-- A device (or none) is read so. -/
def Rd (w : World) (d : Option Addr) (r : Int) (row : Int → Option (List Int)) : Prop := ∀ W, Below w.heap.size w W → ∀ i, i64 i →
  Calls Try.prog 59 #[.pointer d, .int .i64 r, .int .i64 i] W fun e w' => (∃ v, e = .returned v ∧ RdA row i W v w') ∧ Below W.heap.size W w'
theorem Rd.keep {w w' : World} {d : Option Addr} {r : Int} {row : Int → Option (List Int)} (h : Rd w d r row) (hb : Below w.heap.size w w') : Rd w' d r row := fun W hW i hi => h W (keepB hb hW) i hi
theorem Rd.none (w : World) (r : Int) : Rd w none r (fun _ => none) := fun W _ i _ => (read_nil W r i).mono fun e w' ⟨he, hw⟩ => by
  subst hw
  exact ⟨⟨_, he, Or.inl ⟨rfl, rfl⟩⟩, Below.refl _ _⟩
def rowV (m : DM) (r i : Int) : Option (List Int) := if hasB m r i = true then (m.now.getD r.toNat [])[i.toNat]? else none
theorem DS.rd {w0 W : World} {P : Nat → Prop} {q : Nat} {m : DM} (h : DS w0 W P q m) (r : Int) (hr : i64 r) : Rd W (some ⟨q, 0, .none⟩) r (rowV m r) := fun W' hb i hi =>
  ((h.below hb (fun k hk => Or.inl hk)).read r i hr hi).mono fun e w' ⟨⟨v, he, ha⟩, hb'⟩ => ⟨⟨v, he, by
    rcases ha with ⟨h1, h2⟩ | ⟨h1, p, b, h2, h3, h4, h5, h6⟩
    · exact Or.inl ⟨by unfold rowV; rw [h1]; simp, h2⟩
    · exact Or.inr ⟨p, b, by unfold rowV; rw [if_pos h1]; exact h2, h3, h4, h5, h6⟩⟩, hb'⟩
def VNfi (d : Option Addr) (gb n g y z : Nat) (r fr : Int) (b : Bool) (i : Nat) (v : Value) (w : World) : Prop :=
  match i with
  | 0 => v = .pointer (some ⟨gb, 0, none⟩)
  | 1 => v = .pointer d
  | 2 => v = .pointer (some ⟨gb, 1, none⟩)
  | 3 => v = .int .i64 r
  | 4 => v = .pointer (some ⟨gb, 3, none⟩)
  | 5 => v = shQ 0 0 n g fr
  | 6 => v = .int .i64 (z : Int)
  | 7 => v = .int .i64 (y : Int)
  | 11 => v = .bool b
  | 8 => ∃ s, v = .tuple #[s, .bool b]
  | 9 => ∃ s, v = .tuple #[s, .bool b]
  | _ => True
set_option maxHeartbeats 3200000 in
theorem gfits_any {W : World} {d : Option Addr} {r : Int} {row : Int → Option (List Int)} (h : Rd W d r row) (n g : Nat) (fr : Int) (hn : n ≤ 200) (hg : g ≤ 1000) :
    Calls Try.prog 34 #[gndA d r n g fr] W fun e w' => e = .returned (.bool (row ((1 + g + n : Nat) : Int)).isSome) ∧ Below W.heap.size W w' := by
  have HS := Lib.hid (fun W => size_any 0 0 n g fr (by omega) hg W)
  have wz : IntKind.i64.wrap (((2 + g + n : Nat) : Int) - 1) = ((1 + g + n : Nat) : Int) := by rw [IntWalk.i64_in _ (by omega)]; omega
  have HY : Hid (i64 ((1 + g + n : Nat) : Int)) := by constructor <;> omega
  have H0 := Lib.hid h
  unfold gndA
  clear h
  generalize 2 + g + n = z at *
  generalize 1 + g + n = y at *
  obtain ⟨b, hq⟩ : ∃ b, (row (y : Int)).isSome = b := ⟨_, rfl⟩
  rw [hq]
  have HQ := Lib.hid hq
  clear hq
  go_enter Try.func34, Try.ntmps34
  go_upto_region 1 with fail
  have e0 := heap_alloc_new W (Obj.cells (gndC d r n g fr) 82)
  have hb : Below W.heap.size W (W.alloc (Obj.cells (gndC d r n g fr) 82)) := (Below.refl _ _).alloc (Nat.le_refl _) _
  generalize hgb : W.heap.size = gb at *
  generalize W.alloc (Obj.cells (gndC d r n g fr) 82) = W1 at *
  have HB : Hid (Below W.heap.size W W1) := by rw [hgb]; exact hb
  have HR : Hid (∀ W', Below W1.heap.size W1 W' → ∀ i, i64 i → _) := fun W' hW' i hi => (H0.out.keep (by rw [hgb]; exact hb)) W' hW' i hi
  have HG : Hid (∀ W', Below W1.heap.size W1 W' → W'.heap[gb]? = some (.cells (gndC d r n g fr) 82 (0, 0))) := fun W' h => kb h e0
  clear e0 hb H0
  refine wp_region_rgk (VNfi d gb n g y z r fr b) (fun _ W => Below W1.heap.size W1 W) (fun _ w w' => Below w.heap.size w w') (by kernel_rfl) (by kernel_rfl) (fun i j v w w' _ _ h hs => by unfold VNfi at *; exact h) ((Below.refl _ _).drew) ?_
  simp only [RAll]
  refine ⟨?_, ?_, ?_, ?_, ?_, ?_, ?_, ?_, ?_, ?_, ?_, ?_, ?_, ?_⟩
  · refine RStepK.of rfl fun T W L hag hL hJ hLs hd => ?_   -- 0: 6 := Op.fieldAddr 82 (Operand.tmp 1) 0
    have e1 : T.getD 1 undef = _ := (agree_at hag 1 (by kernel_rfl)).trans rfl
    clear hag hd
    go_simp
    first | exact ⟨_, rfl, rfl⟩ | exact ⟨_, rfl, rfl, brefl _⟩ | exact ⟨_, rfl, rfl, hJ, brefl _⟩
  · refine RStepK.of rfl fun T W L hag hL hJ hLs hd => ?_   -- 1: 7 := Op.load 32 (Operand.tmp 6)
    have d6 : T.getD 6 undef = _ := hd ⟨0, .data⟩ (by simp) rfl _ rfl
    obtain ⟨z0, z1, z2, z3, z4, z5, z6, z7⟩ := gnd_cells (HG.out W hJ)
    clear hag hd
    go_simp
    first | exact ⟨_, rfl, rfl⟩ | exact ⟨_, rfl, rfl, brefl _⟩ | exact ⟨_, rfl, rfl, hJ, brefl _⟩
  · refine RStepK.of rfl fun T W L hag hL hJ hLs hd => ?_   -- 2: 8 := Op.fieldAddr 82 (Operand.tmp 1) 1
    have e1 : T.getD 1 undef = _ := (agree_at hag 1 (by kernel_rfl)).trans rfl
    clear hag hd
    go_simp
    first | exact ⟨_, rfl, rfl⟩ | exact ⟨_, rfl, rfl, brefl _⟩ | exact ⟨_, rfl, rfl, hJ, brefl _⟩
  · refine RStepK.of rfl fun T W L hag hL hJ hLs hd => ?_   -- 3: 9 := Op.load 3 (Operand.tmp 8)
    have d8 : T.getD 8 undef = _ := hd ⟨2, .data⟩ (by simp) rfl _ rfl
    obtain ⟨z0, z1, z2, z3, z4, z5, z6, z7⟩ := gnd_cells (HG.out W hJ)
    clear hag hd
    go_simp
    first | exact ⟨_, rfl, rfl⟩ | exact ⟨_, rfl, rfl, brefl _⟩ | exact ⟨_, rfl, rfl, hJ, brefl _⟩
  · refine RStepK.of rfl fun T W L hag hL hJ hLs hd => ?_   -- 4: 10 := Op.fieldAddr 82 (Operand.tmp 1) 3
    have e1 : T.getD 1 undef = _ := (agree_at hag 1 (by kernel_rfl)).trans rfl
    clear hag hd
    go_simp
    first | exact ⟨_, rfl, rfl⟩ | exact ⟨_, rfl, rfl, brefl _⟩ | exact ⟨_, rfl, rfl, hJ, brefl _⟩
  · refine RStepK.of rfl fun T W L hag hL hJ hLs hd => ?_   -- 5: 11 := Op.load 30 (Operand.tmp 10)
    have d10 : T.getD 10 undef = _ := hd ⟨4, .data⟩ (by simp) rfl _ rfl
    obtain ⟨z0, z1, z2, z3, z4, z5, z6, z7⟩ := gnd_cells (HG.out W hJ)
    clear hag hd
    go_simp
    first | exact ⟨_, rfl, rfl⟩ | exact ⟨_, rfl, rfl, brefl _⟩ | exact ⟨_, rfl, rfl, hJ, brefl _⟩
  · refine RStepK.of rfl fun T W L hag hL hJ hLs hd => ?_   -- 6: 12 := Op.call { callee := Callee.value (Operand.func 14), args := 
    have d11 : T.getD 11 undef = _ := hd ⟨5, .data⟩ (by simp) rfl _ rfl
    clear hag hd
    go_simp
    refine (HS.out W).mono ?_
    rintro e w' ⟨rfl, hb⟩
    exact ⟨_, rfl, rfl, keepB hJ hb, hb⟩
  · refine RStepK.of rfl fun T W L hag hL hJ hLs hd => ?_   -- 7: 13 := Op.binOp BinOp.sub 3 (Operand.tmp 12) (Operand.const (Value.
    have d12 : T.getD 12 undef = _ := hd ⟨6, .data⟩ (by simp) rfl _ rfl
    clear hag hd
    go_simp
    first | exact ⟨_, rfl, rfl⟩ | exact ⟨_, rfl, rfl, brefl _⟩ | exact ⟨_, rfl, rfl, hJ, brefl _⟩
  · refine RStepK.of rfl fun T W L hag hL hJ hLs hd => ?_   -- 8: 14 := Op.call { callee := Callee.value (Operand.func 59), args := 
    have d7 : T.getD 7 undef = _ := hd ⟨1, .data⟩ (by simp) rfl _ rfl
    have d9 : T.getD 9 undef = _ := hd ⟨3, .data⟩ (by simp) rfl _ rfl
    have d13 : T.getD 13 undef = _ := hd ⟨7, .data⟩ (by simp) rfl _ rfl
    clear hag hd
    go_simp
    refine (HR.out W hJ y HY.out).mono ?_
    rintro e w' ⟨⟨v, rfl, ha⟩, hb⟩
    refine ⟨_, rfl, ?_, keepB hJ hb, hb⟩
    rcases ha with ⟨h1, rfl⟩ | ⟨g', b', h1, _, rfl, _⟩
    · exact ⟨_, by rw [← HQ.out, h1]; rfl⟩
    · exact ⟨_, by rw [← HQ.out, h1]; rfl⟩
  · refine RStepK.of rfl fun T W L hag hL hJ hLs hd => ?_   -- 9: 5 := Op.move (Operand.tmp 14)
    have x14 := hd ⟨8, .data⟩ (by simp) rfl _ rfl
    clear hag hd
    obtain ⟨s, (hs : T.getD 14 undef = _)⟩ := x14
    go_simp
    first | exact ⟨_, rfl, ⟨_, rfl⟩⟩ | exact ⟨_, rfl, ⟨_, rfl⟩, brefl _⟩ | exact ⟨_, rfl, ⟨_, rfl⟩, hJ, brefl _⟩
  · refine RStepK.of rfl fun T W L hag hL hJ hLs hd => ?_   -- 10: 15 := Op.extract (Operand.tmp 5) 0
    have x5 := hd ⟨9, .data⟩ (by simp) rfl _ rfl
    clear hag hd
    obtain ⟨s, (hs : T.getD 5 undef = _)⟩ := x5
    go_simp
    first | exact ⟨_, rfl, trivial⟩ | exact ⟨_, rfl, trivial, brefl _⟩ | exact ⟨_, rfl, trivial, hJ, brefl _⟩
  · refine RStepK.of rfl fun T W L hag hL hJ hLs hd => ?_   -- 11: 16 := Op.extract (Operand.tmp 5) 1
    have x5 := hd ⟨9, .data⟩ (by simp) rfl _ rfl
    clear hag hd
    obtain ⟨s, (hs : T.getD 5 undef = _)⟩ := x5
    go_simp
    first | exact ⟨_, rfl, rfl⟩ | exact ⟨_, rfl, rfl, brefl _⟩ | exact ⟨_, rfl, rfl, hJ, brefl _⟩
  · refine RStepK.of rfl fun T W L hag hL hJ hLs hd => ?_   -- 12: 3 := Op.assign (Operand.tmp 15)
    have x15 := hd ⟨10, .data⟩ (by simp) rfl _ rfl
    clear hag hd
    go_simp
    first | exact ⟨_, rfl, trivial⟩ | exact ⟨_, rfl, trivial, brefl _⟩ | exact ⟨_, rfl, trivial, hJ, brefl _⟩
  · refine RLastK.of rfl fun T W L hag hLs hL hJ hd => ?_   -- 13: 4 := Op.assign (Operand.tmp 16)
    have d16 : T.getD 16 undef = _ := hd 11 _ (by simp) rfl
    obtain ⟨f, hf, hT⟩ := agree_fn hag
    have d6 : T.getD 6 undef = _ := hd 0 _ (by simp) rfl
    have h6 := (hf 6).trans d6
    have d7 : T.getD 7 undef = _ := hd 1 _ (by simp) rfl
    have h7 := (hf 7).trans d7
    have d8 : T.getD 8 undef = _ := hd 2 _ (by simp) rfl
    have h8 := (hf 8).trans d8
    have d9 : T.getD 9 undef = _ := hd 3 _ (by simp) rfl
    have h9 := (hf 9).trans d9
    have d10 : T.getD 10 undef = _ := hd 4 _ (by simp) rfl
    have h10 := (hf 10).trans d10
    have d11 : T.getD 11 undef = _ := hd 5 _ (by simp) rfl
    have h11 := (hf 11).trans d11
    have d12 : T.getD 12 undef = _ := hd 6 _ (by simp) rfl
    have h12 := (hf 12).trans d12
    have d13 : T.getD 13 undef = _ := hd 7 _ (by simp) rfl
    have h13 := (hf 13).trans d13
    have h16 := (hf 16).trans d16
    have HJ := Lib.hid hJ
    clear hag hd d6 d7 d8 d9 d10 d11 d12 d13 d16 hJ hf
    rw [hT]
    clear hT
    simp only [List.pop_toArray, List.dropLast_cons_cons, List.dropLast_singleton, List.filterMap_cons, List.filterMap_nil, List.foldl_cons, List.foldl_nil, List.setIfInBounds_toArray, List.set_cons_succ, List.set_cons_zero, h6, h7, h8, h9, h10, h11, h12, h13, h16]
    go_wp2
    go_ret
    exact ⟨rfl, keepB HB.out HJ.out⟩

end Go.Proofs.Ytamnpblijdgdaaa
