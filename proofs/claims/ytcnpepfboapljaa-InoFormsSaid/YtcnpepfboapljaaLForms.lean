/- The law InoForms answers true and leaves its arguments alone. No condition. -/
import Derived.Test.YtcnpepfboapljaaRows
import Derived.Test.YtcnpepfboapljaaUj
import Derived.Test.YtcnpepfboapljaaSt
import Derived.WalkKit
import Derived.ProofKit
import Derived.OpenShut
namespace Go.Proofs.Ytcnpepfboapljaa.inoForms
open Go.ChangeShapes Go.WideShapes Go.ChangeAt Go.RowKit Go.Joins
set_option linter.unusedVariables false
theorem own : ownKnob Try.prog.godebug = none := by kernel_rfl
theorem laidOut : laidOutB Try.prog = true := by kernel_rfl
def badC : Array Value := #[.int .i64 0, .int .i64 0, .int .u32 0, .int .i64 (-1), .int .i64 1, .int .u32 0, .int .i64 (-1), .int .i64 0, .int .u32 1, .int .i64 (-2), .int .i64 0, .int .u32 0, .int .i64 8, .int .i64 1, .int .u32 1, .int .i64 0, .int .i64 0, .int .u32 1, .int .i64 0, .int .i64 200, .int .u32 1, .int .i64 0, .int .i64 1, .int .u32 0]
theorem bad_at (k : Nat) (hk : k < 8) : ∃ l a g : Int, badC[k * 3]? = some (.int .i64 l) ∧ badC[k * 3 + 1]? = some (.int .i64 a) ∧ badC[k * 3 + 2]? = some (.int .u32 g) ∧ ¬ MayI l a g ∧ i64 l ∧ i64 a ∧ u32 g := by
  match k, hk with
  | 0, _ | 1, _ | 2, _ | 3, _ | 4, _ | 5, _ | 6, _ | 7, _ => exact ⟨_, _, _, rfl, rfl, rfl, by decide, by constructor <;> decide, by constructor <;> decide, by constructor <;> decide⟩
def noneC : Array Value := #[.string { data := #[] }, .string { data := #[0, 0, 1, 0, 0, 0] }, .string { data := #[8, 0, 1, 0, 0, 0, 1] }, .string { data := #[255, 0, 1, 0, 0, 0, 0] }, .string { data := #[0, 0, 0, 0, 0, 0, 1] }, .string { data := #[0, 0, 200, 0, 0, 0, 1] }, .string { data := #[0, 0, 1, 0, 0, 0, 0] }]
theorem none_at (k : Nat) (hk : k < 7) : ∃ b : List Int, noneC[k]? = some (.string (strOfNums b)) ∧ AllB b ∧ b.length ≤ 7 ∧ ¬ Taken b := by
  match k, hk with
  | 0, _ => exact ⟨[], rfl, (fun x hx => by cases hx), by decide, by decide⟩
  | 1, _ => exact ⟨[0, 0, 1, 0, 0, 0], rfl, by unfold AllB; decide, by decide, by decide⟩
  | 2, _ => exact ⟨[8, 0, 1, 0, 0, 0, 1], rfl, by unfold AllB; decide, by decide, by decide⟩
  | 3, _ => exact ⟨[255, 0, 1, 0, 0, 0, 0], rfl, by unfold AllB; decide, by decide, by decide⟩
  | 4, _ => exact ⟨[0, 0, 0, 0, 0, 0, 1], rfl, by unfold AllB; decide, by decide, by decide⟩
  | 5, _ => exact ⟨[0, 0, 200, 0, 0, 0, 1], rfl, by unfold AllB; decide, by decide, by decide⟩
  | 6, _ => exact ⟨[0, 0, 1, 0, 0, 0, 0], rfl, by unfold AllB; decide, by decide, by decide⟩
set_option maxRecDepth 100000 in
set_option maxHeartbeats 6400000 in
theorem walk  (w : World)  :
    Calls Try.prog 5 #[] w fun e w' => e = .returned (.bool true) ∧ Below w.heap.size w w' := by
  go_enter Try.func5, Try.ntmps5
  go_wp2_with fail
  refine (begun_any w).mono ?_
  rintro e W1 ⟨rfl, hb1⟩
  have HB1 := Lib.hid hb1
  clear hb1
  go_wp2_with fail
  have hblk := heap_alloc_new W1 (Obj.cells badC 24)
  have hbel := keepB HB1.out (bel1 (w := W1) (Obj.cells badC 24))
  unfold badC at hblk hbel
  clear HB1
  generalize W1.alloc _ = W2 at *
  generalize W1.heap.size = g1 at *
  have HK := Lib.hid hblk
  have HB2 := Lib.hid hbel
  clear hblk hbel
  go_loopw [2] (fun i wr => ∃ k : Nat, k ≤ 8 ∧ i = .int .i64 k ∧ Hid (wr.heap[g1]? = some (.cells badC 24 (0, 0))) ∧ Hid (Below w.heap.size w wr)) (fun i _ => 8 - (intOf i).toNat)
  case atStart => exact ⟨0, Nat.zero_le _, rfl, HK, HB2⟩
  case round =>
    obtain ⟨k, hk, rfl, HK3, HB3⟩ := hrel
    clear HK HB2
    by_cases hlt : k < 8
    · obtain ⟨l, a, g, c0, c1, c2, hm, hl, ha, hg⟩ := bad_at k hlt
      have d0 : wr.cell? ⟨g1, k * 3, none⟩ = _ := (blk_cell HK3.out _).trans c0
      have d1 : wr.cell? ⟨g1, k * 3 + 1, none⟩ = _ := (blk_cell HK3.out _).trans c1
      have d2 : wr.cell? ⟨g1, k * 3 + 2, none⟩ = _ := (blk_cell HK3.out _).trans c2
      have HM := Lib.hid (fun W => may_any l a g W hl ha hg)
      have HP := Lib.hid (fun W => put2_any l a g W hl ha hg)
      rw [decide_eq_false hm] at HM
      rw [putL_no hm] at HP
      unfold idV at HM HP
      have hdk : decide ((k : Int) < 8) = true := decide_eq_true (by omega)
      clear hm hl ha hg
      go_wp2_with fail
      refine (HM.out wr).mono ?_
      rintro e W3 ⟨rfl, hb3⟩
      have HK4 := Lib.hid (kb hb3 HK3.out)
      have HB4 := Lib.hid (keepB HB3.out hb3)
      have f0 : W3.cell? ⟨g1, k * 3, none⟩ = _ := (blk_cell HK4.out _).trans c0
      have f1 : W3.cell? ⟨g1, k * 3 + 1, none⟩ = _ := (blk_cell HK4.out _).trans c1
      have f2 : W3.cell? ⟨g1, k * 3 + 2, none⟩ = _ := (blk_cell HK4.out _).trans c2
      clear hb3 HM HB3 HK3 d0 d1 d2
      go_wp2_with fail
      refine (HP.out W3).mono ?_
      rintro e W4 ⟨A4, d4, rfl, _, _, _, hb4⟩
      have HK5 := Lib.hid (kb hb4 HK4.out)
      have HB5 := Lib.hid (keepB HB4.out hb4)
      clear hb4 HP HB4 HK4 f0 f1 f2 c0 c1 c2
      go_wp2_with fail
      go_roundw
      case rel => exact ⟨k + 1, by omega, by go_num, HK5, HB5⟩
      case measure => simp [intOf]; omega
    · have hdk : decide ((k : Int) < 8) = false := decide_eq_false (by omega)
      have hdk2 : ¬ (k : Int) < 8 := by omega
      have HB5 := HB3
      clear HB3 HK3 hlt hk
      go_wp2_with fail
      have hblk := heap_alloc_new wr (Obj.cells noneC 9)
      have hbel := keepB HB5.out (bel1 (w := wr) (Obj.cells noneC 9))
      unfold noneC at hblk hbel
      clear HB5
      generalize wr.alloc _ = W2 at *
      generalize wr.heap.size = g2 at *
      have HK := Lib.hid hblk
      have HB2 := Lib.hid hbel
      have nq : ∀ w : World, (binOp .neq 24 (.agg (idA 0 0 0)) (.agg #[.int .i64 0, .int .i64 0, .int .u32 0])).run Try.prog w = .ok (.bool false) w := fun w => by
        have h := neqI 0 0 0 0 0 0 w
        rw [show (!(decide ((0 : Int) = 0 ∧ (0 : Int) = 0 ∧ (0 : Int) = 0))) = false by decide] at h
        exact h
      clear hblk hbel hdk hdk2

      go_loopw [4] (fun i wr => ∃ k : Nat, k ≤ 7 ∧ i = .int .i64 k ∧ Hid (wr.heap[g2]? = some (.cells noneC 9 (0, 0))) ∧ Hid (Below w.heap.size w wr)) (fun i _ => 7 - (intOf i).toNat)
      case atStart => exact ⟨0, Nat.zero_le _, rfl, HK, HB2⟩
      case round =>
        obtain ⟨k, hk, rfl, HK3, HB3⟩ := hrel
        clear HK HB2
        by_cases hlt : k < 7
        · obtain ⟨b, c0, hB, hl, hT⟩ := none_at k hlt
          have d0 : wr.cell? ⟨g2, k, none⟩ = _ := (blk_cell HK3.out _).trans c0
          have HT := Lib.hid (fun A d W h1 h2 h3 => take_any A b d W h1 h2 hB h3)
          rw [takeV_no hT, decide_eq_false hT] at HT
          have hdk : decide ((k : Int) < 7) = true := decide_eq_true (by omega)
          clear hT c0
          go_wp2_with (first
            | (refine wpList_convS rfl (.tmp 49) rfl b rfl hB (by omega) ?_
               intro d4 W4 hd4 hm4 hy4 hb4
               have HK4 := Lib.hid (kb hb4 HK3.out)
               have HB4 := Lib.hid (keepB HB3.out hb4)
               have HT4 := Lib.hid (HT.out _ d4 W4 hd4 hm4 hy4)
               clear hd4 hm4 hy4 hb4 HT HK3 HB3 d0))
          refine HT4.out.mono ?_
          rintro e W5 ⟨rfl, hb5⟩
          have HK5 := Lib.hid (kb hb5 HK4.out)
          have HB5 := Lib.hid (keepB HB4.out hb5)
          have HZ5 := Lib.hid (IdAt.new W5 0 0 0)
          have HI6 := Lib.hid (HZ5.out.set 0 0 0)
          have hb6 : Below W5.heap.size W5 ((W5.alloc (Obj.cells #[.int .i64 0, .int .i64 0, .int .u32 0] 24)).setRow W5.heap.size (idA 0 0 0)) := below_setRow (bel1 _) (Nat.le_refl _) _
          have HK6 := Lib.hid (kb hb6 HK5.out)
          have HB6 := Lib.hid (keepB HB5.out hb6)
          clear hb5 hb6 HK4 HB4 HT4 HK5 HB5 hB hl
          go_upto_region 14 with (refine wpList_storeI rfl (.tmp 5) (.tmp 52) rfl W5.heap.size rfl 0 0 0 rfl 0 0 0 HZ5.out ?_)
          clear HZ5
          generalize (W5.alloc (Obj.cells #[.int .i64 0, .int .i64 0, .int .u32 0] 24)).setRow W5.heap.size (idA 0 0 0) = W6 at *
          generalize W5.heap.size = q5 at *
          go_wp2_with (refine wpList_loadIw (by rfl) (.tmp 5) rfl q5 rfl 0 0 0 HI6.out ?_)
          go_roundw
          case rel => exact ⟨k + 1, by omega, by go_num, HK6, HB6⟩
          case measure => simp [intOf]; omega
        · have hdk : decide ((k : Int) < 7) = false := decide_eq_false (by omega)
          have hdk2 : ¬ (k : Int) < 7 := by omega
          have HB5 := HB3
          clear HB3 HK3 hk hlt
          have HR := Lib.hid root_any
          have HP1 := Lib.hid (fun W => put2_any (-1) 0 0 W (by constructor <;> omega) (by constructor <;> omega) (by constructor <;> omega))
          have HP2 := Lib.hid (fun W => put2_any 7 199 258 W (by constructor <;> omega) (by constructor <;> omega) (by constructor <;> omega))
          rw [show putL (-1) 0 0 = [255, 0, 0, 0, 0, 0, 0] by decide] at HP1
          rw [show putL 7 199 258 = [7, 0, 199, 0, 0, 1, 2] by decide] at HP2
          unfold idV at HP1 HP2 HR
          go_wp2_with fail
          refine (HR.out wr).mono ?_
          rintro e W3 ⟨rfl, hb3⟩
          have HB6 := Lib.hid (keepB HB5.out hb3)
          clear hb3 HB5
          go_wp2_with fail
          refine (HP1.out W3).mono ?_
          rintro e W4 ⟨A4, d4, rfl, _, _, hy4, hb4⟩
          have HB7 := Lib.hid (keepB HB6.out hb4)
          have cv := conv_any (n := 7) (c := d4) hy4 rfl
          rw [show strOfNums [255, 0, 0, 0, 0, 0, 0] = { data := #[255, 0, 0, 0, 0, 0, 0] } from rfl] at cv
          clear hb4 HB6 hy4 HP1
          go_wp2_with fail
          refine (HP2.out W4).mono ?_
          rintro e W5 ⟨A5, d5, rfl, _, _, hy5, hb5⟩
          have HB8 := Lib.hid (keepB HB7.out hb5)
          have cv5 := conv_any (n := 7) (c := d5) hy5 rfl
          rw [show strOfNums [7, 0, 199, 0, 0, 1, 2] = { data := #[7, 0, 199, 0, 0, 1, 2] } from rfl] at cv5
          clear hb5 HB7 hy5 HP2 cv
          go_wp2_with fail
          go_ret
          exact ⟨rfl, HB8.out⟩

set_option maxRecDepth 100000 in
theorem lifted (os : Os) (started : os.Started) (H : Type) (enc : TypeId × Value → H) :
    ReturnsInHanded {} Try.checked os 5 .any (Rows.inoFormsSpec.pre6 enc Try.prog Try.f5 Rows.inoFormsRow.domain false) (Rows.inoFormsSpec.post enc Try.prog Try.f5 false true false false) := by
  refine returnsInHanded_of_change (C := Try.checked) own started (by kernel_rfl) Try.func5
    (ChangeSpec.witness6 (enc := enc) (C := Try.checked) false ⟨#[], #[], []⟩ 8 (by kernel_rfl) (by kernel_rfl) (by kernel_rfl) (by kernel_rfl)) ?_
  intro W base args ds gs before hval0 hW hcnd _
  have hW' := hW
  obtain ⟨p, q, hA0, hV, rfl, hfz, hnd⟩ := hW
  have hA : DataW.TrodAll enc Try.prog W 0 (fun _ => true) true Try.f5.params.toList args.toList ds p := hA0
  rw [Try.params5] at hA
  obtain ⟨rfl, rfl, rfl⟩ := trodAll_none hA
  obtain ⟨rfl, rfl⟩ := trodVars_none hV
  clear hA0 hval0
  simp only [List.append_nil] at hW'
  refine (walk W).mono fun e W' ⟨he, bel⟩ => ?_
  subst he
  exact ⟨_, rfl, _, _, _, [], _, [], hW', (trodAll_cons_mk (shut_bool Try.underlying4 _) trodAll_mk0), rfl, rfl, bel.frame _, fun h => by cases h⟩

theorem over : Rows.inoFormsRow.holds Try.pinned (OpenSpec.ofChange Rows.inoFormsSpec) :=
  OpenClaim.holds_of_wide 5 Try.f5 rfl rfl rfl rfl rfl rfl rfl ⟨rfl, rfl, rfl, rfl, rfl⟩ rfl rfl rfl rfl rfl (by kernel_rfl) Try.func5 (by kernel_rfl)
    (of_decide_eq_true (by kernel_rfl)) (by unfold Func.isWrapper; first | (rw [if_pos (by decide +kernel)]; kernel_rfl) | (rw [if_neg (by decide +kernel)]; exact ⟨rfl, rfl⟩))
    (fun os started H enc _ => lifted os started H enc)

theorem proved : Rows.InoFormsSaid :=
  over
#print axioms proved
end Go.Proofs.Ytcnpepfboapljaa.inoForms
