/- The law SumAll answers true for every input, and leaves its arguments alone. No condition. -/
import Derived.Test.YtmjkclfondpelaaRows
import Derived.Test.YtmjkclfondpelaaS2
import Derived.Test.YtmjkclfondpelaaS3
import Derived.Test.YtmjkclfondpelaaO1
import Derived.WalkKit
import Derived.ProofKit
import Derived.OpenShut
namespace Go.Proofs.Ytmjkclfondpelaa.sumAll
open Go.ChangeShapes Go.WideShapes Go.ChangeAt Go.RowKit Go.Joins
set_option linter.unusedVariables false
theorem own : ownKnob Try.prog.godebug = none := by kernel_rfl
theorem laidOut : laidOutB Try.prog = true := by kernel_rfl
set_option maxRecDepth 100000 in
theorem walk (A0 : Option Addr) (l0 : List Int) (d0 : Nat) (w : World) (hd0 : l0.length ≤ d0) (hm0 : d0 ≤ 9223372036854775807) (hB0 : AllB l0) (hy0 : Byt w A0 l0) :
    Calls Try.prog 3 #[.slice A0 l0.length d0] w fun e w' => e = .returned (.bool true) ∧ Below w.heap.size w w' := by
  by_cases hs : l0.length ≤ 300
  · have HY := Lib.hid hy0
    have HO : Hid (∀ W, Byt W A0 l0 → _) := fun W h => out_any A0 l0 d0 W (by omega) hB0 h
    have HR : Hid (∀ W, Byt W A0 l0 → _) := fun W h => rsum_any A0 l0 l0.length d0 W rfl (by omega) hB0 h
    have HI : Hid (∀ (W : World) (g : Nat) (C : Array Value), Byt W A0 l0 → _) := fun W g C h => intact_any A0 l0 d0 g C W (by omega) hB0 h
    have HS : Hid (∀ (W : World) (g : Nat) (C : Array Value), RoomC C l0.length l0 (l0.length + 7) l0.length → W.heap[g]? = some (.cells C 5 (0, 0)) → _) := fun (W : World) (g : Nat) (C : Array Value) h hb => sum_any (some ⟨g, 0, none⟩) l0 l0.length (l0.length + 7) W rfl (by omega) hB0 (h.byt hb)
    clear hB0 hy0
    generalize sumV l0 = v at *
    generalize hn : l0.length = n at *
    have HN := Lib.hid hn
    clear hn
    go_enter Try.func3, Try.ntmps3
    go_wp2_with fail
    refine (begun_any _).mono ?_
    rintro e w1 ⟨rfl, hb⟩
    have HB1 := Lib.hid hb
    have HY1 := Lib.hid (HY.out.keep hb)
    clear hb
    go_wp2_with fail
    refine (HO.out _ HY1.out).mono ?_
    rintro e w2 ⟨g, C, rfl, hg, hblk, hroom, hb⟩
    have HB2 := Lib.hid (keepB HB1.out hb)
    have HY2 := Lib.hid (HY1.out.keep hb)
    have HK := Lib.hid hblk
    have HC := Lib.hid hroom
    clear hb hblk hroom hg
    go_wp2_with fail
    refine (HS.out w2 g C HC.out HK.out).mono ?_
    rintro e w3 ⟨rfl, rfl⟩
    go_wp2_with fail
    refine (HR.out w2 HY2.out).mono ?_
    rintro e w3 ⟨rfl, rfl⟩
    go_wp2_with fail
    refine (HI.out w2 g C HY2.out HK.out HC.out).mono ?_
    rintro e w3 ⟨rfl, rfl⟩
    go_wp2_with fail
    go_ret
    exact ⟨rfl, HB2.out⟩
  · clear hy0 hB0
    generalize l0.length = n at *
    go_enter Try.func3, Try.ntmps3
    go_wp2_with fail
    refine (begun_any _).mono ?_
    rintro e w1 ⟨rfl, hb⟩
    go_wp2_with fail
    go_ret
    exact ⟨rfl, hb⟩

set_option maxRecDepth 100000 in
theorem lifted (os : Os) (started : os.Started) (H : Type) (enc : TypeId × Value → H) :
    ReturnsInHanded {} Try.checked os 3 .any (Rows.sumAllSpec.pre6 enc Try.prog Try.f3 Rows.sumAllRow.domain false) (Rows.sumAllSpec.post enc Try.prog Try.f3 false true false false) := by
  refine returnsInHanded_of_change (C := Try.checked) own started (by kernel_rfl) Try.func3
    (ChangeSpec.witness6 (enc := enc) (C := Try.checked) false ⟨#[], #[.slice none 0 0], []⟩ 8 (by kernel_rfl) (by kernel_rfl) (by kernel_rfl) (by kernel_rfl)) ?_
  intro W base args ds gs before hval0 hW hcnd _
  have hval : ∀ (j : Nat) t v, Try.f3.params[j]? = some t → args[j]? = some v → Value.okWide Try.prog W .any base t v := hval0
  have hW' := hW
  obtain ⟨p, q, hA0, hV, rfl, hfz, hnd⟩ := hW
  have hA : DataW.TrodAll enc Try.prog W 0 (fun _ => true) true Try.f3.params.toList args.toList ds p := hA0
  rw [Try.params3] at hA hval
  obtain ⟨v0, vs0, d0, ds0, p0, q0, hargs, rfl, rfl, h0, r0⟩ := trodAll_cons hA
  obtain ⟨rfl, rfl, rfl⟩ := trodAll_nil r0
  obtain rfl : args = #[v0] := by cases args; simp_all
  obtain ⟨rfl, rfl⟩ := trodVars_none hV
  obtain ⟨a0, len0, cap0, rfl⟩ := okWide_slice Try.underlying22 (hval 0 22 v0 rfl rfl)
  clear hA0 hval0
  simp only [List.append_nil] at hW'
  have hlt0 : ∀ y ∈ p0, y.block < W.heap.size := fun y hy => by simpa using hW'.lt y (by simp [hy])
  have harg0 : ∀ W' : World, Below W.heap.size W W' → DataW.Trod enc Try.prog W' 0 (fun b => decide (b < W.heap.size)) true 22 (.slice a0 len0 cap0) d0 p0 :=
    fun W' hn => Below.trod laidOut (by kernel_rfl) (of_decide_eq_true (by kernel_rfl)) h0 hn (fun y hy => hlt0 y hy)
  obtain ⟨fu0, hf0⟩ := h0
  obtain ⟨A0, l0, c0, e0, hd0, hm0, hy0, hB0⟩ := open_byt hf0
  simp [Value.cells] at e0
  obtain ⟨rfl, rfl, rfl⟩ := e0
  refine (walk a0 l0 cap0 W hd0 hm0 hB0 hy0).mono fun e W' ⟨he, bel⟩ => ?_
  subst he
  exact ⟨_, rfl, _, _, _, [], _, [], hW', (trodAll_cons_mk (shut_bool Try.underlying4 _) trodAll_mk0), (trodAll_cons_mk (harg0 _ bel) trodAll_mk0), rfl, bel.frame _, fun h => by cases h⟩

theorem over : Rows.sumAllRow.holds Try.pinned (OpenSpec.ofChange Rows.sumAllSpec) :=
  OpenClaim.holds_of_wide 3 Try.f3 rfl rfl rfl rfl rfl rfl rfl ⟨rfl, rfl, rfl, rfl, rfl⟩ rfl rfl rfl rfl rfl (by kernel_rfl) Try.func3 (by kernel_rfl)
    (of_decide_eq_true (by kernel_rfl)) (by unfold Func.isWrapper; first | (rw [if_pos (by decide +kernel)]; kernel_rfl) | (rw [if_neg (by decide +kernel)]; exact ⟨rfl, rfl⟩))
    (fun os started H enc _ => lifted os started H enc)

theorem proved : Rows.SumAllSaid :=
  over
#print axioms proved
end Go.Proofs.Ytmjkclfondpelaa.sumAll
