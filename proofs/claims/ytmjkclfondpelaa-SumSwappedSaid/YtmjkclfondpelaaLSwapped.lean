/- The law SumSwapped answers true for every input, and leaves its arguments alone. No condition. -/
import Derived.Test.YtmjkclfondpelaaRows
import Derived.Test.YtmjkclfondpelaaS2
import Derived.Test.YtmjkclfondpelaaS4
import Derived.Test.YtmjkclfondpelaaK4
import Derived.WalkKit
import Derived.ProofKit
import Derived.OpenShut
namespace Go.Proofs.Ytmjkclfondpelaa.sumSwapped
open Go.ChangeShapes Go.WideShapes Go.ChangeAt Go.RowKit Go.Joins
set_option linter.unusedVariables false
theorem own : ownKnob Try.prog.godebug = none := by kernel_rfl
theorem laidOut : laidOutB Try.prog = true := by kernel_rfl
theorem long (A0 : Option Addr) (n d0 : Nat) (x1 : Int) (w : World) (h : n < 2 ∨ 300 < n) :
    Calls Try.prog 6 #[.slice A0 n d0, .int .u16 x1] w fun e w' => e = .returned (.bool true) ∧ Below w.heap.size w w' := by
  rcases Nat.lt_or_ge n 2 with h1 | h1
  · clear h
    go_enter Try.func6, Try.ntmps6
    go_wp2_with fail
    refine (begun_any _).mono ?_
    rintro e w1 ⟨rfl, hb⟩
    go_wp2_with fail
    go_ret
    exact ⟨rfl, hb⟩
  · have h2 : 300 < n := by omega
    clear h
    go_enter Try.func6, Try.ntmps6
    go_wp2_with fail
    refine (begun_any _).mono ?_
    rintro e w1 ⟨rfl, hb⟩
    go_wp2_with fail
    go_ret
    exact ⟨rfl, hb⟩
set_option maxRecDepth 100000 in
set_option maxHeartbeats 1600000 in
theorem walk (A0 : Option Addr) (l0 : List Int) (d0 : Nat) (x1 : Int) (w : World) (hd0 : l0.length ≤ d0) (hm0 : d0 ≤ 9223372036854775807) (hB0 : AllB l0) (hy0 : Byt w A0 l0) (hx1 : 0 ≤ x1 ∧ x1 ≤ 65535) :
    Calls Try.prog 6 #[.slice A0 l0.length d0, .int .u16 x1] w fun e w' => e = .returned (.bool true) ∧ Below w.heap.size w w' := by
  by_cases hs : l0.length < 2 ∨ 300 < l0.length
  · exact long A0 l0.length d0 x1 w hs
  · have hs1 : 2 ≤ l0.length := by omega
    have hs2 : l0.length ≤ 300 := by omega
    clear hs
    obtain ⟨xn, rfl⟩ : ∃ y : Nat, x1 = (y : Int) := ⟨x1.toNat, by omega⟩
    have HY := Lib.hid hy0
    have HB := Lib.hid hB0
    clear hB0 hy0
    generalize hn : l0.length = n at *
    have HN := Lib.hid hn
    clear hn
    obtain ⟨k, hk⟩ : ∃ k, xn % (n - 1) = k := ⟨_, rfl⟩
    have hkn : k + 1 < n := by have : xn % (n - 1) < n - 1 := Nat.mod_lt _ (by omega); omega
    have g1 : IntKind.i64.wrap (xn : Int) = (xn : Int) := IntWalk.i64_in _ (by omega)
    have g0 : IntKind.i64.wrap ((n : Int) - 1) = (n : Int) - 1 := IntWalk.i64_in _ (by omega)
    have ge : ((n - 1 : Nat) : Int) = (n : Int) - 1 := by omega
    have g2 : Int.tmod (xn : Int) ((n : Int) - 1) = (k : Int) := by rw [← hk, ← ge]; exact (Int.ofNat_tmod xn (n - 1)).symm
    have g2' : (xn : Int) % ((n : Int) - 1) = (k : Int) := by rw [← hk, ← ge]; exact (Int.natCast_emod xn (n - 1)).symm
    have g3 : (((n : Int) - 1) = 0) = False := by simp; omega
    have g4 : (((n : Int) - 1) == 0) = false := by simp; omega
    clear ge
    clear hk
    go_enter Try.func6, Try.ntmps6
    go_wp2_with fail
    refine (begun_any _).mono ?_
    rintro e w1 ⟨rfl, hb⟩
    have HB1 := Lib.hid hb
    have HY1 := Lib.hid (HY.out.keep hb)
    clear hb
    obtain ⟨x0, hx0⟩ : ∃ x, l0[k]? = some x := ⟨_, List.getElem?_eq_getElem (by rw [HN.out]; omega)⟩
    obtain ⟨y0, hy0⟩ : ∃ x, l0[k + 1]? = some x := ⟨_, List.getElem?_eq_getElem (by rw [HN.out]; omega)⟩
    have HX0 := Lib.hid hx0
    have HY0 := Lib.hid hy0
    clear hx0 hy0
    go_wp2_with (first
    | (at_builtin
       (refine wpList_app_byt _ rfl (.tmp 23) (.tmp 24) rfl w.heap.size _ 0 [] rfl (own_new w1 w.heap.size 5 0 #[] [] HB1.out.size rfl (by decide) rfl) A0 n d0 l0 rfl (HY1.out.alloc _) HN.out (by omega) (by have := HB1.out.size; simp; omega) ?_)
       intro v2 w2 hown hg hlies
       rw [Nat.zero_add, List.nil_append] at hown
       have HB2 := Lib.hid (grownB (HB1.out.alloc HB1.out.size _) (own_new w1 w.heap.size 5 0 #[] [] HB1.out.size rfl (by decide) rfl) hg)
       clear hg hlies
       obtain ⟨g, cap, rfl, hcap, hcap2, hbg, hgs, hcell, hfr⟩ := own_at hown (by omega)
       have c0 := hcell k x0 HX0.out
       have c1 := hcell (k + 1) y0 HY0.out
       have f0 := hfr k
       have f1 := hfr (k + 1)
       have HOWN := Lib.hid hown
       have HSZ := Lib.hid hgs
       clear hcell hfr hown hgs))
    have w1' : IntKind.i64.wrap ((k : Int) + 1) = (k : Int) + 1 := IntWalk.i64_in _ (by omega)
    have w2' : ((k : Int) + 1).toNat = k + 1 := by omega
    have w3' : (0 : Int) ≤ (k : Int) + 1 := by omega
    have w4q : (k : Int) + 1 < (n : Int) := by omega
    have hkn2 : k < n := by omega
    have hx0b := HB.out x0 (List.mem_of_getElem? HX0.out)
    have hy0b := HB.out y0 (List.mem_of_getElem? HY0.out)
    have own3 := own_set_at (own_set_at HOWN.out (k := k) (by omega) (Value.int .u8 y0)) hkn (Value.int .u8 x0)
    rw [set_Bs, set_Bs] at own3
    have HO3 := Lib.hid own3
    have HB3 : Hid (Below w.heap.size w ((w2.setCell ⟨g, k, none⟩ (Value.int .u8 y0)).setCell ⟨g, k + 1, none⟩ (Value.int .u8 x0))) := Lib.hid ((HB2.out.setCell hbg _).setCell hbg _)
    clear own3
    go_region
    go_wp2_with fail
    have hyc : Byt ((w2.setCell ⟨g, k, none⟩ (Value.int .u8 y0)).setCell ⟨g, k + 1, none⟩ (Value.int .u8 x0)) (some ⟨g, 0, none⟩) ((l0.set k y0).set (k + 1) x0) := by
      obtain ⟨A, d, e, _, _, hy⟩ := byt_own HO3.out (by rw [List.length_set, List.length_set]; exact HN.out)
      injection e with e1 e2 e3
      subst e1; exact hy
    have hyb := HY.out.keep HB3.out
    generalize ((w2.setCell ⟨g, k, none⟩ (Value.int .u8 y0)).setCell ⟨g, k + 1, none⟩ (Value.int .u8 x0)) = w3 at *
    have hyc := hyc.drew 1
    have hyb := hyb.drew 1
    have HB4 : Hid (Below w.heap.size w w3.drew) := Lib.hid (bdn HB3.out 1)
    have hyc : Byt w3.drew (some ⟨g, 0, none⟩) ((l0.set k y0).set (k + 1) x0) := hyc
    have hyb : Byt w3.drew A0 l0 := hyb
    clear HO3 HB3
    generalize w3.drew = w3 at *
    obtain ⟨ad, rfl, hc0⟩ := hyb k x0 HX0.out
    obtain ⟨ad', e, hc1⟩ := hyb (k + 1) y0 HY0.out
    injection e with e
    subst e
    have hcq : ∀ q, (w3.drewN q).cell? (ad.add k) = some (.int .u8 x0) := fun q => hc0
    rw [add_sum] at hc1
    have hcq1 : ∀ q, (w3.drewN q).cell? ⟨ad.block, ad.off + (k + 1), none⟩ = some (.int .u8 y0) := fun q => hc1
    have S1 : Hid (∀ q, _) := fun q : Nat => sum_q (some ⟨g, 0, none⟩) ((l0.set k y0).set (k + 1) x0) n cap (w3.drewN q) (by rw [List.length_set, List.length_set]; exact HN.out) (by omega) (fun y hy => by
      rcases List.mem_or_eq_of_mem_set hy with h | h
      · rcases List.mem_or_eq_of_mem_set h with h | h
        · exact HB.out y h
        · subst h; exact hy0b
      · subst h; exact hx0b) (hyc.drew q)
    have S2 : Hid (∀ q, _) := fun q : Nat => sum_q (some ad) l0 n d0 (w3.drewN q) HN.out (by omega) HB.out (hyb.drew q)
    have HT := Lib.hid (swap_iff HX0.out HY0.out hx0b hy0b)
    generalize sumV ((l0.set k y0).set (k + 1) x0) = v1 at *
    generalize sumV l0 = v2 at *
    clear hyc hyb hc0 hc1 c0 f0 c1 f1
    go_quiet ((first | (go_at_call 9; with_reducible exact Calls.quiet_of_same (S1.out _)) | (go_at_call 9; with_reducible exact Calls.quiet_of_same (S2.out _))))
    go_wp2_with fail
    go_ret
    exact ⟨ret_bool (turned_b HT.out), bdn HB4.out _⟩

set_option maxRecDepth 100000 in
theorem lifted (os : Os) (started : os.Started) (H : Type) (enc : TypeId × Value → H) :
    ReturnsInHanded {} Try.checked os 6 .any (Rows.sumSwappedSpec.pre6 enc Try.prog Try.f6 Rows.sumSwappedRow.domain false) (Rows.sumSwappedSpec.post enc Try.prog Try.f6 false true false false) := by
  refine returnsInHanded_of_change (C := Try.checked) own started (by kernel_rfl) Try.func6
    (ChangeSpec.witness6 (enc := enc) (C := Try.checked) false ⟨#[], #[.slice none 0 0, .int .u16 0], []⟩ 8 (by kernel_rfl) (by kernel_rfl) (by kernel_rfl) (by kernel_rfl)) ?_
  intro W base args ds gs before hval0 hW hcnd _
  have hval : ∀ (j : Nat) t v, Try.f6.params[j]? = some t → args[j]? = some v → Value.okWide Try.prog W .any base t v := hval0
  have hW' := hW
  obtain ⟨p, q, hA0, hV, rfl, hfz, hnd⟩ := hW
  have hA : DataW.TrodAll enc Try.prog W 0 (fun _ => true) true Try.f6.params.toList args.toList ds p := hA0
  rw [Try.params6] at hA hval
  obtain ⟨v0, vs0, d0, ds0, p0, q0, hargs, rfl, rfl, h0, r0⟩ := trodAll_cons hA
  obtain ⟨v1, vs1, d1, ds1, p1, q1, rfl, rfl, rfl, h1, r1⟩ := trodAll_cons r0
  obtain ⟨rfl, rfl, rfl⟩ := trodAll_nil r1
  obtain rfl : args = #[v0, v1] := by cases args; simp_all
  obtain ⟨rfl, rfl⟩ := trodVars_none hV
  obtain ⟨a0, len0, cap0, rfl⟩ := okWide_slice Try.underlying22 (hval 0 22 v0 rfl rfl)
  obtain ⟨x1, rfl, rfl, rfl, wx1⟩ := open_int Try.underlying29 (hval 1 29 v1 rfl rfl) h1
  clear hA0 hval0
  simp only [List.append_nil] at hW'
  have hlt0 : ∀ y ∈ p0, y.block < W.heap.size := fun y hy => by simpa using hW'.lt y (by simp [hy])
  have harg0 : ∀ W' : World, Below W.heap.size W W' → DataW.Trod enc Try.prog W' 0 (fun b => decide (b < W.heap.size)) true 22 (.slice a0 len0 cap0) d0 p0 :=
    fun W' hn => Below.trod laidOut (by kernel_rfl) (of_decide_eq_true (by kernel_rfl)) h0 hn (fun y hy => hlt0 y hy)
  obtain ⟨fu0, hf0⟩ := h0
  obtain ⟨A0, l0, c0, e0, hd0, hm0, hy0, hB0⟩ := open_byt hf0
  simp [Value.cells] at e0
  obtain ⟨rfl, rfl, rfl⟩ := e0
  refine (walk a0 l0 cap0 x1 W hd0 hm0 hB0 hy0 (by have := bounds_u16 wx1; omega)).mono fun e W' ⟨he, bel⟩ => ?_
  subst he
  exact ⟨_, rfl, _, _, _, [], _, [], hW', (trodAll_cons_mk (shut_bool Try.underlying4 _) trodAll_mk0), (trodAll_cons_mk (harg0 _ bel) (trodAll_cons_mk (shut_int Try.underlying29 wx1) trodAll_mk0)), rfl, bel.frame _, fun h => by cases h⟩

theorem over : Rows.sumSwappedRow.holds Try.pinned (OpenSpec.ofChange Rows.sumSwappedSpec) :=
  OpenClaim.holds_of_wide 6 Try.f6 rfl rfl rfl rfl rfl rfl rfl ⟨rfl, rfl, rfl, rfl, rfl⟩ rfl rfl rfl rfl rfl (by kernel_rfl) Try.func6 (by kernel_rfl)
    (of_decide_eq_true (by kernel_rfl)) (by unfold Func.isWrapper; first | (rw [if_pos (by decide +kernel)]; kernel_rfl) | (rw [if_neg (by decide +kernel)]; exact ⟨rfl, rfl⟩))
    (fun os started H enc _ => lifted os started H enc)

theorem proved : Rows.SumSwappedSaid :=
  over
#print axioms proved
end Go.Proofs.Ytmjkclfondpelaa.sumSwapped
