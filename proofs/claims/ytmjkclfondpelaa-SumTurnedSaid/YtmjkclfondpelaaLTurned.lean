/- The law SumTurned answers true for every input, and leaves its arguments alone. No condition. -/
import Derived.Test.YtmjkclfondpelaaRows
import Derived.Test.YtmjkclfondpelaaS2
import Derived.Test.YtmjkclfondpelaaS4
import Derived.Test.YtmjkclfondpelaaK4
import Derived.WalkKit
import Derived.ProofKit
import Derived.OpenShut
namespace Go.Proofs.Ytmjkclfondpelaa.sumTurned
open Go.ChangeShapes Go.WideShapes Go.ChangeAt Go.RowKit Go.Joins
set_option linter.unusedVariables false
theorem own : ownKnob Try.prog.godebug = none := by kernel_rfl
theorem laidOut : laidOutB Try.prog = true := by kernel_rfl
theorem long (A0 : Option Addr) (n d0 : Nat) (x1 x2 : Int) (w : World) (h : n < 1 ∨ 300 < n) :
    Calls Try.prog 4 #[.slice A0 n d0, .int .u16 x1, .int .u8 x2] w fun e w' => e = .returned (.bool true) ∧ Below w.heap.size w w' := by
  rcases Nat.lt_or_ge n 1 with h1 | h1
  · obtain rfl : n = 0 := by omega
    clear h h1
    go_enter Try.func4, Try.ntmps4
    go_wp2_with fail
    refine (begun_any _).mono ?_
    rintro e w1 ⟨rfl, hb⟩
    go_wp2_with fail
    go_ret
    exact ⟨rfl, hb⟩
  · have h2 : 300 < n := by omega
    clear h
    go_enter Try.func4, Try.ntmps4
    go_wp2_with fail
    refine (begun_any _).mono ?_
    rintro e w1 ⟨rfl, hb⟩
    go_wp2_with fail
    go_ret
    exact ⟨rfl, hb⟩
set_option maxRecDepth 100000 in
set_option maxHeartbeats 1600000 in
theorem walk (A0 : Option Addr) (l0 : List Int) (d0 : Nat) (x1 : Int) (x2 : Int) (w : World) (hd0 : l0.length ≤ d0) (hm0 : d0 ≤ 9223372036854775807) (hB0 : AllB l0) (hy0 : Byt w A0 l0) (hx1 : 0 ≤ x1 ∧ x1 ≤ 65535) (hx2 : 0 ≤ x2 ∧ x2 ≤ 255) :
    Calls Try.prog 4 #[.slice A0 l0.length d0, .int .u16 x1, .int .u8 x2] w fun e w' => e = .returned (.bool true) ∧ Below w.heap.size w w' := by
  by_cases hs : l0.length < 1 ∨ 300 < l0.length
  · exact long A0 l0.length d0 x1 x2 w hs
  · have hs1 : 1 ≤ l0.length := by omega
    have hs2 : l0.length ≤ 300 := by omega
    clear hs
    obtain ⟨xn, rfl⟩ : ∃ y : Nat, x1 = (y : Int) := ⟨x1.toNat, by omega⟩
    have HY := Lib.hid hy0
    have HB := Lib.hid hB0
    clear hB0 hy0
    generalize hn : l0.length = n at *
    have HN := Lib.hid hn
    clear hn
    obtain ⟨k, hk⟩ : ∃ k, xn % n = k := ⟨_, rfl⟩
    have hkn : k < n := by rw [← hk]; exact Nat.mod_lt _ (by omega)
    have g1 : IntKind.i64.wrap (xn : Int) = (xn : Int) := IntWalk.i64_in _ (by omega)
    have g2 : Int.tmod (xn : Int) (n : Int) = (k : Int) := by rw [← hk]; exact (Int.ofNat_tmod xn n).symm
    have g2' : (xn : Int) % (n : Int) = (k : Int) := by rw [← hk]; exact (Int.natCast_emod xn n).symm
    have g3 : ((n : Int) = 0) = False := by simp; omega
    have g4 : ((n : Int) == 0) = false := by simp; omega
    clear hk
    go_enter Try.func4, Try.ntmps4
    go_wp2_with fail
    refine (begun_any _).mono ?_
    rintro e w1 ⟨rfl, hb⟩
    have HB1 := Lib.hid hb
    have HY1 := Lib.hid (HY.out.keep hb)
    clear hb
    obtain ⟨x0, hx0⟩ : ∃ x, l0[k]? = some x := ⟨_, List.getElem?_eq_getElem (by rw [HN.out]; exact hkn)⟩
    have HX0 := Lib.hid hx0
    clear hx0
    go_wp2_with (first
    | (at_builtin
       (refine wpList_app_byt _ rfl (.tmp 19) (.tmp 20) rfl w.heap.size _ 0 [] rfl (own_new w1 w.heap.size 5 0 #[] [] HB1.out.size rfl (by decide) rfl) A0 n d0 l0 rfl (HY1.out.alloc _) HN.out (by omega) (by have := HB1.out.size; simp; omega) ?_)
       intro v2 w2 hown hg hlies
       rw [Nat.zero_add, List.nil_append] at hown
       have HB2 := Lib.hid (grownB (HB1.out.alloc HB1.out.size _) (own_new w1 w.heap.size 5 0 #[] [] HB1.out.size rfl (by decide) rfl) hg)
       clear hg hlies
       obtain ⟨g, cap, rfl, hcap, hcap2, hbg, hgs, hcell, hfr⟩ := own_at hown (by omega)
       have c0 := hcell k x0 HX0.out
       have f0 := hfr k
       have HOWN := Lib.hid hown
       have HSZ := Lib.hid hgs
       clear hcell hfr hown hgs))
    have hx0b := HB.out x0 (List.mem_of_getElem? HX0.out)
    have own3 := own_set_at HOWN.out hkn (Value.int .u8 x2)
    rw [set_Bs] at own3
    have hyc : Byt (w2.setCell ⟨g, k, none⟩ (Value.int .u8 x2)) (some ⟨g, 0, none⟩) (l0.set k x2) := by
      obtain ⟨A, d, e, _, _, hy⟩ := byt_own own3 (by rw [List.length_set]; exact HN.out)
      injection e with e1 e2 e3
      subst e1; exact hy
    have HB3 : Hid (Below w.heap.size w (w2.setCell ⟨g, k, none⟩ (Value.int .u8 x2))) := Lib.hid (HB2.out.setCell hbg _)
    have hyb := HY.out.keep HB3.out
    generalize w2.setCell ⟨g, k, none⟩ (Value.int .u8 x2) = w3 at *
    obtain ⟨ad, rfl, hc0⟩ := hyb k x0 HX0.out
    have hcq : ∀ q, (w3.drewN q).cell? (ad.add k) = some (.int .u8 x0) := fun q => hc0
    have S1 : Hid (∀ q, _) := fun q : Nat => sum_q (some ⟨g, 0, none⟩) (l0.set k x2) n cap (w3.drewN q) (by rw [List.length_set]; exact HN.out) (by omega) (fun y hy => by
      rcases List.mem_or_eq_of_mem_set hy with h | h
      · exact HB.out y h
      · subst h; omega) (hyc.drew q)
    have S2 : Hid (∀ q, _) := fun q : Nat => sum_q (some ad) l0 n d0 (w3.drewN q) HN.out (by omega) HB.out (hyb.drew q)
    have HT := Lib.hid (turn_iff (y := x2) HX0.out hx0b (by omega))
    generalize sumV (l0.set k x2) = v1 at *
    generalize sumV l0 = v2 at *
    clear own3 hyc hyb hc0 c0 f0
    go_quiet ((first | (go_at_call 9; with_reducible exact Calls.quiet_of_same (S1.out _)) | (go_at_call 9; with_reducible exact Calls.quiet_of_same (S2.out _))))
    go_wp2_with fail
    go_ret
    exact ⟨ret_bool (turned_b HT.out), bdn HB3.out _⟩

set_option maxRecDepth 100000 in
theorem lifted (os : Os) (started : os.Started) (H : Type) (enc : TypeId × Value → H) :
    ReturnsInHanded {} Try.checked os 4 .any (Rows.sumTurnedSpec.pre6 enc Try.prog Try.f4 Rows.sumTurnedRow.domain false) (Rows.sumTurnedSpec.post enc Try.prog Try.f4 false true false false) := by
  refine returnsInHanded_of_change (C := Try.checked) own started (by kernel_rfl) Try.func4
    (ChangeSpec.witness6 (enc := enc) (C := Try.checked) false ⟨#[], #[.slice none 0 0, .int .u16 0, .int .u8 0], []⟩ 8 (by kernel_rfl) (by kernel_rfl) (by kernel_rfl) (by kernel_rfl)) ?_
  intro W base args ds gs before hval0 hW hcnd _
  have hval : ∀ (j : Nat) t v, Try.f4.params[j]? = some t → args[j]? = some v → Value.okWide Try.prog W .any base t v := hval0
  have hW' := hW
  obtain ⟨p, q, hA0, hV, rfl, hfz, hnd⟩ := hW
  have hA : DataW.TrodAll enc Try.prog W 0 (fun _ => true) true Try.f4.params.toList args.toList ds p := hA0
  rw [Try.params4] at hA hval
  obtain ⟨v0, vs0, d0, ds0, p0, q0, hargs, rfl, rfl, h0, r0⟩ := trodAll_cons hA
  obtain ⟨v1, vs1, d1, ds1, p1, q1, rfl, rfl, rfl, h1, r1⟩ := trodAll_cons r0
  obtain ⟨v2, vs2, d2, ds2, p2, q2, rfl, rfl, rfl, h2, r2⟩ := trodAll_cons r1
  obtain ⟨rfl, rfl, rfl⟩ := trodAll_nil r2
  obtain rfl : args = #[v0, v1, v2] := by cases args; simp_all
  obtain ⟨rfl, rfl⟩ := trodVars_none hV
  obtain ⟨a0, len0, cap0, rfl⟩ := okWide_slice Try.underlying22 (hval 0 22 v0 rfl rfl)
  obtain ⟨x1, rfl, rfl, rfl, wx1⟩ := open_int Try.underlying29 (hval 1 29 v1 rfl rfl) h1
  obtain ⟨x2, rfl, rfl, rfl, wx2⟩ := open_int Try.underlying5 (hval 2 5 v2 rfl rfl) h2
  clear hA0 hval0
  simp only [List.append_nil] at hW'
  have hlt0 : ∀ y ∈ p0, y.block < W.heap.size := fun y hy => by simpa using hW'.lt y (by simp [hy])
  have harg0 : ∀ W' : World, Below W.heap.size W W' → DataW.Trod enc Try.prog W' 0 (fun b => decide (b < W.heap.size)) true 22 (.slice a0 len0 cap0) d0 p0 :=
    fun W' hn => Below.trod laidOut (by kernel_rfl) (of_decide_eq_true (by kernel_rfl)) h0 hn (fun y hy => hlt0 y hy)
  obtain ⟨fu0, hf0⟩ := h0
  obtain ⟨A0, l0, c0, e0, hd0, hm0, hy0, hB0⟩ := open_byt hf0
  simp [Value.cells] at e0
  obtain ⟨rfl, rfl, rfl⟩ := e0
  refine (walk a0 l0 cap0 x1 x2 W hd0 hm0 hB0 hy0 (by have := bounds_u16 wx1; omega) (by have := bounds_u8 wx2; omega)).mono fun e W' ⟨he, bel⟩ => ?_
  subst he
  exact ⟨_, rfl, _, _, _, [], _, [], hW', (trodAll_cons_mk (shut_bool Try.underlying4 _) trodAll_mk0), (trodAll_cons_mk (harg0 _ bel) (trodAll_cons_mk (shut_int Try.underlying29 wx1) (trodAll_cons_mk (shut_int Try.underlying5 wx2) trodAll_mk0))), rfl, bel.frame _, fun h => by cases h⟩

theorem over : Rows.sumTurnedRow.holds Try.pinned (OpenSpec.ofChange Rows.sumTurnedSpec) :=
  OpenClaim.holds_of_wide 4 Try.f4 rfl rfl rfl rfl rfl rfl rfl ⟨rfl, rfl, rfl, rfl, rfl⟩ rfl rfl rfl rfl rfl (by kernel_rfl) Try.func4 (by kernel_rfl)
    (of_decide_eq_true (by kernel_rfl)) (by unfold Func.isWrapper; first | (rw [if_pos (by decide +kernel)]; kernel_rfl) | (rw [if_neg (by decide +kernel)]; exact ⟨rfl, rfl⟩))
    (fun os started H enc _ => lifted os started H enc)

theorem proved : Rows.SumTurnedSaid :=
  over
#print axioms proved
end Go.Proofs.Ytmjkclfondpelaa.sumTurned
