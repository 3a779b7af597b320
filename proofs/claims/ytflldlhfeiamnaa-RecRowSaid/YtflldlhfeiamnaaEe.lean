/- append of noughts to a row of one's own; contract: the reference's filled, whatever length. -/
import Derived.Test.YtflldlhfeiamnaaEd
namespace Go.Proofs.Ytflldlhfeiamnaa
open Go.ChangeShapes Go.WideShapes Go.ChangeAt Go.RowKit
set_option linter.unusedVariables false
theorem zero_u8 (n : Nat) : (Builtin.zeroCells (Value.int .u8 0).cells n).toList = Bs (List.replicate n 0) := by
  unfold Builtin.zeroCells Bs
  apply List.ext_getElem?
  intro i
  simp [List.getElem?_replicate, Value.cells]
  by_cases h : i < n <;> simp [h, Nat.mod_one]
theorem run_app_noughts (w : World) (ty : TypeId) (base : Nat) (v : Value) (n : Nat) (xs : List Int) (hown : w.ownsRow base 5 1 v n (Bs xs)) (m : Nat) (h0 : 0 < n) (hm0 : 0 < m)
    (h63 : n + m ≤ 1000000) (hbase : base ≤ w.heap.size) :
    ∃ v' w', (Builtin.append_ #[25, 3] ty #[v, .int .i64 m]).run Try.prog w = .ok v' w' ∧ w'.ownsRow base 5 1 v' (n + m) (Bs (xs ++ List.replicate m 0)) ∧ w.grownBy w' v.ownBlock := by
  obtain ⟨i0, hi, hz0, hz1, hz2⟩ := info_parts info5
  have hxl : xs.length = n := by have := hown.1; rw [Bs_length] at this; omega
  have hlen : (Bs (xs ++ List.replicate m 0)).length = (n + m) * 1 := by rw [Bs_length]; simp; omega
  rcases hown.2 with ⟨_, h⟩ | ⟨g, cap, cur, rfl, hbg, hg, hnc, hcm, hcs, htake⟩
  · omega
  have hw : IntKind.i64.wrap (m : Int) = m := by rw [IntKind.wrap_i64]; omega
  have hneg : ¬ ((m : Int) < 0) := by omega
  have h48i : ¬ (281474976710656 < (m : Int)) := by omega
  have hne : ¬ m = 0 := by omega
  by_cases hroom : n + m ≤ cap
  · have hst := run_storeCells_at Try.prog g n 5 (Builtin.zeroCells (Value.int .u8 0).cells m).toList 0 cur w hg (by rw [zero_u8, Bs_length]; simp; omega) (by rw [zero_u8]; exact Bs_one _)
    simp only [Nat.add_zero] at hst
    refine ⟨.slice (some ⟨g, 0, none⟩) (n + m) cap, w.setRow g (cur.toList.take n ++ Bs (List.replicate m 0) ++ cur.toList.drop (n + m)).toArray, ?_, ⟨hlen, .inr ⟨g, cap, _, rfl, hbg, setRow_heap w g cur _ 5 _ hg, hroom, hcm, ?_, ?_⟩⟩, ⟨rfl, rfl, rfl, by simp, fun k _ hk => setRow_other w g k _ (fun e => hk (by simp [Value.ownBlock, e]))⟩⟩
    · have hz8 := zero_u8 m
      have hzl : (Builtin.zeroCells (Value.int .u8 0).cells m).size = m := by rw [← Array.length_toList, hz8, Bs_length]; simp
      simp [Builtin.append_, run_underlying Try.underlying25, run_underlying Try.underlying3, sizeOf, typeInfo, zeroValue, hi, hz0, hz1, hz2, asInt, asIntOf, hw, hneg, h48i, hne, hroom, Addr.add_lit, hst]
      rw [hz8, hzl]
    · simp [Bs_length]; omega
    · have e1 : (List.take n cur.toList) = Bs xs := by rw [Nat.mul_one] at htake; exact htake
      rw [e1, ← Bs_append, ← hlen]
      exact List.take_left
  · have hge := grownCap_ge w (n + m) cap 5
    have hcm2 : grownCap w (n + m) cap 5 ≤ maxLen := grownCap_le_maxLen w (n + m) cap _ (by simp only [maxLen]; omega)
    have hfo := run_firstCells_some (P := Try.prog) w.drew i0.size n ⟨g, 0, none⟩ n cap (Bs xs) (by rw [Bs_length, hz1]; omega) (by simpa using hown.cells (g := g) rfl)
    have h63' : ¬ (9223372036854775807 < ((n : Int) + (m : Int))) := by omega
    have h48' : ¬ (281474976710656 < Builtin.nextslicecap (n + m) cap) := by have := nextslicecap_le (show cap < n + m by omega); omega
    refine ⟨.slice (some ⟨w.heap.size, 0, none⟩) (n + m) (grownCap w (n + m) cap 5), w.drew.alloc (.cells ((Bs xs).toArray ++ (Builtin.zeroCells (Value.int .u8 0).cells m) ++ Builtin.zeroCells (Value.int .u8 0).cells (grownCap w (n + m) cap 5 - (n + m))) 5), ?_, ⟨hlen, .inr ⟨w.heap.size, _, _, rfl, hbase, heap_alloc_new w.drew _, hge, hcm2, ?_, ?_⟩⟩, ⟨rfl, rfl, rfl, by simp, fun k hk _ => heap_alloc_old w.drew _ hk⟩⟩
    · rw [hz1] at hfo
      simp [Builtin.append_, run_underlying Try.underlying25, run_underlying Try.underlying3, sizeOf, typeInfo, zeroValue, hi, hz0, hz1, hz2, asInt, asIntOf, hw, hneg, h48i, hne, hroom, h63', h48', Question.forced, hfo, newRow, grownCap]
    · simp only [Array.size_append, List.size_toArray, size_zeroCells, Bs_length, hxl]
      simp [Value.cells]; omega
    · simp only [Array.toList_append, zero_u8]
      rw [← Bs_append, ← hlen]
      exact List.take_left
theorem wpList_app_noughts (w : World) {ops : Array Oper} {rest : List Oper} {o : Oper} {a : Act} {Q : Exit → Act → World → Prop} (hgd : o.guard = none) (s x : Operand)
    (ho : o.op = .call { callee := .builtin .append, args := #[s, x], argTypes := #[25, 3] })
    (base : Nat) (v : Value) (n : Nat) (xs : List Int) (hs : a.eval s = v) (hown : w.ownsRow base 5 1 v n (Bs xs)) (m : Nat) (hx : a.eval x = .int .i64 m) (h0 : 0 < n)
    (h63 : n + m ≤ 1000000) (hbase : base ≤ w.heap.size)
    (h : ∀ v' w', w'.ownsRow base 5 1 v' (n + m) (Bs (xs ++ List.replicate m 0)) → Below base w w' → wpList Try.prog ops Q rest (a.put o.dst v') w') : wpList Try.prog ops Q (o :: rest) a w := by
  by_cases hm : m = 0
  · subst hm
    rcases hown.2 with ⟨_, h'⟩ | ⟨g, cap, cur, rfl, hbg, hg, hnc, hcm, hcs, htake⟩
    · omega
    exact wpList_app_none w hgd s x ho _ n cap hs hx hnc (h _ _ (by simpa using hown) (Below.refl _ _))
  · refine wpList_plain hgd fun _ hK => ?_
    obtain ⟨v', w', hr, h2, h3⟩ := run_app_noughts w o.type base v n xs hown m h0 (by omega) h63 hbase
    unfold Oper.wp execOp
    simp only [ho, resolve, invoke, builtin, Sem.run_bind, Sem.run_pure, Result.andThen_ok, List.map_toArray, List.map_cons, List.map_nil, hs, hx, hr]
    exact hK _ _ (h v' w' h2 ((Below.refl _ _).grown h3 hbase (fun k hk => (hown.lt k hk).1)))
set_option maxRecDepth 100000 in
set_option maxHeartbeats 1600000 in
theorem rfilled_any (A : Option Addr) (xs : List Int) (n c : Nat) (w : World) (hn : xs.length = n) (h0 : 0 < n) (hl : n ≤ 60) (hB : AllB xs) (hy : Byt w A xs) :
    Calls Try.prog 25 #[.slice A n c] w fun e w' => ∃ v, e = .returned v ∧ w'.ownsRow w.heap.size 5 1 v 64 (Bs (sumd xs)) ∧ Below w.heap.size w w' := by
  have HY := Lib.hid hy
  have HN := Lib.hid hn
  have HB := Lib.hid (fillB_allB hB)
  have HF := Lib.hid (fillB_length (xs := xs) (by omega))
  have HE : Hid (xs ++ List.replicate (60 - n) 0 = fillB xs) := by unfold Hid fillB; rw [hn]
  have HSE : Hid (sumd xs = fillB xs ++ be (sumV (fillB xs)) 4) := Lib.hid rfl
  have hm : (60 : Int) - n = ((60 - n : Nat) : Int) := by omega
  have e60 : n + (60 - n) = 60 := by omega
  have own0 := own_new w w.heap.size 5 0 #[] [] (Nat.le_refl _) rfl (by decide) rfl
  have B0 : Below w.heap.size w (w.alloc (Obj.cells #[] 5)) := (Below.refl _ _).alloc (Nat.le_refl _) _
  clear hy hn hB
  go_enter Try.func25, Try.ntmps25
  go_upto_region 2 with (first
    | (at_builtin
       refine wpList_app_byt _ rfl (.tmp 4) (.tmp 5) rfl w.heap.size _ 0 [] rfl own0 A n c xs rfl (HY.out.alloc _) HN.out (by omega) B0.size ?_
       intro v1 w1 h1 hg1 _
       have B1 : Below w.heap.size w w1 := B0.grown hg1 B0.size (fun j hj => (own0.lt j hj).1)
       have own1 : w1.ownsRow w.heap.size 5 1 v1 n (Bs xs) := by rw [Nat.zero_add] at h1; exact h1
       clear h1 hg1 own0 B0)
    | (at_builtin
       refine wpList_app_noughts _ rfl (.tmp 6) (.tmp 9) rfl w.heap.size v1 n xs rfl own1 (60 - n) (by rw [← hm]; rfl) h0 (by omega) B1.size ?_
       intro v2 w2 h2 hg2
       have B2 : Below w.heap.size w w2 := B1.trans hg2
       have own2 : w2.ownsRow w.heap.size 5 1 v2 60 (Bs (fillB xs)) := by rw [e60, HE.out] at h2; exact h2
       obtain ⟨A1, d1, rfl, hle1, hd1, hy1⟩ := byt_own own2 HF.out
       rw [HF.out] at own2 hle1 ⊢
       have HY1 := Lib.hid hy1
       have HO2 := Lib.hid own2
       clear h2 hg2 own1 B1 hy1 own2))
  go_wp2_with fail
  refine (rsum_any A1 (fillB xs) 60 d1 w2 HF.out (by omega) HB.out HY1.out).mono ?_
  rintro e w3 ⟨rfl, rfl⟩
  have hsv := sumV_lt (fillB xs)
  generalize sumV (fillB xs) = sv at *
  have hwn : IntKind.u64.wrap (sv : Int) = sv := IntWalk.u64_in _ (by omega)
  go_wp2_with fail
  refine (high1_any sv 4 w2 (by omega) (by omega)).mono ?_
  rintro e w3 ⟨v2, rfl, own3, hb3⟩
  obtain ⟨A2, d2, rfl, hle2, hd2, hy2⟩ := byt_own own3 (be_length sv 4)
  rw [be_length] at own3 ⊢
  have HY2 := Lib.hid hy2
  have own1' := ownB HO2.out hb3
  clear hy2
  go_wp2_with (first
    | (at_builtin
       refine wpList_app_byt _ rfl (.tmp 11) (.tmp 15) rfl w.heap.size _ 60 (fillB xs) rfl own1' A2 4 d2 (be sv 4) rfl HY2.out (be_length _ _) (by omega) (keepB B2 hb3).size ?_
       intro v3 w4 h3 hg3 _
       have B3 : Below w.heap.size w w4 := (keepB B2 hb3).grown hg3 (keepB B2 hb3).size (fun j hj => (own1'.lt j hj).1)
       have H3 := Lib.hid h3
       clear h3 hg3))
  go_ret
  exact ⟨v3, rfl, by rw [HSE.out]; exact H3.out, B3⟩
end Go.Proofs.Ytflldlhfeiamnaa
