/- Contracts: the reference's Seal. -/
import Derived.Test.YtflldlhfeiamnaaBb
import Derived.Test.YtflldlhfeiamnaaS2
import Derived.Test.YtflldlhfeiamnaaRg
import Derived.Deep.DeepCutAuto
namespace Go.Proofs.Ytflldlhfeiamnaa
open Go.ChangeShapes Go.WideShapes Go.ChangeAt Go.RowKit
set_option linter.unusedVariables false
/-- Bytes that are a block's first cells. -/
theorem blk_row {W : World} {g : Nat} {C : Array Value} {t : TypeId} {fr : Nat × Nat} {xs : List Int} (h : W.heap[g]? = some (.cells C t fr)) (hc : C.toList = Bs xs) : ∀ j u, (Bs xs)[j]? = some u → W.cell? ((⟨g, 0, none⟩ : Addr).add j) = some u := by
  intro j u hj
  rw [add_at, cell_of_row _ _ _ _ _ _ h, ← Array.getElem?_toList, hc]; exact hj
/-- append to a slice that is full: its array stays as it is. -/
theorem run_app_full (w : World) (ty : TypeId) (g n : Nat) (xs : List Int) (hx : ∀ j u, (Bs xs)[j]? = some u → w.cell? ((⟨g, 0, none⟩ : Addr).add j) = some u) (hn : xs.length = n) (A : Option Addr) (m c : Nat) (ys : List Int) (hy : Byt w A ys) (hm : ys.length = m)
    (h0 : 0 < m) (h63 : n + m ≤ 1000000) :
    ∃ v' w', (Builtin.append_ #[25, 25] ty #[.slice (some ⟨g, 0, none⟩) n n, .slice A m c]).run Try.prog w = .ok v' w' ∧ (∀ base, base ≤ w.heap.size → w'.ownsRow base 5 1 v' (n + m) (Bs (xs ++ ys))) ∧ w.grownBy w' none := by
  obtain ⟨i0, hi, hz0, hz1, hz2⟩ := info_parts info5
  have hA : ∃ a, A = some a := by
    cases ys with
    | nil => simp at hm; omega
    | cons y l => obtain ⟨a, e, _⟩ := hy 0 y rfl; exact ⟨a, e⟩
  obtain ⟨a, rfl⟩ := hA
  have hnews : ∀ j u, (Bs ys)[j]? = some u → w.cell? (a.add j) = some u := fun j u hj => by
    unfold Bs at hj
    rw [List.getElem?_map] at hj
    obtain ⟨x, hx, rfl⟩ := Option.map_eq_some_iff.1 hj
    obtain ⟨a', e, hc⟩ := hy j x hx
    injection e with e; subst e; exact hc
  have hge := grownCap_ge w (n + m) n 5
  have hcm : grownCap w (n + m) n 5 ≤ maxLen := grownCap_le_maxLen w (n + m) n _ (by simp only [maxLen]; omega)
  have hr := run_append_grow (P := Try.prog) w 25 ty 5 i0 (.int .u8 0) Try.underlying25 hi hz0 ⟨g, 0, none⟩ n n (Bs xs) (by rw [Bs_length, hz1]; omega) hx a m c (Bs ys) (by rw [Bs_length, hz1]; omega) hnews (by omega) (by omega)
    (by rw [hz2]; have := nextslicecap_le (show n < n + m by omega); omega)
  have hlen : (Bs (xs ++ ys)).length = (n + m) * 1 := by rw [Bs_length, List.length_append]; omega
  refine ⟨_, _, hr, fun base hb => ⟨hlen, .inr ⟨w.heap.size, _, _, rfl, hb, heap_alloc_new w.drew _, hge, hcm, ?_, ?_⟩⟩, ⟨rfl, rfl, rfl, by simp, fun k hk _ => heap_alloc_old w.drew _ hk⟩⟩
  · simp only [Array.size_append, List.size_toArray, size_zeroCells, Bs_length, hn, hm]
    show n + m + (_ - (n + m)) * 1 = _ * 1
    omega
  · simp only [Array.toList_append, List.append_assoc]
    rw [← List.append_assoc, ← hlen, Bs_append]
    exact List.take_left
theorem wp_app_full (w : World) {o : Oper} {a : Act} {K : Act → World → Prop} {Q : Exit → Act → World → Prop} (s x : Operand)
    (ho : o.op = .call { callee := .builtin .append, args := #[s, x], argTypes := #[25, 25] })
    (g n : Nat) (xs : List Int) (hs : a.eval s = .slice (some ⟨g, 0, none⟩) n n) (hx : ∀ j u, (Bs xs)[j]? = some u → w.cell? ((⟨g, 0, none⟩ : Addr).add j) = some u) (hn : xs.length = n) (A : Option Addr) (m c : Nat) (ys : List Int) (hv : a.eval x = .slice A m c) (hy : Byt w A ys) (hm : ys.length = m)
    (h0 : 0 < m) (h63 : n + m ≤ 1000000)
    (h : ∀ v' w', (∀ base, base ≤ w.heap.size → w'.ownsRow base 5 1 v' (n + m) (Bs (xs ++ ys))) → w.grownBy w' none → K (a.put o.dst v') w') : o.wp Try.prog a w K Q := by
  obtain ⟨v', w', hr, h2, h3⟩ := run_app_full w o.type g n xs hx hn A m c ys hy hm h0 h63
  unfold Oper.wp execOp
  simp only [ho, resolve, invoke, builtin, Sem.run_bind, Sem.run_pure, Result.andThen_ok, List.map_toArray, List.map_cons, List.map_nil, hs, hv, hr]
  exact h v' w' h2 h3
def VS3 (p B n : Nat) (k l : Int) (i : Nat) (v : Value) (w : World) : Prop :=
  match i with
  | 0 => v = .pointer (some ⟨p, 0, none⟩)
  | 1 => v = .int .i64 k
  | 2 => v = .int .u8 k
  | 3 => v = .int .u8 l
  | 5 => v = .int .i64 n
  | 6 => v = .int .u64 n
  | 4 => ∃ g, v = .slice (some ⟨g, 0, none⟩) 2 2 ∧ w.heap[g]? = some (.cells #[.int .u8 k, .int .u8 l] 5 (0, 0))
  | 7 => w.ownsRow B 5 1 v 2 (Bs (be n 2))
  | 8 => w.ownsRow B 5 1 v 4 (Bs ([k, l] ++ be n 2))
  | _ => True
theorem VS3.on {p B n : Nat} {k l : Int} {j : Nat} {v : Value} {w w' : World} (h : VS3 p B n k l j v w) (hg : w.grownBy w' none) : VS3 p B n k l j v w' := by
  unfold VS3 at *
  split <;> try exact h
  · obtain ⟨g, e, h1⟩ := h
    exact ⟨g, e, by rw [hg.block g (room_lt h1) (by simp)]; exact h1⟩
  · exact World.ownsRow.kept (row := none) h hg (by cases v.ownBlock <;> simp)
  · exact World.ownsRow.kept (row := none) h hg (by cases v.ownBlock <;> simp)
  · trivial
/-- append of no noughts. -/
theorem run_app_none (w : World) (ty : TypeId) (A : Option Addr) (n c : Nat) (hc : n ≤ c) :
    (Builtin.append_ #[25, 3] ty #[.slice A n c, .int .i64 0]).run Try.prog w = .ok (.slice A n c) w := by
  obtain ⟨i0, hi, hz0, hz1, hz2⟩ := info_parts info5
  have hw : IntKind.i64.wrap 0 = 0 := rfl
  rcases A with _ | a
  · simp [Builtin.append_, run_underlying Try.underlying25, run_underlying Try.underlying3, sizeOf, typeInfo, hi, asInt, asIntOf, hw, hc]
  · simp [Builtin.append_, run_underlying Try.underlying25, run_underlying Try.underlying3, sizeOf, typeInfo, hi, asInt, asIntOf, hw, hc, storeCells]
theorem wpList_app_none (w : World) {ops : Array Oper} {rest : List Oper} {o : Oper} {a : Act} {Q : Exit → Act → World → Prop} (hgd : o.guard = none) (s x : Operand)
    (ho : o.op = .call { callee := .builtin .append, args := #[s, x], argTypes := #[25, 3] })
    (A : Option Addr) (n c : Nat) (hs : a.eval s = .slice A n c) (hx : a.eval x = .int .i64 0) (hc : n ≤ c)
    (h : wpList Try.prog ops Q rest (a.put o.dst (.slice A n c)) w) : wpList Try.prog ops Q (o :: rest) a w :=
  wpList_plain hgd fun _ hK => by
    unfold Oper.wp execOp
    simp only [ho, resolve, invoke, builtin, Sem.run_bind, Sem.run_pure, Result.andThen_ok, List.map_toArray, List.map_cons, List.map_nil, hs, hx, run_app_none w o.type A n c hc]
    exact hK _ _ h
set_option maxRecDepth 100000 in
set_option maxHeartbeats 1600000 in
theorem filled_any (A : Option Addr) (xs : List Int) (c : Nat) (w : World) (hn : xs.length = 60) (hB : AllB xs) (hy : Byt w A xs) :
    Calls Try.prog 25 #[.slice A 60 c] w fun e w' => ∃ v, e = .returned v ∧ w'.ownsRow w.heap.size 5 1 v 64 (Bs (xs ++ be (sumV xs) 4)) ∧ Below w.heap.size w w' := by
  have HY := Lib.hid hy
  have HN := Lib.hid hn
  have HB := Lib.hid hB
  have own0 := own_new w w.heap.size 5 0 #[] [] (Nat.le_refl _) rfl (by decide) rfl
  have B0 : Below w.heap.size w (w.alloc (Obj.cells #[] 5)) := (Below.refl _ _).alloc (Nat.le_refl _) _
  clear hy hn hB
  go_enter Try.func25, Try.ntmps25
  go_wp2_with (first
    | (at_builtin
       refine wpList_app_byt _ rfl (.tmp 4) (.tmp 5) rfl w.heap.size _ 0 [] rfl own0 A 60 c xs rfl (HY.out.alloc _) HN.out (by omega) B0.size ?_
       intro v1 w1 h1 hg1 _
       have B1 : Below w.heap.size w w1 := B0.grown hg1 B0.size (fun j hj => (own0.lt j hj).1)
       have own1 : w1.ownsRow w.heap.size 5 1 v1 60 (Bs xs) := h1
       obtain ⟨A1, d1, rfl, hle1, hd1, hy1⟩ := byt_own own1 HN.out
       rw [HN.out]
       rw [HN.out] at own1 hle1
       have HY1 := Lib.hid hy1
       clear h1 hg1 own0 B0 hy1)
    | (at_builtin
       refine wpList_app_none _ rfl (.tmp 6) (.tmp 9) rfl A1 60 d1 rfl rfl hle1 ?_))
  refine (rsum_any A1 xs 60 d1 w1 HN.out (by omega) HB.out HY1.out).mono ?_
  rintro e w2 ⟨rfl, rfl⟩
  have hsv := sumV_lt xs
  generalize hq : sumV xs = sv at *
  have HQ := Lib.hid hq
  clear hq
  have hwn : IntKind.u64.wrap (sv : Int) = sv := IntWalk.u64_in _ (by omega)
  go_wp2_with fail
  refine (high1_any sv 4 w1 (by omega) (by omega)).mono ?_
  rintro e w2 ⟨v2, rfl, own2, hb2⟩
  obtain ⟨A2, d2, rfl, hle2, hd2, hy2⟩ := byt_own own2 (be_length sv 4)
  rw [be_length] at own2 ⊢
  have HY2 := Lib.hid hy2
  have own1' := ownB own1 hb2
  clear hy2
  go_wp2_with (first
    | (at_builtin
       refine wpList_app_byt _ rfl (.tmp 11) (.tmp 15) rfl w.heap.size _ 60 xs rfl own1' A2 4 d2 (be sv 4) rfl HY2.out (be_length _ _) (by omega) (keepB B1 hb2).size ?_
       intro v3 w3 h3 hg3 _
       have B3 : Below w.heap.size w w3 := (keepB B1 hb2).grown hg3 (keepB B1 hb2).size (fun j hj => (own1'.lt j hj).1)
       have H3 := Lib.hid h3
       clear h3 hg3))
  go_ret
  exact ⟨v3, rfl, by rw [HQ.out]; exact H3.out, B3⟩
end Go.Proofs.Ytflldlhfeiamnaa
