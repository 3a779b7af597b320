/- append of bytes keeps all rows that are no longer; as a step of a region that draws its order. -/
import Derived.Test.YtflldlhfeiamnaaEk
import Derived.Test.YtflldlhfeiamnaaRk
namespace Go.Proofs.Ytflldlhfeiamnaa
open Go.ChangeShapes Go.WideShapes Go.ChangeAt Go.RowKit
set_option linter.unusedVariables false
/-- Rows of up to c bytes read as they did. -/
def PresR (base c : Nat) (w w' : World) : Prop := ∀ v n xs, n ≤ c → w.ownsRow base 5 1 v n xs → w'.ownsRow base 5 1 v n xs
theorem PresR.refl (base c : Nat) (w : World) : PresR base c w w := fun v n xs _ h => h
theorem PresR.below {base c : Nat} {w w' : World} (h : Below w.heap.size w w') : PresR base c w w' := fun v n xs _ h1 => ownB h1 h
theorem PresR.mono {base c c' : Nat} {w w' : World} (h : PresR base c w w') (hc : c' ≤ c) : PresR base c' w w' := fun v n xs hn h1 => h v n xs (Nat.le_trans hn hc) h1
theorem run_app_pres (w : World) (ty : TypeId) (base : Nat) (v : Value) (n : Nat) (xs : List Int) (hown : w.ownsRow base 5 1 v n (Bs xs)) (A : Option Addr) (m c : Nat) (ys : List Int) (hy : Byt w A ys) (hm : ys.length = m)
    (h0 : 0 < m) (h63 : n + m ≤ 1000000) (hbase : base ≤ w.heap.size) :
    ∃ v' w', (Builtin.append_ #[25, 25] ty #[v, .slice A m c]).run Try.prog w = .ok v' w' ∧ w'.ownsRow base 5 1 v' (n + m) (Bs (xs ++ ys)) ∧ w.grownBy w' v.ownBlock ∧ PresR base n w w' := by
  obtain ⟨i0, hi, hz0, hz1, hz2⟩ := info_parts info5
  have hA : ∃ a, A = some a := by
    cases ys with
    | nil => simp at hm; omega
    | cons y l => obtain ⟨a, e, _⟩ := hy 0 y rfl; exact ⟨a, e⟩
  obtain ⟨a, rfl⟩ := hA
  obtain ⟨v', w', hr, h2, h3, h4, h5⟩ := run_append_own_at (P := Try.prog) w base 25 ty 5 i0 (.int .u8 0) 1 1 Try.underlying25 hi hz0 hz1 hz2 rfl (by decide) v n _ hown a m c (Bs ys) (by rw [Bs_length]; omega) (byt_cells hy) (Bs_one _) (by simp only [maxLen]; omega) (by omega) hbase
  refine ⟨v', w', hr, by rw [Bs_append]; exact h2, h3, fun v1 n1 xs1 hle h1 => ?_⟩
  rcases h1.2 with ⟨rfl, rfl⟩ | ⟨g1, cap1, cur1, rfl, hb1, hg1, hnc1, hcm1, hcs1, ht1⟩
  · exact ⟨h1.1, Or.inl ⟨rfl, rfl⟩⟩
  by_cases hne : v.ownBlock = some g1
  · rcases hown.2 with ⟨rfl, _⟩ | ⟨g, cap, cur, rfl, hb, hg, hnc, hcm, hcs, htake⟩
    · cases hne
    have eg : g = g1 := by simpa [Value.ownBlock] using hne
    subst eg
    rw [hg] at hg1
    injection hg1 with hg1
    injection hg1 with ec _ _
    subst ec
    have ecap : cap1 = cap := by omega
    subst ecap
    by_cases hroom : n + m ≤ cap1
    · obtain ⟨w2, hr2, ho2, hg2⟩ := run_append_fits (P := Try.prog) w base 25 ty 5 i0 1 Try.underlying25 hi hz1 g n cap1 (Bs xs) hown a m c (Bs ys) (by rw [Bs_length]; omega) (byt_cells hy) (Bs_one _) hroom
      rw [hr] at hr2
      injection hr2 with e1 e2
      subst e2
      rcases ho2.2 with ⟨h', _⟩ | ⟨g', cap', cur', h', _, hg', _, _, hcs', ht'⟩
      · cases h'
      · injection h' with q1 q2 q3
        injection q1 with q1; injection q1 with q1
        subst q1; subst q3
        refine ⟨h1.1, Or.inr ⟨g, cap1, cur', rfl, hb1, hg', hnc1, hcm1, hcs', ?_⟩⟩
        have h8 := congrArg (List.take n1) ht'
        rw [List.take_take, show min n1 ((n + m) * 1) = n1 * 1 by omega] at h8
        rw [h8, List.take_append_of_le_length (by rw [hown.1]; omega), ← htake, List.take_take, show min n1 (n * 1) = n1 * 1 by omega]
        exact ht1
    · have hr2 := run_append_grow (P := Try.prog) w 25 ty 5 i0 (.int .u8 0) Try.underlying25 hi hz0 ⟨g, 0, none⟩ n cap1 (Bs xs) (by rw [hz1]; exact hown.1) (hown.cells (g := g) rfl) a m c (Bs ys) (by rw [Bs_length, hz1]; omega) (byt_cells hy) (by omega) (by omega) (by rw [hz2]; have := nextslicecap_le (show cap1 < n + m by omega); omega)
      rw [hr] at hr2
      injection hr2 with e1 e2
      subst e2
      refine ⟨h1.1, Or.inr ⟨g, cap1, cur, rfl, hb1, ?_, hnc1, hcm1, hcs1, ht1⟩⟩
      exact (Below.heap_alloc w.drew _ g (room_lt hg)).trans hg
  · exact h1.kept h3 (Or.inr fun e => hne e.symm)
theorem wp_app_pres (w : World) {o : Oper} {a : Act} {K : Act → World → Prop} {Q : Exit → Act → World → Prop} (s x : Operand)
    (ho : o.op = .call { callee := .builtin .append, args := #[s, x], argTypes := #[25, 25] })
    (base : Nat) (v : Value) (n : Nat) (xs : List Int) (hs : a.eval s = v) (hown : w.ownsRow base 5 1 v n (Bs xs)) (A : Option Addr) (m c : Nat) (ys : List Int) (hx : a.eval x = .slice A m c) (hy : Byt w A ys) (hm : ys.length = m)
    (h0 : 0 < m) (h63 : n + m ≤ 1000000) (hbase : base ≤ w.heap.size)
    (h : ∀ v' w', w'.ownsRow base 5 1 v' (n + m) (Bs (xs ++ ys)) → Below base w w' → PresR base n w w' → K (a.put o.dst v') w') : o.wp Try.prog a w K Q := by
  obtain ⟨v', w', hr, h2, h3, h4⟩ := run_app_pres w o.type base v n xs hown A m c ys hy hm h0 h63 hbase
  unfold Oper.wp execOp
  simp only [ho, resolve, invoke, builtin, Sem.run_bind, Sem.run_pure, Result.andThen_ok, List.map_toArray, List.map_cons, List.map_nil, hs, hx, hr]
  exact h v' w' h2 (grown_below h3 hbase (fun k hk => (hown.lt k hk).1)) h4
/-- What a region keeps that appends to the row hv. -/
structure JPR (base : Nat) (w : World) (hv : Value) (c : Nat) (xs : List Int) (W : World) : Prop where
  bel : Below base w W
  row : W.ownsRow base 5 1 hv c (Bs xs)
def VPR (base : Nat) (ad : Addr) (n d k m : Nat) (kk : Int) (hv : Value) (c : Nat) (xs : List Int) (i : Nat) (v : Value) (w : World) : Prop :=
  match i with
  | 0 => v = hv
  | 1 | 9 => v = .slice (some ad) n d
  | 2 | 10 => v = .int .i64 k
  | 3 | 4 | 11 => v = .pointer (some (ad.add (k * 58)))
  | 5 => v = .int .i64 m
  | 6 => v = .int .u64 m
  | 12 | 13 => v = .pointer (some ⟨(ad.add (k * 58)).block, (ad.add (k * 58)).off + 1, none⟩)
  | 14 => v = .int .i64 kk
  | 15 => v = .int .u8 kk
  | 7 => w.ownsRow base 5 1 v 2 (Bs (be m 2))
  | 8 => w.ownsRow base 5 1 v (c + 2) (Bs (xs ++ be m 2))
  | 16 => w.ownsRow base 5 1 v 1 (Bs [kk])
  | 17 => w.ownsRow base 5 1 v (c + 2 + 1) (Bs ((xs ++ be m 2) ++ [kk]))
  | _ => True
def SPR (base c i : Nat) (w w' : World) : Prop := PresR base (if i = 8 then c else if i = 17 then c + 2 else c + 3) w w'
theorem VPR.on {base : Nat} {ad : Addr} {n d k m : Nat} {kk : Int} {hv : Value} {c : Nat} {xs : List Int} {i j : Nat} {v : Value} {w w' : World} (hc : 2 ≤ c) (hij : i ≠ j) (h817 : ¬ (i = 8 ∧ j = 17)) (h : VPR base ad n d k m kk hv c xs j v w) (hs : SPR base c i w w') : VPR base ad n d k m kk hv c xs j v w' := by
  unfold SPR at hs
  unfold VPR at *
  split <;> try exact h
  · exact hs _ _ _ (by split <;> (try split) <;> omega) h
  · exact hs _ _ _ (by rw [if_neg hij]; split <;> omega) h
  · exact hs _ _ _ (by split <;> (try split) <;> omega) h
  · exact hs _ _ _ (by rw [if_neg (fun e => h817 ⟨e, rfl⟩), if_neg hij]; omega) h
  · trivial
end Go.Proofs.Ytflldlhfeiamnaa
