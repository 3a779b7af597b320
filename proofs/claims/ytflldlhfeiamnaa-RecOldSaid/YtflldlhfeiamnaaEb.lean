/- Contracts: rec.number, rec.numberOf, rec.summed; the reference's Num, filled. -/
import Derived.Test.YtflldlhfeiamnaaEa
namespace Go.Proofs.Ytflldlhfeiamnaa
open Go.ChangeShapes Go.WideShapes Go.ChangeAt Go.RowKit
set_option linter.unusedVariables false
/-- Where what was appended to lies: in the row R, or in a new block. -/
def Near (w : World) (R : Option Nat) (v : Value) : Prop := v.ownBlock = R ∨ ∀ k, v.ownBlock = some k → w.heap.size ≤ k
theorem Near.step {w W : World} {R : Option Nat} {v v' : Value} (h : Near w R v) (hw : w.heap.size ≤ W.heap.size) (h' : Near W v.ownBlock v') : Near w R v' := by
  rcases h' with e | e
  · rcases h with h | h
    · exact Or.inl (e.trans h)
    · exact Or.inr fun k hk => h k (by rw [← e]; exact hk)
  · exact Or.inr fun k hk => Nat.le_trans hw (e k hk)
theorem grown_step {w W W' : World} {R : Option Nat} {v : Value} (h : w.grownBy W R) (hv : Near w R v) (h' : W.grownBy W' v.ownBlock) : w.grownBy W' R :=
  ⟨h'.os.trans h.os, h'.tape.trans h.tape, h'.output.trans h.output, Nat.le_trans h.size h'.size, fun k hk hr =>
    (h'.block k (Nat.lt_of_lt_of_le hk h.size) (fun e => by
      rcases hv with hv | hv
      · exact hr (by rw [e, hv])
      · have := hv k e.symm; omega)).trans (h.block k hk hr)⟩
theorem grown_below {w w' : World} {R : Option Nat} {base : Nat} (h : w.grownBy w' R) (hb : base ≤ w.heap.size) (hR : ∀ k, R = some k → base ≤ k) : Below base w w' := (Below.refl _ _).grown h hb hR
theorem grown_alloc {w W : World} {R : Option Nat} (h : w.grownBy W R) (o : Obj) : w.grownBy (W.alloc o) R := h.trans (World.grownBy_alloc W o R)
theorem Near.at_alloc {W : World} {R : Option Nat} {v : Value} {o : Obj} (h : Near (W.alloc o) R v) : Near W R v := h.imp id fun h k hk => by have := h k hk; rw [size_alloc'] at this; omega
/-- Bytes that may be appended to: a row of one's own (it may be turned: R), or a slice that is full (R: none). -/
def App (w : World) (base : Nat) (v : Value) (n : Nat) (xs : List Int) (R : Option Nat) : Prop :=
  (w.ownsRow base 5 1 v n (Bs xs) ∧ R = v.ownBlock) ∨ (R = none ∧ ∃ g o, v = .slice (some ⟨g, o, none⟩) n n ∧ xs.length = n ∧ Byt w (some ⟨g, o, none⟩) xs)
theorem App.alloc {w : World} {base : Nat} {v : Value} {n : Nat} {xs : List Int} {R : Option Nat} (h : App w base v n xs R) (o : Obj) : App (w.alloc o) base v n xs R := by
  rcases h with ⟨h, hR⟩ | ⟨hR, g, o', e, h1, h2⟩
  · exact Or.inl ⟨h.alloc o, hR⟩
  · exact Or.inr ⟨hR, g, o', e, h1, h2.alloc o⟩
theorem byt_cells {w : World} {a : Addr} {xs : List Int} (h : Byt w (some a) xs) : ∀ j u, (Bs xs)[j]? = some u → w.cell? (a.add j) = some u := fun j u hj => by
  unfold Bs at hj
  rw [List.getElem?_map] at hj
  obtain ⟨x, hx, rfl⟩ := Option.map_eq_some_iff.1 hj
  obtain ⟨a', e, hc⟩ := h j x hx
  injection e with e; subst e; exact hc
/-- append to a slice that is full, wherever it lies. -/
theorem run_app_fullA (w : World) (ty : TypeId) (ga : Addr) (n : Nat) (xs : List Int) (hx : Byt w (some ga) xs) (hn : xs.length = n) (A : Option Addr) (m c : Nat) (ys : List Int) (hy : Byt w A ys) (hm : ys.length = m)
    (h0 : 0 < m) (h63 : n + m ≤ 1000000) :
    ∃ v' w', (Builtin.append_ #[25, 25] ty #[.slice (some ga) n n, .slice A m c]).run Try.prog w = .ok v' w' ∧ (∀ base, base ≤ w.heap.size → w'.ownsRow base 5 1 v' (n + m) (Bs (xs ++ ys))) ∧ w.grownBy w' none := by
  obtain ⟨i0, hi, hz0, hz1, hz2⟩ := info_parts info5
  have hA : ∃ a, A = some a := by
    cases ys with
    | nil => simp at hm; omega
    | cons y l => obtain ⟨a, e, _⟩ := hy 0 y rfl; exact ⟨a, e⟩
  obtain ⟨a, rfl⟩ := hA
  have hge := grownCap_ge w (n + m) n 5
  have hcm : grownCap w (n + m) n 5 ≤ maxLen := grownCap_le_maxLen w (n + m) n _ (by simp only [maxLen]; omega)
  have hr := run_append_grow (P := Try.prog) w 25 ty 5 i0 (.int .u8 0) Try.underlying25 hi hz0 ga n n (Bs xs) (by rw [Bs_length, hz1]; omega) (byt_cells hx) a m c (Bs ys) (by rw [Bs_length, hz1]; omega) (byt_cells hy) (by omega) (by omega)
    (by rw [hz2]; have := nextslicecap_le (show n < n + m by omega); omega)
  have hlen : (Bs (xs ++ ys)).length = (n + m) * 1 := by rw [Bs_length, List.length_append]; omega
  refine ⟨_, _, hr, fun base hb => ⟨hlen, .inr ⟨w.heap.size, _, _, rfl, hb, heap_alloc_new w.drew _, hge, hcm, ?_, ?_⟩⟩, ⟨rfl, rfl, rfl, by simp, fun k hk _ => heap_alloc_old w.drew _ hk⟩⟩
  · simp only [Array.size_append, List.size_toArray, size_zeroCells, Bs_length, hn, hm]
    show n + m + (_ - (n + m)) * 1 = _ * 1
    omega
  · simp only [Array.toList_append, List.append_assoc]
    rw [← List.append_assoc, ← hlen, Bs_append]
    exact List.take_left
theorem run_app_any (w : World) (ty : TypeId) (base : Nat) (v : Value) (n : Nat) (xs : List Int) (R : Option Nat) (happ : App w base v n xs R) (A : Option Addr) (m c : Nat) (ys : List Int) (hy : Byt w A ys) (hm : ys.length = m)
    (h0 : 0 < m) (h63 : n + m ≤ 1000000) (hbase : base ≤ w.heap.size) :
    ∃ v' w', (Builtin.append_ #[25, 25] ty #[v, .slice A m c]).run Try.prog w = .ok v' w' ∧ w'.ownsRow base 5 1 v' (n + m) (Bs (xs ++ ys)) ∧ w.grownBy w' R ∧ Near w R v' := by
  rcases happ with ⟨hown, hR⟩ | ⟨hR, g, o', rfl, hn, hxs⟩
  · obtain ⟨v', w', hr, h2, h3, h4⟩ := run_app_byt w ty base v n xs hown A m c ys hy hm h63 hbase
    refine ⟨v', w', hr, h2, by rw [hR]; exact h3, ?_⟩
    rcases h4 with h4 | h4
    · exact Or.inl (by rw [hR]; exact h4)
    · exact Or.inr fun k hk => by rw [h4] at hk; injection hk with hk; omega
  · obtain ⟨v', w', hr, h2, h3⟩ := run_app_fullA w ty _ n xs hxs hn A m c ys hy hm h0 h63
    refine ⟨v', w', hr, h2 base hbase, by rw [hR]; exact h3, ?_⟩
    exact Or.inr fun k hk => ((h2 w.heap.size (Nat.le_refl _)).lt k hk).1
theorem wpList_app_any (w : World) {ops : Array Oper} {rest : List Oper} {o : Oper} {a : Act} {Q : Exit → Act → World → Prop} (hgd : o.guard = none) (s x : Operand)
    (ho : o.op = .call { callee := .builtin .append, args := #[s, x], argTypes := #[25, 25] })
    (base : Nat) (v : Value) (n : Nat) (xs : List Int) (R : Option Nat) (hs : a.eval s = v) (happ : App w base v n xs R) (A : Option Addr) (m c : Nat) (ys : List Int) (hx : a.eval x = .slice A m c) (hy : Byt w A ys) (hm : ys.length = m)
    (h0 : 0 < m) (h63 : n + m ≤ 1000000) (hbase : base ≤ w.heap.size)
    (h : ∀ v' w', w'.ownsRow base 5 1 v' (n + m) (Bs (xs ++ ys)) → w.grownBy w' R → Near w R v' → wpList Try.prog ops Q rest (a.put o.dst v') w') : wpList Try.prog ops Q (o :: rest) a w := by
  refine wpList_plain hgd fun _ hK => ?_
  obtain ⟨v', w', hr, h2, h3, h4⟩ := run_app_any w o.type base v n xs R happ A m c ys hy hm h0 h63 hbase
  unfold Oper.wp execOp
  simp only [ho, resolve, invoke, builtin, Sem.run_bind, Sem.run_pure, Result.andThen_ok, List.map_toArray, List.map_cons, List.map_nil, hs, hx, hr]
  exact hK _ _ (h v' w' h2 h3 h4)
set_option maxRecDepth 100000 in
set_option maxHeartbeats 1600000 in
theorem num_app (w : World) (base : Nat) (v : Value) (m : Nat) (xs : List Int) (R : Option Nat) (n s : Nat) (hown : App w base v m xs R) (hbase : base ≤ w.heap.size) (hm : m ≤ 900000) (hs : s ≤ 4) (hs0 : 0 < s) (hn : n < 4294967296) :
    Calls Try.prog 32 #[v, .int .u32 n, .int .i64 s] w fun e w' => ∃ v', e = .returned v' ∧ w'.ownsRow base 5 1 v' (m + s) (Bs (xs ++ be n s)) ∧ w.grownBy w' R ∧ Near w R v' := by
  have HO := Lib.hid hown
  clear hown
  go_enter Try.func32, Try.ntmps32
  go_wp2
  refine wp_scope1e (fun a' w' => ∃ (k : Nat) (v1 : Value) (ys : List Int) (R1 : Option Nat), k ≤ s ∧ Hid (App w' base v1 (m + (s - k)) (xs ++ ys) R1 ∧ (k < s → w'.ownsRow base 5 1 v1 (m + (s - k)) (Bs (xs ++ ys)) ∧ R1 = v1.ownBlock ∧ Near w R v1) ∧ (k = s → R1 = R) ∧ ys ++ be n k = be n s ∧ w.grownBy w' R) ∧ ∃ u7 u8 u9 u10 u11 u12 u13 u14 u15 u16 u17 u18 u19 : Value, a' = { tmps := #[v1, .int .u32 n, .int .i64 k, undef, undef, undef, .slice none 0 0, u7, u8, u9, u10, u11, u12, u13, u14, u15, u16, u17, u18, u19], defers := [] })
    (fun a' _ => (intOf (a'.tmps.getD 2 undef)).toNat) rfl ?_ ?_
  · intro HF
    go_wp2
    go_step3
    rename_i hK
    exact hK _ _ (HF _ _ ⟨s, v, [], R, Nat.le_refl _, ⟨by simpa using HO.out, fun h => absurd h (Nat.lt_irrefl _), fun _ => rfl, rfl, World.grownBy.refl _ _⟩, _, _, _, _, _, _, _, _, _, _, _, _, _, rfl⟩)
  · rintro a' W ⟨k, v1, ys, R1, hk, HH, u7, u8, u9, u10, u11, u12, u13, u14, u15, u16, u17, u18, u19, rfl⟩
    by_cases hk0 : k = 0
    · subst hk0
      go_wp2
      simp only [Exit.jump]
      go_ret
      obtain ⟨_, h1, _, h2, h3⟩ := HH.out
      obtain ⟨h1, _, h4⟩ := h1 hs0
      exact ⟨_, rfl, by rw [← h2]; simpa [be] using h1, h3, h4⟩
    · obtain ⟨j, rfl⟩ : ∃ j, k = j + 1 := ⟨k - 1, by omega⟩
      have hq : (((j + 1 : Nat) : Int) == 0) = false := by simp; omega
      have hj : j < 4 := by omega
      have hsz : base ≤ W.heap.size := Nat.le_trans hbase HH.out.2.2.2.2.size
      have hstep : ∀ x : Int, x = ((n / 256 ^ j % 256 : Nat) : Int) → ∀ (W' : World) (v' : Value), W'.ownsRow base 5 1 v' (m + (s - (j + 1)) + 1) (Bs ((xs ++ ys) ++ [x])) → W.grownBy W' R1 → Near W R1 v' → ∀ R2, R2 = v'.ownBlock → App W' base v' (m + (s - j)) (xs ++ (ys ++ [x])) R2 ∧ (j < s → W'.ownsRow base 5 1 v' (m + (s - j)) (Bs (xs ++ (ys ++ [x]))) ∧ R2 = v'.ownBlock ∧ Near w R v') ∧ (j = s → R2 = R) ∧ (ys ++ [x]) ++ be n j = be n s ∧ w.grownBy W' R := by
        intro x hx W' v' h1 h2 h4 R2 hR2
        have h3 : W'.ownsRow base 5 1 v' (m + (s - j)) (Bs (xs ++ (ys ++ [x]))) := by
          rw [show m + (s - j) = m + (s - (j + 1)) + 1 by omega, ← List.append_assoc]; exact h1
        have key : Near w R v' ∧ w.grownBy W' R := by
          by_cases hjs : j + 1 = s
          · have e := HH.out.2.2.1 hjs
            subst e
            have hg := HH.out.2.2.2.2
            exact ⟨h4.imp id fun h k hk => Nat.le_trans hg.size (h k hk), hg.trans h2⟩
          · obtain ⟨_, e, hnr⟩ := HH.out.2.1 (by omega)
            subst e
            have hg := HH.out.2.2.2.2
            exact ⟨hnr.step hg.size h4, grown_step hg hnr h2⟩
        refine ⟨Or.inl ⟨h3, hR2⟩, fun _ => ⟨h3, hR2, key.1⟩, fun e => by omega, ?_, key.2⟩
        rw [← HH.out.2.2.2.1, hx, List.append_assoc]; rfl
      have HS := Lib.hid hstep
      clear hstep
      have hsj : ((j + 1 : Nat) : Int) - 1 = j := by omega
      have HL : Hid (m + (s - (j + 1)) + 1 ≤ 1000000) := by unfold Hid; omega
      rcases (show j = 0 ∨ j = 1 ∨ j = 2 ∨ j = 3 by omega) with rfl | rfl | rfl | rfl
      all_goals
        go_wp2_with (first
          | (at_builtin
             refine wpList_app_any _ rfl (.tmp 12) (.tmp 18) rfl base v1 (m + (s - _)) (xs ++ ys) R1 rfl (HH.out.1.alloc _) (some ⟨W.heap.size, 0, none⟩) 1 1 [_] rfl (byt_blk (heap_alloc_new _ _) rfl) rfl (by omega) HL.out (by rw [size_alloc']; omega) ?_
             intro v2 w2 h2 hg2 hn2
             have hB2 : W.grownBy w2 R1 := (World.grownBy_alloc W _ R1).trans hg2
             have hN2 : Near W R1 v2 := hn2.at_alloc
             have H2 := Lib.hid h2
             clear h2 hg2 hn2))
        go_step3
        refine ⟨rfl, ⟨_, v2, ys ++ [_], _, by omega, HS.out _ ?_ _ _ H2.out hB2 hN2 _ rfl, _, _, _, _, _, _, _, _, _, _, _, _, _, rfl⟩, ?_⟩
        · first
            | (rw [Int.natCast_emod, Int.natCast_ediv]; rfl)
            | (simp; done)
            | (simp; omega)
        · simp [intOf]
theorem num_any (w : World) (base : Nat) (v : Value) (m : Nat) (xs : List Int) (n s : Nat) (hown : w.ownsRow base 5 1 v m (Bs xs)) (hbase : base ≤ w.heap.size) (hm : m ≤ 900000) (hs : s ≤ 4) (hs0 : 0 < s) (hn : n < 4294967296) :
    Calls Try.prog 32 #[v, .int .u32 n, .int .i64 s] w fun e w' => ∃ v', e = .returned v' ∧ w'.ownsRow base 5 1 v' (m + s) (Bs (xs ++ be n s)) ∧ Below base w w' ∧ w.grownBy w' v.ownBlock ∧ Near w v.ownBlock v' :=
  (num_app w base v m xs _ n s (Or.inl ⟨hown, rfl⟩) hbase hm hs hs0 hn).mono fun e w' ⟨v', h1, h2, h3, h4⟩ => ⟨v', h1, h2, grown_below h3 hbase (fun k hk => (hown.lt k hk).1), h3, h4⟩
end Go.Proofs.Ytflldlhfeiamnaa
