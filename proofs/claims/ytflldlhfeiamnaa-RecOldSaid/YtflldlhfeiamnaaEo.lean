/- Writes in a row of one's own; a scope with a label to refuse at. -/
import Derived.Test.YtflldlhfeiamnaaEn
namespace Go.Proofs.Ytflldlhfeiamnaa
open Go.ChangeShapes Go.WideShapes Go.ChangeAt Go.RowKit
set_option linter.unusedVariables false
def wrsL : List Wr → List Value
  | [] => []
  | x :: l => wrL x ++ wrsL l
def Len56 (l : List Wr) : Prop := ∀ x ∈ l, x.bs.length = 56
theorem WrsOk.len {l : List Wr} (h : WrsOk l) : Len56 l := fun x hx => (h x hx).len
theorem wrsL_append : ∀ (l m : List Wr), wrsL (l ++ m) = wrsL l ++ wrsL m
  | [], _ => rfl
  | x :: l, m => by show wrL x ++ wrsL (l ++ m) = _; rw [wrsL_append l m, ← List.append_assoc]; rfl
theorem wrsL_length : ∀ {l : List Wr}, Len56 l → (wrsL l).length = l.length * 58
  | [], _ => rfl
  | x :: l, h => by
    show (wrL x ++ wrsL l).length = (l.length + 1) * 58
    rw [List.length_append, wrL_length (h x (by simp)), wrsL_length (fun y hy => h y (by simp [hy]))]; omega
theorem wrsL_at : ∀ {l : List Wr}, Len56 l → ∀ {i : Nat} {x : Wr}, l[i]? = some x → ∀ {j : Nat} {v : Value}, (wrL x)[j]? = some v → (wrsL l)[i * 58 + j]? = some v
  | [], _, i, x, h, _, _, _ => by cases h
  | y :: l, hl, 0, x, h, j, v, hj => by
    injection h with h; subst h
    show (wrL y ++ wrsL l)[0 * 58 + j]? = some v
    rw [Nat.zero_mul, Nat.zero_add, List.getElem?_append_left (List.getElem?_eq_some_iff.1 hj).1]; exact hj
  | y :: l, hl, i + 1, x, h, j, v, hj => by
    have h1 := wrsL_at (l := l) (fun z hz => hl z (by simp [hz])) (i := i) h hj
    show (wrL y ++ wrsL l)[(i + 1) * 58 + j]? = some v
    rw [List.getElem?_append_right (by rw [wrL_length (hl y (by simp))]; omega), wrL_length (hl y (by simp)), show (i + 1) * 58 + j - 58 = i * 58 + j by omega]
    exact h1
theorem wrsL_one : ∀ (l : List Wr), ∀ v ∈ wrsL l, v.oneCell' = true
  | [], v, h => by cases h
  | x :: l, v, h => by
    rcases List.mem_append.1 (show v ∈ wrL x ++ wrsL l from h) with h | h
    · exact wrL_one x v h
    · exact wrsL_one l v h
def OwnW (w : World) (base : Nat) (v : Value) (l : List Wr) : Prop := w.ownsRow base 46 58 v l.length (wrsL l)
theorem OwnW.nil (w : World) (base : Nat) : OwnW w base (.slice none 0 0) [] := World.ownsRow_nil _ _ _ _
theorem OwnW.wrs {w : World} {base : Nat} {v : Value} {l : List Wr} (h : OwnW w base v l) (h56 : Len56 l) : ∃ A d, v = .slice A l.length d ∧ l.length ≤ d ∧ d ≤ 9223372036854775807 ∧ Wrs w A l := by
  rcases h.2 with ⟨rfl, h0⟩ | ⟨g, cap, cur, rfl, hb, hg, hn', hm, hs, ht⟩
  · refine ⟨none, 0, by rw [h0], by omega, by omega, fun i x hi => ?_⟩
    rw [List.length_eq_zero_iff.1 h0] at hi; cases hi
  · refine ⟨some ⟨g, 0, none⟩, cap, rfl, hn', by simp only [maxLen] at hm; omega, fun i x hi => ⟨_, rfl, fun j v hj => ?_⟩⟩
    have := h.cells (g := g) rfl _ _ (wrsL_at h56 hi hj)
    rw [add_add']; exact this
theorem wpList_oneW {ops : Array Oper} {rest : List Oper} {o : Oper} {a : Act} {w : World} {Q : Exit → Act → World → Prop} (hgd : o.guard = none) (x : Operand) (ho : o.op = .buildSlice 23 1 #[(0, x)]) (y : Wr) (h56 : y.bs.length = 56) (hx : a.eval x = .agg (wrA y))
    (h : wpList Try.prog ops Q rest (a.put o.dst (.slice (some ⟨w.heap.size, 0, none⟩) 1 1)) (w.alloc (.cells (wrA y) 46))) : wpList Try.prog ops Q (o :: rest) a w := by
  obtain ⟨i0, hi, hz0, hz1, hz2⟩ := info_parts infoW
  exact wpList_plain hgd fun _ hK => wp_one_of 23 x ho 46 i0 _ 58 Try.underlying23 hi hz0 hz1 (by decide) (by decide) _ hx (by show (wrA y).size = 58; exact wrA_size h56) (hK _ _ h)
theorem wpList_app_wr {ops : Array Oper} {rest : List Oper} {o : Oper} {a : Act} {w : World} {Q : Exit → Act → World → Prop} (hgd : o.guard = none) (s x : Operand)
    (ho : o.op = .call { callee := .builtin .append, args := #[s, x], argTypes := #[23, 23] })
    (base : Nat) (v : Value) (l : List Wr) (hs : a.eval s = v) (hown : OwnW w base v l) (g : Nat) (y : Wr) (h56 : y.bs.length = 56) (hx : a.eval x = .slice (some ⟨g, 0, none⟩) 1 1) (hg : WrAt w ⟨g, 0, none⟩ y) (h63 : l.length ≤ 1000) (hbase : base ≤ w.heap.size)
    (h : ∀ v' w', OwnW w' base v' (l ++ [y]) → Below base w w' → wpList Try.prog ops Q rest (a.put o.dst v') w') : wpList Try.prog ops Q (o :: rest) a w := by
  obtain ⟨i0, hi, hz0, hz1, hz2⟩ := info_parts infoW
  refine wpList_append_own_at (P := Try.prog) w hgd s x 23 ho base 46 i0 _ 58 72 Try.underlying23 hi hz0 hz1 hz2 (by show (wrA zW).size = 58; exact wrA_size zW_len) (by decide) v l.length _ hs hown ⟨g, 0, none⟩ 1 1 (wrL y) hx (by rw [wrL_length h56]) hg (wrL_one y) (by simp only [maxLen]; omega) (by omega) hbase ?_
  intro v' w' h2 h3 _ _
  refine h v' w' ?_ (grown_below h3 hbase (fun k hk => (hown.lt k hk).1))
  unfold OwnW
  rw [wrsL_append, List.length_append]
  simpa [wrsL] using h2
/-- Two labels: 1 to go on at, 0 to refuse at. -/
theorem wp_scope2f {P : Program} {a : Act} {w : World} {Q : Exit → Act → World → Prop} {c r0 r1 : Code} (J0 J1 : Act → World → Prop) (μ : Act → World → Nat)
    (h0 : findLabel c 0 = some r0) (h1 : findLabel c 1 = some (.seq .skip r1))
    (first : (∀ a w, J1 a w → r1.wp P (jumps (fun l a w => match l with | 0 => J0 a w | 1 => J1 a w | _ => False) Q) a w) → c.wp P (jumps (fun l a w => match l with | 0 => J0 a w | 1 => J1 a w | _ => False) Q) a w)
    (pass1 : ∀ a w, J1 a w → r1.wp P (jumps (fun l a' w' => match l with | 0 => J0 a' w' | 1 => J1 a' w' ∧ μ a' w' < μ a w | _ => False) Q) a w)
    (pass0 : ∀ a w, J0 a w → r0.wp P (jumps (fun _ _ _ => False) Q) a w) : (Code.scope c).wp P Q a w := by
  refine wp_scope_multi (fun l a w => match l with | 0 => J0 a w | 1 => J1 a w | _ => False) (fun l a w => match l with | 1 => μ a w + 1 | _ => 0) ?_ (first fun a w h => ?_) ?_
  · intro l a w h
    match l, h with
    | 0, _ => exact ⟨_, h0⟩
    | 1, _ => exact ⟨_, h1⟩
  · refine wp_mono (pass1 a w h) ?_
    intro e a' w' he
    cases e with
    | goto l' => match l', he with
      | 0, he => exact he
      | 1, he => exact he.1
    | _ => exact he
  · intro l rest hl a w hJ
    match l, hJ with
    | 1, hJ =>
      rw [h1] at hl; injection hl with hl; subst hl
      refine wp_seq (wp_skip (wp_mono (pass1 a w hJ) ?_))
      intro e a' w' he
      cases e with
      | goto l' => match l', he with
        | 0, he => exact ⟨he, Nat.succ_pos _⟩
        | 1, he => exact ⟨he.1, Nat.succ_lt_succ he.2⟩
      | _ => exact he
    | 0, hJ =>
      rw [h0] at hl; injection hl with hl; subst hl
      refine wp_mono (pass0 a w hJ) ?_
      intro e a' w' he
      cases e with
      | goto l' => exact he.elim
      | _ => exact he
def sliceLen : Value → Nat
  | .slice _ n _ => n
  | _ => 0
end Go.Proofs.Ytflldlhfeiamnaa
