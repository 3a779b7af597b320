/- A scope in which the run jumps forward alone: at each goto the walk goes on at its label. -/
import Derived.Test.YtcmmopngjeonfaaJ
namespace Go.Proofs.Ytcmmopngjeonfaa
/-- What is to be shown at a goto: 'ls' are the labels, in the order in which the run may come to them. -/
def fwdJ (P : Program) (c : Code) (Q : Exit → Act → World → Prop) : List Nat → Nat → Act → World → Prop
  | [], _, _, _ => False
  | l :: ls, m, a, w => (m = l ∧ ∃ rest, findLabel c l = some rest ∧ rest.wp P (jumps (fwdJ P c Q ls) Q) a w) ∨ (m ≠ l ∧ fwdJ P c Q ls m a w)
theorem fwdJ_here {P : Program} {c : Code} {Q : Exit → Act → World → Prop} {l : Nat} {ls : List Nat} {a : Act} {w : World} {rest : Code} (h : findLabel c l = some rest) (hw : rest.wp P (jumps (fwdJ P c Q ls) Q) a w) : fwdJ P c Q (l :: ls) l a w := Or.inl ⟨rfl, rest, h, hw⟩
theorem fwdJ_on {P : Program} {c : Code} {Q : Exit → Act → World → Prop} {l m : Nat} {ls : List Nat} {a : Act} {w : World} (h : m ≠ l) (hw : fwdJ P c Q ls m a w) : fwdJ P c Q (l :: ls) m a w := Or.inr ⟨h, hw⟩
theorem wp_scope_fwd {P : Program} {a : Act} {w : World} {Q : Exit → Act → World → Prop} {c : Code} (ls : List Nat)
    (first : c.wp P (jumps (fwdJ P c Q ls) Q) a w) : (Code.scope c).wp P Q a w := by
  intro b k cs
  have hg : ∀ l rest, findLabel c l = some rest → gotoIn l (.inScope c :: k) = some (.code rest :: .inScope c :: k) := fun l rest h => by simp [gotoIn, h]
  have key : ∀ ls m a w, fwdJ P c Q ls m a w → ∃ rest, findLabel c m = some rest ∧ ∃ e a' w', Q e a' w' ∧ Arrives P (lone (b.at a (.code rest :: .inScope c :: k)) cs w) b k cs e a' w' := by
    intro ls
    induction ls with
    | nil => intro m a w h; exact h.elim
    | cons l ls ih =>
      rintro m a w (⟨rfl, rest, hl, hw⟩ | ⟨_, h⟩)
      · refine ⟨rest, hl, ?_⟩
        obtain ⟨e, a₁, w₁, hq, harr⟩ := hw b (.inScope c :: k) cs
        cases e with
        | normal => exact ⟨.normal, a₁, w₁, hq, Steps.trans harr (.one step_inScope)⟩
        | exit id => exact ⟨.exit id, a₁, w₁, hq, fun k' hk => harr k' (by simp [exitTo, hk])⟩
        | goto l' =>
          obtain ⟨rest', hl', e₂, a₂, w₂, hq₂, harr₂⟩ := ih l' a₁ w₁ hq
          exact ⟨e₂, a₂, w₂, hq₂, .of_steps (harr _ (hg _ _ hl')) harr₂⟩
        | ret => exact ⟨_, a₁, w₁, hq, harr⟩
        | panic ch => exact ⟨_, a₁, w₁, hq, harr⟩
        | outgrown => exact ⟨_, a₁, w₁, hq, harr⟩
      · exact ih m a w h
  obtain ⟨e, a₁, w₁, hq, harr⟩ := first b (.inScope c :: k) cs
  cases e with
  | normal => exact ⟨.normal, a₁, w₁, hq, .head step_scope (Steps.trans harr (.one step_inScope))⟩
  | exit id => exact ⟨.exit id, a₁, w₁, hq, fun k' hk => .head step_scope (harr k' (by simp [exitTo, hk]))⟩
  | goto l' =>
    obtain ⟨rest', hl', e₂, a₂, w₂, hq₂, harr₂⟩ := key _ l' a₁ w₁ hq
    exact ⟨e₂, a₂, w₂, hq₂, .of_steps (.head step_scope (harr _ (hg _ _ hl'))) harr₂⟩
  | ret => exact ⟨_, a₁, w₁, hq, .of_steps (.one step_scope) harr⟩
  | panic ch => exact ⟨_, a₁, w₁, hq, .of_steps (.one step_scope) harr⟩
  | outgrown => exact ⟨_, a₁, w₁, hq, .of_steps (.one step_scope) harr⟩
/-- .. the labels' code out of sight. -/
theorem wp_scope_fwd' {P : Program} {a : Act} {w : World} {Q : Exit → Act → World → Prop} {c : Code} (ls : List Nat)
    (first : ∀ F : List Nat → Nat → Act → World → Prop, (∀ l ls a w rest, findLabel c l = some rest → rest.wp P (jumps (F ls) Q) a w → F (l :: ls) l a w) → (∀ l m ls a w, m ≠ l → F ls m a w → F (l :: ls) m a w) → c.wp P (jumps (F ls) Q) a w) : (Code.scope c).wp P Q a w :=
  wp_scope_fwd ls (first (fwdJ P c Q) (fun _ _ _ _ _ h hw => fwdJ_here h hw) (fun _ _ _ _ _ h hw => fwdJ_on h hw))
/-- Two labels: 1 to go on at, 0 to refuse at. -/
theorem wp_scope2f {P : Program} {a : Act} {w : World} {Q : Exit → Act → World → Prop} {c r0 r1 : Code} (J0 J1 : Act → World → Prop) (μ : Act → World → Nat)
    (h0 : findLabel c 0 = some r0) (h1 : findLabel c 1 = some (.seq .skip r1))
    (first : (∀ a w, J1 a w → r1.wp P (jumps (fun l a w => match l with | 0 => J0 a w | 1 => J1 a w | _ => False) Q) a w) → c.wp P (jumps (fun l a w => match l with | 0 => J0 a w | 1 => J1 a w | _ => False) Q) a w)
    (pass1 : ∀ a w, J1 a w → r1.wp P (jumps (fun l a' w' => match l with | 0 => J0 a' w' | 1 => J1 a' w' ∧ μ a' w' < μ a w | _ => False) Q) a w)
    (pass0 : ∀ a w, J0 a w → r0.wp P (jumps (fun _ _ _ => False) Q) a w) : (Code.scope c).wp P Q a w := by
  refine wp_scope_multi (fun l a w => match l with | 0 => J0 a w | 1 => J1 a w | _ => False) (fun l a w => match l with | 1 => μ a w + 1 | _ => 0) ?_ (first fun a w h => ?_) ?_
  · intro l a w h
    match l, h with
    | 0, _ => exact ⟨_, h0⟩
    | 1, _ => exact ⟨_, h1⟩
  · refine wp_mono (pass1 a w h) ?_
    intro e a' w' he
    cases e with
    | goto l' => match l', he with
      | 0, he => exact he
      | 1, he => exact he.1
    | _ => exact he
  · intro l rest hl a w hJ
    match l, hJ with
    | 1, hJ =>
      rw [h1] at hl; injection hl with hl; subst hl
      refine wp_seq (wp_skip (wp_mono (pass1 a w hJ) ?_))
      intro e a' w' he
      cases e with
      | goto l' => match l', he with
        | 0, he => exact ⟨he, Nat.succ_pos _⟩
        | 1, he => exact ⟨he.1, Nat.succ_lt_succ he.2⟩
      | _ => exact he
    | 0, hJ =>
      rw [h0] at hl; injection hl with hl; subst hl
      refine wp_mono (pass0 a w hJ) ?_
      intro e a' w' he
      cases e with
      | goto l' => exact he.elim
      | _ => exact he
end Go.Proofs.Ytcmmopngjeonfaa
