/- A scope in which the run jumps to any of its labels, forward or back: what holds at each label, and a measure that every pass from a label lowers. -/
import Derived.Scope
import Derived.ScopeJumps
import Derived.WalkKit
namespace Go.Proofs.Ytcmmopngjeonfaa
theorem lit_of (T : Array Value) (n : Nat) (h : T.size = n) : T = ((List.range n).map (fun i => T.getD i undef)).toArray := by
  apply Array.ext
  · simp [h]
  · intro i h1 h2
    simp [Array.getD, h1]
/-- As Q; by a goto to label l: J l. -/
def jumps (J : Nat → Act → World → Prop) (Q : Exit → Act → World → Prop) : Exit → Act → World → Prop
  | .goto l, a, w => J l a w
  | e, a, w => Q e a w
theorem jumps_ret (J : Nat → Act → World → Prop) (Q : Exit → Act → World → Prop) : jumps J Q .ret = Q .ret := rfl
theorem jumps_normal (J : Nat → Act → World → Prop) (Q : Exit → Act → World → Prop) : jumps J Q .normal = Q .normal := rfl
theorem jumps_goto (J : Nat → Act → World → Prop) (Q : Exit → Act → World → Prop) (l : Nat) : jumps J Q (.goto l) = J l := rfl
theorem wp_scope_multi {P : Program} {a : Act} {w : World} {Q : Exit → Act → World → Prop} {c : Code} (J : Nat → Act → World → Prop) (μ : Nat → Act → World → Nat)
    (hf : ∀ l a w, J l a w → ∃ rest, findLabel c l = some rest)
    (first : c.wp P (jumps J Q) a w)
    (pass : ∀ l rest, findLabel c l = some rest → ∀ a w, J l a w → rest.wp P (jumps (fun l' a' w' => J l' a' w' ∧ μ l' a' w' < μ l a w) Q) a w) : (Code.scope c).wp P Q a w := by
  intro b k cs
  have hg : ∀ l rest, findLabel c l = some rest → gotoIn l (.inScope c :: k) = some (.code rest :: .inScope c :: k) := fun l rest h => by simp [gotoIn, h]
  have key : ∀ n l rest a w, findLabel c l = some rest → μ l a w = n → J l a w → ∃ e a' w', Q e a' w' ∧ Arrives P (lone (b.at a (.code rest :: .inScope c :: k)) cs w) b k cs e a' w' := by
    intro n
    induction n using Nat.strongRecOn with
    | _ n ih =>
      intro l rest a w hl hn hJ
      obtain ⟨e, a₁, w₁, hq, harr⟩ := pass l rest hl a w hJ b (.inScope c :: k) cs
      cases e with
      | normal => exact ⟨.normal, a₁, w₁, hq, Steps.trans harr (.one step_inScope)⟩
      | exit id => exact ⟨.exit id, a₁, w₁, hq, fun k' hk => harr k' (by simp [exitTo, hk])⟩
      | goto l' =>
        obtain ⟨hJ', hlt⟩ := hq
        obtain ⟨rest', hl'⟩ := hf _ _ _ hJ'
        obtain ⟨e₂, a₂, w₂, hq₂, harr₂⟩ := ih _ (by omega) l' rest' a₁ w₁ hl' rfl hJ'
        exact ⟨e₂, a₂, w₂, hq₂, .of_steps (harr _ (hg _ _ hl')) harr₂⟩
      | ret => exact ⟨_, a₁, w₁, hq, harr⟩
      | panic ch => exact ⟨_, a₁, w₁, hq, harr⟩
      | outgrown => exact ⟨_, a₁, w₁, hq, harr⟩
  obtain ⟨e, a₁, w₁, hq, harr⟩ := first b (.inScope c :: k) cs
  cases e with
  | normal => exact ⟨.normal, a₁, w₁, hq, .head step_scope (Steps.trans harr (.one step_inScope))⟩
  | exit id => exact ⟨.exit id, a₁, w₁, hq, fun k' hk => .head step_scope (harr k' (by simp [exitTo, hk]))⟩
  | goto l' =>
    have hJ' : J l' a₁ w₁ := hq
    obtain ⟨rest', hl'⟩ := hf _ _ _ hJ'
    obtain ⟨e₂, a₂, w₂, hq₂, harr₂⟩ := key _ l' rest' a₁ w₁ hl' rfl hJ'
    exact ⟨e₂, a₂, w₂, hq₂, .of_steps (.head step_scope (harr _ (hg _ _ hl'))) harr₂⟩
  | ret => exact ⟨_, a₁, w₁, hq, .of_steps (.one step_scope) harr⟩
  | panic ch => exact ⟨_, a₁, w₁, hq, .of_steps (.one step_scope) harr⟩
  | outgrown => exact ⟨_, a₁, w₁, hq, .of_steps (.one step_scope) harr⟩
/-- .. with three labels. -/
theorem wp_scope3 {P : Program} {a : Act} {w : World} {Q : Exit → Act → World → Prop} {c r0 r1 r2 : Code} (J0 J1 J2 : Act → World → Prop) (μ2 : Act → World → Nat)
    (h0 : findLabel c 0 = some r0) (h1 : findLabel c 1 = some r1) (h2 : findLabel c 2 = some r2)
    (first : c.wp P (jumps (fun l a w => match l with | 0 => J0 a w | 1 => J1 a w | 2 => J2 a w | _ => False) Q) a w)
    (pass0 : ∀ a w, J0 a w → r0.wp P (jumps (fun _ _ _ => False) Q) a w)
    (pass1 : ∀ a w, J1 a w → r1.wp P (jumps (fun l a' w' => match l with | 0 => J0 a' w' | _ => False) Q) a w)
    (pass2 : ∀ a w, J2 a w → r2.wp P (jumps (fun l a' w' => match l with | 0 => J0 a' w' | 1 => J1 a' w' | 2 => J2 a' w' ∧ μ2 a' w' < μ2 a w | _ => False) Q) a w) : (Code.scope c).wp P Q a w := by
  refine wp_scope_multi (fun l a w => match l with | 0 => J0 a w | 1 => J1 a w | 2 => J2 a w | _ => False) (fun l a w => match l with | 0 => 0 | 1 => 1 | _ => μ2 a w + 2) ?_ first ?_
  · intro l a w h
    match l, h with
    | 0, _ => exact ⟨_, h0⟩
    | 1, _ => exact ⟨_, h1⟩
    | 2, _ => exact ⟨_, h2⟩
  · intro l rest hl a w h
    match l, h with
    | 0, h =>
      rw [h0] at hl; injection hl with hl; subst hl
      refine wp_mono (pass0 a w h) ?_
      intro e a' w' he
      cases e <;> first | exact he | exact he.elim
    | 1, h =>
      rw [h1] at hl; injection hl with hl; subst hl
      refine wp_mono (pass1 a w h) ?_
      intro e a' w' he
      cases e with
      | goto l' => match l', he with
        | 0, he => exact ⟨he, by show 0 < 1; omega⟩
      | _ => exact he
    | 2, h =>
      rw [h2] at hl; injection hl with hl; subst hl
      refine wp_mono (pass2 a w h) ?_
      intro e a' w' he
      cases e with
      | goto l' => match l', he with
        | 0, he => exact ⟨he, by show 0 < μ2 a w + 2; omega⟩
        | 1, he => exact ⟨he, by show 1 < μ2 a w + 2; omega⟩
        | 2, he => exact ⟨he.1, by show μ2 a' w' + 2 < μ2 a w + 2; have := he.2; omega⟩
      | _ => exact he
/-- .. where the run may also come to the third label by itself. -/
theorem wp_scope3e {P : Program} {a : Act} {w : World} {Q : Exit → Act → World → Prop} {c r0 r1 r2 : Code} (J0 J1 J2 : Act → World → Prop) (μ2 : Act → World → Nat)
    (h0 : findLabel c 0 = some r0) (h1 : findLabel c 1 = some r1) (h2 : findLabel c 2 = some (.seq .skip r2))
    (first : (∀ a w, J2 a w → r2.wp P (jumps (fun l a w => match l with | 0 => J0 a w | 1 => J1 a w | 2 => J2 a w | _ => False) Q) a w) → c.wp P (jumps (fun l a w => match l with | 0 => J0 a w | 1 => J1 a w | 2 => J2 a w | _ => False) Q) a w)
    (pass0 : ∀ a w, J0 a w → r0.wp P (jumps (fun _ _ _ => False) Q) a w)
    (pass1 : ∀ a w, J1 a w → r1.wp P (jumps (fun l a' w' => match l with | 0 => J0 a' w' | _ => False) Q) a w)
    (pass2 : ∀ a w, J2 a w → r2.wp P (jumps (fun l a' w' => match l with | 0 => J0 a' w' | 1 => J1 a' w' | 2 => J2 a' w' ∧ μ2 a' w' < μ2 a w | _ => False) Q) a w) : (Code.scope c).wp P Q a w := by
  refine wp_scope3 J0 J1 J2 μ2 h0 h1 h2 (first fun a w h => ?_) pass0 pass1 (fun a w h => wp_seq (wp_skip (pass2 a w h)))
  refine wp_mono (pass2 a w h) ?_
  intro e a' w' he
  cases e with
  | goto l' => match l', he with
    | 0, he => exact he
    | 1, he => exact he
    | 2, he => exact he.1
  | _ => exact he
/-- One label: what holds at it, shown once. -/
theorem wp_scope1e {P : Program} {a : Act} {w : World} {Q : Exit → Act → World → Prop} {c r : Code} (J : Act → World → Prop) (μ : Act → World → Nat)
    (h : findLabel c 0 = some (.seq .skip r))
    (first : (∀ a w, J a w → r.wp P (Exit.jump 0 J Q) a w) → c.wp P (Exit.jump 0 J Q) a w)
    (pass : ∀ a w, J a w → r.wp P (Exit.jump 0 (fun a' w' => J a' w' ∧ μ a' w' < μ a w) Q) a w) : (Code.scope c).wp P Q a w := by
  refine wp_scope_jumps 0 J μ h (first fun a w hJ => ?_) (fun a w hJ => wp_seq (wp_skip (pass a w hJ)))
  refine wp_mono (pass a w hJ) ?_
  intro e a' w' he
  cases e with
  | goto l' => obtain ⟨rfl, h1, h2⟩ := he; exact ⟨rfl, h1⟩
  | _ => exact he
/-- Two labels; back to the first one alone. -/
theorem wp_scope2e {P : Program} {a : Act} {w : World} {Q : Exit → Act → World → Prop} {c r0 r1 : Code} (J0 J1 : Act → World → Prop) (μ : Act → World → Nat)
    (h0 : findLabel c 0 = some (.seq .skip r0)) (h1 : findLabel c 1 = some r1)
    (first : (∀ a w, J0 a w → r0.wp P (jumps (fun l a w => match l with | 0 => J0 a w | 1 => J1 a w | _ => False) Q) a w) → c.wp P (jumps (fun l a w => match l with | 0 => J0 a w | 1 => J1 a w | _ => False) Q) a w)
    (pass0 : ∀ a w, J0 a w → r0.wp P (jumps (fun l a' w' => match l with | 0 => J0 a' w' ∧ μ a' w' < μ a w | 1 => J1 a' w' | _ => False) Q) a w)
    (pass1 : ∀ a w, J1 a w → r1.wp P (jumps (fun _ _ _ => False) Q) a w) : (Code.scope c).wp P Q a w := by
  refine wp_scope_multi (fun l a w => match l with | 0 => J0 a w | 1 => J1 a w | _ => False) (fun l a w => match l with | 0 => μ a w + 1 | _ => 0) ?_ (first fun a w h => ?_) ?_
  · intro l a w h
    match l, h with
    | 0, _ => exact ⟨_, h0⟩
    | 1, _ => exact ⟨_, h1⟩
  · refine wp_mono (pass0 a w h) ?_
    intro e a' w' he
    cases e with
    | goto l' => match l', he with
      | 0, he => exact he.1
      | 1, he => exact he
    | _ => exact he
  · intro l rest hl a w hJ
    match l, hJ with
    | 0, hJ =>
      rw [h0] at hl; injection hl with hl; subst hl
      refine wp_seq (wp_skip (wp_mono (pass0 a w hJ) ?_))
      intro e a' w' he
      cases e with
      | goto l' => match l', he with
        | 0, he => exact ⟨he.1, Nat.succ_lt_succ he.2⟩
        | 1, he => exact ⟨he, Nat.succ_pos _⟩
      | _ => exact he
    | 1, hJ =>
      rw [h1] at hl; injection hl with hl; subst hl
      refine wp_mono (pass1 a w hJ) ?_
      intro e a' w' he
      cases e with
      | goto l' => exact he.elim
      | _ => exact he
end Go.Proofs.Ytcmmopngjeonfaa
