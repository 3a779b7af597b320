/- A region that draws its order, operation by operation: what each operation's result is (a predicate that stands in every later world), what the world keeps; the last operation comes behind all others. Every order at once. Of no function. -/
import Derived.WalkKit
import Derived.Orders
namespace Go.Proofs.Ytcmmopngjeonfaa
open Go
set_option linter.unusedVariables false
set_option linter.unusedSimpArgs false
/-- What an operation left. -/
def slotOf (o : Oper) (T : Array Value) : Value := match o.dst with | some d => T.getD d undef | none => undef
/-- The frame is as it was, but for what the region's operations leave. -/
def agree (ops : Array Oper) (T0 T : Array Value) : Prop := T.size = T0.size ∧ ∀ s, (∀ o ∈ ops, o.dst ≠ some s) → T.getD s undef = T0.getD s undef
/-- The region's form: each edge leads to an operation ahead; each operation but the last is waited for; each leaves its result in a slot of its own, within the frame. -/
def rgB (n : Nat) (ops : Array Oper) : Bool :=
  decide (0 < ops.size) &&
  ((List.range ops.size).all fun i => ((ops[i]?).map fun o => o.after.all fun e => decide (e.on < i) || !Region.binds .any e).getD false) &&
  ((List.range (ops.size - 1)).all fun j => (List.range ops.size).any fun k => decide (j < k) && ((ops[k]?).map fun o => o.after.any fun e => e.on == j && Region.binds .any e).getD false) &&
  ((List.range ops.size).all fun i => (List.range ops.size).all fun j => i == j || (((ops[i]?).bind (·.dst)).isNone || ((ops[i]?).bind (·.dst)) != ((ops[j]?).bind (·.dst)))) &&
  ((List.range ops.size).all fun i => (((ops[i]?).bind (·.dst)).map fun d => decide (d < n)).getD true)
section
variable {P : Program} {ops : Array Oper} {T0 T : Array Value} {D : List Deferred} {V : Nat → Value → World → Prop} {J : World → Prop} {S : World → World → Prop} {Q : Exit → Act → World → Prop}
/-- What is to be shown of an operation that is not the last. -/
def RStep (P : Program) (ops : Array Oper) (T0 : Array Value) (D : List Deferred) (V : Nat → Value → World → Prop) (J : World → Prop) (S : World → World → Prop) (Q : Exit → Act → World → Prop) (i : Nat) (o : Oper) : Prop :=
  ∀ T w, agree ops T0 T → J w → (∀ e ∈ o.after, Region.binds .any e = true → ∀ o', ops[e.on]? = some o' → V e.on (slotOf o' T) w) →
    if Region.wanted o (yielded ops T) then o.wp P ⟨T, D⟩ w (fun a' w' => ∃ v, a' = (⟨T, D⟩ : Act).put o.dst v ∧ V i (match o.dst with | some _ => v | none => undef) w' ∧ J w' ∧ S w w') Q else V i undef w
/-- .. and of the last. -/
def RLast (P : Program) (ops : Array Oper) (T0 : Array Value) (D : List Deferred) (V : Nat → Value → World → Prop) (J : World → Prop) (Q : Exit → Act → World → Prop) (o : Oper) : Prop :=
  ∀ T w, agree ops T0 T → J w → (∀ j o', j + 1 < ops.size → ops[j]? = some o' → V j (slotOf o' T) w) →
    if Region.wanted o (yielded ops T) then o.wp P ⟨T, D⟩ w (fun a' w' => Q .normal a' w') Q else Q .normal ((⟨T, D⟩ : Act).put o.dst undef) w
/-- What stands while the order runs. -/
structure RInv (ops : Array Oper) (T0 : Array Value) (D : List Deferred) (V : Nat → Value → World → Prop) (J : World → Prop) (listed : Array Bool) (a : Act) (w : World) : Prop where
  size : listed.size = ops.size
  down : ∀ i o, ops[i]? = some o → listed.getD i false = true → ∀ e ∈ o.after, Region.binds .any e = true → listed.getD e.on false = true
  defers : a.defers = D
  frame : agree ops T0 a.tmps
  vals : ∀ i o, ops[i]? = some o → listed.getD i false = true → V i (slotOf o a.tmps) w
  world : J w
  last : listed.getD (ops.size - 1) false = false
theorem rg_parts {n : Nat} (h : rgB n ops = true) : 0 < ops.size ∧ (∀ (i : Nat) (o : Oper), ops[i]? = some o → ∀ e ∈ o.after, Region.binds .any e = true → e.on < i) ∧ (∀ j, j + 1 < ops.size → ∃ (k : Nat) (o : Oper), j < k ∧ ops[k]? = some o ∧ ∃ e ∈ o.after, e.on = j ∧ Region.binds .any e = true) ∧
    (∀ (i j : Nat) (o o' : Oper), ops[i]? = some o → ops[j]? = some o' → i ≠ j → ∀ d, o.dst = some d → o'.dst ≠ some d) ∧ (∀ (i : Nat) (o : Oper) (d : Nat), ops[i]? = some o → o.dst = some d → d < n) := by
  unfold rgB at h
  simp only [Bool.and_eq_true, decide_eq_true_eq, List.all_eq_true, List.any_eq_true, List.mem_range] at h
  obtain ⟨⟨⟨⟨h0, h1⟩, h2⟩, h3⟩, h4⟩ := h
  have lt : ∀ {i : Nat} {o : Oper}, ops[i]? = some o → i < ops.size := fun {i o} ho => (Array.getElem?_eq_some_iff.1 ho).1
  refine ⟨h0, fun i o ho e he hb => ?_, fun j hj => ?_, fun i j o o' ho ho' hij d hd => ?_, fun i o d ho hd => ?_⟩
  · have := h1 i (lt ho)
    rw [ho] at this
    simp only [Option.map_some, Option.getD_some, Array.all_eq_true', Bool.or_eq_true, decide_eq_true_eq] at this
    rcases this e he with h | h
    · exact h
    · rw [hb] at h; cases h
  · obtain ⟨k, hk, hjk, hb⟩ := h2 j (by omega)
    have hk' : ops[k]? = some ops[k] := Array.getElem?_eq_getElem hk
    rw [hk'] at hb
    simp only [Option.map_some, Option.getD_some, Array.any_eq_true', Bool.and_eq_true, beq_iff_eq] at hb
    obtain ⟨e, he, h5, h6⟩ := hb
    exact ⟨k, _, hjk, hk', e, he, h5, h6⟩
  · have := h3 i (lt ho) j (lt ho')
    rw [ho, ho'] at this
    simp only [Option.bind_some, Bool.or_eq_true, beq_iff_eq, bne_iff_ne] at this
    rcases this with h | h | h
    · exact absurd h hij
    · rw [hd] at h; cases h
    · rw [hd] at h; exact fun e => h e.symm
  · have := h4 i (lt ho)
    rw [ho] at this
    simp only [Option.bind_some, hd, Option.map_some, Option.getD_some, decide_eq_true_eq] at this
    exact this
theorem slotOf_put_self {o : Oper} {T : Array Value} {v : Value} (hd : ∀ d, o.dst = some d → d < T.size) : slotOf o ((⟨T, D⟩ : Act).put o.dst v).tmps = (match o.dst with | some _ => v | none => undef) := by
  unfold slotOf Act.put
  cases h : o.dst with
  | none => rfl
  | some d =>
    have := hd d h
    simp [Array.getD_eq_getD_getElem?, this]
theorem slotOf_put_other {o o' : Oper} {T : Array Value} {v : Value} (hne : ∀ d, o.dst = some d → o'.dst ≠ some d) : slotOf o' ((⟨T, D⟩ : Act).put o.dst v).tmps = slotOf o' T := by
  unfold slotOf Act.put
  cases h : o.dst with
  | none => rfl
  | some d =>
    cases h' : o'.dst with
    | none => rfl
    | some d' =>
      have : d ≠ d' := fun e => hne d h (by rw [h', e])
      simp [Array.getD_eq_getD_getElem?, Array.getElem?_setIfInBounds, this]
theorem agree_put {i : Nat} {o : Oper} {T : Array Value} {v : Value} (ho : ops[i]? = some o) (h : agree ops T0 T) : agree ops T0 ((⟨T, D⟩ : Act).put o.dst v).tmps := by
  unfold Act.put
  cases hd : o.dst with
  | none => exact h
  | some d =>
    refine ⟨by simpa using h.1, fun s hs => ?_⟩
    have hne : d ≠ s := fun e => hs o (Array.mem_of_getElem? ho) (by rw [hd, e])
    rw [← h.2 s hs]
    simp [Array.getD_eq_getD_getElem?, Array.getElem?_setIfInBounds, hne]
theorem defers_put {dst : Option Tmp} {T : Array Value} {v : Value} : ((⟨T, D⟩ : Act).put dst v).defers = D := by unfold Act.put; split <;> rfl
theorem mem_ready {listed : Array Bool} {i : Nat} : i ∈ Region.ready .any ops listed ↔ i < ops.size ∧ listed.getD i true = false ∧ ∃ o, ops[i]? = some o ∧ ∀ e ∈ o.after, Region.binds .any e = true → listed.getD e.on false = true := by
  unfold Region.ready
  rw [List.mem_filter, List.mem_range, Bool.and_eq_true]
  constructor
  · rintro ⟨h1, h2, h3⟩
    have hi : ops[i]? = some ops[i] := Array.getElem?_eq_getElem h1
    rw [hi] at h3
    simp only [Option.map_some, Option.getD_some, Array.all_eq_true', Bool.or_eq_true] at h3
    refine ⟨h1, by simpa using h2, _, hi, fun e he hb => ?_⟩
    rcases h3 e he with h | h
    · rw [hb] at h; cases h
    · exact h
  · rintro ⟨h1, h2, o, ho, h3⟩
    refine ⟨h1, by simpa using h2, ?_⟩
    rw [ho]
    simp only [Option.map_some, Option.getD_some, Array.all_eq_true', Bool.or_eq_true]
    intro e he
    cases hb : Region.binds .any e with
    | false => exact Or.inl rfl
    | true => exact Or.inr (h3 e he hb)
theorem getD_set {listed : Array Bool} {i j : Nat} (hi : i < listed.size) : (listed.setIfInBounds i true).getD j false = (if i = j then true else listed.getD j false) := by
  by_cases e : i = j
  · subst e; simp [Array.getD_eq_getD_getElem?, hi]
  · simp [Array.getD_eq_getD_getElem?, Array.getElem?_setIfInBounds, e]
theorem getD_tf {listed : Array Bool} {i : Nat} (hi : i < listed.size) : listed.getD i true = listed.getD i false := by simp [Array.getD_eq_getD_getElem?, hi]
/-- All is listed: nothing is ready. -/
theorem wpAny_done {fuel : Nat} {listed : Array Bool} {a : Act} {w : World} (hs : listed.size = ops.size) (hall : ∀ i, i < ops.size → listed.getD i false = true) (hQ : Q .normal a w) : wpAny P .any ops Q fuel listed a w := by
  have hr : Region.ready .any ops listed = [] := by
    rw [List.eq_nil_iff_forall_not_mem]
    intro i hi
    obtain ⟨h1, h2, _⟩ := mem_ready.1 hi
    rw [getD_tf (by omega), hall i h1] at h2
    cases h2
  cases fuel with
  | zero => exact ⟨hr, hQ⟩
  | succ fuel => exact ⟨fun _ => hQ, fun i hi => by rw [hr] at hi; cases hi⟩
theorem wpAny_inv {n : Nat} {Si : Nat → World → World → Prop} (hB : rgB n ops = true) (hn : T0.size = n) (stab : ∀ i j v w w', i ≠ j → V j v w → Si i w w' → V j v w')
    (steps : ∀ i o, ops[i]? = some o → i + 1 < ops.size → RStep P ops T0 D V J (Si i) Q i o) (hlast : ∀ o, ops[ops.size - 1]? = some o → RLast P ops T0 D V J Q o) :
    ∀ (fuel : Nat) (listed : Array Bool) (a : Act) (w : World), RInv ops T0 D V J listed a w → (List.range ops.size).countP (fun i => !listed.getD i false) ≤ fuel → wpAny P .any ops Q fuel listed a w := by
  obtain ⟨h0, hup, hwait, hdst, hfr⟩ := rg_parts hB
  intro fuel
  induction fuel with
  | zero =>
    intro listed a w hI hc
    exfalso
    have : 0 < (List.range ops.size).countP (fun i => !listed.getD i false) := List.countP_pos_iff.2 ⟨ops.size - 1, List.mem_range.2 (by omega), by rw [hI.last]; rfl⟩
    omega
  | succ fuel ih =>
    intro listed a w hI hc
    obtain ⟨T, D'⟩ := a
    have hD := hI.defers
    dsimp only at hD
    subst hD
    refine ⟨fun hr => ?_, fun i hi => ?_⟩
    · exfalso
      -- the first that is not listed is ready
      have hex : ∃ i, i < ops.size ∧ listed.getD i false = false := ⟨ops.size - 1, by omega, hI.last⟩
      have hmin : ∃ i, (i < ops.size ∧ listed.getD i false = false) ∧ ∀ j, j < i → ¬ (j < ops.size ∧ listed.getD j false = false) := by
        obtain ⟨i, hi⟩ := hex
        induction i using Nat.strongRecOn with
        | _ i ih =>
          by_cases hm : ∃ j, j < i ∧ (j < ops.size ∧ listed.getD j false = false)
          · obtain ⟨j, h1, h2⟩ := hm; exact ih j h1 h2
          · exact ⟨i, hi, fun j hj h => hm ⟨j, hj, h⟩⟩
      obtain ⟨i, ⟨h1, h2⟩, h3⟩ := hmin
      have hm : i ∈ Region.ready .any ops listed := mem_ready.2 ⟨h1, by rw [getD_tf (by rw [hI.size]; exact h1)]; exact h2, _, Array.getElem?_eq_getElem h1, fun e he hb => by
        have h4 := hup i _ (Array.getElem?_eq_getElem h1) e he hb
        cases h5 : listed.getD e.on false with
        | true => rfl
        | false => exact absurd ⟨by omega, h5⟩ (h3 e.on h4)⟩
      rw [hr] at hm; cases hm
    · obtain ⟨h1, h2, o, ho, h3⟩ := mem_ready.1 hi
      rw [getD_tf (by rw [hI.size]; exact h1)] at h2
      have hsz : i < listed.size := by rw [hI.size]; exact h1
      unfold wpOp
      rw [ho]
      dsimp only
      by_cases hl : i + 1 < ops.size
      · have hst := steps i o ho hl T w hI.frame hI.world (fun e he hb o' ho' => hI.vals _ _ ho' (h3 e he hb))
        have next : ∀ v w', V i (match o.dst with | some _ => v | none => undef) w' → J w' → (∀ j v, i ≠ j → V j v w → V j v w') → wpAny P .any ops Q fuel (listed.setIfInBounds i true) ((⟨T, D'⟩ : Act).put o.dst v) w' := by
          intro v w' hV hJ hS
          refine ih _ _ _ ⟨by simpa using hI.size, fun j oj hoj hj e he hb => ?_, defers_put, agree_put ho hI.frame, fun j oj hoj hj => ?_, hJ, ?_⟩ ?_
          · rw [getD_set hsz] at hj ⊢
            by_cases e1 : i = e.on
            · rw [if_pos e1]
            · rw [if_neg e1]
              by_cases e2 : i = j
              · subst e2; rw [ho] at hoj; cases hoj; exact h3 e he hb
              · rw [if_neg e2] at hj; exact hI.down j oj hoj hj e he hb
          · rw [getD_set hsz] at hj
            by_cases e2 : i = j
            · subst e2; rw [ho] at hoj; cases hoj
              rw [slotOf_put_self (fun d hd => by rw [hI.frame.1, hn]; exact hfr i o d ho hd)]; exact hV
            · rw [if_neg e2] at hj
              rw [slotOf_put_other (fun d hd => hdst i j o oj ho hoj e2 d hd)]
              exact hS j _ e2 (hI.vals j oj hoj hj)
          · rw [getD_set hsz, if_neg (by omega)]; exact hI.last
          · have : (List.range ops.size).countP (fun j => !(listed.setIfInBounds i true).getD j false) < (List.range ops.size).countP (fun j => !listed.getD j false) := by
              have key : ∀ (l : List Nat), i ∈ l → l.Nodup → l.countP (fun j => !(listed.setIfInBounds i true).getD j false) < l.countP (fun j => !listed.getD j false) := by
                have le : ∀ (l : List Nat), l.countP (fun j => !(listed.setIfInBounds i true).getD j false) ≤ l.countP (fun j => !listed.getD j false) := fun l =>
                  List.countP_mono_left fun j _ hj => by
                    rw [getD_set hsz] at hj
                    by_cases e2 : i = j
                    · rw [if_pos e2] at hj; cases hj
                    · rw [if_neg e2] at hj; exact hj
                intro l
                induction l with
                | nil => intro h; cases h
                | cons x l ihl =>
                  intro hm hnd
                  rw [List.countP_cons, List.countP_cons]
                  by_cases e : x = i
                  · subst e
                    have e1 : (!(listed.setIfInBounds x true).getD x false) = false := by rw [getD_set hsz, if_pos rfl]; rfl
                    have e2 : (!listed.getD x false) = true := by rw [h2]; rfl
                    rw [e1, e2]
                    have := le l
                    simp only [Bool.false_eq_true, if_false, if_true]
                    omega
                  · have hm' : i ∈ l := by
                      rcases List.mem_cons.1 hm with h | h
                      · exact absurd h.symm e
                      · exact h
                    have := ihl hm' (List.nodup_cons.1 hnd).2
                    have e1 : (listed.setIfInBounds i true).getD x false = listed.getD x false := by rw [getD_set hsz, if_neg (fun h => e h.symm)]
                    rw [e1]
                    omega
              exact key _ (List.mem_range.2 h1) List.nodup_range
            omega
        by_cases hw : Region.wanted o (yielded ops T) = true
        · rw [if_pos hw] at hst ⊢
          refine Or.inl (Oper.wp_mono (fun a' w' => ?_) hst)
          rintro ⟨v, rfl, hV, hJ, hS⟩
          exact next v w' hV hJ (fun j v hij h => stab i j v w w' hij h hS)
        · rw [if_neg hw] at hst ⊢
          refine next undef w ?_ hI.world (fun j v _ h => h)
          cases o.dst <;> exact hst
      · have hil : i = ops.size - 1 := by omega
        subst hil
        have hall : ∀ m j, j + m + 1 = ops.size → j + 1 < ops.size → listed.getD j false = true := by
          intro m
          induction m using Nat.strongRecOn with
          | _ m ihm =>
            intro j hj hj1
            obtain ⟨k, ok, hjk, hok, e, he, he1, hb⟩ := hwait j hj1
            subst he1
            by_cases hk : k + 1 < ops.size
            · exact hI.down k ok hok (ihm (ops.size - 1 - k) (by omega) k (by omega) hk) e he hb
            · have hkl := (Array.getElem?_eq_some_iff.1 hok).1
              have : k = ops.size - 1 := by omega
              subst this
              rw [ho] at hok; cases hok
              exact h3 e he hb
        have hst := hlast o ho T w hI.frame hI.world (fun j o' hj hoj => hI.vals j o' hoj (hall (ops.size - 1 - j) j (by omega) hj))
        have next : ∀ a' w', Q .normal a' w' → wpAny P .any ops Q fuel (listed.setIfInBounds (ops.size - 1) true) a' w' := fun a' w' hq =>
          wpAny_done (by simpa using hI.size) (fun j hj => by
            rw [getD_set hsz]
            by_cases e : ops.size - 1 = j
            · rw [if_pos e]
            · rw [if_neg e]; exact hall (ops.size - 1 - j) j (by omega) (by omega)) hq
        by_cases hw : Region.wanted o (yielded ops T) = true
        · rw [if_pos hw] at hst ⊢
          exact Or.inl (Oper.wp_mono next hst)
        · rw [if_neg hw] at hst ⊢
          exact next _ _ hst
theorem RStep.of {i : Nat} {o : Oper} (hg : o.guard = none) (h : ∀ T w, agree ops T0 T → J w → (∀ e ∈ o.after, Region.binds .any e = true → ∀ o', ops[e.on]? = some o' → V e.on (slotOf o' T) w) →
    o.wp P ⟨T, D⟩ w (fun a' w' => ∃ v, a' = (⟨T, D⟩ : Act).put o.dst v ∧ V i (match o.dst with | some _ => v | none => undef) w' ∧ J w' ∧ S w w') Q) : RStep P ops T0 D V J S Q i o := by
  intro T w h1 h2 h3
  rw [if_pos (by unfold Region.wanted; rw [hg])]
  exact h T w h1 h2 h3
theorem RLast.of {o : Oper} (hg : o.guard = none) (h : ∀ T w, agree ops T0 T → J w → (∀ j o', j + 1 < ops.size → ops[j]? = some o' → V j (slotOf o' T) w) →
    o.wp P ⟨T, D⟩ w (fun a' w' => Q .normal a' w') Q) : RLast P ops T0 D V J Q o := by
  intro T w h1 h2 h3
  rw [if_pos (by unfold Region.wanted; rw [hg])]
  exact h T w h1 h2 h3
theorem agree_at (h : agree ops T0 T) (s : Nat) (hs : ops.all (fun o => o.dst != some s) = true) : T.getD s undef = T0.getD s undef :=
  h.2 s (fun o ho => by
    have := Array.all_eq_true'.1 hs o ho
    simpa using this)
theorem sets_size (f : Nat → Value) : ∀ (ds : List Nat) (A : Array Value), (ds.foldl (fun A d => A.setIfInBounds d (f d)) A).size = A.size
  | [], _ => rfl
  | d :: ds, A => by rw [List.foldl_cons, sets_size f ds]; simp
theorem sets_at (f : Nat → Value) (s : Nat) : ∀ (ds : List Nat) (A : Array Value), s < A.size → (ds.foldl (fun A d => A.setIfInBounds d (f d)) A)[s]? = if s ∈ ds then some (f s) else A[s]?
  | [], _, _ => by simp
  | d :: ds, A, h => by
    rw [List.foldl_cons, sets_at f s ds _ (by simpa using h)]
    by_cases e1 : s ∈ ds
    · rw [if_pos e1, if_pos (List.mem_cons_of_mem _ e1)]
    · rw [if_neg e1, Array.getElem?_setIfInBounds]
      by_cases e2 : d = s
      · subst e2; rw [if_pos rfl, if_pos h, if_pos (List.mem_cons_self ..)]
      · rw [if_neg e2, if_neg (fun hm => by
          rcases List.mem_cons.1 hm with h | h
          · exact e2 h.symm
          · exact e1 h)]
/-- The frame behind the region: the old one with the region's slots set. -/
theorem agree_fn (h : agree ops T0 T) : ∃ f : Nat → Value, (∀ s, f s = T.getD s undef) ∧ T = (ops.toList.filterMap (fun o => o.dst)).foldl (fun A d => A.setIfInBounds d (f d)) T0 := by
  refine ⟨fun s => T.getD s undef, fun _ => rfl, ?_⟩
  apply Array.ext
  · rw [sets_size]; exact h.1
  · intro s h1 h2
    have hs0 : s < T0.size := by rw [← h.1]; exact h1
    have key := sets_at (fun s => T.getD s undef) s (ops.toList.filterMap (fun o => o.dst)) T0 hs0
    have g1 : T[s]? = some T[s] := Array.getElem?_eq_getElem h1
    rw [Array.getElem?_eq_getElem h2] at key
    by_cases e : s ∈ ops.toList.filterMap (fun o => o.dst)
    · rw [if_pos e] at key
      injection key with key
      rw [key]
      simp [Array.getD_eq_getD_getElem?, g1]
    · rw [if_neg e, Array.getElem?_eq_getElem hs0] at key
      injection key with key
      rw [key]
      have := h.2 s (fun o ho hd => e (List.mem_filterMap.2 ⟨o, by simpa using ho, hd⟩))
      simpa [Array.getD_eq_getD_getElem?, g1, hs0] using this
/-- What is to be shown of each operation of the row, by its number. -/
def RAll (step : Nat → Oper → Prop) (last : Oper → Prop) : Nat → List Oper → Prop
  | _, [] => True
  | _, [o] => last o
  | i, o :: rest => step i o ∧ RAll step last (i + 1) rest
theorem RAll.at_ {step : Nat → Oper → Prop} {last : Oper → Prop} : ∀ {l : List Oper} {i : Nat}, RAll step last i l → (∀ j o, l[j]? = some o → j + 1 < l.length → step (i + j) o) ∧ (∀ o, l[l.length - 1]? = some o → last o)
  | [], _, _ => ⟨fun j o h => (by simp at h), fun o h => (by simp at h)⟩
  | [x], _, h => ⟨fun j o _ hj => (by simp at hj), fun o ho => (by simp at ho; subst ho; exact h)⟩
  | x :: y :: rest, i, h => by
    have h2 := RAll.at_ (l := y :: rest) (i := i + 1) h.2
    refine ⟨fun j o hj hl => ?_, fun o ho => h2.2 o (by simpa using ho)⟩
    cases j with
    | zero => simp at hj; subst hj; exact h.1
    | succ j =>
      have := h2.1 j o (by simpa using hj) (by simpa using hl)
      rwa [show i + 1 + j = i + (j + 1) by omega] at this
theorem rep_f (n i : Nat) : (Array.replicate n false).getD i false = false := by
  rw [Array.getD_eq_getD_getElem?, Array.getElem?_replicate]; split <;> rfl
/-- A REGION THAT DRAWS ITS ORDER, operation by operation. -/
theorem wp_region_rgi {id : Nat} {w : World} {l : List Oper} (V : Nat → Value → World → Prop) (J : World → Prop) (Si : Nat → World → World → Prop) (hm : P.follows .mixedOrders = true) (hB : rgB T0.size l.toArray = true) (stab : ∀ i j v w w', i ≠ j → V j v w → Si i w w' → V j v w') (hJ : J w.drew)
    (h : RAll (fun i o => RStep P l.toArray T0 D V J (Si i) Q i o) (RLast P l.toArray T0 D V J Q) 0 l) : (Code.region id l.toArray true).wp P Q ⟨T0, D⟩ w := by
  obtain ⟨h1, h2⟩ := h.at_
  refine wp_region_any hm (wpAny_inv hB rfl stab (fun i o ho hi => ?_) (fun o ho => h2 o (by simpa using ho)) _ _ _ _ ⟨by simp, fun i o ho hl => ?_, rfl, ⟨rfl, fun _ _ => rfl⟩, fun i o ho hl => ?_, hJ, ?_⟩ ?_)
  · have := h1 i o (by simpa using ho) (by simpa using hi)
    rwa [Nat.zero_add] at this
  · rw [rep_f] at hl; cases hl
  · rw [rep_f] at hl; cases hl
  · exact rep_f _ _
  · exact Nat.le_trans List.countP_le_length (by simp)
/-- One relation for all operations. -/
theorem wp_region_rg {id : Nat} {w : World} {l : List Oper} (V : Nat → Value → World → Prop) (J : World → Prop) (S : World → World → Prop) (hm : P.follows .mixedOrders = true) (hB : rgB T0.size l.toArray = true) (stab : ∀ j v w w', V j v w → S w w' → V j v w') (hJ : J w.drew)
    (h : RAll (RStep P l.toArray T0 D V J S Q) (RLast P l.toArray T0 D V J Q) 0 l) : (Code.region id l.toArray true).wp P Q ⟨T0, D⟩ w :=
  wp_region_rgi V J (fun _ => S) hm hB (fun _ j v w w' _ h hs => stab j v w w' h hs) hJ h
end
end Go.Proofs.Ytcmmopngjeonfaa
