/- As wp_region_rgk, but: what an operation left must stand under those alone that it does not wait for (one append behind the other); and the last operation's slot is as it was till then. Of no function. -/
import Derived.Test.YtcmmopngjeonfaaRj
namespace Go.Proofs.Ytcmmopngjeonfaa
open Go
set_option linter.unusedVariables false
set_option linter.unusedSimpArgs false
section
variable {P : Program} {ops : Array Oper} {T0 T : Array Value} {D : List Deferred} {V : Nat → Value → World → Prop} {J : (Nat → Bool) → World → Prop} {S : World → World → Prop} {Q : Exit → Act → World → Prop}
/-- What is to be shown of an operation that is not the last: L tells which ones are done. -/
def RStepK (P : Program) (ops : Array Oper) (T0 : Array Value) (D : List Deferred) (V : Nat → Value → World → Prop) (J : (Nat → Bool) → World → Prop) (S : World → World → Prop) (Q : Exit → Act → World → Prop) (i : Nat) (o : Oper) : Prop :=
  ∀ T w (L : Nat → Bool), agree ops.pop T0 T → L i = false → J L w → (∀ e ∈ o.after, Region.binds .any e = true → L e.on = true) → (∀ e ∈ o.after, Region.binds .any e = true → ∀ o', ops[e.on]? = some o' → V e.on (slotOf o' T) w) →
    if Region.wanted o (yielded ops T) then o.wp P ⟨T, D⟩ w (fun a' w' => ∃ v, a' = (⟨T, D⟩ : Act).put o.dst v ∧ V i (match o.dst with | some _ => v | none => undef) w' ∧ J (fun j => if i = j then true else L j) w' ∧ S w w') Q else V i undef w ∧ J (fun j => if i = j then true else L j) w
def RLastK (P : Program) (ops : Array Oper) (T0 : Array Value) (D : List Deferred) (V : Nat → Value → World → Prop) (J : (Nat → Bool) → World → Prop) (Q : Exit → Act → World → Prop) (o : Oper) : Prop :=
  ∀ T w (L : Nat → Bool), agree ops.pop T0 T → (∀ j, j + 1 < ops.size → L j = true) → L (ops.size - 1) = false → J L w → (∀ j o', j + 1 < ops.size → ops[j]? = some o' → V j (slotOf o' T) w) →
    if Region.wanted o (yielded ops T) then o.wp P ⟨T, D⟩ w (fun a' w' => Q .normal a' w') Q else Q .normal ((⟨T, D⟩ : Act).put o.dst undef) w
structure RInvK (ops : Array Oper) (T0 : Array Value) (D : List Deferred) (V : Nat → Value → World → Prop) (J : (Nat → Bool) → World → Prop) (listed : Array Bool) (a : Act) (w : World) : Prop where
  size : listed.size = ops.size
  down : ∀ i o, ops[i]? = some o → listed.getD i false = true → ∀ e ∈ o.after, Region.binds .any e = true → listed.getD e.on false = true
  defers : a.defers = D
  frame : agree ops.pop T0 a.tmps
  vals : ∀ i o, ops[i]? = some o → listed.getD i false = true → V i (slotOf o a.tmps) w
  world : J (fun i => listed.getD i false) w
  last : listed.getD (ops.size - 1) false = false
/-- Does what op j left not wait for op i? -/
def Indep (ops : Array Oper) (j i : Nat) : Prop := ∀ o, ops[j]? = some o → ∀ e ∈ o.after, Region.binds .any e = true → e.on ≠ i
def indepB (ops : Array Oper) (j i : Nat) : Bool := ((ops[j]?).map fun o => o.after.all fun e => !(Region.binds .any e) || e.on != i).getD true
theorem Indep.b {ops : Array Oper} {j i : Nat} (h : Indep ops j i) : indepB ops j i = true := by
  unfold indepB
  cases ho : ops[j]? with
  | none => rfl
  | some o =>
    simp only [Option.map_some, Option.getD_some, Array.all_eq_true', Bool.or_eq_true, Bool.not_eq_true', bne_iff_ne]
    intro e he
    cases hb : Region.binds .any e with
    | false => exact Or.inl rfl
    | true => exact Or.inr (h o ho e he hb)
theorem wpAny_invK {n : Nat} {Si : Nat → World → World → Prop} (hB : rgB n ops = true) (hn : T0.size = n) (stab : ∀ i j v w w', i ≠ j → Indep ops j i → V j v w → Si i w w' → V j v w')
    (steps : ∀ i o, ops[i]? = some o → i + 1 < ops.size → RStepK P ops T0 D V J (Si i) Q i o) (hlast : ∀ o, ops[ops.size - 1]? = some o → RLastK P ops T0 D V J Q o) :
    ∀ (fuel : Nat) (listed : Array Bool) (a : Act) (w : World), RInvK ops T0 D V J listed a w → (List.range ops.size).countP (fun i => !listed.getD i false) ≤ fuel → wpAny P .any ops Q fuel listed a w := by
  obtain ⟨h0, hup, hwait, hdst, hfr⟩ := rg_parts hB
  intro fuel
  induction fuel with
  | zero =>
    intro listed a w hI hc
    exfalso
    have : 0 < (List.range ops.size).countP (fun i => !listed.getD i false) := List.countP_pos_iff.2 ⟨ops.size - 1, List.mem_range.2 (by omega), by rw [hI.last]; rfl⟩
    omega
  | succ fuel ih =>
    intro listed a w hI hc
    obtain ⟨T, D'⟩ := a
    have hD := hI.defers
    dsimp only at hD
    subst hD
    refine ⟨fun hr => ?_, fun i hi => ?_⟩
    · exfalso
      -- the first that is not listed is ready
      have hex : ∃ i, i < ops.size ∧ listed.getD i false = false := ⟨ops.size - 1, by omega, hI.last⟩
      have hmin : ∃ i, (i < ops.size ∧ listed.getD i false = false) ∧ ∀ j, j < i → ¬ (j < ops.size ∧ listed.getD j false = false) := by
        obtain ⟨i, hi⟩ := hex
        induction i using Nat.strongRecOn with
        | _ i ih =>
          by_cases hm : ∃ j, j < i ∧ (j < ops.size ∧ listed.getD j false = false)
          · obtain ⟨j, h1, h2⟩ := hm; exact ih j h1 h2
          · exact ⟨i, hi, fun j hj h => hm ⟨j, hj, h⟩⟩
      obtain ⟨i, ⟨h1, h2⟩, h3⟩ := hmin
      have hm : i ∈ Region.ready .any ops listed := mem_ready.2 ⟨h1, by rw [getD_tf (by rw [hI.size]; exact h1)]; exact h2, _, Array.getElem?_eq_getElem h1, fun e he hb => by
        have h4 := hup i _ (Array.getElem?_eq_getElem h1) e he hb
        cases h5 : listed.getD e.on false with
        | true => rfl
        | false => exact absurd ⟨by omega, h5⟩ (h3 e.on h4)⟩
      rw [hr] at hm; cases hm
    · obtain ⟨h1, h2, o, ho, h3⟩ := mem_ready.1 hi
      rw [getD_tf (by rw [hI.size]; exact h1)] at h2
      have hsz : i < listed.size := by rw [hI.size]; exact h1
      unfold wpOp
      rw [ho]
      dsimp only
      by_cases hl : i + 1 < ops.size
      · have hst := steps i o ho hl T w (fun j => listed.getD j false) hI.frame h2 hI.world (fun e he hb => h3 e he hb) (fun e he hb o' ho' => hI.vals _ _ ho' (h3 e he hb))
        have next : ∀ v w', V i (match o.dst with | some _ => v | none => undef) w' → J (fun j => if i = j then true else listed.getD j false) w' → (∀ j v, i ≠ j → Indep ops j i → V j v w → V j v w') → wpAny P .any ops Q fuel (listed.setIfInBounds i true) ((⟨T, D'⟩ : Act).put o.dst v) w' := by
          intro v w' hV hJ hS
          refine ih _ _ _ ⟨by simpa using hI.size, fun j oj hoj hj e he hb => ?_, defers_put, agree_put (i := i) (by rw [Array.getElem?_pop, if_pos (by omega)]; exact ho) hI.frame, fun j oj hoj hj => ?_, ?_, ?_⟩ ?_
          · rw [getD_set hsz] at hj ⊢
            by_cases e1 : i = e.on
            · rw [if_pos e1]
            · rw [if_neg e1]
              by_cases e2 : i = j
              · subst e2; rw [ho] at hoj; cases hoj; exact h3 e he hb
              · rw [if_neg e2] at hj; exact hI.down j oj hoj hj e he hb
          · rw [getD_set hsz] at hj
            by_cases e2 : i = j
            · subst e2; rw [ho] at hoj; cases hoj
              rw [slotOf_put_self (fun d hd => by rw [hI.frame.1, hn]; exact hfr i o d ho hd)]; exact hV
            · rw [if_neg e2] at hj
              rw [slotOf_put_other (fun d hd => hdst i j o oj ho hoj e2 d hd)]
              exact hS j _ e2 (fun o' ho' e he hb hei => by
                rw [hoj] at ho'; injection ho' with ho'; subst ho'
                have := hI.down j oj hoj hj e he hb
                rw [hei, h2] at this; cases this) (hI.vals j oj hoj hj)
          · have e9 : (fun j => (listed.setIfInBounds i true).getD j false) = (fun j => if i = j then true else listed.getD j false) := funext fun j => getD_set hsz
            rw [e9]; exact hJ
          · rw [getD_set hsz, if_neg (by omega)]; exact hI.last
          · have : (List.range ops.size).countP (fun j => !(listed.setIfInBounds i true).getD j false) < (List.range ops.size).countP (fun j => !listed.getD j false) := by
              have key : ∀ (l : List Nat), i ∈ l → l.Nodup → l.countP (fun j => !(listed.setIfInBounds i true).getD j false) < l.countP (fun j => !listed.getD j false) := by
                have le : ∀ (l : List Nat), l.countP (fun j => !(listed.setIfInBounds i true).getD j false) ≤ l.countP (fun j => !listed.getD j false) := fun l =>
                  List.countP_mono_left fun j _ hj => by
                    rw [getD_set hsz] at hj
                    by_cases e2 : i = j
                    · rw [if_pos e2] at hj; cases hj
                    · rw [if_neg e2] at hj; exact hj
                intro l
                induction l with
                | nil => intro h; cases h
                | cons x l ihl =>
                  intro hm hnd
                  rw [List.countP_cons, List.countP_cons]
                  by_cases e : x = i
                  · subst e
                    have e1 : (!(listed.setIfInBounds x true).getD x false) = false := by rw [getD_set hsz, if_pos rfl]; rfl
                    have e2 : (!listed.getD x false) = true := by rw [h2]; rfl
                    rw [e1, e2]
                    have := le l
                    simp only [Bool.false_eq_true, if_false, if_true]
                    omega
                  · have hm' : i ∈ l := by
                      rcases List.mem_cons.1 hm with h | h
                      · exact absurd h.symm e
                      · exact h
                    have := ihl hm' (List.nodup_cons.1 hnd).2
                    have e1 : (listed.setIfInBounds i true).getD x false = listed.getD x false := by rw [getD_set hsz, if_neg (fun h => e h.symm)]
                    rw [e1]
                    omega
              exact key _ (List.mem_range.2 h1) List.nodup_range
            omega
        by_cases hw : Region.wanted o (yielded ops T) = true
        · rw [if_pos hw] at hst ⊢
          refine Or.inl (Oper.wp_mono (fun a' w' => ?_) hst)
          rintro ⟨v, rfl, hV, hJ, hS⟩
          exact next v w' hV hJ (fun j v hij hd h => stab i j v w w' hij hd h hS)
        · rw [if_neg hw] at hst ⊢
          refine next undef w ?_ hst.2 (fun j v _ _ h => h)
          cases o.dst <;> exact hst.1
      · have hil : i = ops.size - 1 := by omega
        subst hil
        have hall : ∀ m j, j + m + 1 = ops.size → j + 1 < ops.size → listed.getD j false = true := by
          intro m
          induction m using Nat.strongRecOn with
          | _ m ihm =>
            intro j hj hj1
            obtain ⟨k, ok, hjk, hok, e, he, he1, hb⟩ := hwait j hj1
            subst he1
            by_cases hk : k + 1 < ops.size
            · exact hI.down k ok hok (ihm (ops.size - 1 - k) (by omega) k (by omega) hk) e he hb
            · have hkl := (Array.getElem?_eq_some_iff.1 hok).1
              have : k = ops.size - 1 := by omega
              subst this
              rw [ho] at hok; cases hok
              exact h3 e he hb
        have hst := hlast o ho T w (fun j => listed.getD j false) hI.frame (fun j hj => hall (ops.size - 1 - j) j (by omega) hj) hI.last hI.world (fun j o' hj hoj => hI.vals j o' hoj (hall (ops.size - 1 - j) j (by omega) hj))
        have next : ∀ a' w', Q .normal a' w' → wpAny P .any ops Q fuel (listed.setIfInBounds (ops.size - 1) true) a' w' := fun a' w' hq =>
          wpAny_done (by simpa using hI.size) (fun j hj => by
            rw [getD_set hsz]
            by_cases e : ops.size - 1 = j
            · rw [if_pos e]
            · rw [if_neg e]; exact hall (ops.size - 1 - j) j (by omega) (by omega)) hq
        by_cases hw : Region.wanted o (yielded ops T) = true
        · rw [if_pos hw] at hst ⊢
          exact Or.inl (Oper.wp_mono next hst)
        · rw [if_neg hw] at hst ⊢
          exact next _ _ hst
theorem RStepK.of {i : Nat} {o : Oper} (hg : o.guard = none) (h : ∀ T w (L : Nat → Bool), agree ops.pop T0 T → L i = false → J L w → (∀ e ∈ o.after, Region.binds .any e = true → L e.on = true) → (∀ e ∈ o.after, Region.binds .any e = true → ∀ o', ops[e.on]? = some o' → V e.on (slotOf o' T) w) →
    o.wp P ⟨T, D⟩ w (fun a' w' => ∃ v, a' = (⟨T, D⟩ : Act).put o.dst v ∧ V i (match o.dst with | some _ => v | none => undef) w' ∧ J (fun j => if i = j then true else L j) w' ∧ S w w') Q) : RStepK P ops T0 D V J S Q i o := by
  intro T w L h1 h2 h3 h4 h5
  rw [if_pos (by unfold Region.wanted; rw [hg])]
  exact h T w L h1 h2 h3 h4 h5
/-- A guarded operation whose guard holds. -/
theorem RStepK.want {i : Nat} {o : Oper} {g : Nat} {b : Bool} {og : Oper} {d : Nat} (hg : o.guard = some (g, b)) (hog : ops[g]? = some og) (hd : og.dst = some d) (hin : o.after.any (fun e => e.on == g && Region.binds .any e) = true) (hv : ∀ v w, V g v w → v = .bool b) (h : ∀ T w (L : Nat → Bool), agree ops.pop T0 T → L i = false → J L w → (∀ e ∈ o.after, Region.binds .any e = true → L e.on = true) → (∀ e ∈ o.after, Region.binds .any e = true → ∀ o', ops[e.on]? = some o' → V e.on (slotOf o' T) w) →
    o.wp P ⟨T, D⟩ w (fun a' w' => ∃ v, a' = (⟨T, D⟩ : Act).put o.dst v ∧ V i (match o.dst with | some _ => v | none => undef) w' ∧ J (fun j => if i = j then true else L j) w' ∧ S w w') Q) : RStepK P ops T0 D V J S Q i o := by
  intro T w L h1 h2 h3 h4 h5
  have hw : Region.wanted o (yielded ops T) = true := by
    simp only [Array.any_eq_true', Bool.and_eq_true, beq_iff_eq] at hin
    obtain ⟨e, he, e1, e2⟩ := hin
    subst e1
    have := hv _ _ (h5 e he e2 og hog)
    unfold slotOf at this
    rw [hd] at this
    have hT : T[d]? = some (.bool b) := by
      simp only at this
      rw [Array.getD_eq_getD_getElem?] at this
      cases hx : T[d]? with
      | none => rw [hx] at this; cases this
      | some x => rw [hx] at this; rw [show x = _ from this]
    unfold Region.wanted yielded
    rw [hg]
    simp [hog, hd, hT]
  rw [if_pos hw]
  exact h T w L h1 h2 h3 h4 h5
theorem RLastK.of {o : Oper} (hg : o.guard = none) (h : ∀ T w (L : Nat → Bool), agree ops.pop T0 T → (∀ j, j + 1 < ops.size → L j = true) → L (ops.size - 1) = false → J L w → (∀ j o', j + 1 < ops.size → ops[j]? = some o' → V j (slotOf o' T) w) →
    o.wp P ⟨T, D⟩ w (fun a' w' => Q .normal a' w') Q) : RLastK P ops T0 D V J Q o := by
  intro T w L h1 h2 h3 h4 h5
  rw [if_pos (by unfold Region.wanted; rw [hg])]
  exact h T w L h1 h2 h3 h4 h5
/-- A REGION THAT DRAWS ITS ORDER, operation by operation; the world's state by what is done. -/
theorem wp_region_rgk {id : Nat} {w : World} {l : List Oper} (V : Nat → Value → World → Prop) (J : (Nat → Bool) → World → Prop) (Si : Nat → World → World → Prop) (hm : P.follows .mixedOrders = true) (hB : rgB T0.size l.toArray = true) (stab : ∀ i j v w w', i ≠ j → indepB l.toArray j i = true → V j v w → Si i w w' → V j v w') (hJ : J (fun _ => false) w.drew)
    (h : RAll (fun i o => RStepK P l.toArray T0 D V J (Si i) Q i o) (RLastK P l.toArray T0 D V J Q) 0 l) : (Code.region id l.toArray true).wp P Q ⟨T0, D⟩ w := by
  obtain ⟨h1, h2⟩ := h.at_
  have e9 : (fun i => (Array.replicate l.toArray.size false).getD i false) = (fun _ => false) := funext fun i => rep_f _ _
  refine wp_region_any hm (wpAny_invK hB rfl (fun i j v w w' hij hd => stab i j v w w' hij hd.b) (fun i o ho hi => ?_) (fun o ho => h2 o (by simpa using ho)) _ _ _ _ ⟨by simp, fun i o ho hl => ?_, rfl, ⟨rfl, fun _ _ => rfl⟩, fun i o ho hl => ?_, by rw [e9]; exact hJ, ?_⟩ ?_)
  · have := h1 i o (by simpa using ho) (by simpa using hi)
    rwa [Nat.zero_add] at this
  · rw [rep_f] at hl; cases hl
  · rw [rep_f] at hl; cases hl
  · exact rep_f _ _
  · exact Nat.le_trans List.countP_le_length (by simp)
end
/-- A guarded operation whose guard fails. -/
theorem RStepK.skip {P : Program} {ops : Array Oper} {T0 : Array Value} {D : List Deferred} {V : Nat → Value → World → Prop} {J : (Nat → Bool) → World → Prop} {S : World → World → Prop} {Q : Exit → Act → World → Prop} {i : Nat} {o : Oper} {g : Nat} {b : Bool} {og : Oper} {d : Nat} (hg : o.guard = some (g, b)) (hog : ops[g]? = some og) (hd : og.dst = some d) (hin : o.after.any (fun e => e.on == g && Region.binds .any e) = true) (hv : ∀ v w, V g v w → v = .bool (!b)) (hV : ∀ w, V i undef w) (hJ : ∀ L w, J L w → J (fun j => if i = j then true else L j) w) : RStepK P ops T0 D V J S Q i o := by
  intro T w L h1 h2 h3 h4 h5
  have hw : ¬ Region.wanted o (yielded ops T) = true := by
    simp only [Array.any_eq_true', Bool.and_eq_true, beq_iff_eq] at hin
    obtain ⟨e, he, e1, e2⟩ := hin
    subst e1
    have := hv _ _ (h5 e he e2 og hog)
    unfold slotOf at this
    rw [hd] at this
    have hT : T[d]? = some (.bool (!b)) := by
      simp only at this
      rw [Array.getD_eq_getD_getElem?] at this
      cases hx : T[d]? with
      | none => rw [hx] at this; cases this
      | some x => rw [hx] at this; rw [show x = _ from this]
    unfold Region.wanted yielded
    rw [hg]
    cases b <;> simp [hog, hd, hT]
  rw [if_neg hw]
  exact ⟨hV w, hJ L w h3⟩
end Go.Proofs.Ytcmmopngjeonfaa
