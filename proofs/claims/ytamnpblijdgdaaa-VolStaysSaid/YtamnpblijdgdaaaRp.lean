/- As Rg, with what holds of each two results: for a region whose results are fresh, and must lie apart. Of no function. -/
import Derived.Test.YtamnpblijdgdaaaRg
namespace Go.Proofs.Ytamnpblijdgdaaa
open Go
set_option linter.unusedVariables false
set_option linter.unusedSimpArgs false
section
variable {P : Program} {ops : Array Oper} {T0 T : Array Value} {D : List Deferred} {V : Nat → Value → World → Prop} {J : World → Prop} {R : Nat → Value → Nat → Value → World → Prop} {S : World → World → Prop} {Q : Exit → Act → World → Prop}
/-- What is to be shown of an operation that is not the last. -/
def RStepP (P : Program) (ops : Array Oper) (T0 : Array Value) (D : List Deferred) (V : Nat → Value → World → Prop) (J : World → Prop) (R : Nat → Value → Nat → Value → World → Prop) (S : Value → World → World → Prop) (Q : Exit → Act → World → Prop) (i : Nat) (o : Oper) : Prop :=
  ∀ T w, agree ops T0 T → J w → (∀ e ∈ o.after, Region.binds .any e = true → ∀ o', ops[e.on]? = some o' → V e.on (slotOf o' T) w) → (∀ e ∈ o.after, ∀ e' ∈ o.after, Region.binds .any e = true → Region.binds .any e' = true → e.on ≠ e'.on → ∀ o1 o2, ops[e.on]? = some o1 → ops[e'.on]? = some o2 → R e.on (slotOf o1 T) e'.on (slotOf o2 T) w) →
    if Region.wanted o (yielded ops T) then o.wp P ⟨T, D⟩ w (fun a' w' => ∃ v, a' = (⟨T, D⟩ : Act).put o.dst v ∧ V i (match o.dst with | some _ => v | none => undef) w' ∧ J w' ∧ S (match o.dst with | some _ => v | none => undef) w w') Q else V i undef w ∧ S undef w w
/-- .. and of the last. -/
def RLastP (P : Program) (ops : Array Oper) (T0 : Array Value) (D : List Deferred) (V : Nat → Value → World → Prop) (J : World → Prop) (R : Nat → Value → Nat → Value → World → Prop) (Q : Exit → Act → World → Prop) (o : Oper) : Prop :=
  ∀ T w, agree ops T0 T → J w → (∀ j o', j + 1 < ops.size → ops[j]? = some o' → V j (slotOf o' T) w) → (∀ j k oj ok, j + 1 < ops.size → k + 1 < ops.size → j ≠ k → ops[j]? = some oj → ops[k]? = some ok → R j (slotOf oj T) k (slotOf ok T) w) →
    if Region.wanted o (yielded ops T) then o.wp P ⟨T, D⟩ w (fun a' w' => Q .normal a' w') Q else Q .normal ((⟨T, D⟩ : Act).put o.dst undef) w
/-- What stands while the order runs. -/
structure RInvP (ops : Array Oper) (T0 : Array Value) (D : List Deferred) (V : Nat → Value → World → Prop) (J : World → Prop) (R : Nat → Value → Nat → Value → World → Prop) (listed : Array Bool) (a : Act) (w : World) : Prop where
  size : listed.size = ops.size
  down : ∀ i o, ops[i]? = some o → listed.getD i false = true → ∀ e ∈ o.after, Region.binds .any e = true → listed.getD e.on false = true
  defers : a.defers = D
  frame : agree ops T0 a.tmps
  vals : ∀ i o, ops[i]? = some o → listed.getD i false = true → V i (slotOf o a.tmps) w
  world : J w
  pairs : ∀ i j oi oj, ops[i]? = some oi → ops[j]? = some oj → i ≠ j → listed.getD i false = true → listed.getD j false = true → R i (slotOf oi a.tmps) j (slotOf oj a.tmps) w
  last : listed.getD (ops.size - 1) false = false
theorem wpAny_invP {n : Nat} {Si : Nat → Value → World → World → Prop} (hB : rgB n ops = true) (hn : T0.size = n) (stab : ∀ i j x v w w', i ≠ j → V j v w → Si i x w w' → V j v w') (stabR : ∀ i j k x vj vk w w', i ≠ j → i ≠ k → R j vj k vk w → Si i x w w' → R j vj k vk w') (new : ∀ i j x vj w w', i ≠ j → V j vj w → Si i x w w' → R i x j vj w' ∧ R j vj i x w')
    (steps : ∀ i o, ops[i]? = some o → i + 1 < ops.size → RStepP P ops T0 D V J R (Si i) Q i o) (hlast : ∀ o, ops[ops.size - 1]? = some o → RLastP P ops T0 D V J R Q o) :
    ∀ (fuel : Nat) (listed : Array Bool) (a : Act) (w : World), RInvP ops T0 D V J R listed a w → (List.range ops.size).countP (fun i => !listed.getD i false) ≤ fuel → wpAny P .any ops Q fuel listed a w := by
  obtain ⟨h0, hup, hwait, hdst, hfr⟩ := rg_parts hB
  intro fuel
  induction fuel with
  | zero =>
    intro listed a w hI hc
    exfalso
    have : 0 < (List.range ops.size).countP (fun i => !listed.getD i false) := List.countP_pos_iff.2 ⟨ops.size - 1, List.mem_range.2 (by omega), by rw [hI.last]; rfl⟩
    omega
  | succ fuel ih =>
    intro listed a w hI hc
    obtain ⟨T, D'⟩ := a
    have hD := hI.defers
    dsimp only at hD
    subst hD
    refine ⟨fun hr => ?_, fun i hi => ?_⟩
    · exfalso
      -- the first that is not listed is ready
      have hex : ∃ i, i < ops.size ∧ listed.getD i false = false := ⟨ops.size - 1, by omega, hI.last⟩
      have hmin : ∃ i, (i < ops.size ∧ listed.getD i false = false) ∧ ∀ j, j < i → ¬ (j < ops.size ∧ listed.getD j false = false) := by
        obtain ⟨i, hi⟩ := hex
        induction i using Nat.strongRecOn with
        | _ i ih =>
          by_cases hm : ∃ j, j < i ∧ (j < ops.size ∧ listed.getD j false = false)
          · obtain ⟨j, h1, h2⟩ := hm; exact ih j h1 h2
          · exact ⟨i, hi, fun j hj h => hm ⟨j, hj, h⟩⟩
      obtain ⟨i, ⟨h1, h2⟩, h3⟩ := hmin
      have hm : i ∈ Region.ready .any ops listed := mem_ready.2 ⟨h1, by rw [getD_tf (by rw [hI.size]; exact h1)]; exact h2, _, Array.getElem?_eq_getElem h1, fun e he hb => by
        have h4 := hup i _ (Array.getElem?_eq_getElem h1) e he hb
        cases h5 : listed.getD e.on false with
        | true => rfl
        | false => exact absurd ⟨by omega, h5⟩ (h3 e.on h4)⟩
      rw [hr] at hm; cases hm
    · obtain ⟨h1, h2, o, ho, h3⟩ := mem_ready.1 hi
      rw [getD_tf (by rw [hI.size]; exact h1)] at h2
      have hsz : i < listed.size := by rw [hI.size]; exact h1
      unfold wpOp
      rw [ho]
      dsimp only
      by_cases hl : i + 1 < ops.size
      · have hst := steps i o ho hl T w hI.frame hI.world (fun e he hb o' ho' => hI.vals _ _ ho' (h3 e he hb)) (fun e he e' he' hb hb' hne o1 o2 ho1 ho2 => hI.pairs _ _ _ _ ho1 ho2 hne (h3 e he hb) (h3 e' he' hb'))
        have next : ∀ v w', V i (match o.dst with | some _ => v | none => undef) w' → J w' → Si i (match o.dst with | some _ => v | none => undef) w w' → wpAny P .any ops Q fuel (listed.setIfInBounds i true) ((⟨T, D'⟩ : Act).put o.dst v) w' := by
          intro v w' hV hJ hS
          refine ih _ _ _ ⟨by simpa using hI.size, fun j oj hoj hj e he hb => ?_, defers_put, agree_put ho hI.frame, fun j oj hoj hj => ?_, hJ, fun j k oj ok hoj hok hjk hj hk => ?_, ?_⟩ ?_
          · rw [getD_set hsz] at hj ⊢
            by_cases e1 : i = e.on
            · rw [if_pos e1]
            · rw [if_neg e1]
              by_cases e2 : i = j
              · subst e2; rw [ho] at hoj; cases hoj; exact h3 e he hb
              · rw [if_neg e2] at hj; exact hI.down j oj hoj hj e he hb
          · rw [getD_set hsz] at hj
            by_cases e2 : i = j
            · subst e2; rw [ho] at hoj; cases hoj
              rw [slotOf_put_self (fun d hd => by rw [hI.frame.1, hn]; exact hfr i o d ho hd)]; exact hV
            · rw [if_neg e2] at hj
              rw [slotOf_put_other (fun d hd => hdst i j o oj ho hoj e2 d hd)]
              exact stab i j _ _ w w' e2 (hI.vals j oj hoj hj) hS
          · rw [getD_set hsz] at hj hk
            by_cases e2 : i = j
            · subst e2; rw [ho] at hoj; cases hoj
              rw [if_neg hjk] at hk
              rw [slotOf_put_self (fun d hd => by rw [hI.frame.1, hn]; exact hfr i o d ho hd), slotOf_put_other (fun d hd => hdst i k o ok ho hok hjk d hd)]
              exact (new i k _ _ w w' hjk (hI.vals k ok hok hk) hS).1
            · rw [if_neg e2] at hj
              by_cases e3 : i = k
              · subst e3; rw [ho] at hok; cases hok
                rw [slotOf_put_self (fun d hd => by rw [hI.frame.1, hn]; exact hfr i o d ho hd), slotOf_put_other (fun d hd => hdst i j o oj ho hoj e2 d hd)]
                exact (new i j _ _ w w' e2 (hI.vals j oj hoj hj) hS).2
              · rw [if_neg e3] at hk
                rw [slotOf_put_other (fun d hd => hdst i j o oj ho hoj e2 d hd), slotOf_put_other (fun d hd => hdst i k o ok ho hok e3 d hd)]
                exact stabR i j k _ _ _ w w' e2 e3 (hI.pairs j k oj ok hoj hok hjk hj hk) hS
          · rw [getD_set hsz, if_neg (by omega)]; exact hI.last
          · have : (List.range ops.size).countP (fun j => !(listed.setIfInBounds i true).getD j false) < (List.range ops.size).countP (fun j => !listed.getD j false) := by
              have key : ∀ (l : List Nat), i ∈ l → l.Nodup → l.countP (fun j => !(listed.setIfInBounds i true).getD j false) < l.countP (fun j => !listed.getD j false) := by
                have le : ∀ (l : List Nat), l.countP (fun j => !(listed.setIfInBounds i true).getD j false) ≤ l.countP (fun j => !listed.getD j false) := fun l =>
                  List.countP_mono_left fun j _ hj => by
                    rw [getD_set hsz] at hj
                    by_cases e2 : i = j
                    · rw [if_pos e2] at hj; cases hj
                    · rw [if_neg e2] at hj; exact hj
                intro l
                induction l with
                | nil => intro h; cases h
                | cons x l ihl =>
                  intro hm hnd
                  rw [List.countP_cons, List.countP_cons]
                  by_cases e : x = i
                  · subst e
                    have e1 : (!(listed.setIfInBounds x true).getD x false) = false := by rw [getD_set hsz, if_pos rfl]; rfl
                    have e2 : (!listed.getD x false) = true := by rw [h2]; rfl
                    rw [e1, e2]
                    have := le l
                    simp only [Bool.false_eq_true, if_false, if_true]
                    omega
                  · have hm' : i ∈ l := by
                      rcases List.mem_cons.1 hm with h | h
                      · exact absurd h.symm e
                      · exact h
                    have := ihl hm' (List.nodup_cons.1 hnd).2
                    have e1 : (listed.setIfInBounds i true).getD x false = listed.getD x false := by rw [getD_set hsz, if_neg (fun h => e h.symm)]
                    rw [e1]
                    omega
              exact key _ (List.mem_range.2 h1) List.nodup_range
            omega
        by_cases hw : Region.wanted o (yielded ops T) = true
        · rw [if_pos hw] at hst ⊢
          refine Or.inl (Oper.wp_mono (fun a' w' => ?_) hst)
          rintro ⟨v, rfl, hV, hJ, hS⟩
          exact next v w' hV hJ hS
        · rw [if_neg hw] at hst ⊢
          refine next undef w ?_ hI.world ?_
          · cases o.dst <;> exact hst.1
          · cases o.dst <;> exact hst.2
      · have hil : i = ops.size - 1 := by omega
        subst hil
        have hall : ∀ m j, j + m + 1 = ops.size → j + 1 < ops.size → listed.getD j false = true := by
          intro m
          induction m using Nat.strongRecOn with
          | _ m ihm =>
            intro j hj hj1
            obtain ⟨k, ok, hjk, hok, e, he, he1, hb⟩ := hwait j hj1
            subst he1
            by_cases hk : k + 1 < ops.size
            · exact hI.down k ok hok (ihm (ops.size - 1 - k) (by omega) k (by omega) hk) e he hb
            · have hkl := (Array.getElem?_eq_some_iff.1 hok).1
              have : k = ops.size - 1 := by omega
              subst this
              rw [ho] at hok; cases hok
              exact h3 e he hb
        have hst := hlast o ho T w hI.frame hI.world (fun j o' hj hoj => hI.vals j o' hoj (hall (ops.size - 1 - j) j (by omega) hj)) (fun j k oj ok hj hk hjk hoj hok => hI.pairs j k oj ok hoj hok hjk (hall (ops.size - 1 - j) j (by omega) hj) (hall (ops.size - 1 - k) k (by omega) hk))
        have next : ∀ a' w', Q .normal a' w' → wpAny P .any ops Q fuel (listed.setIfInBounds (ops.size - 1) true) a' w' := fun a' w' hq =>
          wpAny_done (by simpa using hI.size) (fun j hj => by
            rw [getD_set hsz]
            by_cases e : ops.size - 1 = j
            · rw [if_pos e]
            · rw [if_neg e]; exact hall (ops.size - 1 - j) j (by omega) (by omega)) hq
        by_cases hw : Region.wanted o (yielded ops T) = true
        · rw [if_pos hw] at hst ⊢
          exact Or.inl (Oper.wp_mono next hst)
        · rw [if_neg hw] at hst ⊢
          exact next _ _ hst
theorem RStepP.of {R : Nat → Value → Nat → Value → World → Prop} {S' : Value → World → World → Prop} {i : Nat} {o : Oper} (hg : o.guard = none) (h : ∀ T w, agree ops T0 T → J w → (∀ e ∈ o.after, Region.binds .any e = true → ∀ o', ops[e.on]? = some o' → V e.on (slotOf o' T) w) → (∀ e ∈ o.after, ∀ e' ∈ o.after, Region.binds .any e = true → Region.binds .any e' = true → e.on ≠ e'.on → ∀ o1 o2, ops[e.on]? = some o1 → ops[e'.on]? = some o2 → R e.on (slotOf o1 T) e'.on (slotOf o2 T) w) →
    o.wp P ⟨T, D⟩ w (fun a' w' => ∃ v, a' = (⟨T, D⟩ : Act).put o.dst v ∧ V i (match o.dst with | some _ => v | none => undef) w' ∧ J w' ∧ S' (match o.dst with | some _ => v | none => undef) w w') Q) : RStepP P ops T0 D V J R S' Q i o := by
  intro T w h1 h2 h3 h4
  rw [if_pos (by unfold Region.wanted; rw [hg])]
  exact h T w h1 h2 h3 h4
theorem RLastP.of {R : Nat → Value → Nat → Value → World → Prop} {o : Oper} (hg : o.guard = none) (h : ∀ T w, agree ops T0 T → J w → (∀ j o', j + 1 < ops.size → ops[j]? = some o' → V j (slotOf o' T) w) → (∀ j k oj ok, j + 1 < ops.size → k + 1 < ops.size → j ≠ k → ops[j]? = some oj → ops[k]? = some ok → R j (slotOf oj T) k (slotOf ok T) w) →
    o.wp P ⟨T, D⟩ w (fun a' w' => Q .normal a' w') Q) : RLastP P ops T0 D V J R Q o := by
  intro T w h1 h2 h3 h4
  rw [if_pos (by unfold Region.wanted; rw [hg])]
  exact h T w h1 h2 h3 h4
/-- A REGION THAT DRAWS ITS ORDER, operation by operation. -/
theorem wp_region_rgp {id : Nat} {w : World} {l : List Oper} (V : Nat → Value → World → Prop) (J : World → Prop) (Si : Nat → Value → World → World → Prop) (R : Nat → Value → Nat → Value → World → Prop) (hm : P.follows .mixedOrders = true) (hB : rgB T0.size l.toArray = true) (stab : ∀ i j x v w w', i ≠ j → V j v w → Si i x w w' → V j v w') (stabR : ∀ i j k x vj vk w w', i ≠ j → i ≠ k → R j vj k vk w → Si i x w w' → R j vj k vk w') (new : ∀ i j x vj w w', i ≠ j → V j vj w → Si i x w w' → R i x j vj w' ∧ R j vj i x w') (hJ : J w.drew)
    (h : RAll (fun i o => RStepP P l.toArray T0 D V J R (Si i) Q i o) (RLastP P l.toArray T0 D V J R Q) 0 l) : (Code.region id l.toArray true).wp P Q ⟨T0, D⟩ w := by
  obtain ⟨h1, h2⟩ := h.at_
  refine wp_region_any hm (wpAny_invP hB rfl stab stabR new (fun i o ho hi => ?_) (fun o ho => h2 o (by simpa using ho)) _ _ _ _ ⟨by simp, fun i o ho hl => ?_, rfl, ⟨rfl, fun _ _ => rfl⟩, fun i o ho hl => ?_, hJ, fun j k oj ok hoj hok hjk hj hk => ?_, ?_⟩ ?_)
  · have := h1 i o (by simpa using ho) (by simpa using hi)
    rwa [Nat.zero_add] at this
  · rw [rep_f] at hl; cases hl
  · rw [rep_f] at hl; cases hl
  · rw [rep_f] at hj; cases hj
  · exact rep_f _ _
  · exact Nat.le_trans List.countP_le_length (by simp)
end
end Go.Proofs.Ytamnpblijdgdaaa
